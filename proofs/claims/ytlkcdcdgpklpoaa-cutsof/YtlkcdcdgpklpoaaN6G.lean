/-
  readNfa of the program: what it leaves.
-/
import Derived.Test.YtlkcdcdgpklpoaaN6F
namespace Go.Proofs.Ytlkcdcdgpklpoaa
open Go.ChangeShapes Go.WideShapes Go.ChangeAt Go.WideMaps Go.WideElems Go.RowKit
/-- What can come behind each of the first places, as numbers of bits. -/
def flw (G : Rw) (k : Nat) : List Value := (List.range k).map fun j => Value.int .u64 (bitsL (rw_ G j) : Nat)
theorem flw_succ {G : Rw} {k x : Nat} (h : x = bitsL (rw_ G k)) : flw G k ++ [.int .u64 (x : Int)] = flw G (k + 1) := by
  subst h
  unfold flw
  rw [List.range_succ, List.map_append]
  rfl
set_option maxRecDepth 100000 in
set_option maxHeartbeats 8000000 in
theorem readM_any (E : Bool) (S G : Rw) (F L : List Int) (s a b g : Option Addr) (cs ca cb cg : Nat) (w : World) (hl : szN S F L G ≤ 1048576) (hS : RowsAt w s S) (hF : IntsAt w a F) (hL : IntsAt w b L) (hG : RowsAt w g G) :
    Calls Try.prog 99 #[.agg #[.bool E, .slice s S.length cs, .slice a F.length ca, .slice b L.length cb, .slice g G.length cg]] w fun r w' => ((goodN S G F L = false ∧ r = .returned (.tuple #[.pointer none, .bool false])) ∨ (goodN S G F L = true ∧ ∃ fv, r = .returned (.tuple #[.pointer (some ⟨w.heap.size + 1, 0, none⟩), .bool true]) ∧ w'.heap[w.heap.size + 1]? = some (.cells #[.bool E, .int .u64 (bitsL F : Nat), .int .u64 (bitsL L : Nat), .slice s S.length cs, fv] 132) ∧ w'.ownsRow (w.heap.size + 2) 127 1 fv S.length (flw G S.length))) ∧ Below w.heap.size w w' := by
  obtain ⟨i0, hi, hz0, hz1, hz2⟩ := infoPB
  have hlF : F.length ≤ 1048576 := by unfold szN at hl; omega
  have hlL : L.length ≤ 1048576 := by unfold szN at hl; omega
  have HLS : Hid (szR S ≤ 1048576) := by unfold szN at hl; exact (by omega : szR S ≤ 1048576)
  have HLG : Hid (szR G ≤ 1048576) := by unfold szN at hl; exact (by omega : szR G ≤ 1048576)
  have HS : Hid (RowsAt w s S) := hS
  have HFF : Hid (IntsAt w a F) := hF
  have HLL : Hid (IntsAt w b L) := hL
  have HGG : Hid (RowsAt w g G) := hG
  clear hl hS hF hL hG
  by_cases h1 : S.length ≤ 40
  case neg =>
    have q1 : (40 : Int) < (S.length : Int) := by omega
    have HG : Hid (goodN S G F L = false) := goodN_no fun h => h1 h.1
    go_enter Try.func99, Try.ntmps99
    go_wp2
    go_ret2
    exact ⟨.inl ⟨HG.out, rfl⟩, al_N w _⟩
  have p1 : ¬ (40 : Int) < (S.length : Int) := by omega
  have p1b : decide ((40 : Int) < (S.length : Int)) = false := decide_eq_false p1
  by_cases h2 : G.length = S.length
  case neg =>
    have HG : Hid (goodN S G F L = false) := goodN_no fun h => h2 h.2.1
    have q1 : ((G.length : Int) == (S.length : Int)) = false := by simp; omega
    have q2 : ¬ (G.length : Int) = (S.length : Int) := by omega
    have q3 : decide ((G.length : Int) = (S.length : Int)) = false := decide_eq_false q2
    go_enter Try.func99, Try.ntmps99
    go_wp2
    go_ret2
    exact ⟨.inl ⟨HG.out, rfl⟩, al_N w _⟩
  rw [h2]
  have H2 : Hid (G.length = S.length) := h2
  clear h2
  have HRF : Hid (∀ o, Calls Try.prog 114 #[.slice a F.length ca, .int .i64 S.length] (w.alloc o) fun e w' => (∃ x : Nat, e = .returned (.tuple #[.int .u64 (x : Int), .bool (risB 0 ((S.length : Int) - 1) F)]) ∧ (risB 0 ((S.length : Int) - 1) F = true → x = bitsL F)) ∧ w' = w.alloc o) := fun o => bitsM_any S.length h1 F _ _ _ hlF (IntsAt.keepB HFF.out (al_N w o))
  have HRL : Hid (∀ o, Calls Try.prog 114 #[.slice b L.length cb, .int .i64 S.length] (w.alloc o) fun e w' => (∃ x : Nat, e = .returned (.tuple #[.int .u64 (x : Int), .bool (risB 0 ((S.length : Int) - 1) L)]) ∧ (risB 0 ((S.length : Int) - 1) L = true → x = bitsL L)) ∧ w' = w.alloc o) := fun o => bitsM_any S.length h1 L _ _ _ hlL (IntsAt.keepB HLL.out (al_N w o))
  cases hF : risB 0 ((S.length : Int) - 1) F with
  | false =>
    rw [hF] at HRF
    have HG : Hid (goodN S G F L = false) := goodN_no fun h => by have := h.2.2.1; rw [hF] at this; cases this
    clear hF
    go_enter Try.func99, Try.ntmps99
    go_wp2_with fail
    refine Calls.mono (HRF.out _) ?_
    rintro r w' ⟨⟨x1, rfl, -⟩, rfl⟩
    go_wp2_with fail
    refine Calls.mono (HRL.out _) ?_
    rintro r w' ⟨⟨x2, rfl, -⟩, rfl⟩
    go_wp2
    go_ret2
    exact ⟨.inl ⟨HG.out, rfl⟩, al_N w _⟩
  | true =>
    rw [hF] at HRF
    have QF : Hid (risB 0 ((S.length : Int) - 1) F = true) := hF
    clear hF
    cases hL : risB 0 ((S.length : Int) - 1) L with
    | false =>
      rw [hL] at HRL
      have HG : Hid (goodN S G F L = false) := goodN_no fun h => by have := h.2.2.2.1; rw [hL] at this; cases this
      clear hL
      go_enter Try.func99, Try.ntmps99
      go_wp2_with fail
      refine Calls.mono (HRF.out _) ?_
      rintro r w' ⟨⟨x1, rfl, -⟩, rfl⟩
      go_wp2_with fail
      refine Calls.mono (HRL.out _) ?_
      rintro r w' ⟨⟨x2, rfl, -⟩, rfl⟩
      go_wp2
      go_ret2
      exact ⟨.inl ⟨HG.out, rfl⟩, al_N w _⟩
    | true =>
      rw [hL] at HRL
      have QL : Hid (risB 0 ((S.length : Int) - 1) L = true) := hL
      clear hL
      go_enter Try.func99, Try.ntmps99
      go_wp2_with fail
      refine Calls.mono (HRF.out _) ?_
      rintro r w' ⟨⟨x1, rfl, hx1⟩, rfl⟩
      have HX1 : Hid (x1 = bitsL F) := hx1 trivial
      clear hx1
      go_wp2_with fail
      refine Calls.mono (HRL.out _) ?_
      rintro r w' ⟨⟨x2, rfl, hx2⟩, rfl⟩
      have HX2 : Hid (x2 = bitsL L) := hx2 trivial
      clear hx2
      have M0 : Hid (((w.alloc (.cells #[.bool E, .slice s S.length cs, .slice a F.length ca, .slice b L.length cb, .slice g S.length cg] 58)).alloc (.cells #[.bool E, .int .u64 (x1 : Int), .int .u64 (x2 : Int), .slice s S.length cs, .slice none 0 0] 132)).heap[w.heap.size + 1]? = some (.cells #[.bool E, .int .u64 (x1 : Int), .int .u64 (x2 : Int), .slice s S.length cs, .slice none 0 0] 132)) := heap_last2 _ _ _ (by simp)
      have X0 : Hid (((w.alloc (.cells #[.bool E, .slice s S.length cs, .slice a F.length ca, .slice b L.length cb, .slice g S.length cg] 58)).alloc (.cells #[.bool E, .int .u64 (x1 : Int), .int .u64 (x2 : Int), .slice s S.length cs, .slice none 0 0] 132)).heap[w.heap.size]? = some (.cells #[.bool E, .slice s S.length cs, .slice a F.length ca, .slice b L.length cb, .slice g S.length cg] 58)) := (heap_prev _ _ _ (by simp)).trans (heap_last2 _ _ _ rfl)
      have BE0 : Hid (Below w.heap.size w ((w.alloc (.cells #[.bool E, .slice s S.length cs, .slice a F.length ca, .slice b L.length cb, .slice g S.length cg] 58)).alloc (.cells #[.bool E, .int .u64 (x1 : Int), .int .u64 (x2 : Int), .slice s S.length cs, .slice none 0 0] 132))) := (al_N w _).alloc (al_N w _).size _
      go_wp2
      go_loopw [58] (fun i wr => ∃ (k : Nat) (fv : Value), k ≤ S.length ∧ i = .int .i64 k ∧ (∀ j, j < k → goodS (rw_ S j) = true ∧ risB 0 ((S.length : Int) - 1) (rw_ G j) = true) ∧ wr.heap[w.heap.size]? = some (.cells #[.bool E, .slice s S.length cs, .slice a F.length ca, .slice b L.length cb, .slice g S.length cg] 58) ∧ wr.heap[w.heap.size + 1]? = some (.cells #[.bool E, .int .u64 (x1 : Int), .int .u64 (x2 : Int), .slice s S.length cs, fv] 132) ∧ wr.ownsRow (w.heap.size + 2) 127 1 fv k (flw G k) ∧ Below w.heap.size w wr) (fun i _ => S.length - (intOf i).toNat)
      case atStart => exact ⟨0, _, Nat.zero_le _, rfl, fun j hj => absurd hj (by omega), X0.out, M0.out, World.ownsRow_nil _ _ _ _, BE0.out⟩
      case round =>
        obtain ⟨k, fv, hk, rfl, hall, hbl, hmb, hfo, hbw⟩ := hrel
        obtain ⟨w1, hw1⟩ : ∃ w1, w1 = wr := ⟨_, rfl⟩
        subst hw1
        have HALL : Hid _ := hall
        have BW : Hid (Below w.heap.size w w1) := hbw
        have d1 : w1.cell? ⟨w.heap.size, 1, none⟩ = some (.slice s S.length cs) := cell_of hbl 1
        have d4 : w1.cell? ⟨w.heap.size, 4, none⟩ = some (.slice g S.length cg) := cell_of hbl 4
        have HBL : Hid _ := hbl
        have HMB : Hid _ := hmb
        have HFO : Hid (w1.ownsRow (w.heap.size + 2) 127 1 fv k (flw G k)) := hfo
        clear hall hbw hbl hmb hfo M0 X0 BE0
        by_cases hlt : k < S.length
        · have hltI : (k : Int) < (S.length : Int) := by omega
          obtain ⟨sb, so, sa, sc, rfl, sl, sce, si⟩ := HS.out k hlt
          obtain ⟨gb, go_, ga, gc, rfl, gl, gce, gi⟩ := HGG.out k (by rw [H2.out]; exact hlt)
          have g1 : w1.cell? ⟨sb, so + k, none⟩ = some (.slice sa (rw_ S k).length sc) := (BW.out.cell (p := ⟨sb, so + k, none⟩) sl).trans sce
          have g2 : w1.cell? ⟨gb, go_ + k, none⟩ = some (.slice ga (rw_ G k).length gc) := (BW.out.cell (p := ⟨gb, go_ + k, none⟩) gl).trans gce
          have HRG : Hid (Calls Try.prog 114 #[.slice ga (rw_ G k).length gc, .int .i64 S.length] w1 fun e w' => (∃ x : Nat, e = .returned (.tuple #[.int .u64 (x : Int), .bool (risB 0 ((S.length : Int) - 1) (rw_ G k))]) ∧ (risB 0 ((S.length : Int) - 1) (rw_ G k) = true → x = bitsL (rw_ G k))) ∧ w' = w1) := bitsM_any S.length h1 (rw_ G k) _ _ _ (Nat.le_trans (rw_len G k (by rw [H2.out]; exact hlt)) HLG.out) (IntsAt.keepB gi BW.out)
          have HGS : Hid (Calls Try.prog 136 #[.slice sa (rw_ S k).length sc] w1 fun e w' => e = .returned (.bool (goodS (rw_ S k))) ∧ Below w1.heap.size w1 w') := igood4_any (rw_ S k) sa sc w1 (Nat.le_trans (rw_len S k hlt) HLS.out) (IntsAt.keepB si BW.out)
          clear sce si gce gi gl sl
          cases hr : risB 0 ((S.length : Int) - 1) (rw_ G k) with
          | false =>
            rw [hr] at HRG
            have HG : Hid (goodN S G F L = false) := goodN_no fun h => by have := (h.2.2.2.2 k hlt).2; rw [hr] at this; cases this
            clear hr
            go_wp2_with fail
            refine Calls.mono HRG.out ?_
            rintro r w' ⟨⟨x, rfl, -⟩, rfl⟩
            go_wp2
            go_ret2
            exact ⟨.inl ⟨HG.out, rfl⟩, BW.out⟩
          | true =>
            rw [hr] at HRG
            have QR : Hid (risB 0 ((S.length : Int) - 1) (rw_ G k) = true) := hr
            clear hr
            cases hg : goodS (rw_ S k) with
            | false =>
              rw [hg] at HGS
              have HG : Hid (goodN S G F L = false) := goodN_no fun h => by have := (h.2.2.2.2 k hlt).1; rw [hg] at this; cases this
              clear hg
              go_wp2_with fail
              refine Calls.mono HRG.out ?_
              rintro r w' ⟨⟨x, rfl, -⟩, rfl⟩
              go_wp2_with fail
              refine Calls.mono HGS.out ?_
              rintro r w2 ⟨rfl, b2⟩
              have B2 : Hid (Below w.heap.size w w2) := BW.out.trans (b2.mono BW.out.size)
              clear b2
              go_wp2
              go_ret2
              exact ⟨.inl ⟨HG.out, rfl⟩, B2.out⟩
            | true =>
              rw [hg] at HGS
              have HN : Hid (∀ j, j < k + 1 → goodS (rw_ S j) = true ∧ risB 0 ((S.length : Int) - 1) (rw_ G j) = true) := fun j hj => by
                by_cases e : j = k
                · subst e; exact ⟨hg, QR.out⟩
                · exact HALL.out j (by omega)
              clear hg
              go_wp2_with fail
              refine Calls.mono HRG.out ?_
              rintro r w' ⟨⟨x, rfl, hx⟩, rfl⟩
              have HW : Hid (flw G k ++ [.int .u64 (x : Int)] = flw G (k + 1)) := flw_succ (hx trivial)
              clear hx
              go_wp2_with fail
              refine Calls.mono HGS.out ?_
              rintro r w2 ⟨rfl, b2⟩
              have B2 : Hid (Below w.heap.size w w2) := BW.out.trans (b2.mono BW.out.size)
              have hbl2 := (b2.block w.heap.size (Array.getElem?_eq_some_iff.1 HBL.out).1).trans HBL.out
              have hmb2 := (b2.block (w.heap.size + 1) (Array.getElem?_eq_some_iff.1 HMB.out).1).trans HMB.out
              have HBL2 : Hid _ := hbl2
              have HMB2 : Hid _ := hmb2
              have HFO2 : Hid (w2.ownsRow (w.heap.size + 2) 127 1 fv k (flw G k)) := World.ownsRow.keepB HFO.out b2
              have e4 : w2.cell? ⟨w.heap.size + 1, 4, none⟩ = some fv := cell_of hmb2 4
              have hs2 : w.heap.size + 1 < w2.heap.size := (Array.getElem?_eq_some_iff.1 hmb2).1
              have HZ : Hid (∀ o, w.heap.size + 2 ≤ (w2.alloc o).heap.size) := fun o => by show w.heap.size + 2 ≤ _; simp; omega
              clear b2 hbl2 hmb2
              go_wp2_with (at_builtin; refine wpList_append_own _ rfl _ _ 130 rfl (w.heap.size + 2) 127 i0 (.int .u64 0) 1 8 Try.underlying130 hi hz0 hz1 hz2 rfl (by decide) fv k (flw G k) rfl (HFO2.out.alloc _) ⟨w2.heap.size, 0, none⟩ 1 1 [.int .u64 x] rfl rfl ?c1 ?c2 ?c3 ?c4 ?c5 ?_)
              case c1 => exact cell_one_new _ _ _
              case c2 => intro u hu; simp at hu; subst hu; rfl
              case c3 => unfold maxLen; omega
              case c4 => omega
              case c5 => exact HZ.out _
              intro fv2 w3 hown3 hgrow _
              obtain ⟨fa, fc, rfl⟩ := own_formN hown3
              have hbl3 : w3.heap[w.heap.size]? = _ := (hgrow.block w.heap.size (by simp; omega) (fun e => by have := (World.ownsRow.lt HFO2.out _ e.symm).1; omega)).trans (((al_N w2 _).block w.heap.size (by omega)).trans HBL2.out)
              have hmb3 : w3.heap[w.heap.size + 1]? = _ := (hgrow.block (w.heap.size + 1) (by simp; omega) (fun e => by have := (World.ownsRow.lt HFO2.out _ e.symm).1; omega)).trans (((al_N w2 _).block (w.heap.size + 1) hs2).trans HMB2.out)
              have B3 : Hid (Below w.heap.size w w3) := Below.grown (B2.out.trans ((al_N w2 _).mono B2.out.size)) hgrow (by simp; omega) (fun g e => by have := (World.ownsRow.lt HFO2.out g e).1; omega)
              have c4 : w3.cell? ⟨w.heap.size + 1, 4, none⟩ = some fv := cell_of hmb3 4
              have f4 := frozen_of_row w3 (w.heap.size + 1) 4 _ _ hmb3
              have HMB3 : Hid ((w3.setCell ⟨w.heap.size + 1, 4, none⟩ (.slice fa (k + 1) fc)).heap[w.heap.size + 1]? = some (.cells #[.bool E, .int .u64 (x1 : Int), .int .u64 (x2 : Int), .slice (some ⟨sb, so, none⟩) S.length cs, .slice fa (k + 1) fc] 132)) := by rw [blk_same hmb3 4 _]; rfl
              have HBL3 : Hid _ := (blk_oth w3 (w.heap.size + 1) 4 w.heap.size (.slice fa (k + 1) fc) (by omega)).trans hbl3
              have HFO3 : Hid _ := own_set hown3 (show w.heap.size + 1 < _ by omega) 4 (.slice fa (k + 1) fc)
              have BE3 : Hid (Below w.heap.size w (w3.setCell ⟨w.heap.size + 1, 4, none⟩ (.slice fa (k + 1) fc))) := Below.grown B3.out (grown_set w3 _ _ _) B3.out.size (fun g e => by have := Option.some.inj e; omega)
              clear hbl3 hmb3 hown3 hgrow
              go_wp2
              go_roundw
              case rel => exact ⟨k + 1, _, by omega, by go_num, HN.out, HBL3.out, HMB3.out, by rw [← HW.out]; exact HFO3.out, BE3.out⟩
              case measure => simp [intOf]; omega
        · obtain rfl : k = S.length := by omega
          have hltI : ¬ (S.length : Int) < (S.length : Int) := by omega
          have HG : Hid (goodN S G F L = true) := goodN_yes ⟨h1, H2.out, QF.out, QL.out, HALL.out⟩
          go_wp2
          go_ret2
          exact ⟨.inr ⟨HG.out, rfl, _, by rw [← HX1.out, ← HX2.out]; exact HMB.out, HFO.out⟩, BW.out⟩
end Go.Proofs.Ytlkcdcdgpklpoaa

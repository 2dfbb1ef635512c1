/-
  Which machines of places are good; GoodNfa of the specification.
-/
import Derived.Test.YtlkcdcdgpklpoaaN6A
import Derived.Test.YtlkcdcdgpklpoaaM6E
import Derived.Test.YtlkcdcdgpklpoaaC4A
namespace Go.Proofs.Ytlkcdcdgpklpoaa
open Go.ChangeShapes Go.WideShapes Go.ChangeAt Go.WideMaps Go.WideElems Go.RowKit
def okN (S G : Rw) (F L : List Int) : Prop := S.length ≤ 40 ∧ G.length = S.length ∧ risB 0 ((S.length : Int) - 1) F = true ∧ risB 0 ((S.length : Int) - 1) L = true ∧ ∀ k, k < S.length → goodS (rw_ S k) = true ∧ risB 0 ((S.length : Int) - 1) (rw_ G k) = true
open Classical in
/-- Whether a machine of places is good. -/
noncomputable def goodN (S G : Rw) (F L : List Int) : Bool := decide (okN S G F L)
theorem goodN_yes {S G : Rw} {F L : List Int} (h : okN S G F L) : goodN S G F L = true := @decide_eq_true _ (Classical.propDecidable _) h
theorem goodN_no {S G : Rw} {F L : List Int} (h : ¬ okN S G F L) : goodN S G F L = false := @decide_eq_false _ (Classical.propDecidable _) h
theorem al_N (w : World) (o : Obj) : Below w.heap.size w (w.alloc o) := (Below.refl _ _).alloc (Nat.le_refl _) o
set_option maxRecDepth 100000 in
set_option maxHeartbeats 4000000 in
theorem sgoodN_any (E : Bool) (S G : Rw) (F L : List Int) (s a b g : Option Addr) (cs ca cb cg : Nat) (w : World) (hl : szN S F L G ≤ 1048576) (hS : RowsAt w s S) (hF : IntsAt w a F) (hL : IntsAt w b L) (hG : RowsAt w g G) :
    Calls Try.prog 90 #[.agg #[.bool E, .slice s S.length cs, .slice a F.length ca, .slice b L.length cb, .slice g G.length cg]] w fun r w' => r = .returned (.bool (goodN S G F L)) ∧ Below w.heap.size w w' := by
  have hlF : F.length ≤ 1048576 := by unfold szN at hl; omega
  have hlL : L.length ≤ 1048576 := by unfold szN at hl; omega
  have HLS : Hid (szR S ≤ 1048576) := by unfold szN at hl; exact (by omega : szR S ≤ 1048576)
  have HLG : Hid (szR G ≤ 1048576) := by unfold szN at hl; exact (by omega : szR G ≤ 1048576)
  have HS : Hid (RowsAt w s S) := hS
  have HFF : Hid (IntsAt w a F) := hF
  have HLL : Hid (IntsAt w b L) := hL
  have HGG : Hid (RowsAt w g G) := hG
  clear hl hS hF hL hG
  by_cases h1 : S.length ≤ 40
  case neg =>
    have q1 : (40 : Int) < (S.length : Int) := by omega
    have HG : Hid (goodN S G F L = false) := goodN_no fun h => h1 h.1
    go_enter Try.func90, Try.ntmps90
    go_wp2
    go_ret
    exact ⟨by rw [HG.out]; rfl, al_N w _⟩
  have p1 : ¬ (40 : Int) < (S.length : Int) := by omega
  have p1b : decide ((40 : Int) < (S.length : Int)) = false := decide_eq_false p1
  by_cases h2 : G.length = S.length
  case neg =>
    have HG : Hid (goodN S G F L = false) := goodN_no fun h => h2 h.2.1
    have q1 : ((G.length : Int) == (S.length : Int)) = false := by simp; omega
    have q2 : ¬ (G.length : Int) = (S.length : Int) := by omega
    have q3 : decide ((G.length : Int) = (S.length : Int)) = false := decide_eq_false q2
    go_enter Try.func90, Try.ntmps90
    go_wp2
    go_ret
    exact ⟨by rw [HG.out]; rfl, al_N w _⟩
  rw [h2]
  have H2 : Hid (G.length = S.length) := h2
  clear h2
  have hwm : IntKind.i64.wrap ((S.length : Int) - 1) = (S.length : Int) - 1 := IntWalk.i64_in _ (by omega)
  have HRF : Hid (∀ o, Calls Try.prog 70 #[.slice a F.length ca, .int .i64 0, .int .i64 ((S.length : Int) - 1)] (w.alloc o) fun e w' => e = .returned (.bool (risB 0 ((S.length : Int) - 1) F)) ∧ w' = w.alloc o) := fun o => sris_any 0 _ F _ _ _ hlF (IntsAt.keepB HFF.out (al_N w o))
  have HRL : Hid (∀ o, Calls Try.prog 70 #[.slice b L.length cb, .int .i64 0, .int .i64 ((S.length : Int) - 1)] (w.alloc o) fun e w' => e = .returned (.bool (risB 0 ((S.length : Int) - 1) L)) ∧ w' = w.alloc o) := fun o => sris_any 0 _ L _ _ _ hlL (IntsAt.keepB HLL.out (al_N w o))
  cases hF : risB 0 ((S.length : Int) - 1) F with
  | false =>
    rw [hF] at HRF
    have HG : Hid (goodN S G F L = false) := goodN_no fun h => by have := h.2.2.1; rw [hF] at this; cases this
    clear hF
    go_enter Try.func90, Try.ntmps90
    go_wp2_with fail
    refine Calls.mono (HRF.out _) ?_
    rintro r w' ⟨rfl, rfl⟩
    go_wp2
    go_ret
    exact ⟨by rw [HG.out]; rfl, al_N w _⟩
  | true =>
    rw [hF] at HRF
    have QF : Hid (risB 0 ((S.length : Int) - 1) F = true) := hF
    clear hF
    cases hL : risB 0 ((S.length : Int) - 1) L with
    | false =>
      rw [hL] at HRL
      have HG : Hid (goodN S G F L = false) := goodN_no fun h => by have := h.2.2.2.1; rw [hL] at this; cases this
      clear hL
      go_enter Try.func90, Try.ntmps90
      go_wp2_with fail
      refine Calls.mono (HRF.out _) ?_
      rintro r w' ⟨rfl, rfl⟩
      go_wp2_with fail
      refine Calls.mono (HRL.out _) ?_
      rintro r w' ⟨rfl, rfl⟩
      go_wp2
      go_ret
      exact ⟨by rw [HG.out]; rfl, al_N w _⟩
    | true =>
      rw [hL] at HRL
      have QL : Hid (risB 0 ((S.length : Int) - 1) L = true) := hL
      clear hL
      go_enter Try.func90, Try.ntmps90
      go_wp2_with fail
      refine Calls.mono (HRF.out _) ?_
      rintro r w' ⟨rfl, rfl⟩
      go_wp2_with fail
      refine Calls.mono (HRL.out _) ?_
      rintro r w' ⟨rfl, rfl⟩
      go_wp2
      go_loopw [37] (fun i wr => ∃ k : Nat, k ≤ S.length ∧ i = .int .i64 k ∧ (∀ j, j < k → goodS (rw_ S j) = true ∧ risB 0 ((S.length : Int) - 1) (rw_ G j) = true) ∧ wr.heap[w.heap.size]? = some (.cells #[.bool E, .slice s S.length cs, .slice a F.length ca, .slice b L.length cb, .slice g S.length cg] 58) ∧ Below w.heap.size w wr) (fun i _ => S.length - (intOf i).toNat)
      case atStart => exact ⟨0, Nat.zero_le _, rfl, fun j hj => absurd hj (by omega), heap_last2 _ _ _ rfl, al_N w _⟩
      case round =>
        obtain ⟨k, hk, rfl, hall, hbl, hbw⟩ := hrel
        obtain ⟨w1, hw1⟩ : ∃ w1, w1 = wr := ⟨_, rfl⟩
        subst hw1
        have HALL : Hid _ := hall
        have BW : Hid (Below w.heap.size w w1) := hbw
        have d1 : w1.cell? ⟨w.heap.size, 1, none⟩ = some (.slice s S.length cs) := cell_of hbl 1
        have HBL : Hid _ := hbl
        clear hall hbw hbl
        by_cases hlt : k < S.length
        · have hltI : (k : Int) < (S.length : Int) := by omega
          obtain ⟨sb, so, sa, sc, rfl, sl, sce, si⟩ := HS.out k hlt
          obtain ⟨gb, go_, ga, gc, rfl, gl, gce, gi⟩ := HGG.out k (by rw [H2.out]; exact hlt)
          have g1 : w1.cell? ⟨sb, so + k, none⟩ = some (.slice sa (rw_ S k).length sc) := (BW.out.cell (p := ⟨sb, so + k, none⟩) sl).trans sce
          have HGI : Hid (IntsAt w ga (rw_ G k)) := gi
          have HGC : Hid (w.cell? ⟨gb, go_ + k, none⟩ = some (.slice ga (rw_ G k).length gc)) := gce
          have HGL : Hid (gb < w.heap.size) := gl
          have HGS : Hid (Calls Try.prog 131 #[.slice sa (rw_ S k).length sc] w1 fun e w' => e = .returned (.bool (goodS (rw_ S k))) ∧ Below w1.heap.size w1 w') := sgood4_any (rw_ S k) sa sc w1 (Nat.le_trans (rw_len S k hlt) HLS.out) (IntsAt.keepB si BW.out)
          clear sce si gce gi gl
          cases hg : goodS (rw_ S k) with
          | false =>
            rw [hg] at HGS
            have HG : Hid (goodN S G F L = false) := goodN_no fun h => by have := (h.2.2.2.2 k hlt).1; rw [hg] at this; cases this
            clear hg
            go_wp2_with fail
            refine Calls.mono HGS.out ?_
            rintro r w2 ⟨rfl, b2⟩
            have B2 : Hid (Below w.heap.size w w2) := BW.out.trans (b2.mono BW.out.size)
            clear b2
            go_wp2
            go_ret
            exact ⟨by rw [HG.out]; rfl, B2.out⟩
          | true =>
            rw [hg] at HGS
            have QG : Hid (goodS (rw_ S k) = true) := hg
            clear hg
            go_wp2_with fail
            refine Calls.mono HGS.out ?_
            rintro r w2 ⟨rfl, b2⟩
            have B2 : Hid (Below w.heap.size w w2) := BW.out.trans (b2.mono BW.out.size)
            have hbl2 : w2.heap[w.heap.size]? = some (.cells #[.bool E, .slice (some ⟨sb, so, none⟩) S.length cs, .slice a F.length ca, .slice b L.length cb, .slice (some ⟨gb, go_, none⟩) S.length cg] 58) := (b2.block w.heap.size (Array.getElem?_eq_some_iff.1 HBL.out).1).trans HBL.out
            have d4 : w2.cell? ⟨w.heap.size, 4, none⟩ = some (.slice (some ⟨gb, go_, none⟩) S.length cg) := cell_of hbl2 4
            have HBL2 : Hid _ := hbl2
            have g2 : w2.cell? ⟨gb, go_ + k, none⟩ = some (.slice ga (rw_ G k).length gc) := (B2.out.cell (p := ⟨gb, go_ + k, none⟩) HGL.out).trans HGC.out
            have HRG : Hid (Calls Try.prog 70 #[.slice ga (rw_ G k).length gc, .int .i64 0, .int .i64 ((S.length : Int) - 1)] w2 fun e w' => e = .returned (.bool (risB 0 ((S.length : Int) - 1) (rw_ G k))) ∧ w' = w2) := sris_any 0 _ (rw_ G k) _ _ _ (Nat.le_trans (rw_len G k (by rw [H2.out]; exact hlt)) HLG.out) (IntsAt.keepB HGI.out B2.out)
            clear b2 hbl2
            cases hr : risB 0 ((S.length : Int) - 1) (rw_ G k) with
            | false =>
              rw [hr] at HRG
              have HG : Hid (goodN S G F L = false) := goodN_no fun h => by have := (h.2.2.2.2 k hlt).2; rw [hr] at this; cases this
              clear hr
              go_wp2_with fail
              refine Calls.mono HRG.out ?_
              rintro r w' ⟨rfl, rfl⟩
              go_wp2
              go_ret
              exact ⟨by rw [HG.out]; rfl, B2.out⟩
            | true =>
              rw [hr] at HRG
              have HN : Hid (∀ j, j < k + 1 → goodS (rw_ S j) = true ∧ risB 0 ((S.length : Int) - 1) (rw_ G j) = true) := fun j hj => by
                by_cases e : j = k
                · subst e; exact ⟨QG.out, hr⟩
                · exact HALL.out j (by omega)
              clear hr
              go_wp2_with fail
              refine Calls.mono HRG.out ?_
              rintro r w' ⟨rfl, rfl⟩
              go_wp2
              go_roundw
              case rel => exact ⟨k + 1, by omega, by go_num, HN.out, HBL2.out, B2.out⟩
              case measure => simp [intOf]; omega
        · obtain rfl : k = S.length := by omega
          have hltI : ¬ (S.length : Int) < (S.length : Int) := by omega
          have HG : Hid (goodN S G F L = true) := goodN_yes ⟨h1, H2.out, QF.out, QL.out, HALL.out⟩
          go_wp2
          go_ret
          exact ⟨by rw [HG.out]; rfl, BW.out⟩
end Go.Proofs.Ytlkcdcdgpklpoaa

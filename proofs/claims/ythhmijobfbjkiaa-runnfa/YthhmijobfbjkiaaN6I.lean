/-
  RunNfa of the program.
-/
import Derived.Test.YthhmijobfbjkiaaN6H
import Derived.Test.YthhmijobfbjkiaaN3B
import Derived.Deep.RegionHeld
namespace Go.Proofs.Ythhmijobfbjkiaa
open Go.ChangeShapes Go.WideShapes Go.ChangeAt Go.WideMaps Go.WideElems Go.RowKit
theorem rst_eq (st : Option Nat) : rst st = .agg #[.bool st.isSome, .int .u64 (st.getD 0 : Nat)] := by cases st <;> rfl
/-- The state behind the first runes. -/
def stN (S G : Rw) (F : List Int) (X : List Int) : Nat → Option Nat
  | 0 => none
  | k + 1 => some (nextN G (bitsL F) S.length (bitsP (fun j => memS (rw_ S j) (X.getD k 0)) S.length) (stN S G F X k))
noncomputable def gN (S G : Rw) (F L X : List Int) : Bool := goodN S G F L && (allG X && decide (X.length ≤ 1000))
def rN (E : Bool) (S G : Rw) (F L X : List Int) : Bool := finN E (bitsL L) (stN S G F X X.length)
theorem bitsL_lt {N : Nat} (hN : N ≤ 40) : ∀ {L : List Int}, (∀ y ∈ L, 0 ≤ y ∧ y < (N : Int)) → bitsL L < 1099511627776 := by
  intro L h
  have key : ∀ (L : List Int) (n : Nat), n < 1099511627776 → (∀ y ∈ L, 0 ≤ y ∧ y < (N : Int)) → L.foldl (fun n y => n ||| 2 ^ y.toNat) n < 1099511627776 := by
    intro L
    induction L with
    | nil => intro n hn _; exact hn
    | cons y L ih =>
      intro n hn h
      have := h y (by simp)
      exact ih _ (or_lt hn this.1 (by omega)) fun z hz => h z (by simp [hz])
  exact key L 0 (by omega) h
theorem ris_lt {N : Nat} (hN : N ≤ 40) {L : List Int} (h : risB 0 ((N : Int) - 1) L = true) : bitsL L < 1099511627776 := by
  refine bitsL_lt hN fun y hy => ?_
  obtain ⟨j, hj, rfl⟩ := List.mem_iff_getElem.1 hy
  have := (of_decide_eq_true h j hj).1
  have e : L.getD j 0 = L[j] := by simp [List.getD, hj]
  rw [e] at this
  omega
theorem stN_lt {S G : Rw} {F X : List Int} (hF : bitsL F < 1099511627776) (hG : ∀ k, k < S.length → bitsL (rw_ G k) < 1099511627776) : ∀ k n, stN S G F X k = some n → n < 1099511627776
  | 0, n, h => by cases h
  | k + 1, n, h => by
    simp only [stN, Option.some.injEq] at h
    subst h
    cases stN S G F X k with
    | none => exact and_lt hF
    | some m => exact stepB_lt hG _ (Nat.le_refl _)
theorem goodN_of {S G : Rw} {F L : List Int} (h : goodN S G F L = true) : okN S G F L := @of_decide_eq_true _ (Classical.propDecidable _) h
set_option maxRecDepth 100000 in
set_option maxHeartbeats 8000000 in
theorem irunN_any (E : Bool) (S G : Rw) (F L X : List Int) (s a b g lo : Option Addr) (cs ca cb cg lc : Nat) (w : World) (hl : szN S F L G ≤ 1048576) (hX : X.length ≤ 1048576) (hS : RowsAt w s S) (hF : IntsAt w a F) (hL : IntsAt w b L) (hG : RowsAt w g G) (hXA : IntsAt w lo X) :
    Calls Try.prog 20 #[.agg #[.bool E, .slice s S.length cs, .slice a F.length ca, .slice b L.length cb, .slice g G.length cg], .slice lo X.length lc] w fun r w' => r = .returned (.tuple #[.bool (gN S G F L X && rN E S G F L X), .bool (gN S G F L X)]) ∧ Below w.heap.size w w' := by
  have HS : Hid _ := hS
  have HXA : Hid _ := hXA
  have HLS : Hid (szR S ≤ 1048576) := by unfold szN at hl; exact (by omega : szR S ≤ 1048576)
  have HR : Hid (∀ o, Calls Try.prog 40 #[.agg #[.bool E, .slice s S.length cs, .slice a F.length ca, .slice b L.length cb, .slice g G.length cg]] (w.alloc o) fun r w' => ((goodN S G F L = false ∧ r = .returned (.tuple #[.pointer none, .bool false])) ∨ (goodN S G F L = true ∧ ∃ fv, r = .returned (.tuple #[.pointer (some ⟨(w.alloc o).heap.size + 1, 0, none⟩), .bool true]) ∧ w'.heap[(w.alloc o).heap.size + 1]? = some (.cells #[.bool E, .int .u64 (bitsL F : Nat), .int .u64 (bitsL L : Nat), .slice s S.length cs, fv] 99) ∧ w'.ownsRow ((w.alloc o).heap.size + 2) 72 1 fv S.length (flw G S.length))) ∧ Below (w.alloc o).heap.size (w.alloc o) w') := fun o => readM_any E S G F L s a b g cs ca cb cg (w.alloc o) hl (RowsAt.keepB hS (al_N w o)) (IntsAt.keepB hF (al_N w o)) (IntsAt.keepB hL (al_N w o)) (RowsAt.keepB hG (al_N w o))
  have HOK : Hid (gN S G F L X = (goodN S G F L && (allG X && decide (X.length ≤ 1000)))) := rfl
  clear hS hF hL hG hXA hl
  go_enter Try.func20, Try.ntmps20
  go_wp2_with fail
  refine Calls.mono (HR.out _) ?_
  rintro r w1 ⟨h, b1⟩
  have B1 : Hid (Below w.heap.size w w1) := (al_N w _).trans (b1.mono (al_N w _).size)
  clear b1
  rcases h with ⟨hg, rfl⟩ | ⟨hg, fv, rfl, hm, ho⟩
  · have HG : Hid _ := hg
    clear hg
    go_wp2
    go_ret2
    exact ⟨by rw [HOK.out, HG.out]; rfl, B1.out⟩
  have HG : Hid (goodN S G F L = true) := hg
  have HM : Hid (w1.heap[w.heap.size + 1 + 1]? = some (.cells #[.bool E, .int .u64 (bitsL F : Nat), .int .u64 (bitsL L : Nat), .slice s S.length cs, fv] 99)) := by
    have e : ∀ o : Obj, (w.alloc o).heap.size = w.heap.size + 1 := fun o => by simp
    rw [e] at hm
    exact hm
  have HO : Hid (w1.ownsRow (w.heap.size + 1 + 1 + 1) 72 1 fv S.length (flw G S.length)) := by
    have e : ∀ o : Obj, (w.alloc o).heap.size = w.heap.size + 1 := fun o => by simp
    rw [e] at ho
    exact ho
  clear hg hm ho
  by_cases h1000 : X.length ≤ 1000
  case neg =>
    have h1' : (1000 : Int) < (X.length : Int) := by omega
    have HD : Hid _ := decide_eq_false h1000
    go_wp2
    go_ret2
    exact ⟨by rw [HOK.out, HG.out, HD.out, Bool.and_false]; rfl, B1.out⟩
  have h1' : ¬ (1000 : Int) < (X.length : Int) := by omega
  have HD : Hid (decide (X.length ≤ 1000) = true) := decide_eq_true h1000
  cases hal : allG X
  · have HAL : Hid _ := hal
    clear hal
    go_wp2_with (first | (go_at_call 32; refine (iall3_any X lo lc _ hX (IntsAt.keepB HXA.out B1.out)).mono ?_; rintro r w2 ⟨rfl, rfl⟩; rw [HAL.out]) | fail)
    go_ret2
    exact ⟨by rw [HOK.out, HG.out, HAL.out]; rfl, B1.out⟩
  have HAL : Hid (allG X = true) := hal
  clear hal
  have HM0 : Hid (∀ o, (w1.alloc o).heap[w.heap.size + 1 + 1]? = some (.cells #[.bool E, .int .u64 (bitsL F : Nat), .int .u64 (bitsL L : Nat), .slice s S.length cs, fv] 99)) := fun o => ((al_N w1 o).block _ (Array.getElem?_eq_some_iff.1 HM.out).1).trans HM.out
  go_wp2_with (first | (go_at_call 32; refine (iall3_any X lo lc _ hX (IntsAt.keepB HXA.out B1.out)).mono ?_; rintro r w2 ⟨rfl, rfl⟩; rw [HAL.out]) | fail)
  have h40 : S.length ≤ 40 := (goodN_of HG.out).1
  have HFL : bitsL F < 1099511627776 := ris_lt h40 (goodN_of HG.out).2.2.1
  have HLL : bitsL L < 1099511627776 := ris_lt h40 (goodN_of HG.out).2.2.2.1
  have HGL : ∀ k, k < S.length → bitsL (rw_ G k) < 1099511627776 := fun k hk => ris_lt h40 ((goodN_of HG.out).2.2.2.2 k hk).2
  have HEV : ∀ j, j < S.length → (rw_ S j).length % 2 = 0 := fun j hj => (goodS_true ((goodN_of HG.out).2.2.2.2 j hj).1).1
  have HQL : ∀ x, bitsP (fun j => memS (rw_ S j) x) S.length < 1099511627776 := fun x => bitsP_lt _ _ h40
  have HST : Hid (∀ k n, stN S G F X k = some n → n < 1099511627776) := stN_lt HFL HGL
  have HP : Hid (∀ (x : Int) (wr : World), wr.heap[w.heap.size + 1 + 1]? = some (.cells #[.bool E, .int .u64 (bitsL F : Nat), .int .u64 (bitsL L : Nat), .slice s S.length cs, fv] 99) → Below w.heap.size w wr → Calls Try.prog 44 #[.pointer (some ⟨w.heap.size + 1 + 1, 0, none⟩), .int .i64 x] wr fun e w' => e = .returned (.int .u64 (bitsP (fun j => memS (rw_ S j) x) S.length : Nat)) ∧ w' = wr) := fun x wr h1 h2 => places_any E S s cs _ _ fv _ x wr h40 HEV HLS.out (RowsAt.keepB HS.out h2) h1
  have HQ : Hid (∀ (k : Nat) (wr : World), wr.heap[w.heap.size + 1 + 1]? = some (.cells #[.bool E, .int .u64 (bitsL F : Nat), .int .u64 (bitsL L : Nat), .slice s S.length cs, fv] 99) → wr.ownsRow (w.heap.size + 1 + 1 + 1) 72 1 fv S.length (flw G S.length) → Calls Try.prog 43 #[.pointer (some ⟨w.heap.size + 1 + 1, 0, none⟩), .agg #[.bool (stN S G F X k).isSome, .int .u64 ((stN S G F X k).getD 0 : Nat)], .int .u64 (bitsP (fun j => memS (rw_ S j) (X.getD k 0)) S.length : Nat)] wr fun e w' => e = .returned (.agg #[.bool (stN S G F X (k + 1)).isSome, .int .u64 ((stN S G F X (k + 1)).getD 0 : Nat)]) ∧ Below wr.heap.size wr w') := fun k wr h1 h2 => by
    rw [← rst_eq, ← rst_eq]
    exact step_anyN E _ _ _ fv _ _ _ G _ _ wr h40 HFL (HQL _) (HST.out k) HGL h1 h2
  have HFI : Hid (∀ wr : World, wr.heap[w.heap.size + 1 + 1]? = some (.cells #[.bool E, .int .u64 (bitsL F : Nat), .int .u64 (bitsL L : Nat), .slice s S.length cs, fv] 99) → Calls Try.prog 45 #[.pointer (some ⟨w.heap.size + 1 + 1, 0, none⟩), .agg #[.bool (stN S G F X X.length).isSome, .int .u64 ((stN S G F X X.length).getD 0 : Nat)]] wr fun e w' => e = .returned (.bool (rN E S G F L X)) ∧ Below wr.heap.size wr w') := fun wr h1 => by
    rw [← rst_eq]
    exact final_any E _ _ _ fv _ _ wr HLL (HST.out _) h1
  clear HFL HLL HGL HEV HQL
  go_loopw [30] (fun i wr => ∃ k : Nat, k ≤ X.length ∧ i = .int .i64 k ∧ wr.heap[w2.heap.size]? = some (.cells #[.bool (stN S G F X k).isSome, .int .u64 ((stN S G F X k).getD 0 : Nat)] 74) ∧ Below w2.heap.size w2 wr) (fun i _ => X.length - (intOf i).toNat)
  case atStart => exact ⟨0, Nat.zero_le _, rfl, heap_last2 _ _ _ rfl, al_N _ _⟩
  case round =>
    obtain ⟨k, hk, rfl, hb, hbw⟩ := hrel
    have BS0 : Hid (Below w2.heap.size w2 wr) := hbw
    have hm : wr.heap[w.heap.size + 1 + 1]? = some (.cells #[.bool E, .int .u64 (bitsL F : Nat), .int .u64 (bitsL L : Nat), .slice s S.length cs, fv] 99) := (BS0.out.block _ (Array.getElem?_eq_some_iff.1 HM.out).1).trans HM.out
    have ho : wr.ownsRow (w.heap.size + 1 + 1 + 1) 72 1 fv S.length (flw G S.length) := World.ownsRow.keepB HO.out BS0.out
    have BW0 : Hid (Below w.heap.size w wr) := B1.out.trans (BS0.out.mono B1.out.size)
    have HB : Hid _ := hb
    have HMR : Hid (wr.heap[w.heap.size + 1 + 1]? = some (.cells #[.bool E, .int .u64 (bitsL F : Nat), .int .u64 (bitsL L : Nat), .slice s S.length cs, fv] 99)) := hm
    have HOR : Hid (wr.ownsRow (w.heap.size + 1 + 1 + 1) 72 1 fv S.length (flw G S.length)) := ho
    have hszr : w2.heap.size < wr.heap.size := (Array.getElem?_eq_some_iff.1 hb).1
    have c0 : wr.cell? ⟨w2.heap.size, 0, none⟩ = some (.bool (stN S G F X k).isSome) := cell_of hb 0
    have c1 : wr.cell? ⟨w2.heap.size, 1, none⟩ = some (.int .u64 ((stN S G F X k).getD 0 : Nat)) := cell_of hb 1
    clear hb hm ho hbw HM0
    by_cases hlt : k < X.length
    · have hltI : (k : Int) < (X.length : Int) := by omega
      obtain ⟨b1, o1, rfl, l1, h1⟩ := HXA.out k hlt
      have gL : wr.cell? ⟨b1, o1 + k, none⟩ = some (.int .i64 (X.getD k 0)) := (BW0.out.cell (p := ⟨b1, o1 + k, none⟩) l1).trans h1
      clear h1 c0 c1
      have HP1 : Hid (∀ wr : World, wr.heap[w.heap.size + 1 + 1]? = some (.cells #[.bool E, .int .u64 (bitsL F : Nat), .int .u64 (bitsL L : Nat), .slice s S.length cs, fv] 99) → Below w.heap.size w wr → Calls Try.prog 44 #[.pointer (some ⟨w.heap.size + 1 + 1, 0, none⟩), .int .i64 (X.getD k 0)] wr fun e w' => e = .returned (.int .u64 (bitsP (fun j => memS (rw_ S j) (X.getD k 0)) S.length : Nat)) ∧ w' = wr) := fun wr => HP.out (X.getD k 0) wr
      have HQ1 : Hid _ := HQ.out k
      generalize bitsP (fun j => memS (rw_ S j) (X.getD k 0)) S.length = q at HP1 HQ1
      generalize X.getD k 0 = x at gL HP1
      generalize (stN S G F X k).isSome = bg at HB HQ1
      generalize (stN S G F X k).getD 0 = n at HB HQ1
      have HE1 : Hid (∃ bg2, bg2 = (stN S G F X (k + 1)).isSome) := ⟨_, rfl⟩
      have HE2 : Hid (∃ n2, n2 = (stN S G F X (k + 1)).getD 0) := ⟨_, rfl⟩
      obtain ⟨bg2, hbg2⟩ := HE1.out
      obtain ⟨n2, hn2⟩ := HE2.out
      rw [← hbg2, ← hn2] at HQ1
      have HE3 : Hid (bg2 = (stN S G F X (k + 1)).isSome) := hbg2
      have HE4 : Hid (n2 = (stN S G F X (k + 1)).getD 0) := hn2
      clear hbg2 hn2 HE1 HE2
      have HMd : Hid (wr.drew.heap[w.heap.size + 1 + 1]? = some (.cells #[.bool E, .int .u64 (bitsL F : Nat), .int .u64 (bitsL L : Nat), .slice s S.length cs, fv] 99)) := HMR.out
      have HOd : Hid (wr.drew.ownsRow (w.heap.size + 1 + 1 + 1) 72 1 fv S.length (flw G S.length)) := World.ownsRow.keepB HOR.out ((Below.refl _ _).drew)
      have BWd : Hid (Below w.heap.size w wr.drew) := BW0.out.drew
      have sD : (wr.drew.cell? ⟨w2.heap.size, 0, none⟩ = some (.bool bg) ∧ wr.drew.cell? ⟨w2.heap.size, 1, none⟩ = some (.int .u64 (n : Int)) ∧ wr.drew.frozen? ⟨w2.heap.size, 0, none⟩ = false ∧ wr.drew.frozen? ⟨w2.heap.size, 1, none⟩ = false) := ⟨cell_of (w := wr.drew) HB.out 0, cell_of (w := wr.drew) HB.out 1, frozen_of_row wr.drew _ _ _ _ HB.out, frozen_of_row wr.drew _ _ _ _ HB.out⟩
      go_wp2
      have sc0 := sD.1
      have sc1 := sD.2.1
      clear sD
      go_region_law (first
        | (go_simp
           go_at_call 44
           (with_reducible refine Calls.mono (HP1.out _ HMd.out BWd.out) ?_)
           rintro r w6 ⟨rfl, rfl⟩
           dsimp only)
        | (go_simp
           go_at_call 43
           (with_reducible refine Calls.mono (HQ1.out _ HMd.out HOd.out) ?_)
           rintro r w7 ⟨rfl, b7⟩
           have HB7 : Hid (w7.heap[w2.heap.size]? = some (.cells #[.bool bg, .int .u64 (n : Int)] 74)) := (b7.block _ hszr).trans HB.out
           have t0 : w7.cell? ⟨w2.heap.size, 0, none⟩ = some (.bool bg) := cell_of HB7.out 0
           have t1 : w7.cell? ⟨w2.heap.size, 1, none⟩ = some (.int .u64 (n : Int)) := cell_of HB7.out 1
           have t2 : w7.frozen? ⟨w2.heap.size, 0, none⟩ = false := frozen_of_row w7 _ _ _ _ HB7.out
           have t3 : w7.frozen? ⟨w2.heap.size, 1, none⟩ = false := frozen_of_row w7 _ _ _ _ HB7.out
           have B7 : Hid (Below wr.drew.heap.size wr.drew w7) := b7
           clear b7
           dsimp only))
      all_goals
        have HB9 : Hid (((w7.setCell ⟨w2.heap.size, 0, none⟩ (.bool bg2)).setCell ⟨w2.heap.size, 1, none⟩ (.int .u64 (n2 : Int))).heap[w2.heap.size]? = some (.cells #[.bool bg2, .int .u64 (n2 : Int)] 74)) := blk_same (blk_same HB7.out 0 _) 1 _
        have BS9 : Hid (Below w2.heap.size w2 ((w7.setCell ⟨w2.heap.size, 0, none⟩ (.bool bg2)).setCell ⟨w2.heap.size, 1, none⟩ (.int .u64 (n2 : Int)))) := by
          have q0 : Below w2.heap.size w2 w7 := BS0.out.drew.trans (B7.out.mono BS0.out.size)
          have q1 := Below.grown q0 (grown_set w7 w2.heap.size 0 (.bool bg2)) q0.size (fun g e => by have := Option.some.inj e; omega)
          exact Below.grown q1 (grown_set _ w2.heap.size 1 _) q1.size (fun g e => by have := Option.some.inj e; omega)
        go_wp2
        go_roundw
        case rel => exact ⟨k + 1, by omega, by go_num, by rw [← HE3.out, ← HE4.out]; exact HB9.out, BS9.out⟩
        case measure => simp [intOf]; omega
    · obtain rfl : k = X.length := by omega
      have hltI : ¬ (X.length : Int) < (X.length : Int) := by omega
      have HFI1 : Hid _ := HFI.out wr HMR.out
      generalize (stN S G F X X.length).isSome = bg at c0 HFI1
      generalize (stN S G F X X.length).getD 0 = n at c1 HFI1
      go_wp2_with fail
      refine Calls.mono HFI1.out ?_
      rintro r w8 ⟨rfl, b8⟩
      have B8 : Hid (Below w.heap.size w w8) := BW0.out.trans (b8.mono BW0.out.size)
      clear b8
      go_wp2
      go_ret2
      exact ⟨by rw [HOK.out, HG.out, HAL.out, HD.out]; rfl, B8.out⟩
end Go.Proofs.Ythhmijobfbjkiaa

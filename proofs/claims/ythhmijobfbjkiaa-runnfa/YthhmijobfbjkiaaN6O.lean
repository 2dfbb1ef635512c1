/-
  RunNfa of the specification.
-/
import Derived.Test.YthhmijobfbjkiaaN6N
namespace Go.Proofs.Ythhmijobfbjkiaa
open Go.ChangeShapes Go.WideShapes Go.ChangeAt Go.WideMaps Go.WideElems Go.RowKit
theorem ris_mem {N : Nat} {L : List Int} (h : risB 0 ((N : Int) - 1) L = true) : ∀ x ∈ L, 0 ≤ x ∧ x < (N : Int) := fun x hx => by
  obtain ⟨j, hj, rfl⟩ := List.mem_iff_getElem.1 hx
  have := (of_decide_eq_true h j hj).1
  have e : L.getD j 0 = L[j] := by simp [List.getD, hj]
  rw [e] at this
  omega
theorem ris_sorted {lo hi : Int} {L : List Int} (h : risB lo hi L = true) : L.Pairwise (· < ·) := by
  have hs := of_decide_eq_true h
  have step : ∀ j, j + 1 < L.length → L.getD j 0 < L.getD (j + 1) 0 := fun j hj => by
    have := (hs (j + 1) hj).2 (by omega)
    simpa using this
  have mono : ∀ d i, i + d + 1 < L.length → L.getD i 0 < L.getD (i + d + 1) 0 := by
    intro d
    induction d with
    | zero => intro i hi; exact step i hi
    | succ d ih =>
      intro i hi
      have h1 := ih i (by omega)
      have h2 := step (i + d + 1) (by omega)
      have e : i + (d + 1) + 1 = i + d + 1 + 1 := by omega
      rw [e]
      omega
  rw [List.pairwise_iff_getElem]
  intro i j hi hj hij
  have := mono (j - i - 1) i (by omega)
  have e : i + (j - i - 1) + 1 = j := by omega
  rw [e] at this
  have e1 : L.getD i 0 = L[i] := by simp [List.getD, hi]
  have e2 : L.getD j 0 = L[j] := by simp [List.getD, hj]
  rw [e1, e2] at this
  exact this
theorem ris_le {N : Nat} {L : List Int} (h : risB 0 ((N : Int) - 1) L = true) : L.length ≤ N := rising_len (a := 0) (m := N) (ris_sorted h) fun x hx => by have := ris_mem h x hx; omega
theorem rN_runL {E : Bool} {S G : Rw} {F L X : List Int} (h : goodN S G F L = true) : runL E S G F L X = rN E S G F L X :=
  runL_rN (ris_mem (goodN_of h).2.2.1) (ris_sorted (goodN_of h).2.2.1) (fun k hk => ris_mem ((goodN_of h).2.2.2.2 k hk).2) fun x hx => (ris_mem (goodN_of h).2.2.2.1 x hx).1
set_option maxRecDepth 100000 in
set_option maxHeartbeats 4000000 in
theorem srunN_any (E : Bool) (S G : Rw) (F L : List Int) (s a b g : Option Addr) (cs ca cb cg : Nat) (X : List Int) (base : Nat) (xo : Option Addr) (cx : Nat) (w : World) (hl : szN S F L G ≤ 1048576) (hX : X.length ≤ 1048576) (hS : RowsAt w s S) (hF : IntsAt w a F) (hL : IntsAt w b L) (hG : RowsAt w g G) (hO : w.ownsRow base 3 1 (.slice xo X.length cx) X.length (ints X)) :
    Calls Try.prog 19 #[.agg #[.bool E, .slice s S.length cs, .slice a F.length ca, .slice b L.length cb, .slice g G.length cg], .slice xo X.length cx] w fun r w' => r = .returned (.tuple #[.bool (gN S G F L X && rN E S G F L X), .bool (gN S G F L X)]) ∧ Below w.heap.size w w' := by
  have HX : Hid (IntsAt w xo X) := own_ints hO
  have HLS : szR S ≤ 1048576 := by unfold szN at hl; omega
  have HLL : L.length ≤ 1048576 := by unfold szN at hl; omega
  have HSG : Hid (∀ o, Calls Try.prog 15 #[.agg #[.bool E, .slice s S.length cs, .slice a F.length ca, .slice b L.length cb, .slice g G.length cg]] (w.alloc o) fun r w' => r = .returned (.bool (goodN S G F L)) ∧ Below (w.alloc o).heap.size (w.alloc o) w') := fun o => sgoodN_any E S G F L s a b g cs ca cb cg _ hl (RowsAt.keepB hS (al_N w o)) (IntsAt.keepB hF (al_N w o)) (IntsAt.keepB hL (al_N w o)) (RowsAt.keepB hG (al_N w o))
  have HOK : Hid (gN S G F L X = (goodN S G F L && (allG X && decide (X.length ≤ 1000)))) := rfl
  cases hg : goodN S G F L
  · have HG : Hid _ := hg
    clear hg hS hF hL hG hO hl HLS HLL
    go_enter Try.func19, Try.ntmps19
    go_wp2_with fail
    refine Calls.mono (HSG.out _) ?_
    rintro r w1 ⟨rfl, b1⟩
    have B1 : Hid (Below w.heap.size w w1) := (al_N w _).trans (b1.mono (by simp))
    clear b1
    rw [HG.out]
    go_wp2
    go_ret2
    exact ⟨by rw [HOK.out, HG.out]; rfl, B1.out⟩
  · have HG : Hid (goodN S G F L = true) := hg
    clear hg
    have HRUN : Hid (∀ w' : World, X.length ≤ 1000 → Below w.heap.size w w' → Calls Try.prog 42 #[.agg #[.bool E, .slice s S.length cs, .slice a F.length ca, .slice b L.length cb, .slice g G.length cg], .slice xo X.length cx] w' fun e w'' => e = .returned (.bool (rN E S G F L X)) ∧ Below w'.heap.size w' w'') := fun w' h1000 hb => by
      rw [← rN_runL HG.out]
      have ok := goodN_of HG.out
      exact srun6_any E S G F L s a b g cs ca cb cg X base xo cx w' HLS ok.2.1 h1000 ok.1 (ris_mem ok.2.2.1) (ris_sorted ok.2.2.1) (fun k hk => ris_mem (ok.2.2.2.2 k hk).2) (fun k hk => Nat.le_trans (ris_le (ok.2.2.2.2 k (by rw [← ok.2.1]; exact hk)).2) ok.1) HLL (fun j hj => (goodS_true (ok.2.2.2.2 j hj).1).1) (RowsAt.keepB hS hb) (IntsAt.keepB hF hb) (IntsAt.keepB hL hb) (RowsAt.keepB hG hb) (World.ownsRow.keepB hO hb)
    clear hS hF hL hG hO hl HLS HLL
    go_enter Try.func19, Try.ntmps19
    go_wp2_with fail
    refine Calls.mono (HSG.out _) ?_
    rintro r w1 ⟨rfl, b1⟩
    have hbl : w1.heap[w.heap.size]? = some (.cells #[.bool E, .slice s S.length cs, .slice a F.length ca, .slice b L.length cb, .slice g G.length cg] 38) := (b1.block w.heap.size (by simp)).trans (heap_last2 _ _ _ rfl)
    have hs1 : w.heap.size < w1.heap.size := Nat.lt_of_lt_of_le (by simp) b1.size
    have B1 : Hid (Below w.heap.size w w1) := (al_N w _).trans (b1.mono (by simp))
    clear b1
    rw [HG.out]
    go_wp2_with fail
    refine (all_any X xo cx _ hX (IntsAt.keepB HX.out B1.out)).mono ?_
    rintro r w2 ⟨rfl, b2⟩
    have hbl2 := (b2.block w.heap.size hs1).trans hbl
    have B2 : Hid (Below w.heap.size w w2) := B1.out.trans (b2.mono B1.out.size)
    clear b2 hbl
    have c0 : w2.cell? ⟨w.heap.size, 0, none⟩ = some (.bool E) := cell_of hbl2 0
    have c1 : w2.cell? ⟨w.heap.size, 1, none⟩ = some (.slice s S.length cs) := cell_of hbl2 1
    have c2 : w2.cell? ⟨w.heap.size, 2, none⟩ = some (.slice a F.length ca) := cell_of hbl2 2
    have c3 : w2.cell? ⟨w.heap.size, 3, none⟩ = some (.slice b L.length cb) := cell_of hbl2 3
    have c4 : w2.cell? ⟨w.heap.size, 4, none⟩ = some (.slice g G.length cg) := cell_of hbl2 4
    clear hbl2
    cases hal : (allG X && decide (X.length ≤ 1000))
    · have HAL : Hid _ := hal
      clear hal
      go_wp2
      go_ret2
      exact ⟨by rw [HOK.out, HG.out, HAL.out]; rfl, B2.out⟩
    · have HAL : Hid _ := hal
      have h1000 : X.length ≤ 1000 := by
        have := (Bool.and_eq_true _ _ ▸ hal).2
        exact of_decide_eq_true this
      clear hal
      go_wp2_with fail
      refine Calls.mono (HRUN.out _ h1000 B2.out) ?_
      rintro r w3 ⟨rfl, b3⟩
      have B3 : Hid (Below w.heap.size w w3) := B2.out.trans (b3.mono B2.out.size)
      clear b3
      go_wp2
      go_ret2
      exact ⟨by rw [HOK.out, HG.out, HAL.out]; rfl, B3.out⟩
end Go.Proofs.Ythhmijobfbjkiaa

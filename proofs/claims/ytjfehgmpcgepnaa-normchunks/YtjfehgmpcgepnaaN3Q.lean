/-
  The draws DrawFeedNorm and DrawFlushNorm.
-/
import Derived.Test.YtjfehgmpcgepnaaN3P
import Derived.Test.YtjfehgmpcgepnaaDraw
import Derived.Deep.RegionHeld
import Derived.Deep.DeepCutAuto
namespace Go.Proofs.Ytjfehgmpcgepnaa
open Go.ChangeShapes Go.WideShapes Go.ChangeAt Go.RowKit
theorem sFeed_draw (H L : List Int) (ah al : Option Addr) (n m ch cl : Nat) (w : World) (hn : n = H.length) (hm : m = L.length) (hlen : H.length + 3 * L.length ≤ 300) (hH : IntsAt w ah H) (hL : IntsAt w al L) :
    Calls Try.prog 7 #[.agg #[.slice ah n ch], .slice al m cl] w fun e w' => ∃ (a0 a1 : Option Addr) (c0 c1 : Nat) (X Y : List Int) (f : Bool), e = .returned (.tuple #[.agg #[.slice a0 X.length c0], .slice a1 Y.length c1, .bool f]) ∧ X.length ≤ H.length + 3 * L.length ∧ w'.ownsRow w.heap.size 3 1 (.slice a0 X.length c0) X.length (ints X) ∧ Below w.heap.size w w' := by
  subst hn
  subst hm
  have hsl := splitAllL_len L
  cases hg : (allG H && allG L)
  · refine (sFeed_no H L ah al ch cl w hlen hg hH hL).mono ?_
    rintro e w' ⟨rfl, b⟩
    exact ⟨none, none, 0, 0, [], [], false, rfl, by simp, World.ownsRow_nil _ _ _ _, b⟩
  · simp only [Bool.and_eq_true] at hg
    refine (sFeed_yes H L ah al ch cl w hlen hg.1 hg.2 hH hL).mono ?_
    rintro e w' ⟨v0, v1, rfl, o0, o1, b⟩
    obtain ⟨-, a0, c0, rfl, -⟩ := ints_of_own o0
    obtain ⟨-, a1, c1, rfl, -⟩ := ints_of_own o1
    exact ⟨a0, a1, c0, c1, _, _, true, rfl, by simp; omega, o0, b⟩
theorem gen_w' {P : Program} {c : Code} {Q : Exit → Act → World → Prop} {a : Act} {w0 : World} (Rel : World → Prop) (h0 : Rel w0) (h : ∀ W, Rel W → Code.wp P c Q a W) : Code.wp P c Q a w0 := h w0 h0
theorem ints_nil (w : World) : IntsAt w none [] := fun j hj => absurd hj (by simp)
/-- The blocks and the cursor of the draw. -/
def Nz (w : World) (ao : Option Addr) (n cap k : Nat) (hv : Value) (q : World) : Prop :=
  Cur q (w.heap.size + 1 + 1) (w.heap.size + 1) ao n cap k ∧ q.heap[w.heap.size]? = some (.cells #[.slice none 0 0] 26) ∧ q.heap[w.heap.size + 1 + 1]? = some (.cells #[hv] 26) ∧ Below w.heap.size w q
theorem Nz.below {w : World} {ao : Option Addr} {n cap k : Nat} {hv : Value} {q q' : World} (h : Nz w ao n cap k hv q) (hb : Below q.heap.size q q') : Nz w ao n cap k hv q' :=
  ⟨h.1.below hb, (hb.block _ (Array.getElem?_eq_some_iff.1 h.2.1).1).trans h.2.1, (hb.block _ (Array.getElem?_eq_some_iff.1 h.2.2.1).1).trans h.2.2.1, h.2.2.2.trans (hb.mono h.2.2.2.size)⟩
theorem Nz.grown {w : World} {ao : Option Addr} {n cap k k' : Nat} {hv : Value} {q q' : World} (h : Nz w ao n cap k hv q) (hg : q.grownBy q' (some (w.heap.size + 1))) (hc : Cur q' (w.heap.size + 1 + 1) (w.heap.size + 1) ao n cap k') : Nz w ao n cap k' hv q' :=
  ⟨hc, (hg.block _ (Array.getElem?_eq_some_iff.1 h.2.1).1 (fun e => by have := Option.some.inj e; omega)).trans h.2.1, (hg.block _ (Array.getElem?_eq_some_iff.1 h.2.2.1).1 (fun e => by have := Option.some.inj e; omega)).trans h.2.2.1, Below.grown h.2.2.2 hg h.2.2.2.size (fun g e => by have := Option.some.inj e; omega)⟩
theorem Nz.cell {w : World} {ao : Option Addr} {n cap k : Nat} {hv : Value} {q : World} (h : Nz w ao n cap k hv q) : q.cell? ⟨w.heap.size + 1 + 1, 0, none⟩ = some hv := cell_of h.2.2.1 0
theorem Nz.put {w : World} {ao : Option Addr} {n cap k : Nat} {hv : Value} {q : World} (h : Nz w ao n cap k hv q) (u : Value) : Nz w ao n cap k u (q.setCell ⟨w.heap.size + 1 + 1, 0, none⟩ u) := by
  have g := grown_set q (w.heap.size + 1 + 1) 0 u
  exact ⟨h.1.grown g (fun g e => by have := Option.some.inj e; omega), (g.block _ (Array.getElem?_eq_some_iff.1 h.2.1).1 (fun e => by have := Option.some.inj e; omega)).trans h.2.1, by have := h.2.2.1; simp [World.setCell, Array.getElem?_modify, this], Below.grown h.2.2.2 g h.2.2.2.size (fun g e => by have := Option.some.inj e; omega)⟩
/-- Another block, that lies behind, is written. -/
theorem Nz.far {w : World} {ao : Option Addr} {n cap k : Nat} {hv : Value} {q : World} (h : Nz w ao n cap k hv q) (X : Nat) (u : Value) (hX : w.heap.size + 1 + 1 < X) : Nz w ao n cap k hv (q.setCell ⟨X, 0, none⟩ u) := by
  have g := grown_set q X 0 u
  exact ⟨h.1.grown g (fun g e => by have := Option.some.inj e; omega), (g.block _ (Array.getElem?_eq_some_iff.1 h.2.1).1 (fun e => by have := Option.some.inj e; omega)).trans h.2.1, (g.block _ (Array.getElem?_eq_some_iff.1 h.2.2.1).1 (fun e => by have := Option.some.inj e; omega)).trans h.2.2.1, Below.grown h.2.2.2 g h.2.2.2.size (fun g e => by have := Option.some.inj e; omega)⟩
theorem own_grown {w w' : World} {base : Nat} {e : TypeId} {size : Nat} {v : Value} {n : Nat} {xs : List Value} (h : w.ownsRow base e size v n xs) {pb : Nat} (g : w.grownBy w' (some pb)) (hp : pb < base) : w'.ownsRow base e size v n xs := World.ownsRow.kept h g (own_ne h hp)
theorem new_c (w : World) (u : Value) (t : TypeId) : (w.alloc (.cells #[u] t)).cell? ⟨w.heap.size, 0, none⟩ = some u := cell_of (heap_last2 _ _ _ rfl) 0
set_option maxRecDepth 100000 in
set_option maxHeartbeats 4000000 in
theorem dfn_any (ao : Option Addr) (n cap : Nat) (w : World) (h : ArgB w ao n) :
    Calls Try.prog 5 #[.slice ao n cap] w fun e w' => ∃ (ah al : Option Addr) (ch cl : Nat) (H L : List Int), e = .returned (.tuple #[.agg #[.slice ah H.length ch], .slice al L.length cl]) ∧ H.length ≤ 18 ∧ L.length ≤ 8 ∧ w'.ownsRow w.heap.size 3 1 (.slice ah H.length ch) H.length (ints H) ∧ w'.ownsRow w.heap.size 3 1 (.slice al L.length cl) L.length (ints L) ∧ Below w.heap.size w w' := by
  have b0 : Below w.heap.size w (w.alloc (.cells #[.slice none 0 0] 26)) := (Below.refl _ _).alloc (Nat.le_refl _) _
  have hbz : (w.alloc (.cells #[.slice none 0 0] 26)).heap.size = w.heap.size + 1 := by simp
  have hc0 := cur_new cap (h.below b0)
  rw [hbz] at hc0
  have B0 : Hid _ := b0.alloc b0.size (curObj ao n cap)
  have HC : Hid _ := hc0
  clear h hc0 b0 hbz
  go_enter Try.func5, Try.ntmps5
  go_upto_region 3 with fail
  refine gen_w' (fun W => Nz w ao n cap 0 (.slice none 0 0) W) ⟨Cur.below HC.out ((Below.refl _ _).alloc (Nat.le_refl _) _), (heap_prev _ _ _ (by simp; omega)).trans ((heap_prev _ _ _ (by simp)).trans (heap_last2 _ _ _ rfl)), heap_last2 _ _ _ (by simp), B0.out.alloc B0.out.size _⟩ ?_
  rintro W0 nz0
  clear HC B0
  have N0 : Hid (Nz w ao n cap 0 (.slice none 0 0) W0.drew) := nz0.below (Below.refl _ _).drew
  clear nz0
  have AL : ∀ q : World, ∀ o, Below q.heap.size q (q.alloc o) := fun q o => (Below.refl _ _).alloc (Nat.le_refl _) o
  have sD := N0.out.cell
  have sA : Hid (∀ o, (W0.drew.alloc o).cell? ⟨w.heap.size + 1 + 1, 0, none⟩ = some (.slice none 0 0)) := fun o => (N0.out.below (AL _ o)).cell
  have hs0 : w.heap.size + 1 + 1 < W0.drew.heap.size := (Array.getElem?_eq_some_iff.1 N0.out.2.2.1).1
  have hs0' : w.heap.size + 1 + 1 < W0.heap.size := hs0
  go_region_held (fun w' => w'.cell? ⟨w.heap.size + 1 + 1, 0, none⟩ = some (.slice none 0 0)) (first | assumption | exact sA.out _ | exact sB.out _ | exact sC.out _ | exact (N2.out.far _ _ (by omega)).cell) (first
    | (go_at_call 14; refine (formed_any 6 (by omega) (w.heap.size + 1 + 1) (w.heap.size + 1) ao n cap 0 _ (by omega) (by first | exact N0.out.1 | exact (N0.out.below (AL _ _)).1)).mono ?_
       rintro e w1 ⟨v1, L, k1, rfl, hL1, hk1, C1, o1, g1⟩
       have N1 : Hid (Nz w ao n cap k1 (.slice none 0 0) w1) := by first | exact N0.out.grown g1 C1 | exact (N0.out.below (AL _ _)).grown g1 C1
       obtain ⟨-, a1, c1, rfl, i1⟩ := ints_of_own o1
       have I1 : Hid (IntsAt w1 a1 L) := i1
       have s1 := N1.out.cell
       have sB : Hid (∀ o, (w1.alloc o).cell? ⟨w.heap.size + 1 + 1, 0, none⟩ = some (.slice none 0 0)) := fun o => (N1.out.below (AL _ o)).cell
       have hs1 : w.heap.size + 1 + 1 < w1.heap.size := (Array.getElem?_eq_some_iff.1 N1.out.2.2.1).1
       (try (have k6 : w1.heap[W0.heap.size]? = some (.cells #[.slice none 0 0] 26) := (g1.block W0.heap.size (by simp) (fun e => by have := Option.some.inj e; have := hs0; simp at this; omega)).trans (heap_last2 _ _ _ rfl)))
       (try (have hk6 : W0.heap.size < w1.heap.size := (Array.getElem?_eq_some_iff.1 k6).1))
       clear C1 o1 g1 i1)
    | (go_at_call 7; refine (sFeed_draw [] L none a1 0 _ 0 c1 _ rfl rfl (by simp; omega) (ints_nil _) (by first | exact I1.out | exact IntsAt.keepB I1.out (AL _ _))).mono ?_
       rintro e w2 ⟨a0, a9, c0, c9, X, Y, f, rfl, hX, oX, b2⟩
       have N2 : Hid (Nz w ao n cap k1 (.slice none 0 0) w2) := by first | exact N1.out.below b2 | exact (N1.out.below (AL _ _)).below b2
       have O2 : Hid (w2.ownsRow (w.heap.size + 1 + 1 + 1) 3 1 (.slice a0 X.length c0) X.length (ints X)) := own_mono oX (by first | omega | (simp; omega))
       have O2x : Hid (w2.ownsRow _ 3 1 (.slice a0 X.length c0) X.length (ints X)) := oX
       have fz2 : w2.frozen? ⟨w.heap.size + 1 + 1, 0, none⟩ = false := frozen_of_row w2 _ _ _ _ N2.out.2.2.1
       have fz3 : ∀ o, (w2.alloc o).frozen? ⟨w.heap.size + 1 + 1, 0, none⟩ = false := fun o => frozen_of_row (w2.alloc o) _ _ _ _ (N2.out.below (AL _ o)).2.2.1
       have sC' : ∀ o, (w2.alloc o).cell? ⟨w.heap.size + 1 + 1, 0, none⟩ = some (.slice none 0 0) := fun o => (N2.out.below (AL _ o)).cell
       have hX18 : X.length ≤ 18 := by simp at hX; omega
       have s2 := N2.out.cell
       have sC : Hid (∀ o, (w2.alloc o).cell? ⟨w.heap.size + 1 + 1, 0, none⟩ = some (.slice none 0 0)) := fun o => (N2.out.below (AL _ o)).cell
       have hs2 : w.heap.size + 1 + 1 < w2.heap.size := (Array.getElem?_eq_some_iff.1 N2.out.2.2.1).1
       have hne2 : ¬ w.heap.size + 1 + 1 = w2.heap.size := by omega
       have hne2' : ¬ w2.heap.size = w.heap.size + 1 + 1 := by omega
       have hne1 : ¬ w.heap.size + 1 + 1 = w1.heap.size := by omega
       have hne0 : ¬ w.heap.size + 1 + 1 = W0.heap.size := by omega
       (try (have k6 : w2.heap[W0.heap.size]? = some (.cells #[.slice none 0 0] 26) := (b2.block W0.heap.size (Array.getElem?_eq_some_iff.1 k6).1).trans k6))
       (try (have k6 : w2.heap[w1.heap.size]? = some (.cells #[.slice none 0 0] 26) := (b2.block w1.heap.size (by simp)).trans (heap_last2 _ _ _ rfl)))
       (try (have c6 : w2.cell? ⟨W0.heap.size, 0, none⟩ = some (.slice none 0 0) := cell_of k6 0))
       (try (have f6 : w2.frozen? ⟨W0.heap.size, 0, none⟩ = false := frozen_of_row w2 _ _ _ _ k6))
       (try (have c6 : w2.cell? ⟨w1.heap.size, 0, none⟩ = some (.slice none 0 0) := cell_of k6 0))
       (try (have f6 : w2.frozen? ⟨w1.heap.size, 0, none⟩ = false := frozen_of_row w2 _ _ _ _ k6))
       clear oX b2))
  all_goals
    cases f
    all_goals
      (try clear k6)
      go_wp2_with fail
      refine (one_any 12 (w.heap.size + 1 + 1) (w.heap.size + 1) ao n cap k1 _ (by omega) (by first | exact (N2.out.below (AL _ _)).1 | exact (N2.out.far _ _ (by omega)).1 | exact ((N2.out.put _).below (AL _ _)).1 | exact ((N2.out.far _ _ (by omega)).put _).1)).mono ?_
      rintro e w3 ⟨r3, k3, rfl, hk3, C3, g3⟩
      have T3 : Hid (∃ (ah : Option Addr) (ch : Nat) (H : List Int), H.length ≤ 18 ∧ Nz w ao n cap k3 (.slice ah H.length ch) w3 ∧ w3.ownsRow (w.heap.size + 1 + 1 + 1) 3 1 (.slice ah H.length ch) H.length (ints H)) := by
        first
          | exact ⟨none, 0, [], by simp, (N2.out.below (AL _ _)).grown g3 C3, World.ownsRow_nil _ _ _ _⟩
          | exact ⟨none, 0, [], by simp, (N2.out.far _ _ (by omega)).grown g3 C3, World.ownsRow_nil _ _ _ _⟩
          | exact ⟨a0, c0, X, hX18, ((N2.out.put _).below (AL _ _)).grown g3 C3, own_grown (ownsRow_below (own_set O2.out (Nat.lt_succ_self _) _ _) (AL _ _)) g3 (by omega)⟩
          | exact ⟨a0, c0, X, hX18, ((N2.out.far _ _ (by omega)).put _).grown g3 C3, own_grown (own_set (own_mono (own_set O2x.out (by first | omega | (simp; done) | (simp; omega)) _ _) (by first | omega | (simp; done) | (simp; omega))) (Nat.lt_succ_self _) _ _) g3 (by omega)⟩
      clear C3 g3 N2 O2 O2x fz2 fz3 sC sC' s2 hX18 hX N1 I1 s1 sB N0 sA sD
      (try clear c6 f6)
      obtain ⟨ah, ch, H, hH18, n3, o3⟩ := T3.out
      have N3 : Hid (Nz w ao n cap k3 (.slice ah H.length ch) w3) := n3
      have O3 : Hid (w3.ownsRow (w.heap.size + 1 + 1 + 1) 3 1 (.slice ah H.length ch) H.length (ints H)) := o3
      clear T3 n3 o3
      cases r3
      · go_upto_region 8 with fail
        refine gen_w' (fun W => ∃ (ah : Option Addr) (ch : Nat) (H : List Int) (k5 : Nat), H.length ≤ 18 ∧ k5 ≤ 100 ∧ Nz w ao n cap k5 (.slice ah H.length ch) W ∧ W.ownsRow (w.heap.size + 1 + 1 + 1) 3 1 (.slice ah H.length ch) H.length (ints H)) ⟨ah, ch, H, k3, hH18, by omega, N3.out, O3.out⟩ ?_
        rintro W ⟨ah5, ch5, H5, k5, hH5, hk5, n5, o5⟩
        have N5 : Hid (Nz w ao n cap k5 (.slice ah5 H5.length ch5) W.drew) := n5.below (Below.refl _ _).drew
        have O5 : Hid (W.drew.ownsRow (w.heap.size + 1 + 1 + 1) 3 1 (.slice ah5 H5.length ch5) H5.length (ints H5)) := ownsRow_below o5 (Below.refl _ _).drew
        have hs5 : w.heap.size + 1 + 1 < W.drew.heap.size := (Array.getElem?_eq_some_iff.1 N5.out.2.2.1).1
        have s5 := N5.out.cell
        clear n5 o5 N3 O3
        go_region_held (fun w' => w'.cell? ⟨w.heap.size + 1 + 1, 0, none⟩ = some (.slice ah5 H5.length ch5)) (first | assumption | exact sF.out) (first
          | (go_at_call 14; refine (formed_any 8 (by omega) (w.heap.size + 1 + 1) (w.heap.size + 1) ao n cap k5 _ (by omega) N5.out.1).mono ?_
             rintro e w6 ⟨v6, L6, k7, rfl, hL6, hk7, C6, o6, g6⟩
             have N6 : Hid (Nz w ao n cap k7 (.slice ah5 H5.length ch5) w6) := N5.out.grown g6 C6
             have P6 : Hid (w6.ownsRow (w.heap.size + 1 + 1 + 1) 3 1 (.slice ah5 H5.length ch5) H5.length (ints H5)) := own_grown O5.out g6 (by omega)
             obtain ⟨-, a6, c6, rfl, -⟩ := ints_of_own o6
             have O6 : Hid (w6.ownsRow (w.heap.size + 1 + 1 + 1) 3 1 (.slice a6 L6.length c6) L6.length (ints L6)) := own_mono o6 (by omega)
             have s6 := N6.out.cell
             have d6 : w6.cell? ⟨w.heap.size, 0, none⟩ = some (.slice none 0 0) := cell_of N6.out.2.1 0
             have f6 : w6.frozen? ⟨w.heap.size, 0, none⟩ = false := frozen_of_row w6 _ _ _ _ N6.out.2.1
             have sF : Hid ((w6.setCell ⟨w.heap.size, 0, none⟩ (.slice ah5 H5.length ch5)).cell? ⟨w.heap.size + 1 + 1, 0, none⟩ = some (.slice ah5 H5.length ch5)) := (set_other _ _ _ _ _ _ (by omega)).trans s6
             clear C6 o6 g6))
        all_goals
          go_wp2
          have r0 := set_same w6 w.heap.size 0 (.slice none 0 0) (.slice ah5 H5.length ch5) d6
          exact bodyPost_ret (v := .tuple #[.agg #[.slice ah5 H5.length ch5], .slice a6 L6.length c6]) (by simp [results, Try.results5, go_sem, r0]) rfl ⟨ah5, a6, ch5, c6, H5, L6, rfl, hH5, hL6, own_mono (own_set P6.out (show w.heap.size < _ by omega) 0 (.slice ah5 H5.length ch5)) (by omega), own_mono (own_set O6.out (show w.heap.size < _ by omega) 0 (.slice ah5 H5.length ch5)) (by omega), Below.grown N6.out.2.2.2 (grown_set w6 w.heap.size 0 (.slice ah5 H5.length ch5)) N6.out.2.2.2.size (fun g e => by have := Option.some.inj e; omega)⟩
      · go_wp2_with fail
        refine (formed_any 6 (by omega) (w.heap.size + 1 + 1) (w.heap.size + 1) ao n cap k3 _ (by omega) N3.out.1).mono ?_
        rintro e w4 ⟨v4, L4, k4, rfl, hL4, hk4, C4, o4, g4⟩
        have N4 : Hid (Nz w ao n cap k4 (.slice ah H.length ch) w4) := N3.out.grown g4 C4
        have hs3 : w.heap.size + 1 + 1 < w3.heap.size := (Array.getElem?_eq_some_iff.1 N3.out.2.2.1).1
        obtain ⟨-, a4, c4, rfl, -⟩ := ints_of_own o4
        have O4 : Hid (w4.ownsRow (w.heap.size + 1 + 1 + 1) 3 1 (.slice a4 L4.length c4) L4.length (ints L4)) := own_mono o4 (by omega)
        have s4 := N4.out.cell
        have f4 : w4.frozen? ⟨w.heap.size + 1 + 1, 0, none⟩ = false := frozen_of_row w4 _ _ _ _ N4.out.2.2.1
        clear C4 o4 g4
        go_upto_region 8 with fail
        refine gen_w' (fun W => ∃ (ah : Option Addr) (ch : Nat) (H : List Int) (k5 : Nat), H.length ≤ 18 ∧ k5 ≤ 100 ∧ Nz w ao n cap k5 (.slice ah H.length ch) W ∧ W.ownsRow (w.heap.size + 1 + 1 + 1) 3 1 (.slice ah H.length ch) H.length (ints H)) ⟨a4, c4, L4, k4, by omega, by omega, N4.out.put _, own_set O4.out (by omega) _ _⟩ ?_
        rintro W ⟨ah5, ch5, H5, k5, hH5, hk5, n5, o5⟩
        have N5 : Hid (Nz w ao n cap k5 (.slice ah5 H5.length ch5) W.drew) := n5.below (Below.refl _ _).drew
        have O5 : Hid (W.drew.ownsRow (w.heap.size + 1 + 1 + 1) 3 1 (.slice ah5 H5.length ch5) H5.length (ints H5)) := ownsRow_below o5 (Below.refl _ _).drew
        have hs5 : w.heap.size + 1 + 1 < W.drew.heap.size := (Array.getElem?_eq_some_iff.1 N5.out.2.2.1).1
        have s5 := N5.out.cell
        clear n5 o5 N3 O3 N4 O4 s4 f4
        go_region_held (fun w' => w'.cell? ⟨w.heap.size + 1 + 1, 0, none⟩ = some (.slice ah5 H5.length ch5)) (first | assumption | exact sF.out) (first
          | (go_at_call 14; refine (formed_any 8 (by omega) (w.heap.size + 1 + 1) (w.heap.size + 1) ao n cap k5 _ (by omega) N5.out.1).mono ?_
             rintro e w6 ⟨v6, L6, k7, rfl, hL6, hk7, C6, o6, g6⟩
             have N6 : Hid (Nz w ao n cap k7 (.slice ah5 H5.length ch5) w6) := N5.out.grown g6 C6
             have P6 : Hid (w6.ownsRow (w.heap.size + 1 + 1 + 1) 3 1 (.slice ah5 H5.length ch5) H5.length (ints H5)) := own_grown O5.out g6 (by omega)
             obtain ⟨-, a6, c6, rfl, -⟩ := ints_of_own o6
             have O6 : Hid (w6.ownsRow (w.heap.size + 1 + 1 + 1) 3 1 (.slice a6 L6.length c6) L6.length (ints L6)) := own_mono o6 (by omega)
             have s6 := N6.out.cell
             have d6 : w6.cell? ⟨w.heap.size, 0, none⟩ = some (.slice none 0 0) := cell_of N6.out.2.1 0
             have f6 : w6.frozen? ⟨w.heap.size, 0, none⟩ = false := frozen_of_row w6 _ _ _ _ N6.out.2.1
             have sF : Hid ((w6.setCell ⟨w.heap.size, 0, none⟩ (.slice ah5 H5.length ch5)).cell? ⟨w.heap.size + 1 + 1, 0, none⟩ = some (.slice ah5 H5.length ch5)) := (set_other _ _ _ _ _ _ (by omega)).trans s6
             clear C6 o6 g6))
        all_goals
          go_wp2
          have r0 := set_same w6 w.heap.size 0 (.slice none 0 0) (.slice ah5 H5.length ch5) d6
          exact bodyPost_ret (v := .tuple #[.agg #[.slice ah5 H5.length ch5], .slice a6 L6.length c6]) (by simp [results, Try.results5, go_sem, r0]) rfl ⟨ah5, a6, ch5, c6, H5, L6, rfl, hH5, hL6, own_mono (own_set P6.out (show w.heap.size < _ by omega) 0 (.slice ah5 H5.length ch5)) (by omega), own_mono (own_set O6.out (show w.heap.size < _ by omega) 0 (.slice ah5 H5.length ch5)) (by omega), Below.grown N6.out.2.2.2 (grown_set w6 w.heap.size 0 (.slice ah5 H5.length ch5)) N6.out.2.2.2.size (fun g e => by have := Option.some.inj e; omega)⟩
end Go.Proofs.Ytjfehgmpcgepnaa

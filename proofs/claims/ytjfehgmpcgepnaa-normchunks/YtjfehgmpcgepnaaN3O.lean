/-
  FeedNorm of the specification.
-/
import Derived.Test.YtjfehgmpcgepnaaN3N
namespace Go.Proofs.Ytjfehgmpcgepnaa
open Go.ChangeShapes Go.WideShapes Go.ChangeAt Go.RowKit
set_option maxRecDepth 100000 in
set_option maxHeartbeats 2000000 in
theorem sFeed_yes (H L : List Int) (ah al : Option Addr) (ch cl : Nat) (w : World) (hlen : H.length + 3 * L.length ≤ 300) (hgH : allG H = true) (hgL : allG L = true) (hH : IntsAt w ah H) (hL : IntsAt w al L) :
    Calls Try.prog 7 #[.agg #[.slice ah H.length ch], .slice al L.length cl] w fun e w' => ∃ v0 v1, e = .returned (.tuple #[.agg #[v0], v1, .bool true]) ∧ w'.ownsRow w.heap.size 3 1 v0 ((H ++ splitAllL L).drop (cutN (H ++ splitAllL L))).length (ints ((H ++ splitAllL L).drop (cutN (H ++ splitAllL L)))) ∧ w'.ownsRow w.heap.size 3 1 v1 (fullL ((H ++ splitAllL L).take (cutN (H ++ splitAllL L)))).length (ints (fullL ((H ++ splitAllL L).take (cutN (H ++ splitAllL L))))) ∧ Below w.heap.size w w' := by
  have HHI : Hid _ := hH
  have HLI : Hid _ := hL
  have HGL : Hid _ := hgL
  have hsl := splitAllL_len L
  have HHL : Hid (heldB L = true) := heldB_mk (by omega) hgL
  have HHH : Hid (heldB H = true) := heldB_mk (by omega) hgH
  clear hH hL hgH hgL
  have A2 : ∀ o p, Below w.heap.size w ((w.alloc o).alloc p) := fun o p => ((Below.refl _ _).alloc (Nat.le_refl _) o).alloc (by simp) p
  go_enter Try.func7, Try.ntmps7
  go_wp2_with fail
  refine (slist_any H ah ch _ (by omega) (IntsAt.below HHI.out (A2 _ _))).mono ?_
  rintro e w1 ⟨rfl, b1⟩
  have hb0 : w1.heap[w.heap.size]? = some (.cells #[.slice ah H.length ch] 26) := (b1.block w.heap.size (by simp; omega)).trans ((heap_prev _ _ _ (by simp)).trans (heap_last2 _ _ _ rfl))
  have hb1 : w1.heap[w.heap.size + 1]? = some (.cells #[.slice none 0 0] 26) := (b1.block (w.heap.size + 1) (by simp)).trans (heap_last2 _ _ _ (by simp))
  have hs1 : w.heap.size + 1 < w1.heap.size := Nat.lt_of_lt_of_le (by simp) b1.size
  have B1 : Hid (Below w.heap.size w w1) := (A2 _ _).trans (b1.mono (A2 _ _).size)
  clear b1
  rw [HHH.out]
  go_wp2_with fail
  refine (slist_any L al cl _ (by omega) (IntsAt.below HLI.out B1.out)).mono ?_
  rintro e w2 ⟨rfl, b2⟩
  have hc0 := (b2.block w.heap.size (by omega)).trans hb0
  have hc1 := (b2.block (w.heap.size + 1) hs1).trans hb1
  have hs2 : w.heap.size + 1 < w2.heap.size := Nat.lt_of_lt_of_le hs1 b2.size
  have B2 : Hid (Below w.heap.size w w2) := B1.out.trans (b2.mono B1.out.size)
  clear b2 hb0 hb1
  rw [HHL.out]
  go_wp2_with fail
  refine (ssplitL_any L al cl _ (by omega) HGL.out (IntsAt.below HLI.out B2.out)).mono ?_
  rintro e w3 ⟨v3, rfl, o3, b3⟩
  have hd0 := (b3.block w.heap.size (by omega)).trans hc0
  have hd1 := (b3.block (w.heap.size + 1) hs2).trans hc1
  have hs3 : w.heap.size + 1 < w3.heap.size := Nat.lt_of_lt_of_le hs2 b3.size
  have B3 : Hid (Below w.heap.size w w3) := B2.out.trans (b3.mono B2.out.size)
  obtain ⟨-, a3, c3, rfl, -⟩ := ints_of_own o3
  have hle3 : ¬ (300 : Int) < ((splitAllL L).length : Int) := by omega
  have g0 : w3.cell? ⟨w.heap.size, 0, none⟩ = some (.slice ah H.length ch) := cell_of hd0 0
  clear b3 o3 hc0 hc1
  go_wp2_with fail
  refine (sfeed_any H L ah al ch cl _ hlen HGL.out (IntsAt.below HHI.out B3.out) (IntsAt.below HLI.out B3.out)).mono ?_
  rintro e w4 ⟨v4, v5, rfl, o4, o5, b4⟩
  have he1 := (b4.block (w.heap.size + 1) hs3).trans hd1
  have hs4 : w.heap.size + 1 < w4.heap.size := Nat.lt_of_lt_of_le hs3 b4.size
  have B4 : Hid (Below w.heap.size w w4) := B3.out.trans (b4.mono B3.out.size)
  obtain ⟨X, hX⟩ : ∃ X, Hid (H ++ splitAllL L = X) := ⟨_, rfl⟩
  rw [hX.out] at o4 o5
  have hXl : X.length ≤ 300 := by rw [← hX.out]; simp; omega
  have hD : (X.drop (cutN X)).length ≤ 300 := by simp; omega
  have hF : (fullL (X.take (cutN X))).length ≤ 300 := by
    have h := joinL_len (sortL (X.take (cutN X)))
    rw [sortL_len, List.length_take] at h
    show (joinL (sortL (X.take (cutN X)))).length ≤ 300
    omega
  obtain ⟨XD, hXD⟩ : ∃ Z, Hid (X.drop (cutN X) = Z) := ⟨_, rfl⟩
  obtain ⟨XF, hXF⟩ : ∃ Z, Hid (fullL (X.take (cutN X)) = Z) := ⟨_, rfl⟩
  rw [hXD.out] at o4 hD
  rw [hXF.out] at o5 hF
  have O4 : Hid (w4.ownsRow w3.heap.size 3 1 v4 XD.length (ints XD)) := o4
  have O5 : Hid (w4.ownsRow w3.heap.size 3 1 v5 XF.length (ints XF)) := o5
  obtain ⟨-, a4, c4, rfl, -⟩ := ints_of_own o4
  obtain ⟨-, a5, c5, rfl, -⟩ := ints_of_own o5
  have hD' : ¬ (300 : Int) < (XD.length : Int) := by omega
  have hF' : ¬ (300 : Int) < (XF.length : Int) := by omega
  have hne4 : ¬ w.heap.size + 1 = w4.heap.size := by omega
  have hne4' : ¬ w4.heap.size = w.heap.size + 1 := by omega
  have AL4 : ∀ o, Below w4.heap.size w4 (w4.alloc o) := fun o => (Below.refl _ _).alloc (Nat.le_refl _) o
  have hb4 : ∀ o, (w4.alloc o).heap[w.heap.size + 1]? = some (.cells #[.slice none 0 0] 26) := fun o => ((AL4 o).block _ hs4).trans he1
  have k0 : ∀ o, (w4.alloc o).cell? ⟨w.heap.size + 1, 0, none⟩ = some (.slice none 0 0) := fun o => cell_of (hb4 o) 0
  have k1 : ∀ o, (w4.alloc o).frozen? ⟨w.heap.size + 1, 0, none⟩ = false := fun o => frozen_of_row (w4.alloc o) _ _ _ _ (hb4 o)
  have K0 : Hid (w4.cell? ⟨w.heap.size + 1, 0, none⟩ = some (.slice none 0 0)) := cell_of he1 0
  clear b4 o4 o5 he1 hd0 hd1 g0 hb4
  go_wp2
  have hsz : (w4.setCell ⟨w.heap.size + 1, 0, none⟩ (.slice a4 XD.length c4)).heap.size = w4.heap.size := by simp [World.setCell]
  have ALS : ∀ o, Below (w4.setCell ⟨w.heap.size + 1, 0, none⟩ (.slice a4 XD.length c4)).heap.size (w4.setCell ⟨w.heap.size + 1, 0, none⟩ (.slice a4 XD.length c4)) ((w4.setCell ⟨w.heap.size + 1, 0, none⟩ (.slice a4 XD.length c4)).alloc o) := fun o => (Below.refl _ _).alloc (Nat.le_refl _) o
  have r0 := ((ALS (.cells #[.slice a4 XD.length c4] 26)).cell (p := ⟨w.heap.size + 1, 0, none⟩) (by rw [hsz]; exact hs4)).trans (set_same w4 (w.heap.size + 1) 0 (.slice none 0 0) (.slice a4 XD.length c4) K0.out)
  have BS : Below w.heap.size w (w4.setCell ⟨w.heap.size + 1, 0, none⟩ (.slice a4 XD.length c4)) := Below.grown B4.out (grown_set w4 (w.heap.size + 1) 0 (.slice a4 XD.length c4)) B4.out.size (fun g e => by have := Option.some.inj e; omega)
  refine bodyPost_ret (v := .tuple #[.agg #[.slice a4 XD.length c4], .slice a5 XF.length c5, .bool true]) (by simp [results, Try.results7, go_sem, r0]) rfl ⟨_, _, rfl, ?_, ?_, ?_⟩
  · rw [hX.out, hXD.out]
    exact own_mono (ownsRow_below (own_set O4.out (show w.heap.size + 1 < w3.heap.size by omega) 0 (.slice a4 XD.length c4)) (ALS _)) (by omega)
  · rw [hX.out, hXF.out]
    exact own_mono (ownsRow_below (own_set O5.out (show w.heap.size + 1 < w3.heap.size by omega) 0 (.slice a4 XD.length c4)) (ALS _)) (by omega)
  · exact BS.trans ((ALS _).mono BS.size)
set_option maxRecDepth 100000 in
set_option maxHeartbeats 1000000 in
theorem sFeed_no (H L : List Int) (ah al : Option Addr) (ch cl : Nat) (w : World) (hlen : H.length + 3 * L.length ≤ 300) (hno : (allG H && allG L) = false) (hH : IntsAt w ah H) (hL : IntsAt w al L) :
    Calls Try.prog 7 #[.agg #[.slice ah H.length ch], .slice al L.length cl] w fun e w' => e = .returned (.tuple #[.agg #[.slice none 0 0], .slice none 0 0, .bool false]) ∧ Below w.heap.size w w' := by
  have HHI : Hid _ := hH
  have HLI : Hid _ := hL
  clear hH hL
  have A2 : ∀ o p, Below w.heap.size w ((w.alloc o).alloc p) := fun o p => ((Below.refl _ _).alloc (Nat.le_refl _) o).alloc (by simp) p
  have bad : ∀ Z : List Int, allG Z = false → heldB Z = false := fun Z hz => by
    rw [Bool.eq_false_iff]
    intro h
    have := (heldB_true h).2
    rw [hz] at this
    cases this
  go_enter Try.func7, Try.ntmps7
  go_wp2_with fail
  refine (slist_any H ah ch _ (by omega) (IntsAt.below HHI.out (A2 _ _))).mono ?_
  rintro e w1 ⟨rfl, b1⟩
  have hb1 : w1.heap[w.heap.size + 1]? = some (.cells #[.slice none 0 0] 26) := (b1.block (w.heap.size + 1) (by simp)).trans (heap_last2 _ _ _ (by simp))
  have hs1 : w.heap.size + 1 < w1.heap.size := Nat.lt_of_lt_of_le (by simp) b1.size
  have B1 : Hid (Below w.heap.size w w1) := (A2 _ _).trans (b1.mono (A2 _ _).size)
  clear b1 A2
  cases hgH : allG H
  · have HHH : Hid _ := bad H hgH
    rw [HHH.out]
    have c1 : w1.cell? ⟨w.heap.size + 1, 0, none⟩ = some (.slice none 0 0) := cell_of hb1 0
    have f1 : w1.frozen? ⟨w.heap.size + 1, 0, none⟩ = false := frozen_of_row w1 _ _ _ _ hb1
    clear hno hgH bad hb1
    go_wp2
    have r0 := set_same w1 (w.heap.size + 1) 0 (.slice none 0 0) (.slice none 0 0) c1
    exact bodyPost_ret (v := .tuple #[.agg #[.slice none 0 0], .slice none 0 0, .bool false]) (by simp [results, Try.results7, go_sem, r0]) rfl ⟨rfl, zero_norm B1.out⟩
  · have HHH : Hid (heldB H = true) := heldB_mk (by omega) hgH
    have HHL : Hid (heldB L = false) := bad L (by rw [hgH, Bool.true_and] at hno; exact hno)
    rw [HHH.out]
    clear hno hgH bad
    go_wp2_with fail
    refine (slist_any L al cl _ (by omega) (IntsAt.below HLI.out B1.out)).mono ?_
    rintro e w2 ⟨rfl, b2⟩
    have hb2 := (b2.block (w.heap.size + 1) hs1).trans hb1
    have B2 : Hid (Below w.heap.size w w2) := B1.out.trans (b2.mono B1.out.size)
    have c2 : w2.cell? ⟨w.heap.size + 1, 0, none⟩ = some (.slice none 0 0) := cell_of hb2 0
    have f2 : w2.frozen? ⟨w.heap.size + 1, 0, none⟩ = false := frozen_of_row w2 _ _ _ _ hb2
    rw [HHL.out]
    clear b2 hb1 hb2
    go_wp2
    have r0 := set_same w2 (w.heap.size + 1) 0 (.slice none 0 0) (.slice none 0 0) c2
    exact bodyPost_ret (v := .tuple #[.agg #[.slice none 0 0], .slice none 0 0, .bool false]) (by simp [results, Try.results7, go_sem, r0]) rfl ⟨rfl, zero_norm B2.out⟩
end Go.Proofs.Ytjfehgmpcgepnaa

/-
  BordersOf of both.
-/
import Derived.Test.YtdhppigjlldfmaaW8K
import Derived.Test.YtdhppigjlldfmaaW8I
import Derived.Test.YtdhppigjlldfmaaN3B
namespace Go.Proofs.Ytdhppigjlldfmaa
open Go.ChangeShapes Go.WideShapes Go.ChangeAt Go.RowKit Go.Maps
def bordA (L : List Int) : List Int := if okL L = true then bordL L L.length else []
theorem own_cap8 {w : World} {base : Nat} {e : TypeId} {size n n' c : Nat} {a : Option Addr} {xs : List Value} (h : w.ownsRow base e size (.slice a n c) n' xs) : n ≤ c := by
  rcases h.2 with ⟨e1, -⟩ | ⟨g, cap, cur, e1, -, -, k3, -⟩
  · simp only [Value.slice.injEq] at e1; omega
  · simp only [Value.slice.injEq] at e1; omega
theorem bordA_len (L : List Int) (hl : L.length ≤ 1048576) : (bordA L).length ≤ 1048576 := by
  unfold bordA
  split
  · rw [show (bordL L L.length).length = L.length by simp [bordL]]; exact hl
  · exact Nat.zero_le _
theorem okL_true {L : List Int} (h : okL L = true) : allG L = true ∧ L.length ≤ 120 := by
  unfold okL at h
  simpa [Bool.and_eq_true] using h
set_option maxRecDepth 100000 in
set_option maxHeartbeats 1000000 in
theorem istream_any (L : List Int) (ao : Option Addr) (cap : Nat) (w : World) (hl : L.length ≤ 1048576) (hA : IntsAt w ao L) :
    Calls Try.prog 47 #[.slice ao L.length cap] w fun e w' => e = .returned (.bool (okL L)) ∧ w' = w := by
  have HALL : Hid (Calls Try.prog 65 #[.slice ao L.length cap] w fun e w' => e = .returned (.bool (allG L)) ∧ w' = w) := iall3_any L ao cap w hl hA
  clear hA
  by_cases h120 : L.length ≤ 120
  · have HO : Hid (okL L = allG L) := (by unfold okL; simp [h120] : okL L = allG L)
    have hI : decide ((L.length : Int) ≤ 120) = true := decide_eq_true (by omega)
    clear h120
    generalize hga : allG L = ga at HALL HO
    cases ga
    all_goals
      go_enter Try.func47, Try.ntmps47
      go_wp2_with fail
      refine Calls.mono HALL.out ?_
      rintro e w1 ⟨rfl, rfl⟩
      go_wp2
      go_ret
      exact ⟨by rw [HO.out] <;> rfl, rfl⟩
  · have HO : Hid (okL L = false) := (by unfold okL; simp [h120] : okL L = false)
    have hI : decide ((L.length : Int) ≤ 120) = false := decide_eq_false (by omega)
    clear h120
    go_enter Try.func47, Try.ntmps47
    go_wp2
    go_ret
    exact ⟨by rw [HO.out] <;> rfl, rfl⟩
set_option maxRecDepth 100000 in
/-- All states but the first. -/
theorem tail_st (g n cap : Nat) (hc : n + 1 ≤ cap) : ∃ A C, (∀ w, (Instr.slice 68 (.slice (some ⟨g, 0, none⟩) (n + 1) cap) (some (.int .i64 1)) none none).run Try.prog w = .ok (.slice A n C) w) ∧ (0 < n → A = some ⟨g, 5, none⟩) := by
  obtain ⟨i0, hi, hz0, hz1, hz2⟩ := infoSt
  refine ⟨if cap = 1 then some ⟨g, 0, none⟩ else some ⟨g, 5, none⟩, cap - 1, fun w => ?_, fun h => if_neg (by omega)⟩
  rw [run_slice_l w 68 (some ⟨g, 0, none⟩) (n + 1) cap Try.underlying68 .i64 1 (by omega) (by omega), show Try.prog.elem 68 = 75 by kernel_rfl]
  by_cases e : cap = 1
  · simp [sizeOf, typeInfo, hi, hz1, sliced, e]
  · simp [sizeOf, typeInfo, hi, hz1, sliced, e, Addr.add]
theorem make0 (w : World) (n : Nat) (hn : n ≤ 1048576) : ∃ w', (Instr.makeSlice 26 (.int .i64 0) (.int .i64 (n : Int))).run Try.prog w = .ok (.slice (some ⟨w.heap.size, 0, none⟩) 0 n) w' ∧ w'.ownsRow w.heap.size 3 1 (.slice (some ⟨w.heap.size, 0, none⟩) 0 n) 0 [] ∧ Below w.heap.size w w' := by
  obtain ⟨i0, hi, hz0, hz1, hz2⟩ := info_parts Try.info3
  obtain ⟨w', h1, h2, h3⟩ := run_make_own (P := Try.prog) w w.heap.size 26 3 i0 (.int .i64 0) 1 Try.underlying26 hi hz0 hz1 .i64 .i64 n (by rw [hz2]; omega) (by unfold maxLen; omega) (Nat.le_refl _)
  exact ⟨w', h1, h2, Below.grown (Below.refl _ _) h3 (Nat.le_refl _) (fun g hg => by cases hg)⟩
theorem goodB_wf {x : Int} (h : goodB x = true) : wf64 x := by
  have := goodB_true h
  exact WalkArith.wf_i64 (by omega)
theorem allG_at {L : List Int} (h : allG L = true) {j : Nat} (hj : j < L.length) : goodB (L.getD j 0) = true := by
  unfold allG at h
  rw [List.all_eq_true] at h
  exact h _ (by simp [List.getD, hj])
theorem one_wf {L : List Int} (h : allG L = true) (k j : Nat) : wf64 ((rw_ [L] k).getD j 0) := by
  have z : wf64 0 := WalkArith.wf_i64 (by omega)
  cases k with
  | zero =>
    show wf64 (L.getD j 0)
    by_cases hj : j < L.length
    · exact goodB_wf (allG_at h hj)
    · simpa [List.getD, hj] using z
  | succ k => exact z
end Go.Proofs.Ytdhppigjlldfmaa

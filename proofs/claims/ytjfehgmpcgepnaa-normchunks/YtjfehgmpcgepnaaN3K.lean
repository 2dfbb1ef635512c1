/-
  Sorted and joined, in the program; where a list is cut, in both; FlushNorm of both and NormalOf.
-/
import Derived.Test.YtjfehgmpcgepnaaN3J
namespace Go.Proofs.Ytjfehgmpcgepnaa
open Go.ChangeShapes Go.WideShapes Go.ChangeAt Go.RowKit
theorem heldB_sort {L : List Int} (h : heldB L = true) : heldB (sortL L) = true := by
  obtain ⟨h1, h2⟩ := heldB_true h
  refine heldB_mk (by rw [sortL_len]; exact h1) (List.all_eq_true.2 fun r hr => ?_)
  exact allG_true h2 r ((sortL_mem L r).1 hr)
set_option maxRecDepth 100000 in
set_option maxHeartbeats 2000000 in
theorem ijs_yes (L : List Int) (ao : Option Addr) (n cap : Nat) (w : World) (hn : n = L.length) (hh : heldB L = true) (hA : IntsAt w ao L) :
    Calls Try.prog 19 #[.slice ao n cap] w fun e w' => ∃ v, e = .returned (.tuple #[v, .bool true]) ∧ w'.ownsRow w.heap.size 3 1 v (fullL L).length (ints (fullL L)) ∧ Below w.heap.size w w' := by
  subst hn
  have HA : Hid _ := hA
  have HH : Hid _ := hh
  clear hA hh
  go_enter Try.func19, Try.ntmps19
  go_wp2_with fail
  refine (isort_yes L ao cap _ HH.out HA.out).mono ?_
  rintro e w1 ⟨v1, rfl, o1, b1⟩
  have O1 : Hid (w1.ownsRow w.heap.size 3 1 v1 (sortL L).length (ints (sortL L))) := o1
  have B1 : Hid _ := b1
  obtain ⟨_, a1, c1, rfl, _⟩ := ints_of_own o1
  clear o1 b1
  go_wp2_with fail
  refine (ijoinAll_yes (sortL L) a1 c1 _ (heldB_sort HH.out) (own_ints O1.out)).mono ?_
  rintro e w2 ⟨v2, rfl, o2, b2⟩
  have O2 : Hid (w2.ownsRow w.heap.size 3 1 v2 (fullL L).length (ints (fullL L))) := own_mono o2 (Below.size B1.out)
  have B2 : Hid (Below w.heap.size w w2) := Below.trans B1.out (b2.mono (Below.size B1.out))
  clear o2 b2
  go_wp2
  go_ret2
  exact ⟨_, rfl, O2.out, B2.out⟩
set_option maxRecDepth 100000 in
set_option maxHeartbeats 2000000 in
theorem ijs_no (L : List Int) (ao : Option Addr) (n cap : Nat) (w : World) (hn : n = L.length) (hl : L.length ≤ 1048576) (hh : heldB L = false) (hA : IntsAt w ao L) :
    Calls Try.prog 19 #[.slice ao n cap] w fun e w' => e = .returned (.tuple #[.slice none 0 0, .bool false]) ∧ Below w.heap.size w w' := by
  subst hn
  have HA : Hid _ := hA
  have HH : Hid _ := hh
  clear hA hh
  go_enter Try.func19, Try.ntmps19
  go_wp2_with fail
  refine (isort_no L ao cap _ hl HH.out HA.out).mono ?_
  rintro e w1 ⟨rfl, b1⟩
  go_wp2
  go_ret2
  exact ⟨rfl, b1⟩
set_option maxRecDepth 100000 in
set_option maxHeartbeats 2000000 in
theorem iflush_yes (L : List Int) (ao : Option Addr) (n cap : Nat) (w : World) (hn : n = L.length) (hh : heldB L = true) (hA : IntsAt w ao L) :
    Calls Try.prog 10 #[.agg #[.slice ao n cap]] w fun e w' => ∃ v, e = .returned (.tuple #[v, .bool true]) ∧ w'.ownsRow w.heap.size 3 1 v (fullL L).length (ints (fullL L)) ∧ Below w.heap.size w w' := by
  subst hn
  have HA : Hid _ := hA
  have HH : Hid _ := hh
  have BX : Hid (Below w.heap.size w (w.alloc (.cells #[.slice ao L.length cap] 26))) := (Below.refl _ _).alloc (Nat.le_refl _) _
  have HA1 : Hid (IntsAt (w.alloc (.cells #[.slice ao L.length cap] 26)) ao L) := IntsAt.below HA.out BX.out
  clear hA hh
  go_enter Try.func10, Try.ntmps10
  go_wp2_with fail
  refine (ijs_yes L ao _ cap _ rfl HH.out HA1.out).mono ?_
  rintro e w2 ⟨v2, rfl, o2, b2⟩
  have O2 : Hid (w2.ownsRow w.heap.size 3 1 v2 (fullL L).length (ints (fullL L))) := own_mono o2 (Below.size BX.out)
  have B2 : Hid (Below w.heap.size w w2) := Below.trans BX.out (b2.mono (Below.size BX.out))
  clear o2 b2
  go_wp2
  go_ret2
  exact ⟨_, rfl, O2.out, B2.out⟩
set_option maxRecDepth 100000 in
set_option maxHeartbeats 2000000 in
theorem iflush_no (L : List Int) (ao : Option Addr) (n cap : Nat) (w : World) (hn : n = L.length) (hl : L.length ≤ 1048576) (hh : heldB L = false) (hA : IntsAt w ao L) :
    Calls Try.prog 10 #[.agg #[.slice ao n cap]] w fun e w' => e = .returned (.tuple #[.slice none 0 0, .bool false]) ∧ Below w.heap.size w w' := by
  subst hn
  have HA : Hid _ := hA
  have HH : Hid _ := hh
  have BX : Hid (Below w.heap.size w (w.alloc (.cells #[.slice ao L.length cap] 26))) := (Below.refl _ _).alloc (Nat.le_refl _) _
  have HA1 : Hid (IntsAt (w.alloc (.cells #[.slice ao L.length cap] 26)) ao L) := IntsAt.below HA.out BX.out
  clear hA hh
  go_enter Try.func10, Try.ntmps10
  go_wp2_with fail
  refine (ijs_no L ao _ cap _ rfl hl HH.out HA1.out).mono ?_
  rintro e w2 ⟨rfl, b2⟩
  have B2 : Hid (Below w.heap.size w w2) := Below.trans BX.out (b2.mono (Below.size BX.out))
  clear b2
  go_wp2
  go_ret2
  exact ⟨rfl, B2.out⟩
set_option maxRecDepth 100000 in
set_option maxHeartbeats 2000000 in
theorem sflush_yes (L : List Int) (ao : Option Addr) (n cap : Nat) (w : World) (hn : n = L.length) (hh : heldB L = true) (hA : IntsAt w ao L) :
    Calls Try.prog 13 #[.agg #[.slice ao n cap]] w fun e w' => ∃ v, e = .returned (.tuple #[v, .bool true]) ∧ w'.ownsRow w.heap.size 3 1 v (fullL L).length (ints (fullL L)) ∧ Below w.heap.size w w' := by
  subst hn
  have HA : Hid _ := hA
  have HH : Hid _ := hh
  have hl := (heldB_true hh).1
  have B0 : ∀ o, Below w.heap.size w (w.alloc o) := fun o => (Below.refl _ _).alloc (Nat.le_refl _) o
  clear hA hh
  go_enter Try.func13, Try.ntmps13
  go_wp2_with fail
  refine (slist_any L ao cap _ (by omega) (IntsAt.below HA.out (B0 _))).mono ?_
  rintro e w1 ⟨rfl, b1⟩
  rw [HH.out]
  have c1 : w1.cell? ⟨w.heap.size, 0, none⟩ = some (.slice ao L.length cap) := (b1.cell (p := ⟨w.heap.size, 0, none⟩) (by simp)).trans (by simp [go_sem])
  have B1 : Hid (Below w.heap.size w w1) := Below.trans (B0 _) (b1.mono (B0 _).size)
  clear b1
  go_wp2_with fail
  refine (ssortL_any L ao cap _ (by omega) (IntsAt.below HA.out B1.out)).mono ?_
  rintro e w2 ⟨v2, rfl, o2, b2⟩
  have O2 : Hid (w2.ownsRow w1.heap.size 3 1 v2 (sortL L).length (ints (sortL L))) := o2
  have B2 : Hid (Below w.heap.size w w2) := Below.trans B1.out (b2.mono (Below.size B1.out))
  obtain ⟨_, a2, c2, rfl, _⟩ := ints_of_own o2
  clear o2 b2
  go_wp2_with fail
  refine (sjoinL_any (sortL L) a2 c2 _ (by rw [sortL_len]; omega) (own_ints O2.out)).mono ?_
  rintro e w3 ⟨v3, rfl, o3, b3⟩
  have O3 : Hid (w3.ownsRow w.heap.size 3 1 v3 (fullL L).length (ints (fullL L))) := own_mono o3 (Below.size B2.out)
  have B3 : Hid (Below w.heap.size w w3) := Below.trans B2.out (b3.mono (Below.size B2.out))
  clear o3 b3
  go_wp2
  go_ret2
  exact ⟨_, rfl, O3.out, B3.out⟩
set_option maxRecDepth 100000 in
set_option maxHeartbeats 2000000 in
theorem sflush_no (L : List Int) (ao : Option Addr) (n cap : Nat) (w : World) (hn : n = L.length) (hl : L.length ≤ 1048576) (hh : heldB L = false) (hA : IntsAt w ao L) :
    Calls Try.prog 13 #[.agg #[.slice ao n cap]] w fun e w' => e = .returned (.tuple #[.slice none 0 0, .bool false]) ∧ Below w.heap.size w w' := by
  subst hn
  have HA : Hid _ := hA
  have HH : Hid _ := hh
  have B0 : ∀ o, Below w.heap.size w (w.alloc o) := fun o => (Below.refl _ _).alloc (Nat.le_refl _) o
  clear hA hh
  go_enter Try.func13, Try.ntmps13
  go_wp2_with fail
  refine (slist_any L ao cap _ hl (IntsAt.below HA.out (B0 _))).mono ?_
  rintro e w1 ⟨rfl, b1⟩
  rw [HH.out]
  have B1 : Hid (Below w.heap.size w w1) := Below.trans (B0 _) (b1.mono (B0 _).size)
  clear b1
  go_wp2
  go_ret2
  exact ⟨rfl, B1.out⟩
set_option maxRecDepth 100000 in
set_option maxHeartbeats 2000000 in
theorem inormal_yes (L : List Int) (ao : Option Addr) (n cap : Nat) (w : World) (hn : n = L.length) (hh : heldB L = true) (hs : (splitAllL L).length ≤ 300) (hsg : allG (splitAllL L) = true) (hA : IntsAt w ao L) :
    Calls Try.prog 11 #[.slice ao n cap] w fun e w' => ∃ v, e = .returned (.tuple #[v, .bool true]) ∧ w'.ownsRow w.heap.size 3 1 v (fullL (splitAllL L)).length (ints (fullL (splitAllL L))) ∧ Below w.heap.size w w' := by
  subst hn
  have HA : Hid _ := hA
  have HH : Hid _ := hh
  have HS : Hid _ := heldB_mk hs hsg
  clear hA hh hsg
  go_enter Try.func11, Try.ntmps11
  go_wp2_with fail
  refine (isplitAll_yes L ao cap _ HH.out hs HA.out).mono ?_
  rintro e w1 ⟨v1, rfl, o1, b1⟩
  have O1 : Hid (w1.ownsRow w.heap.size 3 1 v1 (splitAllL L).length (ints (splitAllL L))) := o1
  have B1 : Hid _ := b1
  obtain ⟨_, a1, c1, rfl, _⟩ := ints_of_own o1
  clear o1 b1
  go_wp2_with fail
  refine (ijs_yes (splitAllL L) a1 _ c1 _ rfl HS.out (own_ints O1.out)).mono ?_
  rintro e w2 ⟨v2, rfl, o2, b2⟩
  have O2 : Hid (w2.ownsRow w.heap.size 3 1 v2 (fullL (splitAllL L)).length (ints (fullL (splitAllL L)))) := own_mono o2 (Below.size B1.out)
  have B2 : Hid (Below w.heap.size w w2) := Below.trans B1.out (b2.mono (Below.size B1.out))
  clear o2 b2
  go_wp2
  go_ret2
  exact ⟨_, rfl, O2.out, B2.out⟩
set_option maxRecDepth 100000 in
set_option maxHeartbeats 2000000 in
theorem ahead_any (r : Int) (w : World) :
    Calls Try.prog 29 #[.int .i64 r] w fun e w' => e = .returned (.bool (!freshB r)) ∧ w = w' := by
  rcases (by omega : r < 768 ∨ (768 ≤ r ∧ r ≤ 879) ∨ (879 < r ∧ r < 4449) ∨ (4449 ≤ r ∧ r ≤ 4469) ∨ (4469 < r ∧ r < 4520) ∨ (4520 ≤ r ∧ r ≤ 4546) ∨ 4546 < r) with h1 | ⟨h1, h2⟩ | ⟨h1, h2⟩ | ⟨h1, h2⟩ | ⟨h1, h2⟩ | ⟨h1, h2⟩ | h1
  all_goals
    first
      | have hf : freshB r = true := decide_eq_true (by omega)
      | have hf : freshB r = false := decide_eq_false (by omega)
    first
      | (have ho : orderN r = 0 := orderN_no (by omega))
      | (have ho : orderN r = 1 + r % 5 := orderN_mark (by omega))
    have HO : Hid _ := ho
    rw [hf]
    clear hf ho
    cases hg : goodB r
    all_goals
      have HG : Hid _ := hg
      clear hg
      go_enter Try.func29, Try.ntmps29
      go_wp2_with (first | (go_at_call 44; refine (iorder_any r _).mono ?_; rintro e w' ⟨rfl, hw⟩; obtain rfl := hw.symm; rw [HO.out, HG.out]) | (go_at_call 41; first | (refine (among_yes (by omega) (by omega) _).mono ?_; rintro e w' ⟨rfl, rfl⟩) | (refine (among_no (by omega) (by omega) _).mono ?_; rintro e w' ⟨rfl, rfl⟩)))
      go_ret
      exact ⟨by first | rfl | exact ret_bool (by simp; try omega), rfl⟩
end Go.Proofs.Ytjfehgmpcgepnaa

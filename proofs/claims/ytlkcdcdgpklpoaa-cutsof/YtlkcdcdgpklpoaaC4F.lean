/-
  GoodSet, InSet, CountSet of the program and of the specification.
-/
import Derived.Test.YtlkcdcdgpklpoaaC4E
namespace Go.Proofs.Ytlkcdcdgpklpoaa
open Go.ChangeShapes Go.WideShapes Go.ChangeAt Go.RowKit
/-- A set that is put into a new variable. -/
theorem new_set (w : World) (S : List (Int × Int)) (hS : S.length ≤ 12) :
    ∃ w', (Instr.storeAt 205 (.pointer (some ⟨w.heap.size, 0, none⟩)) (setV S)).run Try.prog (w.alloc (.cells #[.int .i64 0, .int .i64 0, .int .i64 0, .int .i64 0, .int .i64 0, .int .i64 0, .int .i64 0, .int .i64 0, .int .i64 0, .int .i64 0, .int .i64 0, .int .i64 0, .int .i64 0, .int .i64 0, .int .i64 0, .int .i64 0, .int .i64 0, .int .i64 0, .int .i64 0, .int .i64 0, .int .i64 0, .int .i64 0, .int .i64 0, .int .i64 0] 205)) = .ok () w' ∧ SetAt w' w.heap.size S ∧ Below w.heap.size w w' := by
  obtain ⟨w', h1, h2, h3⟩ := (SetAt.new w _ rfl).store S hS
  exact ⟨w', h1, h2, Below.grown ((Below.refl _ _).alloc (Nat.le_refl _) _) h3 (Below.size ((Below.refl _ _).alloc (Nat.le_refl _) _)) (fun g e => by have := Option.some.inj e; omega)⟩
theorem goodS_le {L : List Int} (h : goodS L = true) : (PR L (L.length / 2)).length ≤ 12 := by rw [PR_len]; have := (goodS_true h).2.1; omega
/-- readSet, in the two cases. -/
theorem read_yes (L : List Int) (ao : Option Addr) (cap : Nat) (w : World) (hg : goodS L = true) (hA : IntsAt w ao L) :
    Calls Try.prog 156 #[.slice ao L.length cap] w fun e w' => e = .returned (.tuple #[setV (PR L (L.length / 2)), .bool true]) ∧ Below w.heap.size w w' := by
  refine (read_any L ao cap w (by have := (goodS_true hg).2.1; omega) hA).mono ?_
  rintro e w' ⟨⟨_, he⟩ | ⟨h, _⟩, hb⟩
  · exact ⟨he, hb⟩
  · rw [hg] at h; cases h
theorem read_no (L : List Int) (ao : Option Addr) (cap : Nat) (w : World) (hl : L.length ≤ 1048576) (hg : goodS L = false) (hA : IntsAt w ao L) :
    Calls Try.prog 156 #[.slice ao L.length cap] w fun e w' => e = .returned (.tuple #[setV [], .bool false]) ∧ Below w.heap.size w w' := by
  refine (read_any L ao cap w hl hA).mono ?_
  rintro e w' ⟨⟨h, _⟩ | ⟨_, he⟩, hb⟩
  · rw [hg] at h; cases h
  · exact ⟨he, hb⟩
set_option maxRecDepth 100000 in
set_option maxHeartbeats 1000000 in
theorem igood4_any (L : List Int) (ao : Option Addr) (cap : Nat) (w : World) (hl : L.length ≤ 1048576) (hA : IntsAt w ao L) :
    Calls Try.prog 136 #[.slice ao L.length cap] w fun e w' => e = .returned (.bool (goodS L)) ∧ Below w.heap.size w w' := by
  have HA : Hid _ := hA
  clear hA
  cases hg : goodS L
  · have HG : Hid _ := hg
    clear hg
    go_enter Try.func136, Try.ntmps136
    go_wp2_with fail
    refine (read_no L ao cap _ hl HG.out HA.out).mono ?_
    rintro e w2 ⟨rfl, b2⟩
    obtain ⟨w3, hst, s3, b3⟩ := new_set w2 [] (by simp)
    have HST : Hid _ := hst
    clear hst
    go_wp2_with (refine wpList_store_set rfl (.tmp 3) (.tmp 8) rfl w2.heap.size rfl rfl HST.out ?_)
    go_ret
    exact ⟨rfl, b2.trans (b3.mono b2.size)⟩
  · have HG : Hid _ := hg
    clear hg
    go_enter Try.func136, Try.ntmps136
    go_wp2_with fail
    refine (read_yes L ao cap _ HG.out HA.out).mono ?_
    rintro e w2 ⟨rfl, b2⟩
    obtain ⟨w3, hst, s3, b3⟩ := new_set w2 _ (goodS_le HG.out)
    have HST : Hid _ := hst
    clear hst
    go_wp2_with (refine wpList_store_set rfl (.tmp 3) (.tmp 8) rfl w2.heap.size rfl rfl HST.out ?_)
    go_ret
    exact ⟨rfl, b2.trans (b3.mono b2.size)⟩
end Go.Proofs.Ytlkcdcdgpklpoaa

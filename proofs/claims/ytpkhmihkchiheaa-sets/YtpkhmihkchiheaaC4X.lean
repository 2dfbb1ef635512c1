/-
  MeetSet of the program.
-/
import Derived.Test.YtpkhmihkchiheaaC4W
namespace Go.Proofs.Ytpkhmihkchiheaa
open Go.ChangeShapes Go.WideShapes Go.ChangeAt Go.RowKit
def meetP (p q : Int × Int) : Int × Int := (max p.1 q.1, min p.2 q.2)
/-- The twelve spans of a set's array. -/
def tw (C : List (Int × Int)) : List (Int × Int) := (List.range 12).map fun j => C.getD j (0, 0)
theorem tw_len (C : List (Int × Int)) : (tw C).length = 12 := by simp [tw]
theorem tw_get (C : List (Int × Int)) (k : Nat) (hk : k < 12) : (tw C).getD k (0, 0) = C.getD k (0, 0) := by simp [tw, List.getD, hk]
theorem tw_mem {C : List (Int × Int)} (hl : C.length ≤ 12) (x : Int) : Mem x (tw C) ↔ Mem x C := by
  rw [mem_iff, mem_iff]
  constructor
  · rintro ⟨p, hp, h⟩
    simp only [tw, List.mem_map, List.mem_range] at hp
    obtain ⟨j, hj, rfl⟩ := hp
    by_cases hc : j < C.length
    · exact ⟨_, by simp [List.getD, hc], h⟩
    · rw [show C.getD j (0, 0) = (0, 0) by simp [List.getD, List.getElem?_eq_none (Nat.le_of_not_lt hc)]] at h
      simp only at h
      omega
  · rintro ⟨p, hp, h⟩
    obtain ⟨j, hj, rfl⟩ := List.mem_iff_getElem.1 hp
    refine ⟨C[j], ?_, h⟩
    simp only [tw, List.mem_map, List.mem_range]
    exact ⟨j, by omega, by simp [List.getD, hj]⟩
theorem tw_bd {C : List (Int × Int)} (h : CT C) : ∀ p ∈ tw C, 0 ≤ p.1 ∧ p.1 ≤ 1114112 ∧ 0 ≤ p.2 ∧ p.2 ≤ 1114112 := fun p hp => by
  simp only [tw, List.mem_map, List.mem_range] at hp
  obtain ⟨j, hj, rfl⟩ := hp
  by_cases hc : j < C.length
  · exact h.bd _ (by simp [List.getD, hc])
  · rw [show C.getD j (0, 0) = (0, 0) by simp [List.getD, List.getElem?_eq_none (Nat.le_of_not_lt hc)]]
    simp only
    omega
/-- All meetings, row by row. -/
def crossS (A B : List (Int × Int)) : List (Int × Int) := A.flatMap fun p => B.map (meetP p)
theorem crossS_mem (A B : List (Int × Int)) (x : Int) : Mem x (crossS A B) ↔ Mem x A ∧ Mem x B := by
  simp only [mem_iff, crossS, List.mem_flatMap, List.mem_map]
  constructor
  · rintro ⟨_, ⟨p, hp, q, hq, rfl⟩, h⟩
    unfold meetP at h
    simp only at h
    exact ⟨⟨p, hp, by omega⟩, ⟨q, hq, by omega⟩⟩
  · rintro ⟨⟨p, hp, h1⟩, ⟨q, hq, h2⟩⟩
    exact ⟨meetP p q, ⟨p, hp, q, hq, rfl⟩, by unfold meetP; simp only; omega⟩
theorem crossS_len (A B : List (Int × Int)) : (crossS A B).length = A.length * B.length := by
  induction A with
  | nil => simp [crossS]
  | cons p r ih =>
    have : crossS (p :: r) B = B.map (meetP p) ++ crossS r B := rfl
    rw [this, List.length_append, ih, List.length_map, List.length_cons, Nat.succ_mul]
    omega
theorem crossS_take (A B : List (Int × Int)) (k : Nat) (h : k < A.length) : crossS (A.take (k + 1)) B = crossS (A.take k) B ++ B.map (meetP (A.getD k (0, 0))) := by
  rw [take_snocS A k h]
  simp [crossS]
theorem map_take (p : Int × Int) (B : List (Int × Int)) (j : Nat) (h : j < B.length) : (B.take (j + 1)).map (meetP p) = (B.take j).map (meetP p) ++ [meetP p (B.getD j (0, 0))] := by
  rw [take_snocS B j h]
  simp
section
variable (L M : List Int) (ao bo : Option Addr) (ca cb : Nat) (w : World)
set_option maxRecDepth 100000 in
set_option maxHeartbeats 2000000 in
theorem imeet_no (hl : L.length ≤ 1048576) (hm : M.length ≤ 1048576) (hg : ¬ (goodS L = true ∧ goodS M = true)) (iA : IntsAt w ao L) (iB : IntsAt w bo M) :
    Calls Try.prog 18 #[.slice ao L.length ca, .slice bo M.length cb] w fun e w' => e = .returned (.tuple #[.slice none 0 0, .bool false]) ∧ Below w.heap.size w w' := by
  have IA : Hid _ := iA
  have IB : Hid _ := iB
  have RL : Hid (∃ (S : List (Int × Int)) (ok : Bool), S.length ≤ 12 ∧ (ok = goodS L) ∧ ∀ w ao ca, IntsAt w ao L → Calls Try.prog 42 #[.slice ao L.length ca] w fun e w' => e = .returned (.tuple #[setV S, .bool ok]) ∧ Below w.heap.size w w') := by
    cases h : goodS L
    · exact ⟨[], false, by simp, rfl, fun w ao ca i => read_no L ao ca w hl h i⟩
    · exact ⟨_, true, goodS_le h, rfl, fun w ao ca i => read_yes L ao ca w h i⟩
  have RM : Hid (∃ (S : List (Int × Int)) (ok : Bool), S.length ≤ 12 ∧ (ok = goodS M) ∧ ∀ w ao ca, IntsAt w ao M → Calls Try.prog 42 #[.slice ao M.length ca] w fun e w' => e = .returned (.tuple #[setV S, .bool ok]) ∧ Below w.heap.size w w') := by
    cases h : goodS M
    · exact ⟨[], false, by simp, rfl, fun w ao ca i => read_no M ao ca w hm h i⟩
    · exact ⟨_, true, goodS_le h, rfl, fun w ao ca i => read_yes M ao ca w h i⟩
  obtain ⟨S1, ok1, l1, e1, r1⟩ := RL.out
  obtain ⟨S2, ok2, l2, e2, r2⟩ := RM.out
  have hno : ¬ (ok1 = true ∧ ok2 = true) := by rw [e1, e2]; exact hg
  have R1 : Hid _ := r1
  have R2 : Hid _ := r2
  have L1 : Hid _ := l1
  have L2 : Hid _ := l2
  clear iA iB hg e1 e2 r1 r2 l1 l2 RL RM
  cases ok1 <;> cases ok2
  case true.true => exact absurd ⟨rfl, rfl⟩ hno
  all_goals
    clear hno
    go_enter Try.func18, Try.ntmps18
    go_wp2_with fail
    refine (R1.out _ _ _ IA.out).mono ?_
    rintro e w1 ⟨rfl, b1⟩
    obtain ⟨w2, hst, -, b2⟩ := new_set w1 S1 L1.out
    have HST : Hid _ := hst
    have B2 : Hid (Below w.heap.size w w2) := b1.trans (b2.mono b1.size)
    clear hst b1 b2
    go_wp2_with (refine wpList_store_set rfl (.tmp 6) (.tmp 18) rfl w1.heap.size rfl rfl HST.out ?_)
    refine (R2.out _ _ _ (IntsAt.keepB IB.out B2.out)).mono ?_
    rintro e w3 ⟨rfl, b3⟩
    obtain ⟨w4, hst4, -, b4⟩ := new_set w3 S2 L2.out
    have HST4 : Hid _ := hst4
    have B3 : Hid (Below w.heap.size w w3) := B2.out.trans (b3.mono B2.out.size)
    have B4 : Hid (Below w.heap.size w w4) := B3.out.trans (b4.mono B3.out.size)
    clear hst4 b3 b4
    go_wp2_with (refine wpList_store_set rfl (.tmp 8) (.tmp 23) rfl w3.heap.size rfl rfl HST4.out ?_)
    go_ret2
    exact ⟨rfl, B4.out⟩
end
end Go.Proofs.Ytpkhmihkchiheaa

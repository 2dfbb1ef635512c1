/-
  UnionSet of the program.
-/
import Derived.Test.YtpkhmihkchiheaaC4Z
namespace Go.Proofs.Ytpkhmihkchiheaa
open Go.ChangeShapes Go.WideShapes Go.ChangeAt Go.RowKit
def a12 (A : List (Int × Int)) : List (Int × Int) := A ++ List.replicate (12 - A.length) (0, 0)
theorem a12_len {A : List (Int × Int)} (h : A.length ≤ 12) : (a12 A).length = 12 := by simp [a12]; omega
theorem a12_mem (A : List (Int × Int)) (x : Int) : Mem x (a12 A) ↔ Mem x A := by
  unfold a12
  rw [mem_append]
  constructor
  · rintro (h | h)
    · exact h
    · obtain ⟨p, hp, h1⟩ := mem_iff.1 h
      rw [(List.mem_replicate.1 hp).2] at h1
      simp only at h1
      omega
  · exact .inl
theorem a12_bd {C : List (Int × Int)} (h : CT C) : ∀ p ∈ a12 C, 0 ≤ p.1 ∧ p.1 ≤ 1114112 ∧ 0 ≤ p.2 ∧ p.2 ≤ 1114112 := fun p hp => by
  rcases List.mem_append.1 hp with hp | hp
  · exact h.bd p hp
  · rw [(List.mem_replicate.1 hp).2]; simp only; omega
theorem joinSp_yes (S C : List (Int × Int)) (ao : Option Addr) (cap : Nat) (w : World) (n : Nat) (hn : n = S.length) (hl : S.length ≤ 1048576) (hbd : ∀ p ∈ S, -4000000 ≤ p.1 ∧ p.1 ≤ 4000000 ∧ -4000000 ≤ p.2 ∧ p.2 ≤ 4000000) (h0 : ∀ p ∈ S, p.1 < p.2 → -1 < p.1) (hC : Can (-1) C) (hM : ∀ x, Mem x C ↔ Mem x S) (h12 : C.length ≤ 12) (hA : SpansAt w ao S) :
    Calls Try.prog 43 #[.slice ao n cap] w fun e w' => ∃ v, e = .returned (.tuple #[v, .bool true]) ∧ w'.ownsRow w.heap.size 3 1 v (flS C).length (ints (flS C)) ∧ Below w.heap.size w w' := by
  refine (joinSp' S C ao cap w n hn hl hbd h0 hC hM hA).mono ?_
  rintro e w' ⟨⟨_, v, he, ho⟩ | ⟨h, _⟩, hb⟩
  · exact ⟨v, he, ho, hb⟩
  · omega
theorem joinSp_no (S C : List (Int × Int)) (ao : Option Addr) (cap : Nat) (w : World) (n : Nat) (hn : n = S.length) (hl : S.length ≤ 1048576) (hbd : ∀ p ∈ S, -4000000 ≤ p.1 ∧ p.1 ≤ 4000000 ∧ -4000000 ≤ p.2 ∧ p.2 ≤ 4000000) (h0 : ∀ p ∈ S, p.1 < p.2 → -1 < p.1) (hC : Can (-1) C) (hM : ∀ x, Mem x C ↔ Mem x S) (h12 : ¬ C.length ≤ 12) (hA : SpansAt w ao S) :
    Calls Try.prog 43 #[.slice ao n cap] w fun e w' => e = .returned (.tuple #[.slice none 0 0, .bool false]) ∧ Below w.heap.size w w' := by
  refine (joinSp' S C ao cap w n hn hl hbd h0 hC hM hA).mono ?_
  rintro e w' ⟨⟨h, _⟩ | ⟨_, he⟩, hb⟩
  · omega
  · exact ⟨he, hb⟩
set_option maxRecDepth 100000 in
set_option maxHeartbeats 4000000 in
theorem iunion_yes (L M : List Int) (ao bo : Option Addr) (ca cb : Nat) (w : World) (A B : List (Int × Int)) (hA : Good4 L A) (hB : Good4 M B) (iA : IntsAt w ao L) (iB : IntsAt w bo M) :
    Calls Try.prog 16 #[.slice ao L.length ca, .slice bo M.length cb] w fun e w' => SetE w w' (uniF A B) e ∧ Below w.heap.size w w' := by
  have IA : Hid _ := iA
  have IB : Hid _ := iB
  have G1 : Hid _ := hA
  have G2 : Hid _ := hB
  have PA : Hid _ := hA.pr
  have PB : Hid _ := hB.pr
  obtain ⟨d1, -, d3⟩ := uniD_facts hA.ct hB.ct
  have D1 : Hid _ := d1
  have HMM : Hid (∀ x, Mem x (uniF A B) ↔ Mem x (a12 A ++ a12 B)) := fun x => by rw [d3 x, mem_append, a12_mem, a12_mem]
  have HBD : Hid (∀ p ∈ a12 A ++ a12 B, 0 ≤ p.1 ∧ p.1 ≤ 1114112 ∧ 0 ≤ p.2 ∧ p.2 ≤ 1114112) := fun p hp => by
    rcases List.mem_append.1 hp with hp | hp
    · exact a12_bd hA.ct p hp
    · exact a12_bd hB.ct p hp
  have HSB : Hid (∀ p ∈ a12 A ++ a12 B, -4000000 ≤ p.1 ∧ p.1 ≤ 4000000 ∧ -4000000 ≤ p.2 ∧ p.2 ≤ 4000000) := fun p hp => by have := HBD.out p hp; omega
  have HSG : Hid (∀ p ∈ a12 A ++ a12 B, p.1 < p.2 → -1 < p.1) := fun p hp _ => by have := HBD.out p hp; omega
  have TA : Hid _ := a12_len hA.le
  have TB : Hid _ := a12_len hB.le
  have TAB : Hid ((a12 A ++ a12 B).length ≤ 1048576) := by show (a12 A ++ a12 B).length ≤ 1048576; rw [List.length_append, a12_len hA.le, a12_len hB.le]; omega
  clear iA iB hA hB d1 d3 HBD
  go_enter Try.func16, Try.ntmps16
  go_wp2_with fail
  refine (read_yes L ao ca _ G1.out.good IA.out).mono ?_
  rintro e w1 ⟨rfl, b1⟩
  rw [PA.out]
  obtain ⟨w2, hst, s2, b2⟩ := new_set w1 A G1.out.le
  have HST : Hid _ := hst
  have S2 : Hid _ := s2
  have B2 : Hid (Below w.heap.size w w2) := b1.trans (b2.mono b1.size)
  clear hst s2 b1 b2
  go_wp2_with (refine wpList_store_set rfl (.tmp 6) (.tmp 13) rfl w1.heap.size rfl rfl HST.out ?_)
  refine (read_yes M bo cb _ G2.out.good (IntsAt.keepB IB.out B2.out)).mono ?_
  rintro e w3 ⟨rfl, b3⟩
  rw [PB.out]
  obtain ⟨w4, hst4, s4, b4⟩ := new_set w3 B G2.out.le
  have HST4 : Hid _ := hst4
  have S4 : Hid _ := s4
  have BB3 : Hid (Below w.heap.size w w3) := B2.out.trans (b3.mono B2.out.size)
  have S2' : Hid (SetAt w4 w1.heap.size A) := (S2.out.keep b3).keep b4
  have B4 : Hid (Below w.heap.size w w4) := BB3.out.trans (b4.mono BB3.out.size)
  clear hst4 s4 b3 b4 IA IB
  go_wp2_with (refine wpList_store_set rfl (.tmp 8) (.tmp 18) rfl w3.heap.size rfl rfl HST4.out ?_)
  have BA : Hid (∀ o, Below w4.heap.size w4 (w4.alloc o).drew) := fun o => ((Below.refl _ _).alloc (Nat.le_refl _) o).drew
  have SA : Hid (∀ o, SpansAt (w4.alloc o).drew (some ⟨w1.heap.size, 0, none⟩) (a12 A)) := fun o => SpansAt.below S2'.out.spans (BA.out o)
  have SB : Hid (∀ o, SpansAt (w4.alloc o).drew (some ⟨w3.heap.size, 0, none⟩) (a12 B)) := fun o => SpansAt.below S4.out.spans (BA.out o)
  by_cases h12 : (uniF A B).length ≤ 12
  · go_region_with (first
      | (go_at_call 44; refine (concat_any (a12 A) (a12 B) (some ⟨w1.heap.size, 0, none⟩) (some ⟨w3.heap.size, 0, none⟩) 12 12 w4.heap.size _ TA.out TB.out (SA.out _) (SB.out _) (by simp) (by simp) (by simp)).mono ?_; rintro e w5 ⟨v5, rfl, o5, b5⟩; have B5 : Hid (Below w.heap.size w w5) := (B4.out.trans ((BA.out _).mono B4.out.size)).trans (b5.mono (B4.out.trans ((BA.out _).mono B4.out.size)).size); obtain ⟨ao5, cap5, rfl, sp5⟩ := spans_of_own o5; have SP5 : Hid _ := sp5; clear o5 sp5 b5)
      | (go_at_call 43; refine (joinSp_yes (a12 A ++ a12 B) (uniF A B) ao5 cap5 _ _ (by simp) TAB.out HSB.out HSG.out D1.out.can HMM.out h12 SP5.out).mono ?_; rintro e w6 ⟨v6, rfl, o6, b6⟩; have O6 : Hid (w6.ownsRow w.heap.size 3 1 v6 (flS (uniF A B)).length (ints (flS (uniF A B)))) := own_mono o6 B5.out.size; have B6 : Hid (Below w.heap.size w w6) := B5.out.trans (b6.mono B5.out.size); clear o6 b6))
    all_goals
      go_wp2
      go_ret2
      exact ⟨.inl ⟨h12, v6, rfl, O6.out⟩, B6.out⟩
  · go_region_with (first
      | (go_at_call 44; refine (concat_any (a12 A) (a12 B) (some ⟨w1.heap.size, 0, none⟩) (some ⟨w3.heap.size, 0, none⟩) 12 12 w4.heap.size _ TA.out TB.out (SA.out _) (SB.out _) (by simp) (by simp) (by simp)).mono ?_; rintro e w5 ⟨v5, rfl, o5, b5⟩; have B5 : Hid (Below w.heap.size w w5) := (B4.out.trans ((BA.out _).mono B4.out.size)).trans (b5.mono (B4.out.trans ((BA.out _).mono B4.out.size)).size); obtain ⟨ao5, cap5, rfl, sp5⟩ := spans_of_own o5; have SP5 : Hid _ := sp5; clear o5 sp5 b5)
      | (go_at_call 43; refine (joinSp_no (a12 A ++ a12 B) (uniF A B) ao5 cap5 _ _ (by simp) TAB.out HSB.out HSG.out D1.out.can HMM.out h12 SP5.out).mono ?_; rintro e w6 ⟨rfl, b6⟩; have B6 : Hid (Below w.heap.size w w6) := B5.out.trans (b6.mono B5.out.size); clear b6))
    all_goals
      go_wp2
      go_ret2
      exact ⟨.inr ⟨by omega, rfl⟩, B6.out⟩
end Go.Proofs.Ytpkhmihkchiheaa

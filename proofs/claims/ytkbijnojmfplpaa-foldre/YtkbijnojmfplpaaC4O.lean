/-
  impl.joinSpans: the set of all numbers of some spans, in the one form.
-/
import Derived.Test.YtkbijnojmfplpaaC4N
namespace Go.Proofs.Ytkbijnojmfplpaa
open Go.ChangeShapes Go.WideShapes Go.ChangeAt Go.RowKit
theorem mem_perm {A B : List (Int × Int)} (h : A.Perm B) (x : Int) : Mem x A ↔ Mem x B := by
  rw [mem_iff, mem_iff]
  constructor
  · rintro ⟨p, hp, hx⟩; exact ⟨p, h.mem_iff.1 hp, hx⟩
  · rintro ⟨p, hp, hx⟩; exact ⟨p, h.mem_iff.2 hp, hx⟩
/-- What joinSpans answers, C being the set. -/
def JoinE (w w' : World) (C : List (Int × Int)) (e : Ending) : Prop := (C.length ≤ 12 ∧ ∃ v, e = .returned (.tuple #[v, .bool true]) ∧ w'.ownsRow w.heap.size 3 1 v (flS C).length (ints (flS C))) ∨ (12 < C.length ∧ e = .returned (.tuple #[.slice none 0 0, .bool false]))
set_option maxRecDepth 100000 in
set_option maxHeartbeats 2000000 in
theorem joinSp (S C : List (Int × Int)) (ao : Option Addr) (cap : Nat) (w : World) (hl : S.length ≤ 1048576) (hbd : ∀ p ∈ S, -4000000 ≤ p.1 ∧ p.1 ≤ 4000000 ∧ -4000000 ≤ p.2 ∧ p.2 ≤ 4000000) (h0 : ∀ p ∈ S, p.1 < p.2 → -1 < p.1) (hC : Can (-1) C) (hM : ∀ x, Mem x C ↔ Mem x S) (hA : SpansAt w ao S) :
    Calls Try.prog 100 #[.slice ao S.length cap] w fun e w' => JoinE w w' C e ∧ Below w.heap.size w w' := by
  have HA : Hid _ := hA
  have HBD : Hid _ := hbd
  have H0 : Hid _ := h0
  have HC : Hid _ := hC
  have HM : Hid _ := hM
  have HNE : Hid (∀ p ∈ C, p.1 < p.2) := fun p hp => (hC.ge hp).2
  have HCB : Hid (∀ p ∈ C, -4000000 ≤ p.1 ∧ p.2 ≤ 4000000) := fun p hp => by
    have hlt := (hC.ge hp).2
    have m1 : Mem p.1 S := (hM _).1 (mem_iff.2 ⟨p, hp, Int.le_refl _, hlt⟩)
    have m2 : Mem (p.2 - 1) S := (hM _).1 (mem_iff.2 ⟨p, hp, by omega, by omega⟩)
    obtain ⟨q1, hq1, h1⟩ := mem_iff.1 m1
    obtain ⟨q2, hq2, h2⟩ := mem_iff.1 m2
    have b1 := hbd q1 hq1
    have b2 := hbd q2 hq2
    omega
  clear hA hbd h0 hC hM
  go_enter Try.func100, Try.ntmps100
  go_wp2_with fail
  refine (clone_any S ao cap _ hl HA.out).mono ?_
  rintro e w1 ⟨v1, rfl, o1, b1⟩
  have B1 : Hid (Below w.heap.size w w1) := b1
  have O1 : Hid _ := o1
  clear o1 b1
  go_wp2_with fail
  refine (sort_any S (fun p hp => ⟨(HBD.out p hp).1, (HBD.out p hp).2.1⟩) hl _ v1 _ O1.out).mono ?_
  rintro e w2 ⟨rfl, S', hp, hs, ⟨ao', cap', rfl, hA'⟩, hg⟩
  have B2 : Hid (Below w.heap.size w w2) := Below.grown B1.out hg B1.out.size (fun g hg => (World.ownsRow.lt O1.out g hg).1)
  have HA2 : Hid _ := hA'
  have HJ : Hid (joinF S' = C) := by
    show joinF S' = C
    obtain ⟨k1, k2⟩ := joinF_can (c := -1) (S := S') (fun p hp' hlt => H0.out p (hp.mem_iff.1 hp') hlt) hs
    exact can_ext k1 HC.out fun x => by rw [k2 x, mem_perm hp x, HM.out x]
  have HL : Hid (S'.length ≤ 1048576) := by show S'.length ≤ 1048576; rw [hp.length_eq]; exact hl
  clear hA' hg hp hs O1
  go_wp2_with fail
  refine (join_any S' ao' cap' _ HL.out HA2.out).mono ?_
  rintro e w3 ⟨hor, b3⟩
  rw [HJ.out] at hor
  have B3 : Hid (Below w.heap.size w w3) := B2.out.trans (b3.mono B2.out.size)
  clear b3
  obtain ⟨hle, rfl⟩ | ⟨h12, rfl⟩ := hor
  · obtain ⟨w4, hst, s4, b4⟩ := new_set w3 C hle
    have HST : Hid _ := hst
    have S4 : Hid _ := s4
    have B4 : Hid (Below w.heap.size w w4) := B3.out.trans (b4.mono B3.out.size)
    have HFL : Hid ((pad C).length = 24) := pad_len hle
    have HLE : Hid _ := hle
    clear hst s4 b4
    go_wp2_with (first | (refine wpList_store_set rfl (.tmp 5) (.tmp 14) rfl w3.heap.size rfl rfl HST.out ?_) | (refine wpList_load_mid rfl 105 (.tmp 5) rfl w3.heap.size 0 rfl (ints (pad C)) _ S4.out.ra Try.underlying105 rfl (by rw [info64, ints_len, HFL.out]) ?_))
    refine (list_any C _ HLE.out HNE.out HCB.out).mono ?_
    rintro e w5 ⟨v5, rfl, o5, b5⟩
    have O5 : Hid (w5.ownsRow w.heap.size 3 1 v5 (flS C).length (ints (flS C))) := own_mono o5 B4.out.size
    have B5 : Hid (Below w.heap.size w w5) := B4.out.trans (b5.mono B4.out.size)
    clear o5 b5
    go_wp2
    go_ret2
    exact ⟨.inl ⟨HLE.out, v5, rfl, O5.out⟩, B5.out⟩
  · obtain ⟨w4, hst, s4, b4⟩ := new_set w3 [] (by simp)
    have HST : Hid _ := hst
    have B4 : Hid (Below w.heap.size w w4) := B3.out.trans (b4.mono B3.out.size)
    have H12 : Hid _ := h12
    clear hst s4 b4 h12
    go_wp2_with (refine wpList_store_set rfl (.tmp 5) (.tmp 14) rfl w3.heap.size rfl rfl HST.out ?_)
    go_ret2
    exact ⟨.inr ⟨H12.out, rfl⟩, B4.out⟩
end Go.Proofs.Ytkbijnojmfplpaa

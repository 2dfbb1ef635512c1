/-
  UnionSet and MeetSet of the specification; the meeting of two spans in the program.
-/
import Derived.Test.YtkbijnojmfplpaaC4V
namespace Go.Proofs.Ytkbijnojmfplpaa
open Go.ChangeShapes Go.WideShapes Go.ChangeAt Go.RowKit
theorem ct_not {C : List (Int × Int)} (h : CT C) : CT (notF C 0) ∧ (notF C 0).length ≤ C.length + 1 ∧ ∀ x, Mem x (notF C 0) ↔ (0 ≤ x ∧ x ≤ 1114111) ∧ ¬ Mem x C := by
  obtain ⟨h1, h2⟩ := notF_can (S := C) (f := 0) (c := -1) (h.can.mono (by omega)) (by omega) h.top
  exact ⟨⟨h1, notF_top (fun p hp => (h.can.ge hp).2) h.top⟩, notF_len C 0, h2⟩
theorem Good4.ct {L : List Int} {C : List (Int × Int)} (h : Good4 L C) : CT C := ⟨h.can, h.top⟩
theorem ct_range {C : List (Int × Int)} (h : CT C) {x : Int} (hx : Mem x C) : 0 ≤ x ∧ x ≤ 1114111 := by
  have := h.can.lt hx
  exact ⟨by omega, mem_le h.top hx⟩
/-- The meeting of two sets. -/
def meetD (A B : List (Int × Int)) : List (Int × Int) := notF (uniF (notF A 0) (notF B 0)) 0
theorem meetD_facts {A B : List (Int × Int)} (hA : CT A) (hB : CT B) (la : A.length ≤ 12) (lb : B.length ≤ 12) : CT (uniF (notF A 0) (notF B 0)) ∧ (uniF (notF A 0) (notF B 0)).length ≤ 26 ∧ CT (meetD A B) ∧ (meetD A B).length ≤ 27 ∧ ∀ x, Mem x (meetD A B) ↔ Mem x A ∧ Mem x B := by
  obtain ⟨a1, a2, a3⟩ := ct_not hA
  obtain ⟨b1, b2, b3⟩ := ct_not hB
  obtain ⟨u1, u2, u3⟩ := uniF_facts a1 b1 (notF B 0).length (Nat.le_refl _)
  rw [List.take_length] at u1 u2 u3
  obtain ⟨c1, c2, c3⟩ := ct_not u1
  refine ⟨u1, by omega, c1, by unfold meetD; omega, fun x => ?_⟩
  unfold meetD
  rw [c3 x, u3 x, a3 x, b3 x]
  constructor
  · rintro ⟨h1, h2⟩
    exact ⟨Classical.byContradiction fun q => h2 (.inl ⟨h1, q⟩), Classical.byContradiction fun q => h2 (.inr ⟨h1, q⟩)⟩
  · rintro ⟨h1, h2⟩
    exact ⟨ct_range hA h1, fun q => q.elim (fun q => q.2 h1) (fun q => q.2 h2)⟩
theorem uniD_facts {A B : List (Int × Int)} (hA : CT A) (hB : CT B) : CT (uniF A B) ∧ (uniF A B).length ≤ A.length + B.length ∧ ∀ x, Mem x (uniF A B) ↔ Mem x A ∨ Mem x B := by
  have := uniF_facts hA hB B.length (Nat.le_refl _)
  rwa [List.take_length] at this
section
variable (L M : List Int) (ao bo : Option Addr) (ca cb : Nat) (w : World)
end
set_option maxRecDepth 100000 in
set_option maxHeartbeats 2000000 in
theorem meet_any (a b c d : Int) (w : World) :
    Calls Try.prog 99 #[.agg #[.int .i64 a, .int .i64 b], .agg #[.int .i64 c, .int .i64 d]] w fun e w' => e = .returned (.agg #[.int .i64 (max a c), .int .i64 (min b d)]) ∧ Below w.heap.size w w' := by
  rcases (by omega : a < c ∨ a = c ∨ c < a) with h1 | h1 | h1 <;> rcases (by omega : b < d ∨ b = d ∨ d < b) with h2 | h2 | h2
  all_goals
    try subst h1
    try subst h2
    first | rw [show max a c = c by omega] | rw [show max a c = a by omega] | rw [show max a a = a by omega]
    first | rw [show min b d = b by omega] | rw [show min b d = d by omega] | rw [show min b b = b by omega]
    go_enter Try.func99, Try.ntmps99
    go_wp2
    exact bodyPost_ret (v := .agg #[.int .i64 _, .int .i64 _]) (by simp [results, Try.results99, go_sem] <;> omega) rfl ⟨rfl, (((Below.refl _ _).alloc (Nat.le_refl _) _).alloc (by simp) _).alloc (by simp; omega) _⟩
end Go.Proofs.Ytkbijnojmfplpaa

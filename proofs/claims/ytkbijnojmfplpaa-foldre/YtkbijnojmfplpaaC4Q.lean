/-
  impl.NotSet.
-/
import Derived.Test.YtkbijnojmfplpaaC4P
namespace Go.Proofs.Ytkbijnojmfplpaa
open Go.ChangeShapes Go.WideShapes Go.ChangeAt Go.RowKit
theorem spans_new (w : World) (x y : Int) (t : TypeId) (B : Nat) (hB : B = w.heap.size) : SpansAt (w.alloc (.cells #[.int .i64 x, .int .i64 y] t)) (some ⟨B, 0, none⟩) [(x, y)] := fun j hj => by
  subst hB
  obtain rfl : j = 0 := by simp at hj; omega
  refine ⟨w.heap.size, 0, rfl, by simp, ?_, ?_⟩
  · rw [World.cell?_alloc_new]; rfl
  · rw [World.cell?_alloc_new]; rfl
theorem joinSp' (S C : List (Int × Int)) (ao : Option Addr) (cap : Nat) (w : World) (n : Nat) (hn : n = S.length) (hl : S.length ≤ 1048576) (hbd : ∀ p ∈ S, -4000000 ≤ p.1 ∧ p.1 ≤ 4000000 ∧ -4000000 ≤ p.2 ∧ p.2 ≤ 4000000) (h0 : ∀ p ∈ S, p.1 < p.2 → -1 < p.1) (hC : Can (-1) C) (hM : ∀ x, Mem x C ↔ Mem x S) (hA : SpansAt w ao S) :
    Calls Try.prog 100 #[.slice ao n cap] w fun e w' => JoinE w w' C e ∧ Below w.heap.size w w' := by
  subst hn
  exact joinSp S C ao cap w hl hbd h0 hC hM hA
/-- The gaps, empty ones among them, and from where on the next one is. -/
def gapsI : List (Int × Int) → Int → List (Int × Int) × Int
  | [], f => ([], f)
  | p :: r, f => ((f, p.1) :: (gapsI r p.2).1, (gapsI r p.2).2)
theorem gapsI_snoc (A : List (Int × Int)) (p : Int × Int) (f : Int) : gapsI (A ++ [p]) f = ((gapsI A f).1 ++ [((gapsI A f).2, p.1)], p.2) := by
  induction A generalizing f with
  | nil => rfl
  | cons q r ih =>
    simp only [List.cons_append, gapsI]
    rw [ih]
theorem gapsI_mem (C : List (Int × Int)) (f x : Int) : Mem x ((gapsI C f).1 ++ [((gapsI C f).2, 1114112)]) ↔ Mem x (notF C f) := by
  induction C generalizing f with
  | nil =>
    unfold notF gapsI
    by_cases h : f ≤ 1114111
    · rw [if_pos h]; rfl
    · rw [if_neg h]
      simp only [List.nil_append, Mem]
      constructor
      · rintro (h' | h') <;> omega
      · intro h'; exact h'.elim
  | cons p r ih =>
    unfold notF gapsI
    simp only [List.cons_append]
    by_cases h : f < p.1
    · rw [if_pos h]
      simp only [Mem]
      rw [ih]
    · rw [if_neg h]
      simp only [Mem]
      rw [ih]
      exact ⟨fun q => q.elim (fun q => absurd q (by omega)) id, .inr⟩
theorem gapsI_len (C : List (Int × Int)) (f : Int) : (gapsI C f).1.length = C.length := by
  induction C generalizing f with
  | nil => rfl
  | cons p r ih => simp [gapsI, ih]
theorem gapsI_bd (C : List (Int × Int)) : ∀ (f : Int), (∀ p ∈ C, 0 ≤ p.1 ∧ p.1 ≤ 1114112 ∧ 0 ≤ p.2 ∧ p.2 ≤ 1114112) → 0 ≤ f ∧ f ≤ 1114112 → (0 ≤ (gapsI C f).2 ∧ (gapsI C f).2 ≤ 1114112) ∧ ∀ p ∈ (gapsI C f).1, 0 ≤ p.1 ∧ p.1 ≤ 1114112 ∧ 0 ≤ p.2 ∧ p.2 ≤ 1114112 := by
  induction C with
  | nil => intro f _ hf; exact ⟨hf, fun p hp => by cases hp⟩
  | cons q r ih =>
    intro f hC hf
    have hq := hC q (by simp)
    obtain ⟨i1, i2⟩ := ih q.2 (fun p hp => hC p (by simp [hp])) ⟨hq.2.2.1, hq.2.2.2⟩
    refine ⟨i1, fun p hp => ?_⟩
    rcases List.mem_cons.1 hp with rfl | hp
    · exact ⟨hf.1, hf.2, hq.1, hq.2.1⟩
    · exact i2 p hp
theorem Good4.bd {L : List Int} {C : List (Int × Int)} (h : Good4 L C) : ∀ p ∈ C, 0 ≤ p.1 ∧ p.1 ≤ 1114112 ∧ 0 ≤ p.2 ∧ p.2 ≤ 1114112 := fun p hp => by
  have h1 := h.can.ge hp
  have h2 := h.top p hp
  omega
theorem span_zero (a b : Int) (h : ¬ (a = 0 ∧ b = 0)) (w : World) : (Op.equalIn 10000 103 (.agg #[.int .i64 a, .int .i64 b]) (.agg #[.int .i64 0, .int .i64 0])).run Try.prog w = .ok false w := by
  have := span_eq w 9998 a b 0 0
  rw [decide_eq_false h] at this
  exact this
theorem span_zero' (w : World) : (Op.equalIn 10000 103 (.agg #[.int .i64 0, .int .i64 0]) (.agg #[.int .i64 0, .int .i64 0])).run Try.prog w = .ok true w := by
  have := span_eq w 9998 0 0 0 0
  simp only [and_self, decide_true] at this
  exact this
end Go.Proofs.Ytkbijnojmfplpaa

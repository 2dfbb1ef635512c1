/-
  The list of one node; what the specification asks of a tree's list.
-/
import Derived.Test.YtendikiflikobaaT5K2
import Derived.Test.YtendikiflikobaaT5J
namespace Go.Proofs.Ytendikiflikobaa
open Go.ChangeShapes Go.WideShapes Go.ChangeAt Go.WideMaps Go.WideElems Go.RowKit
theorem lit_g (w : World) (op : Int) : OwnG (w.alloc (.cells #[.int .i64 op, .slice none 0 0] 81)) w.heap.size (.slice (some ⟨w.heap.size, 0, none⟩) 1 1) [(op, [])] := by
  refine ⟨[(op, .slice none 0 0)], rfl, ⟨rfl, .inr ⟨w.heap.size, 1, _, rfl, Nat.le_refl _, heap_last2 _ _ _ rfl, Nat.le_refl _, by decide, rfl, rfl⟩⟩, fun j hj => ?_⟩
  obtain rfl : j = 0 := by simp at hj; omega
  exact ⟨rfl, by simpa [ints, qd, nd] using World.ownsRow_nil (w.alloc (.cells #[.int .i64 op, .slice none 0 0] 81)) w.heap.size 3 1⟩
set_option maxRecDepth 100000 in
theorem slitNone_any (w : World) :
    Calls Try.prog 92 #[] w fun e w' => ∃ v, e = .returned v ∧ OwnG w' w.heap.size v [(2, [])] ∧ Below w.heap.size w w' := by
  go_enter Try.func92, Try.ntmps92
  go_wp2
  go_ret
  exact ⟨_, rfl, lit_g w 2, al_T _ _⟩
/-- The last node of a tree's list is its root; a list of one node is a tree of no parts. -/
theorem post_one {t : Tr} (h : okT (some t)) : (post (some t)).length = 1 ↔ arity t.op = 0 := by
  obtain ⟨op, s, a, b⟩ := t
  rw [okT] at h
  rcases h with ⟨h1, -, rfl, rfl⟩ | ⟨h1, -, ha, rfl⟩ | ⟨h1, -, ha, hb⟩
  · rw [post_some, post_none]; simp [h1]
  · cases a with
    | none => rw [okT] at ha; exact ha.elim
    | some u => have := post_pos u; rw [post_some, post_none, List.length_append, List.length_append]; simp only [List.length_nil, List.length_singleton]; constructor <;> intro e <;> omega
  · cases a with
    | none => rw [okT] at ha; exact ha.elim
    | some u => have := post_pos u; rw [post_some, List.length_append, List.length_append]; simp only [List.length_singleton]; constructor <;> intro e <;> omega
theorem none_tree {t : Tr} (h : okT (some t)) : (decide ((post (some t)).length = 1) && (decide ((nd (post (some t)) 0).1 = 2) && decide ((nd (post (some t)) 0).2.length = 0))) = noneB (some t) := by
  obtain ⟨op, s, a, b⟩ := t
  have h0 := h
  rw [okT] at h
  rcases h with ⟨h1, -, rfl, rfl⟩ | ⟨h1, hs, ha, rfl⟩ | ⟨h1, hs, ha, hb⟩
  · rw [post_some, post_none]; simp [noneB, nd]
  · have h2 : ¬ (post (some ⟨op, s, a, none⟩)).length = 1 := fun e => by have := (post_one h0).1 e; simp at this; omega
    have h3 : op ≠ 2 := by rintro rfl; revert h1; decide
    simp [noneB, h2, h3]
  · have h2 : ¬ (post (some ⟨op, s, a, b⟩)).length = 1 := fun e => by have := (post_one h0).1 e; simp at this; omega
    have h3 : op ≠ 2 := by rintro rfl; revert h1; decide
    simp [noneB, h2, h3]
theorem nil_tree {t : Tr} (h : okT (some t)) : (decide ((post (some t)).length = 1) && decide ((nd (post (some t)) 0).1 = 1)) = decide (opT (some t) = 1) := by
  obtain ⟨op, s, a, b⟩ := t
  have h0 := h
  rw [okT] at h
  rcases h with ⟨h1, -, rfl, rfl⟩ | ⟨h1, hs, ha, rfl⟩ | ⟨h1, hs, ha, hb⟩
  · rw [post_some, post_none]; simp [opT, nd]; first | rfl | exact decide_eq_decide.2 Iff.rfl
  · have h2 : ¬ (post (some ⟨op, s, a, none⟩)).length = 1 := fun e => by have := (post_one h0).1 e; simp at this; omega
    have h3 : op ≠ 1 := by rintro rfl; revert h1; decide
    simp [opT, h2, h3]
  · have h2 : ¬ (post (some ⟨op, s, a, b⟩)).length = 1 := fun e => by have := (post_one h0).1 e; simp at this; omega
    have h3 : op ≠ 1 := by rintro rfl; revert h1; decide
    simp [opT, h2, h3]
theorem none_is {t : Tr} (h : okT (some t)) (hn : noneB (some t) = true) : post (some t) = [(2, [])] := none_post t (by rw [none_tree h, hn])
end Go.Proofs.Ytendikiflikobaa

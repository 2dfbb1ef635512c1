/-
  A tidy tree has no more nodes than the tree.
-/
import Derived.Test.YtendikiflikobaaT5K4
namespace Go.Proofs.Ytendikiflikobaa
theorem fst_len (t : Option Tr) : (post (fstT t)).length ≤ (post t).length := by
  cases t with
  | none => rw [fstT]; exact Nat.le_refl _
  | some t => obtain ⟨op, s, a, b⟩ := t; rw [fstT, post_some]; simp only [List.length_append, List.length_singleton]; omega
theorem onePart_len (op : Int) (s : List Int) (a b : Option Tr) : (post (onePart op s a b)).length ≤ (post a).length + (post b).length + 1 := by
  unfold onePart
  repeat' split
  all_goals first | omega | (rw [post_some]; simp only [List.length_append, List.length_singleton]; omega)
theorem oneOf_len (op : Int) (s : List Int) (a b : Option Tr) : (post (oneOf op s a b)).length ≤ (post a).length + (post b).length + 1 := by
  have h := fst_len a
  unfold oneOf
  repeat' split
  all_goals first | omega | (rw [post_some]; simp only [post_none, List.length_append, List.length_singleton, List.length_nil]; omega)
theorem tidy_len : ∀ t : Option Tr, (post (tidyT t)).length ≤ (post t).length
  | none => by rw [tidyT]; exact Nat.le_refl _
  | some ⟨op, s, a, b⟩ => by
    have ha := tidy_len a
    have hb := tidy_len b
    have h1 := onePart_len op s (tidyT a) (tidyT b)
    have h2 := oneOf_len op s (tidyT a) (tidyT b)
    rw [tidyT, post_some]
    simp only [List.length_append, List.length_singleton]
    split <;> omega
theorem tidy_ansLen (P : List Nd) (hl : P.length ≤ 10000) : (ansT tidyT P).length ≤ 10000 := by
  have key : (post (treeP P)).length ≤ P.length := by
    unfold treeP
    split
    · rename_i t h
      rw [(tree_of h).2]
      exact Nat.le_refl _
    · rw [post_none]; exact Nat.zero_le _
  unfold ansT
  split
  · exact Nat.le_trans (tidy_len _) (Nat.le_trans key hl)
  · exact Nat.zero_le _
end Go.Proofs.Ytendikiflikobaa

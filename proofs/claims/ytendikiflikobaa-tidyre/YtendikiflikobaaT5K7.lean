/-
  TidyRe of the specification.
-/
import Derived.Test.YtendikiflikobaaT5K6
import Derived.Test.YtendikiflikobaaT5J
namespace Go.Proofs.Ytendikiflikobaa
open Go.ChangeShapes Go.WideShapes Go.ChangeAt Go.WideMaps Go.WideElems Go.RowKit
set_option maxRecDepth 100000 in
set_option maxHeartbeats 1000000 in
theorem stidyRe_any (P : List Nd) (ao : Option Addr) (cap : Nat) (w : World) (hcap : P.length ≤ cap) (hl : szP P ≤ 1048576) (hA : ResAt w ao P) :
    Calls Try.prog 32 #[.slice ao P.length cap] w fun e w' => ∃ v, e = .returned (.tuple #[v, .bool (goodP P)]) ∧ OwnF w' w.heap.size v (ansT tidyT P).length (nd (ansT tidyT P)) ∧ Below w.heap.size w w' := by
  have HG0 : Hid (Calls Try.prog 17 #[.slice ao P.length cap] w fun e w' => e = .returned (.bool (goodP P)) ∧ Below w.heap.size w w') := sgoodRe_any P ao cap w hl hA
  have HA : Hid (ResAt w ao P) := hA
  clear hA
  cases hg : goodP P
  · have HG : Hid _ := hg
    clear hg
    rw [HG.out] at HG0
    go_enter Try.func32, Try.ntmps32
    go_wp2_with fail
    refine Calls.mono HG0.out ?_
    rintro e w1 ⟨rfl, b1⟩
    go_wp2
    go_ret2
    rw [ansT_no HG.out]
    exact ⟨_, rfl, own_none _ _ _, b1⟩
  · have HG : Hid _ := hg
    have hg2 := hg
    unfold goodP at hg2
    simp only [Bool.and_eq_true, decide_eq_true_eq] at hg2
    obtain ⟨h40, h1⟩ := hg2
    obtain ⟨t, ht⟩ := (oneP_tree P).1 h1
    obtain ⟨hpos, hsub⟩ := Sub.whole ht
    obtain ⟨-, hpost⟩ := tree_of ht
    have HT : Hid _ := ht
    have hset : ∀ y ∈ P, y.2.length ≤ 1048576 := fun y hy => Nat.le_trans (mem_len P y hy) hl
    have HMEM : Hid (∀ y ∈ post (tidyT (some t)), y.2.length ≤ 1048576) := fun y hy => by
      rcases tidy_sub (some t) (tree_of ht).1 y hy with h | h
      · exact hset y (by rw [← hpost]; exact h)
      · rw [h]; simp
    have HLN : Hid ((post (tidyT (some t))).length ≤ 10000) := (by have := tidy_len (some t); rw [hpost] at this; omega : (post (tidyT (some t))).length ≤ 10000)
    have hok : SetsOk (some t) := fun y hy => hset y (by rw [← hpost]; exact hy)
    have HC : Hid (∀ w' : World, Below w.heap.size w w' → Calls Try.prog 54 #[.slice ao P.length cap, .int .i64 ((P.length : Int) - 1)] w' fun e w'' => ∃ v, e = .returned v ∧ OwnG w'' w'.heap.size v (post (tidyT (some t))) ∧ Below w'.heap.size w' w'') := fun w' hbl => by
      have := stidy_any P ao cap (by omega) hcap hset (some t) (P.length - 1) w' hsub hok (ResAt.keepB HA.out hbl)
      rwa [show ((P.length - 1 : Nat) : Int) = (P.length : Int) - 1 by omega] at this
    clear hg ht hsub hpost hset h1 hl hcap
    rw [HG.out] at HG0
    go_enter Try.func32, Try.ntmps32
    go_wp2_with fail
    refine Calls.mono HG0.out ?_
    rintro e w1 ⟨rfl, b1⟩
    have B1 : Hid (Below w.heap.size w w1) := b1
    clear b1
    go_wp2_with fail
    refine Calls.mono (HC.out _ B1.out) ?_
    rintro e w2 ⟨v2, rfl, o2, b2⟩
    obtain ⟨a2, c2, rfl, r2⟩ := o2.form
    have R2 : Hid (ResAt w2 a2 (post (tidyT (some t)))) := r2
    have B2 : Hid (Below w.heap.size w w2) := B1.out.trans (b2.mono B1.out.size)
    have hs2 := B2.out.size
    clear o2 r2 b2
    go_wp2_with fail
    refine (sown5_any (post (tidyT (some t))) a2 _ c2 rfl w2 HLN.out HMEM.out R2.out).mono ?_
    rintro e w3 ⟨v3, rfl, o3, b3⟩
    have O3 : Hid (OwnF w3 w2.heap.size v3 (post (tidyT (some t))).length (nd (post (tidyT (some t))))) := o3
    have B3 : Hid (Below w.heap.size w w3) := B2.out.trans (b3.mono hs2)
    clear o3 b3
    go_wp2
    go_ret2
    rw [ansT_yes HG.out HT.out]
    exact ⟨_, rfl, OwnF.mono O3.out hs2, B3.out⟩
/-- What is tidy holds no more. -/
theorem szP_app (A B : List Nd) : szP (A ++ B) = szP A + szP B := by simp [szP]; omega
theorem szP_one (x : Nd) : szP [x] = 1 + x.2.length := by simp [szP]
theorem fst_sz (t : Option Tr) : szP (post (fstT t)) ≤ szP (post t) := by
  cases t with
  | none => rw [fstT]; exact Nat.le_refl _
  | some t => obtain ⟨op, s, a, b⟩ := t; rw [fstT, post_some, szP_app, szP_app]; omega
theorem onePart_sz (op : Int) (s : List Int) (a b : Option Tr) : szP (post (onePart op s a b)) ≤ szP (post a) + szP (post b) + (1 + s.length) := by
  unfold onePart
  repeat' split
  all_goals first | omega | (rw [post_some, szP_app, szP_app, szP_one]; exact Nat.le_refl _)
theorem oneOf_sz (op : Int) (s : List Int) (a b : Option Tr) : szP (post (oneOf op s a b)) ≤ szP (post a) + szP (post b) + (1 + s.length) := by
  have h := fst_sz a
  have h0 : szP ([] : List Nd) = 0 := rfl
  unfold oneOf
  repeat' split
  all_goals first | omega | (rw [post_some, szP_app, szP_app, szP_one]; first | exact Nat.le_refl _ | (rw [post_none, h0]; simp only [List.length_nil]; omega))
theorem tidy_sz : ∀ t : Option Tr, szP (post (tidyT t)) ≤ szP (post t)
  | none => by rw [tidyT]; exact Nat.le_refl _
  | some ⟨op, s, a, b⟩ => by
    have ha := tidy_sz a
    have hb := tidy_sz b
    have h1 := onePart_sz op s (tidyT a) (tidyT b)
    have h2 := oneOf_sz op s (tidyT a) (tidyT b)
    rw [tidyT, post_some, szP_app, szP_app, szP_one]
    dsimp only
    split <;> omega
theorem tidy_ansLen' (P : List Nd) : (ansT tidyT P).length ≤ 10000 := by
  cases hg : goodP P with
  | false => rw [ansT_no hg]; exact Nat.zero_le _
  | true =>
    have hg2 := hg
    unfold goodP at hg2
    simp only [Bool.and_eq_true, decide_eq_true_eq] at hg2
    exact tidy_ansLen P (by omega)
end Go.Proofs.Ytendikiflikobaa

/-
  Chapter 3 in plain terms: marks and their orders, what a rune is made of, lists sorted by buckets, lists joined from the front on, and where a list is cut; no program in it.
-/
import Derived.WalkKit
namespace Go.Proofs.Ytlkcdcdgpklpoaa
/-- A rune that is a mark. -/
def markB (r : Int) : Bool := decide (768 ≤ r ∧ r ≤ 879)
def orderN (r : Int) : Int := if 768 ≤ r ∧ r ≤ 879 then 1 + r % 5 else 0
theorem orderN_mark {r : Int} (h : 768 ≤ r ∧ r ≤ 879) : orderN r = 1 + r % 5 := by unfold orderN; rw [if_pos h]
theorem orderN_no {r : Int} (h : ¬ (768 ≤ r ∧ r ≤ 879)) : orderN r = 0 := by unfold orderN; rw [if_neg h]
theorem orderN_lo (r : Int) : 0 ≤ orderN r := by unfold orderN; split <;> omega
theorem orderN_hi (r : Int) : orderN r ≤ 5 := by unfold orderN; split <;> omega
theorem orderN_pos {r : Int} : 0 < orderN r ↔ 768 ≤ r ∧ r ≤ 879 := by
  unfold orderN; split
  · rename_i h; exact ⟨fun _ => h, fun _ => by omega⟩
  · rename_i h; exact ⟨fun h' => absurd h' (by omega), fun h' => absurd h' h⟩
/-- What a rune is made of. -/
def splitL (r : Int) : List Int :=
  if 57344 ≤ r ∧ r ≤ 57759 then [if (r - 57344) / 8 < 26 then 65 + (r - 57344) / 8 else 97 + (r - 57344) / 8 - 26, 768 + (r - 57344) % 8]
  else if 44032 ≤ r ∧ r ≤ 55203 then
    (if (r - 44032) % 28 = 0 then [4352 + (r - 44032) / 588, 4449 + (r - 44032) % 588 / 28] else [4352 + (r - 44032) / 588, 4449 + (r - 44032) % 588 / 28, 4519 + (r - 44032) % 28])
  else [r]
theorem splitL_len (r : Int) : 1 ≤ (splitL r).length ∧ (splitL r).length ≤ 3 := by
  unfold splitL
  by_cases h1 : 57344 ≤ r ∧ r ≤ 57759
  · rw [if_pos h1]; simp
  · rw [if_neg h1]
    by_cases h2 : 44032 ≤ r ∧ r ≤ 55203
    · rw [if_pos h2]
      by_cases h3 : (r - 44032) % 28 = 0
      · rw [if_pos h3]; simp
      · rw [if_neg h3]; simp
    · rw [if_neg h2]; simp
def splitAllL (L : List Int) : List Int := L.flatMap splitL
theorem splitAllL_append (A B : List Int) : splitAllL (A ++ B) = splitAllL A ++ splitAllL B := by simp [splitAllL]
theorem splitAllL_len (L : List Int) : L.length ≤ (splitAllL L).length ∧ (splitAllL L).length ≤ 3 * L.length := by
  induction L with
  | nil => simp [splitAllL]
  | cons r L ih =>
    have h := splitL_len r
    have e : (splitAllL (r :: L)).length = (splitL r).length + (splitAllL L).length := by simp [splitAllL]
    rw [e]
    simp only [List.length_cons]
    omega
/-- Two runes joined to one. -/
def placeN (r : Int) : Int := if 65 ≤ r ∧ r ≤ 90 then r - 65 else if 97 ≤ r ∧ r ≤ 122 then r - 97 + 26 else -1
def joinN (a b : Int) : Int :=
  if 0 ≤ placeN a ∧ 768 ≤ b ∧ b ≤ 775 then 57344 + 8 * placeN a + b - 768
  else if 4352 ≤ a ∧ a ≤ 4370 ∧ 4449 ≤ b ∧ b ≤ 4469 then 44032 + 588 * (a - 4352) + 28 * (b - 4449)
  else if 44032 ≤ a ∧ a ≤ 55203 ∧ (a - 44032) % 28 = 0 ∧ 4520 ≤ b ∧ b ≤ 4546 then a + b - 4519
  else -1
/-- A rune that nothing ahead of it can change. -/
def freshB (r : Int) : Bool := decide (¬ (768 ≤ r ∧ r ≤ 879) ∧ ¬ (4449 ≤ r ∧ r ≤ 4469) ∧ ¬ (4520 ≤ r ∧ r ≤ 4546))
theorem joinN_fresh {a b : Int} (h : freshB b = true) : joinN a b = -1 := by
  simp only [freshB, decide_eq_true_eq] at h
  unfold joinN
  rw [if_neg (by omega), if_neg (by omega), if_neg (by omega)]
/-- Sorting by buckets, one an order. -/
structure Sts where
  out : List Int
  b1 : List Int
  b2 : List Int
  b3 : List Int
  b4 : List Int
  b5 : List Int
def Sts.all (s : Sts) : List Int := s.out ++ s.b1 ++ s.b2 ++ s.b3 ++ s.b4 ++ s.b5
def Sts.step (s : Sts) (r : Int) : Sts :=
  if orderN r = 1 then { s with b1 := s.b1 ++ [r] }
  else if orderN r = 2 then { s with b2 := s.b2 ++ [r] }
  else if orderN r = 3 then { s with b3 := s.b3 ++ [r] }
  else if orderN r = 4 then { s with b4 := s.b4 ++ [r] }
  else if orderN r = 5 then { s with b5 := s.b5 ++ [r] }
  else ⟨s.all ++ [r], [], [], [], [], []⟩
def Sts.new : Sts := ⟨[], [], [], [], [], []⟩
def stsOf (L : List Int) : Sts := L.foldl Sts.step Sts.new
def sortL (L : List Int) : List Int := (stsOf L).all
theorem stsOf_snoc (L : List Int) (r : Int) : stsOf (L ++ [r]) = (stsOf L).step r := by simp [stsOf]
theorem Sts.step_len (s : Sts) (r : Int) : (s.step r).all.length = s.all.length + 1 := by
  unfold Sts.step
  repeat' split
  all_goals simp [Sts.all]
  all_goals omega
theorem sortL_len (L : List Int) : (sortL L).length = L.length := by
  have : ∀ (L : List Int) (s : Sts), (L.foldl Sts.step s).all.length = s.all.length + L.length := by
    intro L
    induction L with
    | nil => simp
    | cons r L ih => intro s; rw [List.foldl_cons, ih, Sts.step_len]; simp; omega
  have h := this L Sts.new
  have e : Sts.new.all.length = 0 := rfl
  show (L.foldl Sts.step Sts.new).all.length = _
  omega
theorem Sts.step_mem (s : Sts) (r x : Int) : x ∈ (s.step r).all ↔ x ∈ s.all ∨ x = r := by
  unfold Sts.step
  repeat' split
  all_goals simp only [Sts.all, List.mem_append, List.mem_singleton, List.not_mem_nil, or_false]
  all_goals grind
theorem sortL_mem (L : List Int) (x : Int) : x ∈ sortL L ↔ x ∈ L := by
  have : ∀ (L : List Int) (s : Sts), x ∈ (L.foldl Sts.step s).all ↔ x ∈ s.all ∨ x ∈ L := by
    intro L
    induction L with
    | nil => simp
    | cons r L ih => intro s; rw [List.foldl_cons, ih, Sts.step_mem]; simp [or_assoc]
  have h := this L Sts.new
  have e : Sts.new.all = [] := rfl
  rw [e] at h
  show x ∈ (L.foldl Sts.step Sts.new).all ↔ _
  rw [h]
  simp
/-- What stands ahead is carried along. -/
def Sts.ahead (P : List Int) (s : Sts) : Sts := { s with out := P ++ s.out }
theorem Sts.ahead_all (P : List Int) (s : Sts) : (s.ahead P).all = P ++ s.all := by simp [Sts.ahead, Sts.all]
theorem Sts.ahead_step (P : List Int) (s : Sts) (r : Int) : (s.ahead P).step r = (s.step r).ahead P := by
  unfold Sts.step
  repeat' split
  all_goals simp [Sts.ahead, Sts.all]
theorem Sts.ahead_fold (P : List Int) (L : List Int) (s : Sts) : L.foldl Sts.step (s.ahead P) = (L.foldl Sts.step s).ahead P := by
  induction L generalizing s with
  | nil => rfl
  | cons r L ih => rw [List.foldl_cons, List.foldl_cons, Sts.ahead_step, ih]
theorem sortL_cut (A B : List Int) (r : Int) (h : orderN r = 0) : sortL (A ++ r :: B) = sortL A ++ sortL (r :: B) := by
  have e : ∀ s : Sts, s.step r = ⟨s.all ++ [r], [], [], [], [], []⟩ := fun s => by simp [Sts.step, h]
  unfold sortL stsOf
  rw [List.foldl_append, List.foldl_cons, List.foldl_cons, e, e]
  have h1 : (⟨(A.foldl Sts.step Sts.new).all ++ [r], [], [], [], [], []⟩ : Sts) = Sts.ahead (A.foldl Sts.step Sts.new).all ⟨Sts.new.all ++ [r], [], [], [], [], []⟩ := by simp [Sts.ahead, Sts.new, Sts.all]
  rw [h1, Sts.ahead_fold, Sts.ahead_all]
/-- Joining from the front on: what stands ahead of the base, the base, the marks behind it. -/
structure Jts where
  pre : List Int
  base : Option Int
  ms : List Int
def Jts.all (s : Jts) : List Int := s.pre ++ s.base.toList ++ s.ms
def Jts.next (s : Jts) (r : Int) : Jts := if markB r then { s with ms := s.ms ++ [r] } else ⟨s.all, some r, []⟩
def openB (M : List Int) (r : Int) : Bool := M.all fun x => markB r && decide (orderN x < orderN r)
def Jts.step (s : Jts) (r : Int) : Jts :=
  match s.base with
  | none => s.next r
  | some b => if openB s.ms r = true ∧ 0 ≤ joinN b r then { s with base := some (joinN b r) } else s.next r
theorem Jts.step_none (p m : List Int) (r : Int) : Jts.step ⟨p, none, m⟩ r = Jts.next ⟨p, none, m⟩ r := rfl
theorem Jts.step_yes (p m : List Int) (b r : Int) (h : openB m r = true ∧ 0 ≤ joinN b r) : Jts.step ⟨p, some b, m⟩ r = ⟨p, some (joinN b r), m⟩ := by
  show (if openB m r = true ∧ 0 ≤ joinN b r then _ else _) = _
  rw [if_pos h]
theorem Jts.step_no (p m : List Int) (b r : Int) (h : ¬ (openB m r = true ∧ 0 ≤ joinN b r)) : Jts.step ⟨p, some b, m⟩ r = Jts.next ⟨p, some b, m⟩ r := by
  show (if openB m r = true ∧ 0 ≤ joinN b r then _ else _) = _
  rw [if_neg h]
def Jts.new : Jts := ⟨[], none, []⟩
def jtsOf (L : List Int) : Jts := L.foldl Jts.step Jts.new
def joinL (L : List Int) : List Int := (jtsOf L).all
theorem jtsOf_snoc (L : List Int) (r : Int) : jtsOf (L ++ [r]) = (jtsOf L).step r := by simp [jtsOf]
def Jts.ahead (P : List Int) (s : Jts) : Jts := { s with pre := P ++ s.pre }
theorem Jts.ahead_all (P : List Int) (s : Jts) : (s.ahead P).all = P ++ s.all := by simp [Jts.ahead, Jts.all]
theorem Jts.ahead_next (P : List Int) (s : Jts) (r : Int) : (s.ahead P).next r = (s.next r).ahead P := by
  unfold Jts.next
  split
  · rfl
  · simp [Jts.ahead, Jts.all]
theorem Jts.ahead_step (P : List Int) (s : Jts) (r : Int) : (s.ahead P).step r = (s.step r).ahead P := by
  obtain ⟨p, b, m⟩ := s
  cases b with
  | none => exact Jts.ahead_next P _ r
  | some b =>
    by_cases hc : openB m r = true ∧ 0 ≤ joinN b r
    · rw [Jts.step_yes p m b r hc]; exact Jts.step_yes (P ++ p) m b r hc
    · rw [Jts.step_no p m b r hc, ← Jts.ahead_next]; exact Jts.step_no (P ++ p) m b r hc
theorem Jts.ahead_fold (P : List Int) (L : List Int) (s : Jts) : L.foldl Jts.step (s.ahead P) = (L.foldl Jts.step s).ahead P := by
  induction L generalizing s with
  | nil => rfl
  | cons r L ih => rw [List.foldl_cons, List.foldl_cons, Jts.ahead_step, ih]
theorem freshB_mark {r : Int} (h : freshB r = true) : markB r = false := by
  simp only [freshB, decide_eq_true_eq] at h
  simp only [markB, decide_eq_false_iff_not]
  exact h.1
theorem Jts.step_fresh (s : Jts) (r : Int) (h : freshB r = true) : s.step r = ⟨s.all, some r, []⟩ := by
  have hm := freshB_mark h
  obtain ⟨p, b, m⟩ := s
  cases b with
  | none => simp [Jts.step, Jts.next, hm]
  | some b =>
    have hj := joinN_fresh (a := b) h
    simp [Jts.step, Jts.next, hm, hj]
theorem joinL_cut (A B : List Int) (r : Int) (h : freshB r = true) : joinL (A ++ r :: B) = joinL A ++ joinL (r :: B) := by
  unfold joinL jtsOf
  rw [List.foldl_append, List.foldl_cons, List.foldl_cons, Jts.step_fresh _ _ h, Jts.step_fresh _ _ h]
  have h1 : (⟨(A.foldl Jts.step Jts.new).all, some r, []⟩ : Jts) = Jts.ahead (A.foldl Jts.step Jts.new).all ⟨Jts.new.all, some r, []⟩ := by simp [Jts.ahead, Jts.new, Jts.all]
  rw [h1, Jts.ahead_fold, Jts.ahead_all]
theorem Jts.step_len (s : Jts) (r : Int) : (s.step r).all.length ≤ s.all.length + 1 := by
  obtain ⟨p, b, m⟩ := s
  have hn : ∀ s : Jts, (s.next r).all.length = s.all.length + 1 := by
    intro s; unfold Jts.next; split <;> simp [Jts.all] <;> omega
  cases b with
  | none => exact Nat.le_of_eq (hn _)
  | some b =>
    simp only [Jts.step]
    split
    · simp [Jts.all]
    · exact Nat.le_of_eq (hn _)
theorem joinL_len (L : List Int) : (joinL L).length ≤ L.length := by
  have : ∀ (L : List Int) (s : Jts), (L.foldl Jts.step s).all.length ≤ s.all.length + L.length := by
    intro L
    induction L with
    | nil => simp
    | cons r L ih => intro s; rw [List.foldl_cons]; have h1 := ih (s.step r); have h2 := s.step_len r; simp; omega
  have := this L Jts.new
  simpa [joinL, jtsOf, Jts.new, Jts.all] using this
/-- Sorted and joined. -/
def fullL (L : List Int) : List Int := joinL (sortL L)
theorem orderN_fresh {r : Int} (h : freshB r = true) : orderN r = 0 := by
  simp only [freshB, decide_eq_true_eq] at h
  exact orderN_no h.1
theorem sortL_fresh (B : List Int) (r : Int) (h : orderN r = 0) : ∃ T, sortL (r :: B) = r :: T := by
  unfold sortL stsOf
  have e : ∀ s : Sts, s.step r = ⟨s.all ++ [r], [], [], [], [], []⟩ := fun s => by simp [Sts.step, h]
  rw [List.foldl_cons, e]
  have h1 : (⟨Sts.new.all ++ [r], [], [], [], [], []⟩ : Sts) = Sts.ahead [r] Sts.new := by simp [Sts.ahead, Sts.new, Sts.all]
  rw [h1, Sts.ahead_fold, Sts.ahead_all]
  exact ⟨_, rfl⟩
theorem fullL_cut (A B : List Int) (r : Int) (h : freshB r = true) : fullL (A ++ r :: B) = fullL A ++ fullL (r :: B) := by
  unfold fullL
  obtain ⟨T, hT⟩ := sortL_fresh B r (orderN_fresh h)
  rw [sortL_cut A B r (orderN_fresh h), hT, joinL_cut _ _ _ h]
theorem fullL_nil : fullL [] = [] := rfl
/-- The place of the last fresh rune behind the first, from k on downward. -/
def cutFrom (L : List Int) : Nat → Nat
  | 0 => 0
  | k + 1 => if freshB (L.getD (k + 1) 0) = true then k + 1 else cutFrom L k
def cutN (L : List Int) : Nat := cutFrom L (L.length - 1)
theorem cutFrom_le (L : List Int) : ∀ k, cutFrom L k ≤ k
  | 0 => Nat.le_refl _
  | k + 1 => by
    unfold cutFrom
    split
    · exact Nat.le_refl _
    · exact Nat.le_succ_of_le (cutFrom_le L k)
theorem cutFrom_fresh (L : List Int) : ∀ k, 0 < cutFrom L k → freshB (L.getD (cutFrom L k) 0) = true
  | 0, h => by simp [cutFrom] at h
  | k + 1, h => by
    unfold cutFrom at h ⊢
    split
    · assumption
    · rename_i hn; rw [if_neg hn] at h; exact cutFrom_fresh L k h
theorem cutN_le (L : List Int) : cutN L ≤ L.length := by have := cutFrom_le L (L.length - 1); unfold cutN; omega
theorem cutN_split (L M : List Int) : fullL (L.take (cutN L)) ++ fullL (L.drop (cutN L) ++ M) = fullL (L ++ M) := by
  by_cases h0 : cutN L = 0
  · rw [h0]; simp [fullL_nil]
  · have hf := cutFrom_fresh L (L.length - 1) (by unfold cutN at h0; omega)
    have hlt : cutN L < L.length := by have := cutFrom_le L (L.length - 1); unfold cutN at h0 ⊢; omega
    have hd : L.drop (cutN L) = L[cutN L] :: L.drop (cutN L + 1) := List.drop_eq_getElem_cons hlt
    have hg : freshB L[cutN L] = true := by
      have : L.getD (cutFrom L (L.length - 1)) 0 = L[cutN L] := by show L.getD (cutN L) 0 = _; simp [List.getD, hlt]
      rw [← this]; exact hf
    rw [hd, List.cons_append, ← fullL_cut _ _ _ hg, ← List.cons_append, ← hd, ← List.append_assoc, List.take_append_drop]
theorem cutN_whole (L : List Int) : fullL (L.take (cutN L)) ++ fullL (L.drop (cutN L)) = fullL L := by
  have := cutN_split L []
  simpa using this
/-- Pieces and the whole: told one behind the other, they are the same. -/
theorem pieces (H A B : List Int) :
    let X := H ++ splitAllL A
    let Y := X.drop (cutN X) ++ splitAllL B
    let Z := H ++ splitAllL (A ++ B)
    fullL (X.take (cutN X)) ++ fullL (Y.take (cutN Y)) ++ fullL (Y.drop (cutN Y)) = fullL (Z.take (cutN Z)) ++ fullL (Z.drop (cutN Z)) := by
  intro X Y Z
  rw [List.append_assoc, cutN_whole Y, cutN_whole Z, cutN_split X (splitAllL B)]
  simp [X, Z, splitAllL_append]
end Go.Proofs.Ytlkcdcdgpklpoaa

/-
  JoinRunes of the program; JoinAll's state in plain terms.
-/
import Derived.Test.YtjfehgmpcgepnaaN3G
namespace Go.Proofs.Ytjfehgmpcgepnaa
open Go.ChangeShapes Go.WideShapes Go.ChangeAt Go.RowKit
theorem ret_tup {j k : Int} {a b : Bool} (h : j = k) (h' : a = b) : Ending.returned (.tuple #[.int .i64 j, .bool a]) = .returned (.tuple #[.int .i64 k, .bool b]) := by rw [h, h']
def joinV (a b : Int) : Int := if 0 ≤ joinN a b then joinN a b else 0
theorem joinV_yes {a b : Int} (h : 0 ≤ joinN a b) : joinV a b = joinN a b := by unfold joinV; rw [if_pos h]
theorem joinV_no {a b : Int} (h : ¬ 0 ≤ joinN a b) : joinV a b = 0 := by unfold joinV; rw [if_neg h]
set_option maxRecDepth 100000 in
set_option maxHeartbeats 8000000 in
theorem ijoin_any (a b : Int) (w : World) :
    Calls Try.prog 46 #[.int .i64 a, .int .i64 b] w fun e w' => e = .returned (.tuple #[.int .i64 (joinV a b), .bool (decide (0 ≤ joinN a b))]) ∧ w = w' := by
  have hph := placeN_hi a
  obtain ⟨ha, hb⟩ := kinds a b
  rcases ha with ⟨a1, a2, a3⟩ | ⟨a1, a2, a3⟩ | ⟨a1, a2, a3, a4⟩ | ⟨a1, a2, a3, a4⟩ | ⟨a1, a2, a3⟩ <;> rcases hb with ⟨b1, b2⟩ | ⟨b1, b2⟩ | ⟨b1, b2⟩ | ⟨b1, b2, b3⟩
  all_goals
    first
      | (have hj : joinN a b = 57344 + 8 * placeN a + b - 768 := joinN_1 a1 ⟨b1, b2⟩
         rw [joinV_yes (by rw [hj]; omega), decide_eq_true (show 0 ≤ joinN a b by rw [hj]; omega), hj])
      | (have hj : joinN a b = 44032 + 588 * (a - 4352) + 28 * (b - 4449) := joinN_2 ⟨a2, a3⟩ ⟨b1, b2⟩
         rw [joinV_yes (by rw [hj]; omega), decide_eq_true (show 0 ≤ joinN a b by rw [hj]; omega), hj])
      | (have hj : joinN a b = a + b - 4519 := joinN_3 ⟨a2, a3, a4⟩ ⟨b1, b2⟩
         rw [joinV_yes (by rw [hj]; omega), decide_eq_true (show 0 ≤ joinN a b by rw [hj]; omega), hj])
      | (have hj : joinN a b = -1 := joinN_0 (by omega) (by omega) (by omega)
         rw [joinV_no (by rw [hj]; omega), decide_eq_false (show ¬ 0 ≤ joinN a b by rw [hj]; omega)])
    clear hj
    first
      | have SL := fun w => place_yes a w a1
      | have SL := fun w => place_no a w a1
    generalize placeN a = p at *
    go_enter Try.func46, Try.ntmps46
    go_wp2_with (first | (go_at_call 50; refine (SL _).mono ?_; rintro e w' ⟨rfl, rfl⟩) | (go_at_call 41; first | (refine (among_yes (by omega) (by omega) _).mono ?_; rintro e w' ⟨rfl, rfl⟩) | (refine (among_no (by omega) (by omega) _).mono ?_; rintro e w' ⟨rfl, rfl⟩)) | (go_at_call 51; first | (refine (openS_yes _ _ (by omega)).mono ?_; rintro e w' ⟨rfl, rfl⟩) | (refine (openS_no _ _ (by omega)).mono ?_; rintro e w' ⟨rfl, rfl⟩)))
    go_ret2
    exact ⟨by first | rfl | exact ret_tup (by omega) rfl, rfl⟩
/-- What joining keeps: behind the base there are marks alone. -/
def Jts.Good (s : Jts) : Prop := (∀ x ∈ s.ms, markB x = true) ∧ (s.base = none → s.pre = [])
theorem Jts.Good.next {s : Jts} (h : s.Good) (r : Int) : (s.next r).Good := by
  unfold Jts.next
  cases hm : markB r
  · exact ⟨fun x hx => by simp at hx, fun h' => by simp at h'⟩
  · refine ⟨fun x hx => ?_, h.2⟩
    rcases List.mem_append.1 hx with hx | hx
    · exact h.1 x hx
    · rw [List.mem_singleton.1 hx]; exact hm
theorem Jts.Good.step {s : Jts} (h : s.Good) (r : Int) : (s.step r).Good := by
  obtain ⟨p, b, m⟩ := s
  cases b with
  | none => exact h.next r
  | some b =>
    by_cases hc : openB m r = true ∧ 0 ≤ joinN b r
    · rw [Jts.step_yes p m b r hc]; exact ⟨h.1, fun h' => by simp at h'⟩
    · rw [Jts.step_no p m b r hc]; exact h.next r
theorem jtsOf_good (L : List Int) : (jtsOf L).Good := by
  have : ∀ (L : List Int) (s : Jts), s.Good → (L.foldl Jts.step s).Good := by
    intro L
    induction L with
    | nil => intro s h; exact h
    | cons r L ih => intro s h; rw [List.foldl_cons]; exact ih _ (h.step r)
  exact this L _ ⟨fun x hx => by simp [Jts.new] at hx, fun _ => rfl⟩
/-- The base's place, -1 where there is none. -/
def Jts.at (s : Jts) : Int := match s.base with | none => -1 | some _ => (s.pre.length : Int)
def topN : List Int → Int
  | [] => 0
  | x :: l => max (orderN x) (topN l)
theorem topN_lo (l : List Int) : 0 ≤ topN l := by
  induction l with
  | nil => exact Int.le_refl _
  | cons x l ih => unfold topN; omega
theorem topN_hi (l : List Int) : topN l ≤ 5 := by
  induction l with
  | nil => unfold topN; omega
  | cons x l ih => unfold topN; have := orderN_hi x; omega
theorem topN_snoc (l : List Int) (r : Int) : topN (l ++ [r]) = max (topN l) (orderN r) := by
  induction l with
  | nil => have := orderN_lo r; simp [topN]; omega
  | cons x l ih => simp only [List.cons_append, topN, ih]; omega
theorem topN_lt (l : List Int) (o : Int) (h0 : 0 < o) : topN l < o ↔ ∀ x ∈ l, orderN x < o := by
  induction l with
  | nil => simp [topN, h0]
  | cons x l ih => simp only [topN, List.mem_cons, forall_eq_or_imp, ← ih]; omega
theorem markB_pos {r : Int} : markB r = true ↔ 0 < orderN r := by
  rw [orderN_pos]; unfold markB; simp
theorem topN_zero {l : List Int} (h : ∀ x ∈ l, markB x = true) : topN l = 0 ↔ l = [] := by
  cases l with
  | nil => simp [topN]
  | cons x l =>
    have := markB_pos.1 (h x (by simp))
    simp only [topN, reduceCtorEq, iff_false]
    omega
/-- Where the greatest order tells it. -/
theorem openB_top {l : List Int} (h : ∀ x ∈ l, markB x = true) (r : Int) : openB l r = true ↔ (topN l = 0 ∨ topN l < orderN r) := by
  have hlo := topN_lo l
  unfold openB
  rw [List.all_eq_true]
  constructor
  · intro ha
    cases l with
    | nil => left; rfl
    | cons x l =>
      right
      have hr : markB r = true := by have := ha x (by simp); simp at this; exact this.1
      refine (topN_lt _ _ (markB_pos.1 hr)).2 fun y hy => ?_
      have := ha y hy
      simp at this
      exact this.2
  · rintro (h0 | h1) x hx
    · rw [(topN_zero h).1 h0] at hx; simp at hx
    · have hr : 0 < orderN r := by omega
      have := (topN_lt l (orderN r) hr).1 h1 x hx
      simp [markB_pos.2 hr, this]
theorem set_mid (p m : List Int) (b j : Int) : (ints (p ++ [b] ++ m)).set p.length (.int .i64 j) = ints (p ++ [j] ++ m) := by
  simp [ints]
theorem get_mid (p m : List Int) (b : Int) : (p ++ [b] ++ m).getD p.length 0 = b := by simp [List.getD]
theorem Jts.next_all (s : Jts) (r : Int) : (s.next r).all = s.all ++ [r] := by
  unfold Jts.next
  cases hm : markB r
  · simp [Jts.all]
  · simp [Jts.all]
theorem Jts.next_at_mark (s : Jts) (r : Int) (h : markB r = true) : (s.next r).at = s.at := by unfold Jts.next; simp [h, Jts.at]
theorem Jts.next_at_no (s : Jts) (r : Int) (h : markB r = false) : (s.next r).at = (s.all.length : Int) := by unfold Jts.next; simp [h, Jts.at]
theorem openB_snoc (M : List Int) (j : Nat) (h : j < M.length) (r : Int) : openB (M.take (j + 1)) r = (openB (M.take j) r && (markB r && decide (orderN (M.getD j 0) < orderN r))) := by
  unfold openB
  rw [take_snoc M j h, List.all_append]
  simp
theorem joinL_snoc (L : List Int) (k : Nat) (h : k < L.length) : jtsOf (L.take (k + 1)) = (jtsOf (L.take k)).step (L.getD k 0) := by rw [take_snoc L k h, jtsOf_snoc]
theorem Jts.fold_len (L : List Int) : (jtsOf L).all.length ≤ L.length := joinL_len L
end Go.Proofs.Ytjfehgmpcgepnaa

/-
  UnionSet and MeetSet of the specification; the meeting of two spans in the program.
-/
import Derived.Test.YtpkhmihkchiheaaC4V
namespace Go.Proofs.Ytpkhmihkchiheaa
open Go.ChangeShapes Go.WideShapes Go.ChangeAt Go.RowKit
theorem ct_not {C : List (Int × Int)} (h : CT C) : CT (notF C 0) ∧ (notF C 0).length ≤ C.length + 1 ∧ ∀ x, Mem x (notF C 0) ↔ (0 ≤ x ∧ x ≤ 1114111) ∧ ¬ Mem x C := by
  obtain ⟨h1, h2⟩ := notF_can (S := C) (f := 0) (c := -1) (h.can.mono (by omega)) (by omega) h.top
  exact ⟨⟨h1, notF_top (fun p hp => (h.can.ge hp).2) h.top⟩, notF_len C 0, h2⟩
theorem Good4.ct {L : List Int} {C : List (Int × Int)} (h : Good4 L C) : CT C := ⟨h.can, h.top⟩
theorem ct_range {C : List (Int × Int)} (h : CT C) {x : Int} (hx : Mem x C) : 0 ≤ x ∧ x ≤ 1114111 := by
  have := h.can.lt hx
  exact ⟨by omega, mem_le h.top hx⟩
/-- The meeting of two sets. -/
def meetD (A B : List (Int × Int)) : List (Int × Int) := notF (uniF (notF A 0) (notF B 0)) 0
theorem meetD_facts {A B : List (Int × Int)} (hA : CT A) (hB : CT B) (la : A.length ≤ 12) (lb : B.length ≤ 12) : CT (uniF (notF A 0) (notF B 0)) ∧ (uniF (notF A 0) (notF B 0)).length ≤ 26 ∧ CT (meetD A B) ∧ (meetD A B).length ≤ 27 ∧ ∀ x, Mem x (meetD A B) ↔ Mem x A ∧ Mem x B := by
  obtain ⟨a1, a2, a3⟩ := ct_not hA
  obtain ⟨b1, b2, b3⟩ := ct_not hB
  obtain ⟨u1, u2, u3⟩ := uniF_facts a1 b1 (notF B 0).length (Nat.le_refl _)
  rw [List.take_length] at u1 u2 u3
  obtain ⟨c1, c2, c3⟩ := ct_not u1
  refine ⟨u1, by omega, c1, by unfold meetD; omega, fun x => ?_⟩
  unfold meetD
  rw [c3 x, u3 x, a3 x, b3 x]
  constructor
  · rintro ⟨h1, h2⟩
    exact ⟨Classical.byContradiction fun q => h2 (.inl ⟨h1, q⟩), Classical.byContradiction fun q => h2 (.inr ⟨h1, q⟩)⟩
  · rintro ⟨h1, h2⟩
    exact ⟨ct_range hA h1, fun q => q.elim (fun q => q.2 h1) (fun q => q.2 h2)⟩
theorem uniD_facts {A B : List (Int × Int)} (hA : CT A) (hB : CT B) : CT (uniF A B) ∧ (uniF A B).length ≤ A.length + B.length ∧ ∀ x, Mem x (uniF A B) ↔ Mem x A ∨ Mem x B := by
  have := uniF_facts hA hB B.length (Nat.le_refl _)
  rwa [List.take_length] at this
section
variable (L M : List Int) (ao bo : Option Addr) (ca cb : Nat) (w : World)
set_option maxRecDepth 100000 in
set_option maxHeartbeats 2000000 in
theorem smeet_no (hl : L.length ≤ 1048576) (hm : M.length ≤ 1048576) (hg : ¬ (goodS L = true ∧ goodS M = true)) (iA : IntsAt w ao L) (iB : IntsAt w bo M) :
    Calls Try.prog 19 #[.slice ao L.length ca, .slice bo M.length cb] w fun e w' => e = .returned (.tuple #[.slice none 0 0, .bool false]) ∧ Below w.heap.size w w' := by
  have IA : Hid _ := iA
  have IB : Hid _ := iB
  cases h1 : goodS L
  · have H1 : Hid _ := h1
    clear iA iB hg h1
    go_enter Try.func19, Try.ntmps19
    go_wp2_with fail
    refine (sgood4_any L ao ca _ hl IA.out).mono ?_
    rintro e w1 ⟨rfl, b1⟩
    rw [H1.out]
    go_wp2
    go_ret2
    exact ⟨rfl, b1⟩
  · have H1 : Hid _ := h1
    have H2 : Hid (goodS M = false) := by
      show goodS M = false
      cases h : goodS M
      · rfl
      · exact absurd ⟨h1, h⟩ hg
    clear iA iB hg h1
    go_enter Try.func19, Try.ntmps19
    go_wp2_with fail
    refine (sgood4_any L ao ca _ hl IA.out).mono ?_
    rintro e w1 ⟨rfl, b1⟩
    rw [H1.out]
    go_wp2_with fail
    refine (sgood4_any M bo cb _ hm (IntsAt.keepB IB.out b1)).mono ?_
    rintro e w2 ⟨rfl, b2⟩
    rw [H2.out]
    go_wp2
    go_ret2
    exact ⟨rfl, b1.trans (b2.mono b1.size)⟩
set_option maxRecDepth 100000 in
set_option maxHeartbeats 4000000 in
theorem smeet_yes (A B : List (Int × Int)) (hA : Good4 L A) (hB : Good4 M B) (iA : IntsAt w ao L) (iB : IntsAt w bo M) :
    Calls Try.prog 19 #[.slice ao L.length ca, .slice bo M.length cb] w fun e w' => SetE w w' (meetD A B) e ∧ Below w.heap.size w w' := by
  have IA : Hid _ := iA
  have IB : Hid _ := iB
  have G1 : Hid _ := hA.good
  have G2 : Hid _ := hB.good
  have CA : Hid _ := hA.ct
  have CB : Hid _ := hB.ct
  have la := hA.le
  have lb := hB.le
  obtain ⟨u1, u2, d1, d2, -⟩ := meetD_facts CA.out CB.out la lb
  obtain ⟨na, nal, -⟩ := ct_not CA.out
  obtain ⟨nb, nbl, -⟩ := ct_not CB.out
  have U1 : Hid _ := u1
  have D1 : Hid _ := d1
  have NA : Hid _ := na
  have NB : Hid _ := nb
  have hl : L.length ≤ 24 := (goodS_true hA.good).2.1
  have hm : M.length ≤ 24 := (goodS_true hB.good).2.1
  have FA : Hid (L = flS A) := hA.fl.symm
  have FB : Hid (M = flS B) := hB.fl.symm
  clear iA iB hA hB u1 d1 na nb
  go_enter Try.func19, Try.ntmps19
  go_wp2_with fail
  refine (sgood4_any L ao ca _ (by omega) IA.out).mono ?_
  rintro e w1 ⟨rfl, b1⟩
  rw [G1.out]
  have B1 : Hid _ := b1
  clear b1
  go_wp2_with fail
  refine (sgood4_any M bo cb _ (by omega) (IntsAt.keepB IB.out B1.out)).mono ?_
  rintro e w2 ⟨rfl, b2⟩
  rw [G2.out]
  have B2 : Hid (Below w.heap.size w w2) := B1.out.trans (b2.mono B1.out.size)
  clear b2
  go_wp2_with fail
  refine (snot_any A ao ca _ _ (by rw [← FA.out]) (by omega) CA.out.can CA.out.top (by have := IntsAt.keepB IA.out B2.out; rw [FA.out] at this; exact this)).mono ?_
  rintro e w3 ⟨v3, rfl, o3, b3⟩
  have B3 : Hid (Below w.heap.size w w3) := B2.out.trans (b3.mono B2.out.size)
  obtain ⟨-, a3, c3, rfl, i3⟩ := ints_of_own o3
  have I3 : Hid _ := i3
  clear o3 b3 i3
  go_wp2_with fail
  refine (snot_any B bo cb _ _ (by rw [← FB.out]) (by omega) CB.out.can CB.out.top (by have := IntsAt.keepB IB.out B3.out; rw [FB.out] at this; exact this)).mono ?_
  rintro e w4 ⟨v4, rfl, o4, b4⟩
  have B4 : Hid (Below w.heap.size w w4) := B3.out.trans (b4.mono B3.out.size)
  have I3' : Hid _ := IntsAt.keepB I3.out b4
  obtain ⟨-, a4, c4, rfl, i4⟩ := ints_of_own o4
  have I4 : Hid _ := i4
  clear o4 b4 i4 I3
  go_wp2_with fail
  refine (sunion_any (notF A 0) (notF B 0) a3 a4 c3 c4 _ _ _ rfl rfl NA.out NB.out (by omega) (by omega) I3'.out I4.out).mono ?_
  rintro e w5 ⟨v5, rfl, o5, b5⟩
  have B5 : Hid (Below w.heap.size w w5) := B4.out.trans (b5.mono B4.out.size)
  obtain ⟨-, a5, c5, rfl, i5⟩ := ints_of_own o5
  have I5 : Hid _ := i5
  clear o5 b5 i5 I3' I4
  go_wp2_with fail
  refine (snot_any (uniF (notF A 0) (notF B 0)) a5 c5 _ _ rfl (by omega) U1.out.can U1.out.top I5.out).mono ?_
  rintro e w6 ⟨v6, rfl, o6, b6⟩
  have B6 : Hid (Below w.heap.size w w6) := B5.out.trans (b6.mono B5.out.size)
  have O6 : Hid (w6.ownsRow w.heap.size 3 1 v6 (flS (meetD A B)).length (ints (flS (meetD A B)))) := own_mono o6 B5.out.size
  clear o6 b6
  by_cases h12 : (meetD A B).length ≤ 12
  · go_wp2_with fail
    refine (smade_yes (meetD A B) v6 _ _ D1.out.can D1.out.top h12 O6.out).mono ?_
    rintro e w7 ⟨rfl, b7⟩
    have O7 : Hid _ := World.ownsRow.keepB O6.out b7
    have B7 : Hid (Below w.heap.size w w7) := B6.out.trans (b7.mono B6.out.size)
    clear b7
    go_wp2
    go_ret2
    exact ⟨.inl ⟨h12, v6, rfl, O7.out⟩, B7.out⟩
  · go_wp2_with fail
    refine (smade_no (meetD A B) v6 _ _ D1.out.can D1.out.top (by omega) (by omega) O6.out).mono ?_
    rintro e w7 ⟨rfl, b7⟩
    have B7 : Hid (Below w.heap.size w w7) := B6.out.trans (b7.mono B6.out.size)
    clear b7
    go_wp2
    go_ret2
    exact ⟨.inr ⟨by omega, rfl⟩, B7.out⟩
end
set_option maxRecDepth 100000 in
set_option maxHeartbeats 2000000 in
theorem meet_any (a b c d : Int) (w : World) :
    Calls Try.prog 47 #[.agg #[.int .i64 a, .int .i64 b], .agg #[.int .i64 c, .int .i64 d]] w fun e w' => e = .returned (.agg #[.int .i64 (max a c), .int .i64 (min b d)]) ∧ Below w.heap.size w w' := by
  rcases (by omega : a < c ∨ a = c ∨ c < a) with h1 | h1 | h1 <;> rcases (by omega : b < d ∨ b = d ∨ d < b) with h2 | h2 | h2
  all_goals
    try subst h1
    try subst h2
    first | rw [show max a c = c by omega] | rw [show max a c = a by omega] | rw [show max a a = a by omega]
    first | rw [show min b d = b by omega] | rw [show min b d = d by omega] | rw [show min b b = b by omega]
    go_enter Try.func47, Try.ntmps47
    go_wp2
    exact bodyPost_ret (v := .agg #[.int .i64 _, .int .i64 _]) (by simp [results, Try.results47, go_sem] <;> omega) rfl ⟨rfl, (((Below.refl _ _).alloc (Nat.le_refl _) _).alloc (by simp) _).alloc (by simp; omega) _⟩
end Go.Proofs.Ytpkhmihkchiheaa

/-
  The contrary in the specification: l4Not, l4Made, NotSet.
-/
import Derived.Test.YtpkhmihkchiheaaC4O
namespace Go.Proofs.Ytpkhmihkchiheaa
open Go.ChangeShapes Go.WideShapes Go.ChangeAt Go.RowKit
theorem flS_at : ∀ (C : List (Int × Int)) (j : Nat), j < C.length → (flS C).getD (2 * j) 0 = (C.getD j (0, 0)).1 ∧ (flS C).getD (2 * j + 1) 0 = (C.getD j (0, 0)).2 - 1
  | [], j, h => by simp at h
  | p :: r, 0, _ => ⟨rfl, rfl⟩
  | p :: r, j + 1, h => by
    have := flS_at r j (by simp at h; omega)
    rw [show 2 * (j + 1) = 2 * j + 1 + 1 by omega]
    simpa [flS] using this
theorem PR_flS (C : List (Int × Int)) : PR (flS C) C.length = C := by
  refine List.ext_getElem (by simp [PR]) fun j h1 h2 => ?_
  have h := flS_at C j h2
  simp only [PR, List.getElem_map, List.getElem_range]
  rw [h.1, h.2]
  simp [List.getD, h2]
theorem flS_PR (L : List Int) (n : Nat) (hn : L.length = 2 * n) : flS (PR L n) = L := by
  refine List.ext_getElem (by rw [flS_len, PR_len, hn]) fun j h1 h2 => ?_
  have hj : j / 2 < (PR L n).length := by rw [PR_len]; omega
  have h := flS_at (PR L n) (j / 2) hj
  have e : (PR L n).getD (j / 2) (0, 0) = (L.getD (2 * (j / 2)) 0, L.getD (2 * (j / 2) + 1) 0 + 1) := by
    rw [PR_len] at hj
    simp [PR, List.getD, hj]
  rw [e] at h
  have g1 : (flS (PR L n))[j] = (flS (PR L n)).getD j 0 := by simp [List.getD, h1]
  have g2 : L[j] = L.getD j 0 := by simp [List.getD, h2]
  rw [g1, g2]
  rcases (by omega : j = 2 * (j / 2) ∨ j = 2 * (j / 2) + 1) with e | e
  · rw [← e] at h; exact h.1
  · rw [← e] at h; rw [h.2]; simp only; omega
/-- Spans that reach no further than runes do. -/
def Top (C : List (Int × Int)) : Prop := ∀ p ∈ C, p.2 ≤ 1114112
theorem goodS_flS {C : List (Int × Int)} (hc : Can (-1) C) (ht : Top C) : goodS (flS C) = decide (C.length ≤ 12) := by
  have hl := flS_len C
  by_cases h : C.length ≤ 12
  · rw [decide_eq_true h]
    refine goodS_of (n := C.length) hl (by omega) (fun j hj => ?_) (by rw [PR_flS]; exact hc)
    have hf := flS_at C j hj
    have hm : C.getD j (0, 0) ∈ C := by simp [List.getD, hj]
    have h1 := hc.ge hm
    have h2 := ht _ hm
    unfold spok
    rw [hf.1, hf.2]
    omega
  · rw [decide_eq_false h, Bool.eq_false_iff]
    intro hg
    have := (goodS_true hg).2.1
    omega
theorem top_PR {L : List Int} {n : Nat} (hs : ∀ j, j < n → spok L j) : Top (PR L n) := fun p hp => by
  simp only [PR, List.mem_map, List.mem_range] at hp
  obtain ⟨j, hj, rfl⟩ := hp
  have := hs j hj
  unfold spok at this
  show L.getD (2 * j + 1) 0 + 1 ≤ 1114112
  omega
/-- The gaps ahead of the spans so far, and from where on the next one is. -/
def gaps : List (Int × Int) → Int → List (Int × Int) × Int
  | [], f => ([], f)
  | p :: r, f => ((if f < p.1 then [(f, p.1)] else []) ++ (gaps r p.2).1, (gaps r p.2).2)
theorem gaps_snoc (A : List (Int × Int)) (p : Int × Int) (f : Int) : gaps (A ++ [p]) f = ((gaps A f).1 ++ (if (gaps A f).2 < p.1 then [((gaps A f).2, p.1)] else []), p.2) := by
  induction A generalizing f with
  | nil => simp only [List.nil_append, gaps, List.append_nil]; rfl
  | cons q r ih =>
    simp only [List.cons_append, gaps]
    rw [ih, List.append_assoc]
    rfl
theorem notF_gaps (S : List (Int × Int)) (f : Int) : notF S f = (gaps S f).1 ++ (if (gaps S f).2 ≤ 1114111 then [((gaps S f).2, 1114112)] else []) := by
  induction S generalizing f with
  | nil => simp only [notF, gaps, List.nil_append]; rfl
  | cons p r ih =>
    unfold notF gaps
    rw [ih]
    split <;> simp
theorem gaps_bd {C : List (Int × Int)} (hc : Can (-1) C) (ht : Top C) (f : Int) (hf : 0 ≤ f ∧ f ≤ 1114112) (k : Nat) : 0 ≤ (gaps (C.take k) f).2 ∧ (gaps (C.take k) f).2 ≤ 1114112 ∧ (gaps (C.take k) f).1.length ≤ k := by
  induction k with
  | zero => exact ⟨hf.1, hf.2, Nat.le_refl _⟩
  | succ k ih =>
    by_cases h : k < C.length
    · rw [take_snocS C k h, gaps_snoc]
      have hm : C.getD k (0, 0) ∈ C := by simp [List.getD, h]
      have h1 := hc.ge hm
      have h2 := ht _ hm
      refine ⟨by simp only; omega, h2, ?_⟩
      split <;> simp <;> omega
    · rw [List.take_of_length_le (by omega)]
      rw [List.take_of_length_le (by omega)] at ih
      exact ⟨ih.1, ih.2.1, by omega⟩
set_option maxRecDepth 100000 in
set_option maxHeartbeats 2000000 in
theorem snot_any (C : List (Int × Int)) (ao : Option Addr) (cap : Nat) (w : World) (n : Nat) (hn : n = (flS C).length) (hl : C.length ≤ 5000) (hc : Can (-1) C) (ht : Top C) (hA : IntsAt w ao (flS C)) :
    Calls Try.prog 48 #[.slice ao n cap] w fun e w' => ∃ v, e = .returned v ∧ w'.ownsRow w.heap.size 3 1 v (flS (notF C 0)).length (ints (flS (notF C 0))) ∧ Below w.heap.size w w' := by
  have HA : Hid _ := hA
  have HC : Hid _ := hc
  have HT : Hid _ := ht
  have HNL : Hid (n = 2 * C.length) := by show n = 2 * C.length; rw [hn, flS_len]
  have hn2 : n ≤ 10000 := by rw [hn, flS_len]; omega
  have HN : Hid _ := hn
  clear hA hc ht hn
  go_enter Try.func48, Try.ntmps48
  go_wp2
  go_loopw [3, 4, 5] (fun v f i wr => ∃ k j : Nat, k ≤ n ∧ k = 2 * j ∧ i = .int .i64 k ∧ f = .int .i64 (gaps (C.take j) 0).2 ∧ wr.ownsRow w.heap.size 3 1 v (flS (gaps (C.take j) 0).1).length (ints (flS (gaps (C.take j) 0).1)) ∧ Below w.heap.size w wr) (fun _ _ i _ => n - (intOf i).toNat)
  case atStart => exact ⟨0, 0, Nat.zero_le _, rfl, rfl, rfl, World.ownsRow_nil _ _ _ _, Below.refl _ _⟩
  case round =>
    obtain ⟨k, j, hk, hkj, rfl, rfl, hown, hbw⟩ := hrel
    have HK : Hid _ := hkj
    obtain ⟨f1, f2, f3⟩ := gaps_bd HC.out HT.out 0 (by omega) j
    by_cases hlt : k < n
    · have hltI : (k : Int) < (n : Int) := by omega
      have hj : j < C.length := by have := HNL.out; omega
      have hlt2 : k + 1 < n := by have := HNL.out; omega
      have hlt2I : (k : Int) + 1 < (n : Int) := by omega
      have hw1 : IntKind.i64.wrap ((k : Int) + 1) = (k : Int) + 1 := IntWalk.i64_in _ (by omega)
      have hn1 : ((k : Int) + 1).toNat = k + 1 := by omega
      have hp1 : (0 : Int) ≤ (k : Int) + 1 := by omega
      have hf := flS_at C j hj
      rw [← hkj] at hf
      obtain ⟨b1, o1, rfl, l1, c1⟩ := HA.out k (by rw [← HN.out]; exact hlt)
      obtain ⟨b2, o2, e2, l2, c2⟩ := HA.out (k + 1) (by rw [← HN.out]; exact hlt2)
      obtain ⟨rfl, rfl⟩ : b1 = b2 ∧ o1 = o2 := by simp at e2; exact e2
      rw [hf.1] at c1
      rw [hf.2] at c2
      have g1 : wr.cell? ⟨b1, o1 + k, none⟩ = some (.int .i64 (C.getD j (0, 0)).1) := (hbw.cell (p := ⟨b1, o1 + k, none⟩) l1).trans c1
      have g2 : wr.cell? ⟨b1, o1 + (k + 1), none⟩ = some (.int .i64 ((C.getD j (0, 0)).2 - 1)) := (hbw.cell (p := ⟨b1, o1 + (k + 1), none⟩) l1).trans c2
      have hm : C.getD j (0, 0) ∈ C := by simp [List.getD, hj]
      have s1 := HC.out.ge hm
      have s2 := HT.out _ hm
      have HS : Hid _ := gaps_snoc (C.take j) (C.getD j (0, 0)) 0
      have HTK : Hid _ := take_snocS C j hj
      have hlen : (flS (gaps (C.take j) 0).1).length ≤ 10000 := by rw [flS_len]; omega
      clear c1 c2 e2 hkj hf hm
      generalize C.getD j (0, 0) = q at *
      obtain ⟨a, b⟩ := q
      simp only at s1 s2 g1 g2
      generalize gaps (C.take j) 0 = G at *
      obtain ⟨G1, f⟩ := G
      simp only at f1 f2 f3 hown hlen
      obtain ⟨s0, s1⟩ := s1
      have OWN : Hid _ := hown
      have HB : Hid _ := hbw
      have AL : ∀ o, Below wr.heap.size wr (wr.alloc o) := fun o => (Below.refl _ _).alloc (Nat.le_refl _) o
      by_cases hfa : f < a
      · clear hown hbw
        go_wp2_with (at_builtin; refine wpA _ rfl _ _ rfl w.heap.size _ _ _ rfl (World.ownsRow.keepB OWN.out (AL _)) (some ⟨wr.heap.size, 0, none⟩) [f, a - 1] 2 2 rfl rfl (ints_new2 wr _ _ _ _ rfl) ?c1 ?c2 ?_)
        case c1 => omega
        case c2 => have := HB.out.size; simp; omega
        intro v' w3 hown3 hgrow _
        have hb3 : Below w.heap.size w w3 := Below.grown (HB.out.trans ((AL _).mono HB.out.size)) hgrow (Below.size (HB.out.trans ((AL _).mono HB.out.size))) (fun g hg => (World.ownsRow.lt OWN.out g hg).1)
        have g3 : w3.cell? ⟨b1, o1 + (k + 1), none⟩ = some (.int .i64 (b - 1)) := by
          have e1 := hb3.cell (p := ⟨b1, o1 + (k + 1), none⟩) l1
          have e2 := HB.out.cell (p := ⟨b1, o1 + (k + 1), none⟩) l1
          rw [e1, ← e2]
          exact g2
        have HE : Hid (gaps (C.take (j + 1)) 0 = (G1 ++ [(f, a)], b)) := by show gaps (C.take (j + 1)) 0 = (G1 ++ [(f, a)], b); rw [HTK.out, HS.out, if_pos hfa]
        clear hgrow g1 g2
        go_wp2
        go_roundw
        case rel => exact ⟨k + 2, j + 1, by omega, by have := HK.out; omega, by go_num, by rw [HE.out], by rw [HE.out]; exact own_cast hown3 (by rw [flS_append]; simp [flS]) (by rw [flS_append]; simp [ints, flS]), hb3⟩
        case measure => simp [intOf]; omega
      · have HE : Hid (gaps (C.take (j + 1)) 0 = (G1, b)) := by show gaps (C.take (j + 1)) 0 = (G1, b); rw [HTK.out, HS.out, if_neg hfa]; simp
        clear hown hbw AL
        go_wp2
        go_roundw
        case rel => exact ⟨k + 2, j + 1, by omega, by have := HK.out; omega, by go_num, by rw [HE.out], by rw [HE.out]; exact OWN.out, HB.out⟩
        case measure => simp [intOf]; omega
    · have hkl : k = n := by omega
      subst hkl
      have hjc : C.take j = C := List.take_of_length_le (by have := HNL.out; omega)
      rw [hjc] at f1 f2 f3 hown
      have HF : Hid _ := notF_gaps C 0
      rw [hjc]
      have hlen : (flS (gaps C 0).1).length ≤ 20000 := by rw [flS_len]; omega
      clear hkj hjc
      generalize gaps C 0 = G at *
      obtain ⟨G1, f⟩ := G
      simp only at f1 f2 f3 hown hlen
      have OWN : Hid _ := hown
      have HB : Hid _ := hbw
      have AL : ∀ o, Below wr.heap.size wr (wr.alloc o) := fun o => (Below.refl _ _).alloc (Nat.le_refl _) o
      clear hown hbw
      by_cases hfm : f ≤ 1114111
      · go_wp2_with (at_builtin; refine wpA _ rfl _ _ rfl w.heap.size _ _ _ rfl (World.ownsRow.keepB OWN.out (AL _)) (some ⟨wr.heap.size, 0, none⟩) [f, 1114111] 2 2 rfl rfl (ints_new2 wr _ _ _ _ rfl) ?c1 ?c2 ?_)
        case c1 => omega
        case c2 => have := HB.out.size; simp; omega
        intro v' w3 hown3 hgrow _
        have hb3 : Below w.heap.size w w3 := Below.grown (HB.out.trans ((AL _).mono HB.out.size)) hgrow (Below.size (HB.out.trans ((AL _).mono HB.out.size))) (fun g hg => (World.ownsRow.lt OWN.out g hg).1)
        have HE : Hid (notF C 0 = G1 ++ [(f, 1114112)]) := by show notF C 0 = _; rw [HF.out, if_pos hfm]
        clear hgrow
        go_wp2
        go_ret
        exact ⟨_, rfl, by rw [HE.out]; exact own_cast hown3 (by rw [flS_append]; simp [flS]) (by rw [flS_append]; simp [ints, flS]), hb3⟩
      · have HE : Hid (notF C 0 = G1) := by show notF C 0 = _; rw [HF.out, if_neg hfm]; simp
        go_wp2
        go_ret
        exact ⟨_, rfl, by rw [HE.out]; exact OWN.out, HB.out⟩
set_option maxRecDepth 100000 in
set_option maxHeartbeats 1000000 in
theorem smade_yes (C : List (Int × Int)) (v : Value) (base : Nat) (w : World) (hc : Can (-1) C) (ht : Top C) (h12 : C.length ≤ 12) (hA : w.ownsRow base 3 1 v (flS C).length (ints (flS C))) :
    Calls Try.prog 45 #[v] w fun e w' => e = .returned (.tuple #[v, .bool true]) ∧ Below w.heap.size w w' := by
  have HG : Hid (goodS (flS C) = true) := by show goodS (flS C) = true; rw [goodS_flS hc ht, decide_eq_true h12]
  have hl : (flS C).length ≤ 1048576 := by rw [flS_len]; omega
  obtain ⟨_, a, c, rfl, i⟩ := ints_of_own hA
  have HA : Hid _ := i
  clear hA i hc ht
  go_enter Try.func45, Try.ntmps45
  go_wp2_with fail
  refine (sgood4_any (flS C) a c _ hl HA.out).mono ?_
  rintro e w1 ⟨rfl, b1⟩
  rw [HG.out]
  go_wp2
  go_ret2
  exact ⟨rfl, b1⟩
set_option maxRecDepth 100000 in
set_option maxHeartbeats 1000000 in
theorem smade_no (C : List (Int × Int)) (v : Value) (base : Nat) (w : World) (hc : Can (-1) C) (ht : Top C) (h12 : 12 < C.length) (hl : C.length ≤ 10000) (hA : w.ownsRow base 3 1 v (flS C).length (ints (flS C))) :
    Calls Try.prog 45 #[v] w fun e w' => e = .returned (.tuple #[.slice none 0 0, .bool false]) ∧ Below w.heap.size w w' := by
  have HG : Hid (goodS (flS C) = false) := by show goodS (flS C) = false; rw [goodS_flS hc ht, decide_eq_false (by omega)]
  have hl : (flS C).length ≤ 1048576 := by rw [flS_len]; omega
  obtain ⟨_, a, c, rfl, i⟩ := ints_of_own hA
  have HA : Hid _ := i
  clear hA i hc ht
  go_enter Try.func45, Try.ntmps45
  go_wp2_with fail
  refine (sgood4_any (flS C) a c _ hl HA.out).mono ?_
  rintro e w1 ⟨rfl, b1⟩
  rw [HG.out]
  go_wp2
  go_ret2
  exact ⟨rfl, b1⟩
theorem notF_top {S : List (Int × Int)} : ∀ {f : Int}, (∀ p ∈ S, p.1 < p.2) → Top S → Top (notF S f) := by
  induction S with
  | nil =>
    intro f _ _ p hp
    unfold notF at hp
    split at hp
    · simp at hp; subst hp; exact Int.le_refl _
    · cases hp
  | cons q r ih =>
    intro f hne ht p hp
    have hq := ht q (by simp)
    have hq2 := hne q (by simp)
    have hr : Top (notF r q.2) := ih (fun p hp => hne p (by simp [hp])) fun p hp => ht p (by simp [hp])
    unfold notF at hp
    split at hp
    · rcases List.mem_cons.1 hp with rfl | hp
      · show q.1 ≤ 1114112
        omega
      · exact hr p hp
    · exact hr p hp
theorem notF_len (S : List (Int × Int)) (f : Int) : (notF S f).length ≤ S.length + 1 := by
  induction S generalizing f with
  | nil => unfold notF; split <;> simp
  | cons q r ih => unfold notF; have := ih q.2; split <;> simp <;> omega
/-- The set of a good list. -/
structure Good4 (L : List Int) (C : List (Int × Int)) : Prop where
  fl : flS C = L
  can : Can (-1) C
  top : Top C
  le : C.length ≤ 12
  pr : PR L (L.length / 2) = C
theorem good4_of {L : List Int} (h : goodS L = true) : ∃ C, Good4 L C := by
  have h1 := (goodS_true h).1
  have h2 := goodS_spok (n := L.length / 2) (by omega) h
  exact ⟨PR L (L.length / 2), flS_PR L _ (by omega), h2.2, top_PR h2.1, goodS_le h, rfl⟩
theorem Good4.ne {L : List Int} {C : List (Int × Int)} (h : Good4 L C) : ∀ p ∈ C, p.1 < p.2 := fun _ hp => (h.can.ge hp).2
theorem Good4.good {L : List Int} {C : List (Int × Int)} (h : Good4 L C) : goodS L = true := by rw [← h.fl, goodS_flS h.can h.top, decide_eq_true h.le]
/-- The contrary of a good set. -/
theorem not_facts {L : List Int} {C : List (Int × Int)} (h : Good4 L C) : Can (-1) (notF C 0) ∧ Top (notF C 0) ∧ (notF C 0).length ≤ 13 ∧ ∀ x, Mem x (notF C 0) ↔ (0 ≤ x ∧ x ≤ 1114111) ∧ ¬ Mem x C := by
  obtain ⟨h1, h2⟩ := notF_can (S := C) (f := 0) (c := -1) (h.can.mono (by omega)) (by omega) h.top
  have := notF_len C 0
  have := h.le
  exact ⟨h1, notF_top h.ne h.top, by omega, h2⟩
/-- What a function that makes a set answers. -/
def SetE (w w' : World) (D : List (Int × Int)) (e : Ending) : Prop := (D.length ≤ 12 ∧ ∃ v, e = .returned (.tuple #[v, .bool true]) ∧ w'.ownsRow w.heap.size 3 1 v (flS D).length (ints (flS D))) ∨ (12 < D.length ∧ e = .returned (.tuple #[.slice none 0 0, .bool false]))
set_option maxRecDepth 100000 in
set_option maxHeartbeats 1000000 in
theorem snotS_no (L : List Int) (ao : Option Addr) (cap : Nat) (w : World) (hl : L.length ≤ 1048576) (hg : goodS L = false) (hA : IntsAt w ao L) :
    Calls Try.prog 21 #[.slice ao L.length cap] w fun e w' => e = .returned (.tuple #[.slice none 0 0, .bool false]) ∧ Below w.heap.size w w' := by
  have HA : Hid _ := hA
  have HG : Hid _ := hg
  clear hA hg
  go_enter Try.func21, Try.ntmps21
  go_wp2_with fail
  refine (sgood4_any L ao cap _ hl HA.out).mono ?_
  rintro e w1 ⟨rfl, b1⟩
  rw [HG.out]
  go_wp2
  go_ret2
  exact ⟨rfl, b1⟩
set_option maxRecDepth 100000 in
set_option maxHeartbeats 1000000 in
theorem snotS_yes (L : List Int) (C : List (Int × Int)) (ao : Option Addr) (cap : Nat) (w : World) (hg : Good4 L C) (hA : IntsAt w ao L) :
    Calls Try.prog 21 #[.slice ao L.length cap] w fun e w' => SetE w w' (notF C 0) e ∧ Below w.heap.size w w' := by
  obtain ⟨n1, n2, n3, _⟩ := not_facts hg
  have N1 : Hid _ := n1
  have N2 : Hid _ := n2
  have HA : Hid _ := hA
  have HG : Hid _ := hg
  have HGD : Hid _ := hg.good
  have h24 : L.length ≤ 24 := (goodS_true hg.good).2.1
  have HLN : Hid (L.length = (flS C).length) := by show L.length = (flS C).length; rw [hg.fl]
  have hcl := hg.le
  clear hA hg n1 n2
  go_enter Try.func21, Try.ntmps21
  go_wp2_with fail
  refine (sgood4_any L ao cap _ (by omega) HA.out).mono ?_
  rintro e w1 ⟨rfl, b1⟩
  rw [HGD.out]
  have B1 : Hid _ := b1
  have HA1 : Hid (IntsAt w1 ao (flS C)) := by have := IntsAt.keepB HA.out b1; rw [← HG.out.fl] at this; exact this
  clear b1
  go_wp2_with fail
  refine (snot_any C ao cap _ L.length HLN.out (by omega) HG.out.can HG.out.top HA1.out).mono ?_
  rintro e w2 ⟨v, rfl, o2, b2⟩
  have B2 : Hid (Below w.heap.size w w2) := B1.out.trans (b2.mono B1.out.size)
  have O2 : Hid (w2.ownsRow w.heap.size 3 1 v (flS (notF C 0)).length (ints (flS (notF C 0)))) := own_mono o2 B1.out.size
  clear o2 b2
  by_cases h12 : (notF C 0).length ≤ 12
  · go_wp2_with fail
    refine (smade_yes (notF C 0) v _ _ N1.out N2.out h12 O2.out).mono ?_
    rintro e w3 ⟨rfl, b3⟩
    have O3 : Hid _ := World.ownsRow.keepB O2.out b3
    have B3 : Hid (Below w.heap.size w w3) := B2.out.trans (b3.mono B2.out.size)
    clear b3
    go_wp2
    go_ret2
    exact ⟨.inl ⟨h12, v, rfl, O3.out⟩, B3.out⟩
  · go_wp2_with fail
    refine (smade_no (notF C 0) v _ _ N1.out N2.out (by omega) (by omega) O2.out).mono ?_
    rintro e w3 ⟨rfl, b3⟩
    have B3 : Hid (Below w.heap.size w w3) := B2.out.trans (b3.mono B2.out.size)
    clear b3
    go_wp2
    go_ret2
    exact ⟨.inr ⟨by omega, rfl⟩, B3.out⟩
end Go.Proofs.Ytpkhmihkchiheaa

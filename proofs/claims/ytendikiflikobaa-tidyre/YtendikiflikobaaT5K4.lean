/-
  One of two parts, where that is enough: the specification.
-/
import Derived.Test.YtendikiflikobaaT5K3
namespace Go.Proofs.Ytendikiflikobaa
open Go.ChangeShapes Go.WideShapes Go.ChangeAt Go.WideMaps Go.WideElems Go.RowKit
theorem nil_is {t : Tr} (h : okT (some t)) (hn : opT (some t) = 1) : post (some t) = [(1, [])] := by
  obtain ⟨op, s, a, b⟩ := t
  obtain rfl : op = 1 := hn
  rw [okT] at h
  rcases h with ⟨h1, h2, rfl, rfl⟩ | ⟨h1, -⟩ | ⟨h1, -⟩
  · rw [post_some, post_none]
    cases s with
    | nil => rfl
    | cons x r => simp [nodeB] at h2
  · exact absurd h1 (by decide)
  · exact absurd h1 (by decide)
theorem op_none {t : Option Tr} (h : noneB t = true) : opT t = 2 := by
  cases t with
  | none => simp [noneB] at h
  | some t => obtain ⟨op, s, a, b⟩ := t; simp [noneB] at h; exact h.1
theorem two_none {op : Int} {t u : Tr} (ht : okT (some t)) (hu : okT (some u)) (h : op = 3 ∨ op = 5) (hn : noneB (some t) = true ∨ noneB (some u) = true) : post (onePart op [] (some t) (some u)) = [(2, [])] := by
  by_cases ha : noneB (some t) = true
  · rcases h with rfl | rfl
    · rw [onePart, if_pos rfl, if_pos (.inl ha)]; exact none_is ht ha
    · rw [onePart, if_neg (by decide), if_neg (by decide), if_pos rfl, if_pos (.inl ha)]; exact none_is ht ha
  · have hb := hn.resolve_left ha
    rcases h with rfl | rfl
    · have h1 : ¬ opT (some u) = 1 := by rw [op_none hb]; decide
      rw [onePart, if_pos rfl, if_neg (by rintro (e | e); exact ha e; exact h1 e), if_pos (.inl hb)]; exact none_is hu hb
    · have h1 : ¬ eqT (some t) (some u) = true := fun e => by rw [(eqT_iff _ _).1 e] at ha; exact ha hb
      rw [onePart, if_neg (by decide), if_neg (by decide), if_pos rfl, if_neg (by rintro (e | e); exact ha e; exact h1 e), if_pos hb]; exact none_is hu hb
theorem two_3b {t u : Tr} (ht : okT (some t)) (hu : okT (some u)) (ha : noneB (some t) = false) (h1 : opT (some t) = 1) : post (onePart 3 [] (some t) (some u)) = post (some u) := by
  rw [onePart, if_pos rfl]
  by_cases h2 : opT (some u) = 1
  · rw [if_pos (.inr h2), nil_is ht h1, nil_is hu h2]
  · rw [if_neg (by rintro (e | e); rw [ha] at e; exact absurd e (by decide); exact h2 e), if_pos (.inr h1)]
theorem two_3a {t u : Tr} (h2 : opT (some u) = 1) : post (onePart 3 [] (some t) (some u)) = post (some t) := by
  rw [onePart, if_pos rfl, if_pos (.inr h2)]
theorem two_3c {t u : Tr} (ha : noneB (some t) = false) (hb : noneB (some u) = false) (h1 : ¬ opT (some t) = 1) (h2 : ¬ opT (some u) = 1) : post (onePart 3 [] (some t) (some u)) = post (some t) ++ post (some u) ++ [(3, [])] := by
  rw [onePart, if_pos rfl, ha, hb, if_neg (by simp [h2]), if_neg (by simp [h1]), post_some]
theorem two_4b {t u : Tr} (ha : noneB (some t) = true) : post (onePart 4 [] (some t) (some u)) = post (some u) := by
  rw [onePart, if_neg (by decide), if_pos rfl, if_pos ha]
theorem two_4a {t u : Tr} (ha : noneB (some t) = false) (h : noneB (some u) = true ∨ eqT (some t) (some u) = true) : post (onePart 4 [] (some t) (some u)) = post (some t) := by
  rw [onePart, if_neg (by decide), if_pos rfl, ha, if_neg (by decide), if_pos h]
theorem two_4c {t u : Tr} (ha : noneB (some t) = false) (hb : noneB (some u) = false) (h : eqT (some t) (some u) = false) : post (onePart 4 [] (some t) (some u)) = post (some t) ++ post (some u) ++ [(4, [])] := by
  rw [onePart, if_neg (by decide), if_pos rfl, ha, hb, h, if_neg (by decide), if_neg (by decide), post_some]
theorem two_5a {t u : Tr} (h : eqT (some t) (some u) = true) : post (onePart 5 [] (some t) (some u)) = post (some t) := by
  rw [onePart, if_neg (by decide), if_neg (by decide), if_pos rfl, if_pos (.inr h)]
theorem two_5c {t u : Tr} (ha : noneB (some t) = false) (hb : noneB (some u) = false) (h : eqT (some t) (some u) = false) : post (onePart 5 [] (some t) (some u)) = post (some t) ++ post (some u) ++ [(5, [])] := by
  rw [onePart, if_neg (by decide), if_neg (by decide), if_pos rfl, ha, hb, h, if_neg (by decide), if_neg (by decide), post_some]
theorem same_tree {t u : Tr} (ht : okT (some t)) (hu : okT (some u)) : decide (post (some t) = post (some u)) = eqT (some t) (some u) := by
  rw [Bool.eq_iff_iff, decide_eq_true_eq, eqT_iff]
  exact ⟨fun e => congrArg some (post_inj ht hu e), fun e => by rw [e]⟩
set_option maxRecDepth 100000 in
set_option maxHeartbeats 4000000 in
theorem stwo_any (op : Int) (hop : op = 3 ∨ op = 4 ∨ op = 5) (t u : Tr) (ht : okT (some t)) (hu : okT (some u)) (va vb : Value) (base : Nat) (w : World) (hbase : base ≤ w.heap.size) (oa : OwnG w base va (post (some t))) (ob : OwnG w base vb (post (some u)))
    (hlen : (post (some t)).length + (post (some u)).length + 1 ≤ 10000) (hst : SetsOk (some t)) :
    Calls Try.prog 98 #[.int .i64 op, va, vb] w fun e w' => ∃ v, e = .returned v ∧ OwnG w' base v (post (onePart op [] (some t) (some u))) ∧ Below base w w' := by
  obtain ⟨aa, ca, rfl, ra⟩ := oa.form
  obtain ⟨ab, cb, rfl, rb⟩ := ob.form
  obtain ⟨na, hna⟩ : ∃ x, x = noneB (some t) := ⟨_, rfl⟩
  obtain ⟨nb, hnb⟩ : ∃ x, x = noneB (some u) := ⟨_, rfl⟩
  obtain ⟨ea, hea⟩ : ∃ x, x = decide (opT (some t) = 1) := ⟨_, rfl⟩
  obtain ⟨eb, heb⟩ : ∃ x, x = decide (opT (some u) = 1) := ⟨_, rfl⟩
  obtain ⟨sm, hsm⟩ : ∃ x, x = eqT (some t) (some u) := ⟨_, rfl⟩
  have NA : Hid (Calls Try.prog 100 #[.slice aa (post (some t)).length ca] w fun e w' => e = .returned (.bool na) ∧ w' = w) := by rw [hna, ← none_tree ht]; exact snone_any _ aa ca w ra
  have NB : Hid (Calls Try.prog 100 #[.slice ab (post (some u)).length cb] w fun e w' => e = .returned (.bool nb) ∧ w' = w) := by rw [hnb, ← none_tree hu]; exact snone_any _ ab cb w rb
  have EA : Hid (Calls Try.prog 99 #[.slice aa (post (some t)).length ca] w fun e w' => e = .returned (.bool ea) ∧ w' = w) := by rw [hea, ← nil_tree ht]; exact snil_any _ aa ca w ra
  have EB : Hid (Calls Try.prog 99 #[.slice ab (post (some u)).length cb] w fun e w' => e = .returned (.bool eb) ∧ w' = w) := by rw [heb, ← nil_tree hu]; exact snil_any _ ab cb w rb
  have SM : Hid (Calls Try.prog 118 #[.slice aa (post (some t)).length ca, .slice ab (post (some u)).length cb] w fun e w' => e = .returned (.bool sm) ∧ Below w.heap.size w w') := by
    rw [hsm, ← same_tree ht hu]
    exact ssameP_any _ _ aa ab ca cb w (by omega) (fun j hj => hst _ (by simp [nd, List.getD, hj])) ra rb
  have OWN : Hid (∀ w', Below w.heap.size w w' → Calls Try.prog 53 #[.slice aa (post (some t)).length ca] w' fun e w'' => ∃ v, e = .returned v ∧ OwnF w'' w'.heap.size v (post (some t)).length (nd (post (some t))) ∧ Below w'.heap.size w' w'') := fun w' hb => sown5_any _ aa _ ca rfl w' (by omega) hst (ResAt.keepB ra hb)
  have OA : Hid (OwnG w base (.slice aa (post (some t)).length ca) (post (some t))) := oa
  have OB : Hid (OwnG w base (.slice ab (post (some u)).length cb) (post (some u))) := ob
  have HT : Hid (okT (some t)) := ht
  have HU : Hid (okT (some u)) := hu
  have HNA : Hid (na = noneB (some t)) := hna
  have HNB : Hid (nb = noneB (some u)) := hnb
  have HEA : Hid (ea = decide (opT (some t) = 1)) := hea
  have HEB : Hid (eb = decide (opT (some u) = 1)) := heb
  have HSM : Hid (sm = eqT (some t) (some u)) := hsm
  have hla : 0 < (post (some t)).length := post_pos t
  clear ht hu oa ob ra rb hna hnb hea heb hsm hst
  rcases hop with rfl | rfl | rfl
  · cases na
    · cases nb
      · cases ea
        · cases eb
          · have h1 : ¬ opT (some t) = 1 := fun e => by have := HEA.out; rw [e] at this; simp at this
            have h2 : ¬ opT (some u) = 1 := fun e => by have := HEB.out; rw [e] at this; simp at this
            have HV : Hid (post (onePart 3 [] (some t) (some u)) = post (some t) ++ post (some u) ++ [(3, [])]) := two_3c HNA.out.symm HNB.out.symm h1 h2
            go_enter Try.func98, Try.ntmps98
            go_wp2_with fail
            with_reducible refine Calls.mono NA.out ?_
            rintro e w1 ⟨rfl, rfl⟩
            go_wp2_with fail
            with_reducible refine Calls.mono NB.out ?_
            rintro e w1 ⟨rfl, rfl⟩
            go_wp2_with fail
            with_reducible refine Calls.mono EA.out ?_
            rintro e w1 ⟨rfl, rfl⟩
            go_wp2_with fail
            with_reducible refine Calls.mono EB.out ?_
            rintro e w1 ⟨rfl, rfl⟩
            go_wp2_with fail
            refine Calls.mono (OWN.out _ (Below.refl _ _)) ?_
            rintro e w4 ⟨v4, rfl, o4, b4⟩
            have O4 : Hid (OwnG w4 base v4 (post (some t))) := (OwnF.g o4).mono hbase
            have O5 : Hid (OwnG w4 base (.slice ab (post (some u)).length cb) (post (some u))) := OwnG.keepB OB.out b4
            have B4 := b4
            have hs4 : base ≤ w4.heap.size := Nat.le_trans hbase B4.size
            have HB4 : Hid _ := B4
            clear o4 b4 B4
            go_wp2_with (at_builtin; first | (refine wpG _ rfl (.tmp 62) (.tmp 63) rfl base v4 _ (post (some t)) (post (some u)) rfl rfl O4.out O5.out (by omega) hs4 ?_; intro v6 w6 o6 g6 b6; have O6 : Hid _ := o6; have G6 : Hid _ := g6; have B6 : Hid (Below base w4 w6) := b6; have hs6 : base ≤ w6.heap.size := Nat.le_trans hs4 b6.size; clear o6 g6 b6 O4 O5) | (refine wpN _ rfl (.tmp 64) (.tmp 67) rfl base v6 (post (some t) ++ post (some u)) rfl (OwnG.keepB O6.out (al_T _ _)) w6.heap.size 1 3 rfl (cell2_new _ _ _ _).1 (cell2_new _ _ _ _).2 (by rw [List.length_append]; omega) (Nat.le_trans hs6 (al_T _ _).size) ?_; intro v7 w7 o7 b7; have O7 : Hid (OwnG w7 base v7 (post (some t) ++ post (some u) ++ [(3, [])])) := o7; have B7 : Hid (Below base w6 w7) := ((al_T _ _).mono hs6).trans b7; clear o7 b7))
            go_wp2
            go_ret
            exact ⟨v7, by first | rfl | simp, by rw [HV.out]; exact O7.out, (HB4.out.mono hbase).trans (B6.out.trans B7.out)⟩
          · have HV : Hid (post (onePart 3 [] (some t) (some u)) = post (some t)) := two_3a (of_decide_eq_true HEB.out.symm)
            go_enter Try.func98, Try.ntmps98
            go_wp2_with fail
            with_reducible refine Calls.mono NA.out ?_
            rintro e w1 ⟨rfl, rfl⟩
            go_wp2_with fail
            with_reducible refine Calls.mono NB.out ?_
            rintro e w1 ⟨rfl, rfl⟩
            go_wp2_with fail
            with_reducible refine Calls.mono EA.out ?_
            rintro e w1 ⟨rfl, rfl⟩
            go_wp2_with fail
            with_reducible refine Calls.mono EB.out ?_
            rintro e w1 ⟨rfl, rfl⟩
            go_wp2
            go_ret
            exact ⟨_, rfl, by rw [HV.out]; exact OA.out, Below.refl _ _⟩
        · have HV : Hid (post (onePart 3 [] (some t) (some u)) = post (some u)) := two_3b HT.out HU.out HNA.out.symm (of_decide_eq_true HEA.out.symm)
          go_enter Try.func98, Try.ntmps98
          go_wp2_with fail
          with_reducible refine Calls.mono NA.out ?_
          rintro e w1 ⟨rfl, rfl⟩
          go_wp2_with fail
          with_reducible refine Calls.mono NB.out ?_
          rintro e w1 ⟨rfl, rfl⟩
          go_wp2_with fail
          with_reducible refine Calls.mono EA.out ?_
          rintro e w1 ⟨rfl, rfl⟩
          go_wp2
          go_ret
          exact ⟨_, rfl, by rw [HV.out]; exact OB.out, Below.refl _ _⟩
      · have HV : Hid (post (onePart 3 [] (some t) (some u)) = [(2, [])]) := two_none HT.out HU.out (.inl rfl) (by rw [← HNA.out, ← HNB.out]; simp)
        go_enter Try.func98, Try.ntmps98
        go_wp2_with fail
        with_reducible refine Calls.mono NA.out ?_
        rintro e w1 ⟨rfl, rfl⟩
        go_wp2_with fail
        with_reducible refine Calls.mono NB.out ?_
        rintro e w1 ⟨rfl, rfl⟩
        go_wp2_with fail
        refine (slitNone_any _).mono ?_
        rintro e w3 ⟨v, rfl, o3, b3⟩
        have O3 : Hid _ := o3.mono hbase
        have B3 : Hid _ := b3.mono hbase
        clear o3 b3
        go_wp2
        go_ret
        exact ⟨v, rfl, by rw [HV.out]; exact O3.out, B3.out⟩
    · have HV : Hid (post (onePart 3 [] (some t) (some u)) = [(2, [])]) := two_none HT.out HU.out (.inl rfl) (by rw [← HNA.out, ← HNB.out]; simp)
      go_enter Try.func98, Try.ntmps98
      go_wp2_with fail
      with_reducible refine Calls.mono NA.out ?_
      rintro e w1 ⟨rfl, rfl⟩
      go_wp2_with fail
      refine (slitNone_any _).mono ?_
      rintro e w3 ⟨v, rfl, o3, b3⟩
      have O3 : Hid _ := o3.mono hbase
      have B3 : Hid _ := b3.mono hbase
      clear o3 b3
      go_wp2
      go_ret
      exact ⟨v, rfl, by rw [HV.out]; exact O3.out, B3.out⟩
  · cases na
    · cases nb
      · cases sm
        · have HV : Hid (post (onePart 4 [] (some t) (some u)) = post (some t) ++ post (some u) ++ [(4, [])]) := two_4c HNA.out.symm HNB.out.symm HSM.out.symm
          go_enter Try.func98, Try.ntmps98
          go_wp2_with fail
          with_reducible refine Calls.mono NA.out ?_
          rintro e w1 ⟨rfl, rfl⟩
          go_wp2_with fail
          with_reducible refine Calls.mono NB.out ?_
          rintro e w1 ⟨rfl, rfl⟩
          go_wp2_with fail
          with_reducible refine Calls.mono NA.out ?_
          rintro e w1 ⟨rfl, rfl⟩
          go_wp2_with fail
          with_reducible refine Calls.mono NB.out ?_
          rintro e w1 ⟨rfl, rfl⟩
          go_wp2_with fail
          with_reducible refine Calls.mono SM.out ?_
          rintro e w2 ⟨rfl, b2⟩
          have B2 : Hid _ := b2
          have hs2 := b2.size
          clear b2
          have OB2 : Hid (OwnG w2 base (.slice ab (post (some u)).length cb) (post (some u))) := OwnG.keepB OB.out B2.out
          go_wp2_with fail
          refine Calls.mono (OWN.out _ (B2.out)) ?_
          rintro e w4 ⟨v4, rfl, o4, b4⟩
          have O4 : Hid (OwnG w4 base v4 (post (some t))) := (OwnF.g o4).mono (Nat.le_trans hbase hs2)
          have O5 : Hid (OwnG w4 base (.slice ab (post (some u)).length cb) (post (some u))) := OwnG.keepB OB2.out b4
          have B4 := B2.out.trans (b4.mono hs2)
          have hs4 : base ≤ w4.heap.size := Nat.le_trans hbase B4.size
          have HB4 : Hid _ := B4
          clear o4 b4 B4
          go_wp2_with (at_builtin; first | (refine wpG _ rfl (.tmp 62) (.tmp 63) rfl base v4 _ (post (some t)) (post (some u)) rfl rfl O4.out O5.out (by omega) hs4 ?_; intro v6 w6 o6 g6 b6; have O6 : Hid _ := o6; have G6 : Hid _ := g6; have B6 : Hid (Below base w4 w6) := b6; have hs6 : base ≤ w6.heap.size := Nat.le_trans hs4 b6.size; clear o6 g6 b6 O4 O5) | (refine wpN _ rfl (.tmp 64) (.tmp 67) rfl base v6 (post (some t) ++ post (some u)) rfl (OwnG.keepB O6.out (al_T _ _)) w6.heap.size 1 4 rfl (cell2_new _ _ _ _).1 (cell2_new _ _ _ _).2 (by rw [List.length_append]; omega) (Nat.le_trans hs6 (al_T _ _).size) ?_; intro v7 w7 o7 b7; have O7 : Hid (OwnG w7 base v7 (post (some t) ++ post (some u) ++ [(4, [])])) := o7; have B7 : Hid (Below base w6 w7) := ((al_T _ _).mono hs6).trans b7; clear o7 b7))
          go_wp2
          go_ret
          exact ⟨v7, by first | rfl | simp, by rw [HV.out]; exact O7.out, (HB4.out.mono hbase).trans (B6.out.trans B7.out)⟩
        · have HV : Hid (post (onePart 4 [] (some t) (some u)) = post (some t)) := two_4a HNA.out.symm (.inr HSM.out.symm)
          go_enter Try.func98, Try.ntmps98
          go_wp2_with fail
          with_reducible refine Calls.mono NA.out ?_
          rintro e w1 ⟨rfl, rfl⟩
          go_wp2_with fail
          with_reducible refine Calls.mono NB.out ?_
          rintro e w1 ⟨rfl, rfl⟩
          go_wp2_with fail
          with_reducible refine Calls.mono NA.out ?_
          rintro e w1 ⟨rfl, rfl⟩
          go_wp2_with fail
          with_reducible refine Calls.mono NB.out ?_
          rintro e w1 ⟨rfl, rfl⟩
          go_wp2_with fail
          with_reducible refine Calls.mono SM.out ?_
          rintro e w2 ⟨rfl, b2⟩
          have B2 : Hid _ := b2
          have hs2 := b2.size
          clear b2
          go_wp2
          go_ret
          exact ⟨_, rfl, by rw [HV.out]; exact OwnG.keepB OA.out B2.out, B2.out.mono hbase⟩
      · have HV : Hid (post (onePart 4 [] (some t) (some u)) = post (some t)) := two_4a HNA.out.symm (.inl HNB.out.symm)
        go_enter Try.func98, Try.ntmps98
        go_wp2_with fail
        with_reducible refine Calls.mono NA.out ?_
        rintro e w1 ⟨rfl, rfl⟩
        go_wp2_with fail
        with_reducible refine Calls.mono NB.out ?_
        rintro e w1 ⟨rfl, rfl⟩
        go_wp2_with fail
        with_reducible refine Calls.mono NA.out ?_
        rintro e w1 ⟨rfl, rfl⟩
        go_wp2_with fail
        with_reducible refine Calls.mono NB.out ?_
        rintro e w1 ⟨rfl, rfl⟩
        go_wp2
        go_ret
        exact ⟨_, rfl, by rw [HV.out]; exact OA.out, Below.refl _ _⟩
    · have HV : Hid (post (onePart 4 [] (some t) (some u)) = post (some u)) := two_4b HNA.out.symm
      go_enter Try.func98, Try.ntmps98
      go_wp2_with fail
      with_reducible refine Calls.mono NA.out ?_
      rintro e w1 ⟨rfl, rfl⟩
      go_wp2_with fail
      with_reducible refine Calls.mono NA.out ?_
      rintro e w1 ⟨rfl, rfl⟩
      go_wp2
      go_ret
      exact ⟨_, rfl, by rw [HV.out]; exact OB.out, Below.refl _ _⟩
  · cases na
    · cases nb
      · cases sm
        · have HV : Hid (post (onePart 5 [] (some t) (some u)) = post (some t) ++ post (some u) ++ [(5, [])]) := two_5c HNA.out.symm HNB.out.symm HSM.out.symm
          go_enter Try.func98, Try.ntmps98
          go_wp2_with fail
          with_reducible refine Calls.mono NA.out ?_
          rintro e w1 ⟨rfl, rfl⟩
          go_wp2_with fail
          with_reducible refine Calls.mono NB.out ?_
          rintro e w1 ⟨rfl, rfl⟩
          go_wp2_with fail
          with_reducible refine Calls.mono SM.out ?_
          rintro e w2 ⟨rfl, b2⟩
          have B2 : Hid _ := b2
          have hs2 := b2.size
          clear b2
          have OB2 : Hid (OwnG w2 base (.slice ab (post (some u)).length cb) (post (some u))) := OwnG.keepB OB.out B2.out
          go_wp2_with fail
          refine Calls.mono (OWN.out _ (B2.out)) ?_
          rintro e w4 ⟨v4, rfl, o4, b4⟩
          have O4 : Hid (OwnG w4 base v4 (post (some t))) := (OwnF.g o4).mono (Nat.le_trans hbase hs2)
          have O5 : Hid (OwnG w4 base (.slice ab (post (some u)).length cb) (post (some u))) := OwnG.keepB OB2.out b4
          have B4 := B2.out.trans (b4.mono hs2)
          have hs4 : base ≤ w4.heap.size := Nat.le_trans hbase B4.size
          have HB4 : Hid _ := B4
          clear o4 b4 B4
          go_wp2_with (at_builtin; first | (refine wpG _ rfl (.tmp 62) (.tmp 63) rfl base v4 _ (post (some t)) (post (some u)) rfl rfl O4.out O5.out (by omega) hs4 ?_; intro v6 w6 o6 g6 b6; have O6 : Hid _ := o6; have G6 : Hid _ := g6; have B6 : Hid (Below base w4 w6) := b6; have hs6 : base ≤ w6.heap.size := Nat.le_trans hs4 b6.size; clear o6 g6 b6 O4 O5) | (refine wpN _ rfl (.tmp 64) (.tmp 67) rfl base v6 (post (some t) ++ post (some u)) rfl (OwnG.keepB O6.out (al_T _ _)) w6.heap.size 1 5 rfl (cell2_new _ _ _ _).1 (cell2_new _ _ _ _).2 (by rw [List.length_append]; omega) (Nat.le_trans hs6 (al_T _ _).size) ?_; intro v7 w7 o7 b7; have O7 : Hid (OwnG w7 base v7 (post (some t) ++ post (some u) ++ [(5, [])])) := o7; have B7 : Hid (Below base w6 w7) := ((al_T _ _).mono hs6).trans b7; clear o7 b7))
          go_wp2
          go_ret
          exact ⟨v7, by first | rfl | simp, by rw [HV.out]; exact O7.out, (HB4.out.mono hbase).trans (B6.out.trans B7.out)⟩
        · have HV : Hid (post (onePart 5 [] (some t) (some u)) = post (some t)) := two_5a HSM.out.symm
          go_enter Try.func98, Try.ntmps98
          go_wp2_with fail
          with_reducible refine Calls.mono NA.out ?_
          rintro e w1 ⟨rfl, rfl⟩
          go_wp2_with fail
          with_reducible refine Calls.mono NB.out ?_
          rintro e w1 ⟨rfl, rfl⟩
          go_wp2_with fail
          with_reducible refine Calls.mono SM.out ?_
          rintro e w2 ⟨rfl, b2⟩
          have B2 : Hid _ := b2
          have hs2 := b2.size
          clear b2
          go_wp2
          go_ret
          exact ⟨_, rfl, by rw [HV.out]; exact OwnG.keepB OA.out B2.out, B2.out.mono hbase⟩
      · have HV : Hid (post (onePart 5 [] (some t) (some u)) = [(2, [])]) := two_none HT.out HU.out (.inr rfl) (by rw [← HNA.out, ← HNB.out]; simp)
        go_enter Try.func98, Try.ntmps98
        go_wp2_with fail
        with_reducible refine Calls.mono NA.out ?_
        rintro e w1 ⟨rfl, rfl⟩
        go_wp2_with fail
        with_reducible refine Calls.mono NB.out ?_
        rintro e w1 ⟨rfl, rfl⟩
        go_wp2_with fail
        refine (slitNone_any _).mono ?_
        rintro e w3 ⟨v, rfl, o3, b3⟩
        have O3 : Hid _ := o3.mono hbase
        have B3 : Hid _ := b3.mono hbase
        clear o3 b3
        go_wp2
        go_ret
        exact ⟨v, rfl, by rw [HV.out]; exact O3.out, B3.out⟩
    · have HV : Hid (post (onePart 5 [] (some t) (some u)) = [(2, [])]) := two_none HT.out HU.out (.inr rfl) (by rw [← HNA.out, ← HNB.out]; simp)
      go_enter Try.func98, Try.ntmps98
      go_wp2_with fail
      with_reducible refine Calls.mono NA.out ?_
      rintro e w1 ⟨rfl, rfl⟩
      go_wp2_with fail
      refine (slitNone_any _).mono ?_
      rintro e w3 ⟨v, rfl, o3, b3⟩
      have O3 : Hid _ := o3.mono hbase
      have B3 : Hid _ := b3.mono hbase
      clear o3 b3
      go_wp2
      go_ret
      exact ⟨v, rfl, by rw [HV.out]; exact O3.out, B3.out⟩
end Go.Proofs.Ytendikiflikobaa

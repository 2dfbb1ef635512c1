/-
  l5Tidy of the specification.
-/
import Derived.Test.YtendikiflikobaaT5K5
namespace Go.Proofs.Ytendikiflikobaa
open Go.ChangeShapes Go.WideShapes Go.ChangeAt Go.WideMaps Go.WideElems Go.RowKit
theorem last_nd (t : Tr) : nd (post (some t)) ((post (some t)).length - 1) = (t.op, t.s) := by
  obtain ⟨op, s, a, b⟩ := t
  rw [post_some, List.length_append, List.length_singleton, Nat.add_sub_cancel, nd_new]
/-- The list without its last node. -/
theorem OwnG.cut {w : World} {base : Nat} {A : List Nd} {x : Nd} {ao : Option Addr} {n cap : Nat} (h : OwnG w base (.slice ao n cap) (A ++ [x])) : OwnG w base (.slice ao A.length cap) A := by
  obtain ⟨Q, h1, h2, h3⟩ := h
  rw [List.length_append, List.length_singleton] at h1 h2 h3
  refine ⟨Q.take A.length, by rw [List.length_take]; omega, ?_, fun j hj => ?_⟩
  · rcases h2.2 with ⟨-, h0⟩ | ⟨g, c, cur, e, k1, k2, k3, k4, k5, k6⟩
    · omega
    · simp only [Value.slice.injEq] at e
      obtain ⟨rfl, rfl, rfl⟩ := e
      have e1 : fl2 (Q.take A.length) = (fl2 Q).take (A.length * 2) := by
        conv => rhs; rw [← List.take_append_drop A.length Q, fl2_append]
        rw [List.take_left' (by rw [fl2_len, List.length_take]; omega)]
      refine ⟨by rw [fl2_len, List.length_take]; omega, .inr ⟨g, cap, cur, rfl, k1, k2, by omega, k4, k5, ?_⟩⟩
      rw [e1, ← k6, List.take_take]
      congr 1
      omega
  · have e1 : qd (Q.take A.length) j = qd Q j := by simp [qd, List.getD, List.getElem?_take_of_lt hj]
    have := h3 j (by omega)
    rw [nd_old A _ j hj] at this
    rw [e1]
    exact this
set_option maxRecDepth 100000 in
theorem cut_last (w : World) (g o n cap : Nat) (h1 : 0 < n) (hc : n ≤ cap) (_hn : n ≤ 10000) : (Instr.slice 24 (.slice (some ⟨g, o, none⟩) n cap) none (some (.int .i64 ((n : Int) - 1))) none).run Try.prog w = .ok (.slice (some ⟨g, o, none⟩) (n - 1) cap) w := by
  rw [run_slice_h w 24 (some ⟨g, o, none⟩) n cap Try.underlying24 .i64 ((n : Int) - 1) (by omega) (by omega)]
  obtain ⟨i0, hi, hz0, hz1, hz2⟩ := infoRe
  have e : ((n : Int) - 1).toNat = n - 1 := by omega
  rw [show Try.prog.elem 24 = 81 by kernel_rfl]
  simp [e, sizeOf, typeInfo, hi, hz1, sliced, Addr.add]
theorem OwnG.capLe {w : World} {base : Nat} {ao : Option Addr} {n cap : Nat} {P : List Nd} (h : OwnG w base (.slice ao n cap) P) : P.length ≤ cap := by
  obtain ⟨Q, h1, h2, h3⟩ := h
  rcases h2.2 with ⟨e, e0⟩ | ⟨g, c, cur, e, -, -, hc, -⟩
  · omega
  · simp only [Value.slice.injEq] at e
    omega
set_option maxRecDepth 100000 in
set_option maxHeartbeats 3000000 in
theorem stidy_any (P : List Nd) (ao : Option Addr) (cap : Nat) (hp : P.length ≤ 5000) (hcap : P.length ≤ cap) (hset : ∀ y ∈ P, y.2.length ≤ 1048576) : ∀ (t : Option Tr) (k : Nat) (w : World), Sub P k t → SetsOk t → ResAt w ao P →
    Calls Try.prog 54 #[.slice ao P.length cap, .int .i64 k] w fun e w' => ∃ v, e = .returned v ∧ OwnG w' w.heap.size v (post (tidyT t)) ∧ Below w.heap.size w w'
  | none, k, w, hS, hO, hA => by have h := hS.1; rw [okT] at h; exact h.elim
  | some ⟨op, s, a, b⟩, k, w, hS, hO, hA => by
    have IA : Hid (∀ (k : Nat) (w : World), Sub P k a → SetsOk a → ResAt w ao P → Calls Try.prog 54 #[.slice ao P.length cap, .int .i64 k] w fun e w' => ∃ v, e = .returned v ∧ OwnG w' w.heap.size v (post (tidyT a)) ∧ Below w.heap.size w w') := stidy_any P ao cap hp hcap hset a
    have IB : Hid (∀ (k : Nat) (w : World), Sub P k b → SetsOk b → ResAt w ao P → Calls Try.prog 54 #[.slice ao P.length cap, .int .i64 k] w fun e w' => ∃ v, e = .returned v ∧ OwnG w' w.heap.size v (post (tidyT b)) ∧ Below w.heap.size w w') := stidy_any P ao cap hp hcap hset b
    obtain ⟨hsl0, hoa, hob⟩ := hO.parts
    have hk := hS.2.1
    have hkI : (k : Int) < (P.length : Int) := by omega
    have hn := hS.nd
    have hok := hS.1
    have HSU : Hid _ := hS
    have HA : Hid (ResAt w ao P) := hA
    obtain ⟨b1, o1, sa, sc, hao, l1, h0, h01, -⟩ := hA k hk
    rw [hn] at h0 h01
    have h0' : w.cell? ⟨b1, o1 + k * 2, none⟩ = some (.int .i64 op) := h0
    have h1' : w.cell? ⟨b1, o1 + k * 2 + 1, none⟩ = some (.slice sa s.length sc) := h01
    have HSET : Hid (nd P k = (op, s)) := hn
    have HSL : Hid (s.length ≤ 1048576) := hsl0
    rw [okT] at hok
    rcases hok with ⟨h1, -, ha, hb⟩ | ⟨h1, hs, ha, hb⟩ | ⟨h1, hs, ha, hb⟩
    · obtain ⟨A, C, hcut, hres⟩ := one_cut ao P.length cap k hk hcap
      have HRES : Hid (∀ w', Below w.heap.size w w' → ResAt w' A [(op, s)]) := fun w' hb => by have := hres w' P rfl (ResAt.keepB HA.out hb); rwa [hn] at this
      have HPO : Hid (post (tidyT (some ⟨op, s, a, b⟩)) = [(op, s)]) := by
        show _ = _
        subst ha hb
        rw [leaf_of h1, tidy_none, post_some, post_none]
        rfl
      have HAR : Hid _ := h1
      subst hao
      clear hres h1 ha hb hA h0 h01 hS hn hsl0 hset hO hoa hob IA IB
      go_enter Try.func54, Try.ntmps54
      go_wp2_with fail
      refine (sar_any op _).mono ?_
      rintro e w1 ⟨rfl, rfl⟩
      rw [HAR.out]
      go_wp2_with fail
      refine (sown5_any [(op, s)] A 1 C rfl _ (by simp) (by intro y hy; rw [List.mem_singleton] at hy; subst hy; exact HSL.out) (HRES.out _ (al_T _ _))).mono ?_
      rintro e w2 ⟨v, rfl, o2, b2⟩
      have O2 : Hid (OwnG w2 w.heap.size v [(op, s)]) := (OwnF.g o2).mono (al_T _ _).size
      have B2 : Hid (Below w.heap.size w w2) := (al_T _ _).trans (b2.mono (al_T _ _).size)
      clear o2 b2
      go_wp2
      go_ret
      exact ⟨_, rfl, by rw [HPO.out]; exact O2.out, B2.out⟩
    · subst hs hb
      obtain ⟨k1, hsub⟩ := hS.one ha
      obtain ⟨u, hu⟩ := tidy_some ha
      have hoku : okT (some u) := hu ▸ tidy_ok a ha
      have hla := tidy_len a
      rw [hu] at hla
      have hpl : (post a).length ≤ P.length := by
        obtain ⟨-, h2, pre, h3⟩ := hsub
        have := congrArg List.length h3
        rw [List.length_take, List.length_append] at this
        omega
      have hlu : (post (some u)).length ≤ 10000 := by omega
      have hpos := post_pos u
      have hop := arity_one h1
      have HTD : Hid (tidyT (some ⟨op, [], a, none⟩) = oneOf op [] (some u) none) := by
        show _ = _
        rw [tidyT, if_neg (by rcases hop with rfl | rfl <;> omega), hu, tidy_none]
      have HCA : Hid (∀ w' : World, Below w.heap.size w w' → Calls Try.prog 54 #[.slice ao P.length cap, .int .i64 ((k : Int) - 1)] w' fun e w'' => ∃ v, e = .returned v ∧ OwnG w'' w'.heap.size v (post (some u)) ∧ Below w'.heap.size w' w'') := fun w' hbl => by
        have := IA.out (k - 1) w' hsub hoa (ResAt.keepB HA.out hbl)
        rwa [show ((k - 1 : Nat) : Int) = (k : Int) - 1 by omega, hu] at this
      have hwr : IntKind.i64.wrap ((k : Int) - 1) = (k : Int) - 1 := IntWalk.i64_in _ (by omega)
      have HAR : Hid _ := h1
      have HOK : Hid (okT (some u)) := hoku
      have HPL : Hid ((post (some u)).length ≤ 10000) := hlu
      have HPP : Hid (0 < (post (some u)).length) := hpos
      have HOP : Hid (op = 6 ∨ op = 7) := hop
      subst hao
      clear h1 ha hA h0 h01 hS hn hsl0 hset hO hoa hob IA IB hoku hla hlu hpos hop hu hsub
      go_enter Try.func54, Try.ntmps54
      go_wp2_with fail
      refine (sar_any op _).mono ?_
      rintro e w1 ⟨rfl, rfl⟩
      rw [HAR.out]
      go_wp2_with fail
      refine Calls.mono (HCA.out _ (al_T _ _)) ?_
      rintro e w2 ⟨va, rfl, oa, ba⟩
      have hD : (w.alloc (.cells #[.int .i64 op, .slice sa 0 sc] 81)).heap.size = w.heap.size + 1 := by show (w.heap.push _).size = _; simp
      have B2 : Hid (Below w.heap.size w w2) := (al_T _ _).trans (ba.mono (al_T _ _).size)
      have hx2 : w2.cell? ⟨w.heap.size, 0, none⟩ = some (.int .i64 op) := (ba.cell (p := ⟨w.heap.size, 0, none⟩) (by show w.heap.size < _; rw [hD]; omega)).trans (cell_of (heap_last2 w _ _ rfl) 0)
      have O2 : Hid (OwnG w2 w.heap.size va (post (some u))) := OwnG.mono oa (al_T _ _).size
      have hz2 : w.heap.size ≤ w2.heap.size := B2.out.size
      clear oa ba hD h0' h1'
      obtain ⟨aa, ca, rfl, ra⟩ := O2.out.form
      obtain ⟨g, og, sg, scg, rfl, lg, cg, -, -⟩ := ra _ (show (post (some u)).length - 1 < (post (some u)).length by have := HPP.out; omega)
      rw [last_nd] at cg
      have RA : Hid (ResAt w2 (some ⟨g, og, none⟩) (post (some u))) := ra
      clear ra lg
      have hcap : (post (some u)).length ≤ ca := OwnG.capLe O2.out
      have HCU : Hid _ := cut_last w2 g og _ ca HPP.out hcap HPL.out
      have HNIL : Hid _ := nil_tree HOK.out
      have HNON : Hid _ := none_tree HOK.out
      obtain ⟨n, hn⟩ : ∃ n, n = (post (some u)).length := ⟨_, rfl⟩
      have h1n : 0 < n := by rw [hn]; exact HPP.out
      have h2n : n ≤ 10000 := by rw [hn]; exact HPL.out
      have hidx : ((n : Int) - 1).toNat = n - 1 := by omega
      have SNIL : Hid (Calls Try.prog 99 #[.slice (some ⟨g, og, none⟩) n ca] w2 fun e w' => e = .returned (.bool (decide (opT (some u) = 1))) ∧ w' = w2) := by
        have := snil_any _ _ ca w2 RA.out
        rwa [HNIL.out, ← hn] at this
      have SNON : Hid (Calls Try.prog 100 #[.slice (some ⟨g, og, none⟩) n ca] w2 fun e w' => e = .returned (.bool (noneB (some u))) ∧ w' = w2) := by
        have := snone_any _ _ ca w2 RA.out
        rwa [HNON.out, ← hn] at this
      have HN : Hid (n = (post (some u)).length) := hn
      rw [← hn] at cg HCU
      rw [← hn]
      clear hn
      by_cases h6 : op = 6
      · by_cases hA1 : opT (some u) = 1 ∨ noneB (some u) = true
        · have HPO : Hid (post (tidyT (some ⟨op, [], a, none⟩)) = [(1, [])]) := by
            show _ = _
            rw [HTD.out, oneOf, if_pos h6, if_pos hA1, post_some, post_none]
            rfl
          subst h6
          by_cases hA2 : opT (some u) = 1
          · have hd1 : decide (opT (some u) = 1) = true := decide_eq_true hA2
            have SN1 : Hid _ := SNIL.out
            rw [hd1] at SN1
            have SN : Hid _ := SN1.out
            go_wp2_with fail
            refine Calls.mono SN.out ?_
            rintro e w3 ⟨rfl, rfl⟩
            go_wp2
            go_ret
            exact ⟨_, rfl, by rw [HPO.out]; exact (lit_g w3 1).mono hz2, B2.out.trans ((al_T _ _).mono hz2)⟩
          · have hd1 : decide (opT (some u) = 1) = false := decide_eq_false hA2
            have hnb : noneB (some u) = true := by rcases hA1 with h | h; exact absurd h hA2; exact h
            rw [hd1] at SNIL
            rw [hnb] at SNON
            go_wp2_with fail
            refine Calls.mono SNIL.out ?_
            rintro e w3 ⟨rfl, rfl⟩
            go_wp2_with fail
            refine Calls.mono SNON.out ?_
            rintro e w4 ⟨rfl, rfl⟩
            go_wp2
            go_ret
            exact ⟨_, rfl, by rw [HPO.out]; exact (lit_g w4 1).mono hz2, B2.out.trans ((al_T _ _).mono hz2)⟩
        · have hd1 : decide (opT (some u) = 1) = false := decide_eq_false (fun h => hA1 (.inl h))
          have hnb : noneB (some u) = false := by cases h : noneB (some u) with
            | false => rfl
            | true => exact absurd (.inr h) hA1
          rw [hd1] at SNIL
          rw [hnb] at SNON
          by_cases hu6 : u.op = 6
          · have HPO : Hid (post (tidyT (some ⟨op, [], a, none⟩)) = post (some u)) := by
              show _ = _
              rw [HTD.out, oneOf, if_pos h6, if_neg hA1, if_pos (by obtain ⟨x, y, z, v⟩ := u; exact hu6)]
            have O3 : Hid (OwnG w2 w.heap.size (.slice (some ⟨g, og, none⟩) n ca) (post (some u))) := by rw [HN.out]; exact O2.out
            subst h6
            rw [hu6] at cg
            clear hA1 hd1 hnb
            go_wp2_with fail
            refine Calls.mono SNIL.out ?_
            rintro e w3 ⟨rfl, rfl⟩
            go_wp2_with fail
            refine Calls.mono SNON.out ?_
            rintro e w4 ⟨rfl, rfl⟩
            go_wp2
            go_ret
            exact ⟨_, rfl, by rw [HPO.out]; exact O3.out, B2.out⟩
          · have HPO : Hid (post (tidyT (some ⟨op, [], a, none⟩)) = post (some u) ++ [(op, [])]) := by
              show _ = _
              rw [HTD.out, oneOf, if_pos h6, if_neg hA1, if_neg (by obtain ⟨x, y, z, v⟩ := u; exact hu6), post_some, post_none, List.append_nil]
            have O3 : Hid (OwnG w2 w.heap.size (.slice (some ⟨g, og, none⟩) n ca) (post (some u))) := by rw [HN.out]; exact O2.out
            have HL3 : Hid ((post (some u)).length ≤ 100000) := (by have := HPL.out; omega : (post (some u)).length ≤ 100000)
            have hb6 : (u.op == 6) = false := by simpa using hu6
            have H6 : Hid _ := hu6
            generalize u.op = z at cg hb6
            subst h6
            clear hA1 hd1 hnb hu6
            go_wp2_with fail
            refine Calls.mono SNIL.out ?_
            rintro e w3 ⟨rfl, rfl⟩
            go_wp2_with fail
            refine Calls.mono SNON.out ?_
            rintro e w4 ⟨rfl, rfl⟩
            go_wp2_with (at_builtin; refine wpN _ rfl (.tmp 84) (.tmp 88) rfl w.heap.size _ (post (some u)) rfl (OwnG.keepB O3.out (al_T _ _)) w4.heap.size 1 6 rfl (cell2_new _ _ _ _).1 (cell2_new _ _ _ _).2 HL3.out (Nat.le_trans hz2 (al_T _ _).size) ?_; intro v5 w5 o5 b5; have O5 : Hid (OwnG w5 w.heap.size v5 (post (some u) ++ [(6, [])])) := o5; have B5 : Hid (Below w.heap.size w4 w5) := ((al_T _ _).mono hz2).trans b5; clear o5 b5)
            go_wp2
            go_ret
            exact ⟨v5, by first | rfl | simp, by rw [HPO.out]; exact O5.out, B2.out.trans B5.out⟩
      · have h7 : op = 7 := by rcases HOP.out with h | h; exact absurd h h6; exact h
        by_cases hu7 : u.op = 7
        · obtain ⟨x, y, z, v⟩ := u
          have hu7' : x = 7 := hu7
          subst hu7'
          have hku := HOK.out
          rw [okT] at hku
          obtain ⟨hv, hz'⟩ : y = [] ∧ v = none := by
            rcases hku with ⟨h, -⟩ | ⟨-, h1, -, h2⟩ | ⟨h, -⟩
            · exact absurd h (by decide)
            · exact ⟨h1, h2⟩
            · exact absurd h (by decide)
          subst hv hz'
          have hpz : post (some ⟨7, [], z, none⟩) = post z ++ [(7, [])] := by rw [post_some, post_none, List.append_nil]
          have HPO : Hid (post (tidyT (some ⟨op, [], a, none⟩)) = post z) := by
            show _ = _
            rw [HTD.out, oneOf, if_neg h6, if_pos h7, if_pos (show opT (some ⟨7, [], z, none⟩) = 7 from rfl), fstT]
          have hnz : n - 1 = (post z).length := by rw [HN.out, hpz, List.length_append, List.length_singleton]; omega
          have O3 : Hid (OwnG w2 w.heap.size (.slice (some ⟨g, og, none⟩) (n - 1) ca) (post z)) := by
            have := O2.out
            rw [hpz] at this
            rw [hnz]
            exact OwnG.cut this
          have hcu := HCU.out
          subst h7
          clear HN HOK hku hpz hnz HPL HPP HTD SNIL SNON HNIL HNON O2 RA
          go_wp2
          go_ret
          exact ⟨_, rfl, by rw [HPO.out]; exact O3.out, B2.out⟩
        · have HPO : Hid (post (tidyT (some ⟨op, [], a, none⟩)) = post (some u) ++ [(op, [])]) := by
            show _ = _
            rw [HTD.out, oneOf, if_neg h6, if_pos h7, if_neg (by obtain ⟨x, y, z, v⟩ := u; exact hu7), post_some, post_none, List.append_nil]
          have O3 : Hid (OwnG w2 w.heap.size (.slice (some ⟨g, og, none⟩) n ca) (post (some u))) := by rw [HN.out]; exact O2.out
          have HL3 : Hid ((post (some u)).length ≤ 100000) := (by have := HPL.out; omega : (post (some u)).length ≤ 100000)
          have hb7 : (u.op == 7) = false := by simpa using hu7
          have H7 : Hid _ := hu7
          generalize u.op = z at cg hb7
          subst h7
          clear h6 hu7
          go_wp2_with (at_builtin; refine wpN _ rfl (.tmp 84) (.tmp 88) rfl w.heap.size _ (post (some u)) rfl (OwnG.keepB O3.out (al_T _ _)) w2.heap.size 1 7 rfl (cell2_new _ _ _ _).1 (cell2_new _ _ _ _).2 HL3.out (Nat.le_trans hz2 (al_T _ _).size) ?_; intro v5 w5 o5 b5; have O5 : Hid (OwnG w5 w.heap.size v5 (post (some u) ++ [(7, [])])) := o5; have B5 : Hid (Below w.heap.size w2 w5) := ((al_T _ _).mono hz2).trans b5; clear o5 b5)
          go_wp2
          go_ret
          exact ⟨v5, by first | rfl | simp, by rw [HPO.out]; exact O5.out, B2.out.trans B5.out⟩
    · subst hs
      obtain ⟨t1, t2, t3, t4⟩ := hS.two ha hb
      obtain ⟨ta, hta⟩ := tidy_some ha
      obtain ⟨tc, htc⟩ := tidy_some hb
      have hoka : okT (some ta) := hta ▸ tidy_ok a ha
      have hokb : okT (some tc) := htc ▸ tidy_ok b hb
      have hla := tidy_len a
      have hlb := tidy_len b
      rw [hta] at hla
      rw [htc] at hlb
      have hop := arity_two h1
      have HPO : Hid (post (tidyT (some ⟨op, [], a, b⟩)) = post (onePart op [] (some ta) (some tc))) := by
        show _ = _
        rw [tidyT, if_pos hop, hta, htc]
      have HST : Hid (SetsOk (some ta)) := hta ▸ SetsOk.sub hoa (tidy_sub a ha)
      have hk1 : 1 ≤ k := by omega
      have hsum : (post (some ta)).length + (post (some tc)).length + 1 ≤ 10000 := by omega
      obtain ⟨X, hX⟩ : ∃ X, X = w.heap.size := ⟨_, rfl⟩
      have HCF : Hid (∀ w' : World, Below w.heap.size w w' → Calls Try.prog 95 #[.slice ao P.length cap, .int .i64 k] w' fun e w'' => e = .returned (.int .i64 ((k - 1 - (post b).length : Nat) : Int)) ∧ w'' = w') := fun w' hbl => sfirst_any P k op [] a b ha hb HSU.out ao cap w' (by omega) (ResAt.keepB HA.out hbl)
      have HCA : Hid (∀ w' : World, Below w.heap.size w w' → Calls Try.prog 54 #[.slice ao P.length cap, .int .i64 ((k - 1 - (post b).length : Nat) : Int)] w' fun e w'' => ∃ v, e = .returned v ∧ OwnG w'' w'.heap.size v (post (some ta)) ∧ Below w'.heap.size w' w'') := fun w' hbl => by
        have := IA.out (k - 1 - (post b).length) w' t4 hoa (ResAt.keepB HA.out hbl)
        rwa [hta] at this
      have HCB : Hid (∀ w' : World, Below w.heap.size w w' → Calls Try.prog 54 #[.slice ao P.length cap, .int .i64 ((k : Int) - 1)] w' fun e w'' => ∃ v, e = .returned v ∧ OwnG w'' w'.heap.size v (post (some tc)) ∧ Below w'.heap.size w' w'') := fun w' hbl => by
        have := IB.out (k - 1) w' t3 hob (ResAt.keepB HA.out hbl)
        rwa [show ((k - 1 : Nat) : Int) = (k : Int) - 1 by omega, htc] at this
      have HTW : Hid (∀ (va vb : Value) (w' : World), w.heap.size + 1 ≤ w'.heap.size → OwnG w' (w.heap.size + 1) va (post (some ta)) → OwnG w' (w.heap.size + 1) vb (post (some tc)) → Calls Try.prog 98 #[.int .i64 op, va, vb] w' fun e w'' => ∃ v, e = .returned v ∧ OwnG w'' (w.heap.size + 1) v (post (onePart op [] (some ta) (some tc))) ∧ Below (w.heap.size + 1) w' w'') := fun va vb w' hs oa ob => stwo_any op hop ta tc hoka hokb va vb (w.heap.size + 1) w' hs oa ob hsum HST.out
      have hwr : IntKind.i64.wrap ((k : Int) - 1) = (k : Int) - 1 := IntWalk.i64_in _ (by omega)
      have HAR : Hid _ := h1
      subst hao
      clear hX X
      have BD : Hid (Below w.heap.size w (w.alloc (.cells #[.int .i64 op, .slice sa 0 sc] 81)).drew) := (al_T w _).drew
      have hD : (w.alloc (.cells #[.int .i64 op, .slice sa 0 sc] 81)).drew.heap.size = w.heap.size + 1 := by show (w.heap.push _).size = _; simp
      have sD : (w.alloc (.cells #[.int .i64 op, .slice sa 0 sc] 81)).drew.cell? ⟨w.heap.size, 0, none⟩ = some (.int .i64 op) := cell_of (heap_last2 w _ _ rfl) 0
      have HD : Hid _ := hD
      have SD : Hid _ := sD
      clear h1 ha hb hA h0 h01 hS hn hsl0 hset hO hoa hob IA IB t1 t2 t3 t4 hoka hokb hla hlb hop hsum hta htc hD
      go_enter Try.func54, Try.ntmps54
      go_wp2_with fail
      refine (sar_any op _).mono ?_
      rintro e w1 ⟨rfl, rfl⟩
      rw [HAR.out]
      go_wp2
      go_region_held (fun w' => w'.cell? ⟨w.heap.size, 0, none⟩ = some (.int .i64 op)) (first | assumption) (first
        | (go_at_call 95; refine (HCF.out _ BD.out).mono ?_; rintro e w2 ⟨rfl, rfl⟩)
        | (go_at_call 54
           (with_reducible refine Calls.mono (HCA.out _ BD.out) ?_)
           rintro e wa ⟨va, rfl, oa, ba⟩
           have BA : Hid (Below w.heap.size w wa) := BD.out.trans (ba.mono (by rw [HD.out]; omega))
           have OA : Hid (OwnG wa (w.heap.size + 1) va (post (some ta))) := OwnG.mono oa (by rw [HD.out]; omega)
           have ZA : Hid (w.heap.size + 1 ≤ wa.heap.size) := (by have := ba.size; rw [HD.out] at this; exact this : w.heap.size + 1 ≤ wa.heap.size)
           have sA : wa.cell? ⟨w.heap.size, 0, none⟩ = some (.int .i64 op) := (ba.cell (p := ⟨w.heap.size, 0, none⟩) (by rw [HD.out]; show w.heap.size < _; omega)).trans SD.out
           clear oa ba)
        | (go_at_call 54
           (with_reducible refine Calls.mono (HCB.out _ BA.out) ?_)
           rintro e wb ⟨vb, rfl, ob, bb⟩
           have BB : Hid (Below w.heap.size w wb) := BA.out.trans (bb.mono BA.out.size)
           have OB : Hid (OwnG wb (w.heap.size + 1) vb (post (some tc))) := OwnG.mono ob ZA.out
           have ZB : Hid (w.heap.size + 1 ≤ wb.heap.size) := Nat.le_trans ZA.out bb.size
           have OA2 : Hid (OwnG wb (w.heap.size + 1) va (post (some ta))) := OwnG.keepB OA.out bb
           have sB : wb.cell? ⟨w.heap.size, 0, none⟩ = some (.int .i64 op) := (bb.cell (p := ⟨w.heap.size, 0, none⟩) (World.block_lt_of_cell? _ _ sA)).trans sA
           clear ob bb)
        | (go_at_call 98
           (with_reducible refine Calls.mono (HTW.out _ _ _ ZB.out OA2.out OB.out) ?_)
           rintro e wv ⟨v, rfl, ov, bv⟩
           have OV : Hid (OwnG wv w.heap.size v (post (onePart op [] (some ta) (some tc)))) := OwnG.mono ov (Nat.le_succ _)
           have BV : Hid (Below w.heap.size w wv) := BB.out.trans (bv.mono (Nat.le_succ _))
           have sV : wv.cell? ⟨w.heap.size, 0, none⟩ = some (.int .i64 op) := (bv.cell (p := ⟨w.heap.size, 0, none⟩) (Nat.lt_succ_self _)).trans sB
           clear ov bv))
      all_goals
        go_wp2
        go_ret
        exact ⟨v, by first | rfl | simp, by rw [HPO.out]; exact OV.out, BV.out⟩
end Go.Proofs.Ytendikiflikobaa

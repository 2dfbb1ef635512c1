/-
  RevRe of the specification.
-/
import Derived.Test.YtkbijnojmfplpaaT5V
namespace Go.Proofs.Ytkbijnojmfplpaa
open Go.ChangeShapes Go.WideShapes Go.ChangeAt Go.WideMaps Go.WideElems Go.RowKit
set_option maxRecDepth 100000 in
set_option maxHeartbeats 3000000 in
theorem srev_any (P : List Nd) (ao : Option Addr) (cap : Nat) (hp : P.length ≤ 10000) (hcap : P.length ≤ cap) (hset : ∀ y ∈ P, y.2.length ≤ 1048576) : ∀ (t : Option Tr) (k : Nat) (w : World), Sub P k t → ResAt w ao P →
    Calls Try.prog 59 #[.slice ao P.length cap, .int .i64 k] w fun e w' => ∃ v, e = .returned v ∧ OwnG w' w.heap.size v (post (revT t)) ∧ Below w.heap.size w w'
  | none, k, w, hS, hA => by have h := hS.1; rw [okT] at h; exact h.elim
  | some ⟨op, s, a, b⟩, k, w, hS, hA => by
    have IA : Hid (∀ (k : Nat) (w : World), Sub P k a → ResAt w ao P → Calls Try.prog 59 #[.slice ao P.length cap, .int .i64 k] w fun e w' => ∃ v, e = .returned v ∧ OwnG w' w.heap.size v (post (revT a)) ∧ Below w.heap.size w w') := srev_any P ao cap hp hcap hset a
    have IB : Hid (∀ (k : Nat) (w : World), Sub P k b → ResAt w ao P → Calls Try.prog 59 #[.slice ao P.length cap, .int .i64 k] w fun e w' => ∃ v, e = .returned v ∧ OwnG w' w.heap.size v (post (revT b)) ∧ Below w.heap.size w w') := srev_any P ao cap hp hcap hset b
    have hk := hS.2.1
    have hkI : (k : Int) < (P.length : Int) := by omega
    have hn := hS.nd
    have hok := hS.1
    have HSU : Hid _ := hS
    have HA : Hid (ResAt w ao P) := hA
    obtain ⟨b1, o1, sa, sc, hao, l1, h0, -, -⟩ := hA k hk
    rw [hn] at h0
    have h0' : w.cell? ⟨b1, o1 + k * 2, none⟩ = some (.int .i64 op) := h0
    have H0 : Hid _ := h0'
    have HSET : Hid (nd P k = (op, s)) := hn
    have hsl5 : s.length ≤ 1048576 := by
      have : (nd P k).2.length ≤ 1048576 := hset _ (by simp [nd, List.getD, hk])
      rw [hn] at this
      exact this
    have HSL : Hid _ := hsl5
    rw [okT] at hok
    rcases hok with ⟨h1, -, ha, hb⟩ | ⟨h1, hs, ha, hb⟩ | ⟨h1, hs, ha, hb⟩
    · obtain ⟨A, C, hcut, hres⟩ := one_cut ao P.length cap k hk hcap
      have HRES : Hid (ResAt w A [(op, s)]) := by have := hres w P rfl hA; rwa [hn] at this
      have HPO : Hid (post (revT (some ⟨op, s, a, b⟩)) = [(op, s)]) := by
        show _ = _
        subst ha hb
        have h3 : op ≠ 3 := by rcases arity_zero h1 with e | e <;> omega
        rw [revT_else h3, revT_none, post_some, post_none]
        rfl
      have HAR : Hid _ := h1
      subst hao
      clear hres h1 ha hb hA h0 hS hn hsl5 hset
      go_enter Try.func59, Try.ntmps59
      go_wp2_with fail
      refine (sar_any op _).mono ?_
      rintro e w1 ⟨rfl, rfl⟩
      rw [HAR.out]
      go_wp2_with fail
      refine (sown5_any [(op, s)] A 1 C rfl _ (by simp) (by intro y hy; rw [List.mem_singleton] at hy; subst hy; exact HSL.out) HRES.out).mono ?_
      rintro e w2 ⟨v, rfl, o2, b2⟩
      have O2 : Hid _ := OwnF.g o2
      have B2 : Hid (Below w1.heap.size w1 w2) := b2
      clear o2 b2
      go_wp2
      go_ret
      exact ⟨_, rfl, by rw [HPO.out]; exact O2.out, B2.out⟩
    · have hba : okT b ∨ b = none := .inr hb
      subst hb hs
      obtain ⟨k1, hsub⟩ := hS.one ha
      have h3 : op ≠ 3 := by rcases arity_one h1 with e | e <;> omega
      have HPO : Hid (post (revT (some ⟨op, [], a, none⟩)) = post (revT a) ++ [(op, [])]) := by
        show _ = _
        rw [revT_else h3, revT_none, post_some, post_none, List.append_nil]
      have hla : (post (revT a)).length ≤ 10000 := by
        rw [revT_len]
        obtain ⟨-, h2, pre, h3⟩ := hsub
        have := congrArg List.length h3
        rw [List.length_take, List.length_append] at this
        omega
      have HC : Hid (∀ w' : World, Below w.heap.size w w' → Calls Try.prog 59 #[.slice ao P.length cap, .int .i64 ((k : Int) - 1)] w' fun e w'' => ∃ v, e = .returned v ∧ OwnG w'' w'.heap.size v (post (revT a)) ∧ Below w'.heap.size w' w'') := fun w' hb => by
        have := IA.out (k - 1) w' hsub (ResAt.keepB HA.out hb)
        rwa [show ((k - 1 : Nat) : Int) = (k : Int) - 1 by omega] at this
      have hwr : IntKind.i64.wrap ((k : Int) - 1) = (k : Int) - 1 := IntWalk.i64_in _ (by omega)
      have HAR : Hid _ := h1
      have BD : Hid (Below w.heap.size w w.drew) := (Below.refl _ _).drew
      have BDA : Hid (∀ o, Below w.heap.size w (w.alloc o).drew) := fun o => (al_T w o).drew
      subst hao
      clear h1 ha hA h0 hS hn hsl5 hset hsub h3 hba IA IB
      go_enter Try.func59, Try.ntmps59
      go_wp2_with fail
      refine (sar_any op _).mono ?_
      rintro e w1 ⟨rfl, rfl⟩
      rw [HAR.out]
      go_wp2
      go_region_held_law (fun w' => w'.cell? ⟨b1, o1 + k * 2, none⟩ = some (.int .i64 op)) (first | exact (BD.out.cell (p := ⟨b1, o1 + k * 2, none⟩) l1).trans H0.out | exact ((BDA.out _).cell (p := ⟨b1, o1 + k * 2, none⟩) l1).trans H0.out | exact (BA.out.cell (p := ⟨b1, o1 + k * 2, none⟩) l1).trans H0.out | exact (((BA.out).trans ((al_T _ _).mono BA.out.size)).cell (p := ⟨b1, o1 + k * 2, none⟩) l1).trans H0.out | exact (B5.out.cell (p := ⟨b1, o1 + k * 2, none⟩) l1).trans H0.out) (first
        | (have blk' := BLK.out
           refine stepN wa rfl (.tmp 26) (.tmp 33) rfl w1.heap.size va (post (revT a)) (by simp [Act.eval]) OA.out w1.heap.size 1 op (by simp [Act.eval]) (cell_of blk' 0) (cell_of blk' 1) (by omega) BA.out.size ?_
           intro v5 w5 o5 b5
           have O5 : Hid (OwnG w5 w1.heap.size v5 (post (revT a) ++ [(op, [])])) := o5
           have B5 : Hid (Below w1.heap.size w1 w5) := BA.out.trans b5
           clear o5 b5)
        | (refine stepN (wa.alloc (.cells #[.int .i64 op, .slice none 0 0] 60)) rfl (.tmp 26) (.tmp 33) rfl w1.heap.size va (post (revT a)) (by simp [Act.eval]) (OwnG.keepB OA.out (al_T _ _)) wa.heap.size 1 op (by simp [Act.eval]) (cell2_new _ _ _ _).1 (cell2_new _ _ _ _).2 (by omega) (Nat.le_trans BA.out.size (al_T _ _).size) ?_
           intro v5 w5 o5 b5
           have O5 : Hid (OwnG w5 w1.heap.size v5 (post (revT a) ++ [(op, [])])) := o5
           have B5 : Hid (Below w1.heap.size w1 w5) := (BA.out.trans ((al_T _ _).mono BA.out.size)).trans b5
           clear o5 b5)
        | (go_at_call 59
           (with_reducible refine Calls.mono (HC.out _ (by first | exact BD.out | exact BDA.out _)) ?_)
           rintro e wa ⟨va, rfl, oa, ba⟩
           have BA : Hid (Below w1.heap.size w1 wa) := (by first | exact BD.out.trans (ba.mono BD.out.size) | exact (BDA.out _).trans (ba.mono (BDA.out _).size))
           have OA : Hid (OwnG wa w1.heap.size va (post (revT a))) := (by first | exact OwnG.mono oa BD.out.size | exact OwnG.mono oa (BDA.out _).size)
           (first
             | (have BLK : Hid (wa.heap[w1.heap.size]? = some (.cells #[.int .i64 op, .slice none 0 0] 60)) := (ba.block w1.heap.size (by simp)).trans (heap_last2 _ _ _ rfl))
             | skip)
           clear oa ba))
      all_goals
        go_wp2
        go_ret
        exact ⟨v5, by first | rfl | simp, by rw [HPO.out]; exact O5.out, B5.out⟩
    · subst hs
      obtain ⟨t1, t2, t3, t4⟩ := hS.two ha hb
      have hla : (post (revT a)).length ≤ 10000 := by rw [revT_len]; omega
      have hlb : (post (revT b)).length ≤ 10000 := by rw [revT_len]; omega
      have hsum : (post (revT a)).length + (post (revT b)).length ≤ 10000 := by rw [revT_len, revT_len]; omega
      have hk1 : 1 ≤ k := by omega
      have HCA : Hid (Calls Try.prog 59 #[.slice ao P.length cap, .int .i64 ((k - 1 - (post b).length : Nat) : Int)] w fun e w'' => ∃ v, e = .returned v ∧ OwnG w'' w.heap.size v (post (revT a)) ∧ Below w.heap.size w w'') := IA.out (k - 1 - (post b).length) w t4 HA.out
      have HCB : Hid (∀ w' : World, Below w.heap.size w w' → Calls Try.prog 59 #[.slice ao P.length cap, .int .i64 ((k : Int) - 1)] w' fun e w'' => ∃ v, e = .returned v ∧ OwnG w'' w'.heap.size v (post (revT b)) ∧ Below w'.heap.size w' w'') := fun w' hbl => by
        have := IB.out (k - 1) w' t3 (ResAt.keepB HA.out hbl)
        rwa [show ((k - 1 : Nat) : Int) = (k : Int) - 1 by omega] at this
      have HAR : Hid _ := h1
      have HOA : Hid (okT a) := ha
      have HOB : Hid (okT b) := hb
      subst hao
      by_cases h3 : op = 3
      · subst h3
        have HPO : Hid (post (revT (some ⟨3, [], a, b⟩)) = post (revT b) ++ post (revT a) ++ [(3, [])]) := by
          show _ = _
          rw [revT_cat rfl, post_some]
        clear h1 ha hb hA h0 hS hn hsl5 hset IA IB t1 t2 t3 t4
        go_enter Try.func59, Try.ntmps59
        go_wp2_with fail
        refine (sar_any 3 _).mono ?_
        rintro e w1 ⟨rfl, rfl⟩
        rw [HAR.out]
        go_wp2_with fail
        refine (sfirst_any P k 3 [] a b HOA.out HOB.out HSU.out _ cap _ hp HA.out).mono ?_
        rintro e w2 ⟨rfl, rfl⟩
        go_wp2_with fail
        refine Calls.mono HCA.out ?_
        rintro e wa ⟨va, rfl, oa, ba⟩
        have OA : Hid (OwnG wa w2.heap.size va (post (revT a))) := oa
        have BA : Hid (Below w2.heap.size w2 wa) := ba
        have hsa := ba.size
        clear oa ba
        go_wp2_with fail
        refine Calls.mono (HCB.out _ BA.out) ?_
        rintro e wb ⟨vb, rfl, ob, bb⟩
        have OB : Hid (OwnG wb w2.heap.size vb (post (revT b))) := OwnG.mono ob hsa
        have OA2 : Hid (OwnG wb w2.heap.size va (post (revT a))) := OwnG.keepB OA.out bb
        have BB : Hid (Below w2.heap.size w2 wb) := BA.out.trans (bb.mono hsa)
        have hszb := BB.out.size
        have h0b : wb.cell? ⟨b1, o1 + k * 2, none⟩ = some (.int .i64 3) := (BB.out.cell (p := ⟨b1, o1 + k * 2, none⟩) l1).trans H0.out
        have H0b : Hid _ := h0b
        clear ob bb OA BA H0 h0'
        go_wp2_with (at_builtin; first | (refine wpG _ rfl (.tmp 50) (.tmp 51) rfl w2.heap.size vb va (post (revT b)) (post (revT a)) rfl rfl OB.out OA2.out (by omega) hszb ?_; intro v3 w3 o3 _ b3; have O3 : Hid _ := o3; have B3 : Hid (Below w2.heap.size wb w3) := b3; have hs3 : w2.heap.size ≤ w3.heap.size := Nat.le_trans hszb b3.size; clear o3 b3 OB OA2) | (refine wpN _ rfl (.tmp 52) (.tmp 54) rfl w2.heap.size v3 (post (revT b) ++ post (revT a)) rfl (OwnG.keepB O3.out (al_T _ _)) w3.heap.size 1 3 rfl (cell2_new _ _ _ _).1 (cell2_new _ _ _ _).2 (by rw [List.length_append]; omega) (Nat.le_trans hs3 (al_T _ _).size) ?_; intro v5 w5 o5 b5; have O5 : Hid (OwnG w5 w2.heap.size v5 (post (revT b) ++ post (revT a) ++ [(3, [])])) := o5; have B5 : Hid (Below w2.heap.size w3 w5) := ((al_T _ _).mono hs3).trans b5; clear o5 b5))
        go_wp2
        go_ret
        exact ⟨v5, by first | rfl | simp, by rw [HPO.out]; exact O5.out, BB.out.trans (B3.out.trans B5.out)⟩
      · have HPO : Hid (post (revT (some ⟨op, [], a, b⟩)) = post (revT a) ++ post (revT b) ++ [(op, [])]) := by
          show _ = _
          rw [revT_else h3, post_some]
        clear h1 ha hb hA h0 hS hn hsl5 hset IA IB t1 t2 t3 t4
        go_enter Try.func59, Try.ntmps59
        go_wp2_with fail
        refine (sar_any op _).mono ?_
        rintro e w1 ⟨rfl, rfl⟩
        rw [HAR.out]
        go_wp2_with fail
        refine (sfirst_any P k op [] a b HOA.out HOB.out HSU.out _ cap _ hp HA.out).mono ?_
        rintro e w2 ⟨rfl, rfl⟩
        go_wp2_with fail
        refine Calls.mono HCA.out ?_
        rintro e wa ⟨va, rfl, oa, ba⟩
        have OA : Hid (OwnG wa w2.heap.size va (post (revT a))) := oa
        have BA : Hid (Below w2.heap.size w2 wa) := ba
        have hsa := ba.size
        clear oa ba
        go_wp2_with fail
        refine Calls.mono (HCB.out _ BA.out) ?_
        rintro e wb ⟨vb, rfl, ob, bb⟩
        have OB : Hid (OwnG wb w2.heap.size vb (post (revT b))) := OwnG.mono ob hsa
        have OA2 : Hid (OwnG wb w2.heap.size va (post (revT a))) := OwnG.keepB OA.out bb
        have BB : Hid (Below w2.heap.size w2 wb) := BA.out.trans (bb.mono hsa)
        have hszb := BB.out.size
        have h0b : wb.cell? ⟨b1, o1 + k * 2, none⟩ = some (.int .i64 op) := (BB.out.cell (p := ⟨b1, o1 + k * 2, none⟩) l1).trans H0.out
        have H0b : Hid _ := h0b
        clear ob bb OA BA H0 h0'
        have DB : Hid (Below wb.heap.size wb wb.drew) := (Below.refl _ _).drew
        have DBA : Hid (Below wb.heap.size wb (wb.alloc (.cells #[.int .i64 op, .slice none 0 0] 60)).drew) := (al_T wb _).drew
        have hlb1 : b1 < wb.heap.size := Nat.lt_of_lt_of_le l1 hszb
        go_wp2
        go_region_held_law (fun w' => w'.cell? ⟨b1, o1 + k * 2, none⟩ = some (.int .i64 op)) (first | exact (DB.out.cell (p := ⟨b1, o1 + k * 2, none⟩) hlb1).trans H0b.out | exact (DBA.out.cell (p := ⟨b1, o1 + k * 2, none⟩) hlb1).trans H0b.out | exact ((B3.out).cell (p := ⟨b1, o1 + k * 2, none⟩) l1).trans H0b.out | exact ((B3.out.trans ((al_T _ _).mono hs3)).cell (p := ⟨b1, o1 + k * 2, none⟩) l1).trans H0b.out | exact ((B3.out.trans B5.out).cell (p := ⟨b1, o1 + k * 2, none⟩) l1).trans H0b.out) (first
          | (have hq : (wb.alloc (.cells #[.int .i64 op, .slice none 0 0] 60)).drew.cell? ⟨b1, o1 + k * 2, none⟩ = some (.int .i64 op) := (by with_reducible assumption)
             refine stepG (wb.alloc (.cells #[.int .i64 op, .slice none 0 0] 60)).drew rfl (.tmp 56) (.tmp 57) rfl w2.heap.size va vb (post (revT a)) (post (revT b)) (by first | (simp [Act.eval]; done) | simp [Act.eval, Act.put]) (by first | (simp [Act.eval]; done) | simp [Act.eval, Act.put]) (OwnG.keepB OA2.out DBA.out) (OwnG.keepB OB.out DBA.out) (by omega) (Nat.le_trans hszb DBA.out.size) ?_
             intro v3 w3 o3 g3 b3
             have O3 : Hid (OwnG w3 w2.heap.size v3 (post (revT a) ++ post (revT b))) := o3
             have B3 : Hid (Below w2.heap.size wb w3) := (DBA.out.mono hszb).trans b3
             have hs3 : w2.heap.size ≤ w3.heap.size := Nat.le_trans hszb B3.out.size
             have BLK3 : Hid (w3.cell? ⟨wb.heap.size, 0, none⟩ = some (.int .i64 op) ∧ w3.cell? ⟨wb.heap.size, 1, none⟩ = some (.slice none 0 0)) := (by
               have hbk := (g3.block wb.heap.size (by simp) (fun e' => by have := OwnG.lt OA2.out _ e'.symm; omega)).trans (heap_last2 wb _ _ rfl)
               exact ⟨cell_of hbk 0, cell_of hbk 1⟩)
             clear o3 b3 g3 OA2 OB hq)
          | (refine stepG wb.drew rfl (.tmp 56) (.tmp 57) rfl w2.heap.size va vb (post (revT a)) (post (revT b)) (by first | (simp [Act.eval]; done) | simp [Act.eval, Act.put]) (by first | (simp [Act.eval]; done) | simp [Act.eval, Act.put]) (OwnG.keepB OA2.out DB.out) (OwnG.keepB OB.out DB.out) (by omega) hszb ?_
             intro v3 w3 o3 g3 b3
             have O3 : Hid (OwnG w3 w2.heap.size v3 (post (revT a) ++ post (revT b))) := o3
             have B3 : Hid (Below w2.heap.size wb w3) := (DB.out.mono hszb).trans b3
             have hs3 : w2.heap.size ≤ w3.heap.size := Nat.le_trans hszb B3.out.size
             clear o3 b3 g3 OA2 OB)
          | (have blk' := BLK3.out
             refine stepN w3 rfl (.tmp 58) (.tmp 65) rfl w2.heap.size v3 (post (revT a) ++ post (revT b)) (by first | (simp [Act.eval]; done) | simp [Act.eval, Act.put]) O3.out wb.heap.size 1 op (by first | (simp [Act.eval]; done) | simp [Act.eval, Act.put]) blk'.1 blk'.2 (by rw [List.length_append]; omega) hs3 ?_
             intro v5 w5 o5 b5
             have O5 : Hid (OwnG w5 w2.heap.size v5 (post (revT a) ++ post (revT b) ++ [(op, [])])) := o5
             have B5 : Hid (Below w2.heap.size w3 w5) := b5
             clear o5 b5)
          | (refine stepN (w3.alloc (.cells #[.int .i64 op, .slice none 0 0] 60)) rfl (.tmp 58) (.tmp 65) rfl w2.heap.size v3 (post (revT a) ++ post (revT b)) (by first | (simp [Act.eval]; done) | simp [Act.eval, Act.put]) (OwnG.keepB O3.out (al_T _ _)) w3.heap.size 1 op (by first | (simp [Act.eval]; done) | simp [Act.eval, Act.put]) (cell2_new _ _ _ _).1 (cell2_new _ _ _ _).2 (by rw [List.length_append]; omega) (Nat.le_trans hs3 (al_T _ _).size) ?_
             intro v5 w5 o5 b5
             have O5 : Hid (OwnG w5 w2.heap.size v5 (post (revT a) ++ post (revT b) ++ [(op, [])])) := o5
             have B5 : Hid (Below w2.heap.size w3 w5) := ((al_T _ _).mono hs3).trans b5
             clear o5 b5))
        all_goals
          go_wp2
          go_ret
          exact ⟨v5, by first | rfl | simp, by rw [HPO.out]; exact O5.out, BB.out.trans (B3.out.trans B5.out)⟩
set_option maxRecDepth 100000 in
set_option maxHeartbeats 1000000 in
theorem srevRe_any (P : List Nd) (ao : Option Addr) (cap : Nat) (w : World) (hcap : P.length ≤ cap) (hl : szP P ≤ 1048576) (hA : ResAt w ao P) :
    Calls Try.prog 26 #[.slice ao P.length cap] w fun e w' => ∃ v, e = .returned (.tuple #[v, .bool (goodP P)]) ∧ OwnF w' w.heap.size v (ansT revT P).length (nd (ansT revT P)) ∧ Below w.heap.size w w' := by
  have HG0 : Hid (Calls Try.prog 41 #[.slice ao P.length cap] w fun e w' => e = .returned (.bool (goodP P)) ∧ Below w.heap.size w w') := sgoodRe_any P ao cap w hl hA
  have HA : Hid (ResAt w ao P) := hA
  clear hA
  cases hg : goodP P
  · have HG : Hid _ := hg
    clear hg
    rw [HG.out] at HG0
    go_enter Try.func26, Try.ntmps26
    go_wp2_with fail
    refine Calls.mono HG0.out ?_
    rintro e w1 ⟨rfl, b1⟩
    go_wp2
    go_ret2
    rw [ansT_no HG.out]
    exact ⟨_, rfl, own_none _ _ _, b1⟩
  · have HG : Hid _ := hg
    have hg2 := hg
    unfold goodP at hg2
    simp only [Bool.and_eq_true, decide_eq_true_eq] at hg2
    obtain ⟨h40, h1⟩ := hg2
    obtain ⟨t, ht⟩ := (oneP_tree P).1 h1
    obtain ⟨hpos, hsub⟩ := Sub.whole ht
    obtain ⟨-, hpost⟩ := tree_of ht
    have HT : Hid _ := ht
    have hset : ∀ y ∈ P, y.2.length ≤ 1048576 := fun y hy => Nat.le_trans (mem_len P y hy) hl
    have HMEM : Hid (∀ y ∈ post (revT (some t)), y.2.length ≤ 1048576) := fun y hy => hset y (by rw [← hpost]; exact revT_mem _ _ hy)
    have HLN : Hid ((post (revT (some t))).length ≤ 10000) := by show _ ≤ _; rw [revT_len, hpost]; omega
    have HC : Hid (∀ w' : World, Below w.heap.size w w' → Calls Try.prog 59 #[.slice ao P.length cap, .int .i64 ((P.length : Int) - 1)] w' fun e w'' => ∃ v, e = .returned v ∧ OwnG w'' w'.heap.size v (post (revT (some t))) ∧ Below w'.heap.size w' w'') := fun w' hbl => by
      have := srev_any P ao cap (by omega) hcap hset (some t) (P.length - 1) w' hsub (ResAt.keepB HA.out hbl)
      rwa [show ((P.length - 1 : Nat) : Int) = (P.length : Int) - 1 by omega] at this
    clear hg ht hsub hpost hset h1 hl hcap
    rw [HG.out] at HG0
    go_enter Try.func26, Try.ntmps26
    go_wp2_with fail
    refine Calls.mono HG0.out ?_
    rintro e w1 ⟨rfl, b1⟩
    have B1 : Hid (Below w.heap.size w w1) := b1
    clear b1
    go_wp2_with fail
    refine Calls.mono (HC.out _ B1.out) ?_
    rintro e w2 ⟨v2, rfl, o2, b2⟩
    obtain ⟨a2, c2, rfl, r2⟩ := o2.form
    have R2 : Hid (ResAt w2 a2 (post (revT (some t)))) := r2
    have B2 : Hid (Below w.heap.size w w2) := B1.out.trans (b2.mono B1.out.size)
    have hs2 := B2.out.size
    clear o2 r2 b2
    go_wp2_with fail
    refine (sown5_any (post (revT (some t))) a2 _ c2 rfl w2 HLN.out HMEM.out R2.out).mono ?_
    rintro e w3 ⟨v3, rfl, o3, b3⟩
    have O3 : Hid (OwnF w3 w2.heap.size v3 (post (revT (some t))).length (nd (post (revT (some t))))) := o3
    have B3 : Hid (Below w.heap.size w w3) := B2.out.trans (b3.mono hs2)
    clear o3 b3
    go_wp2
    go_ret2
    rw [ansT_yes HG.out HT.out]
    exact ⟨_, rfl, OwnF.mono O3.out hs2, B3.out⟩
end Go.Proofs.Ytkbijnojmfplpaa

/-
  Contract of spec.NotDfa.
-/
import Derived.Test.YtnlccplpcbdmnaaM6H
namespace Go.Proofs.Ytnlccplpcbdmnaa
open Go.ChangeShapes Go.WideShapes Go.ChangeAt Go.RowKit
def notC (C : List Int) (R : Rw) (F : List Bool) : List Int := if goodD C R F then C else []
def notR (C : List Int) (R : Rw) (F : List Bool) : Rw := if goodD C R F then R else []
def notB (C : List Int) (R : Rw) (F : List Bool) : List Bool := if goodD C R F then F.map (!·) else []
theorem not_sz (C : List Int) (R : Rw) (F : List Bool) : szD (notC C R F) (notR C R F) (notB C R F) ≤ szD C R F := by
  unfold notC notR notB
  split <;> simp [szD, szR]
theorem takeN (F : List Bool) (k : Nat) (h : k < F.length) : (F.take (k + 1)).map (!·) = (F.take k).map (!·) ++ [!F.getD k false] := by
  have e : F.take (k + 1) = F.take k ++ [F.getD k false] := by rw [List.take_add_one]; simp [List.getD, h]
  rw [e, List.map_append]
  rfl
/-- The blocks of a walk through NotDfa. -/
def NB (w : World) (s X : Nat) (A B E v0 v1 v2 : Value) (q : World) : Prop :=
  q.heap[s]? = some (.cells #[A, B, E] 29) ∧ q.heap[s + 1]? = some (.cells #[.slice none 0 0, .slice none 0 0, .slice none 0 0] 29) ∧ q.heap[X]? = some (.cells #[v0, v1, v2] 29) ∧ s + 1 < X ∧ Below s w q
theorem NB.keepB {w : World} {s X : Nat} {A B E v0 v1 v2 : Value} {q q' : World} (h : NB w s X A B E v0 v1 v2 q) (hb : Below q.heap.size q q') : NB w s X A B E v0 v1 v2 q' := by
  obtain ⟨h1, h2, h3, h4, h5⟩ := h
  exact ⟨(hb.block s (Array.getElem?_eq_some_iff.1 h1).1).trans h1, (hb.block (s + 1) (Array.getElem?_eq_some_iff.1 h2).1).trans h2, (hb.block X (Array.getElem?_eq_some_iff.1 h3).1).trans h3, h4, h5.trans (hb.mono (Nat.le_of_lt (Array.getElem?_eq_some_iff.1 h1).1))⟩
theorem NB.grown {w : World} {s X : Nat} {A B E v0 v1 v2 : Value} {q q' : World} (h : NB w s X A B E v0 v1 v2 q) {e : TypeId} {v : Value} {n : Nat} {xs : List Value} (ho : q.ownsRow s e 1 v n xs) (ne : e ≠ 29) (hg : q.grownBy q' v.ownBlock) : NB w s X A B E v0 v1 v2 q' := by
  obtain ⟨h1, h2, h3, h4, h5⟩ := h
  have hs : s ≤ q.heap.size := Nat.le_of_lt (Array.getElem?_eq_some_iff.1 h1).1
  exact ⟨grown_blk hg h1 (own_blk_ne h1 ho ne), grown_blk hg h2 (own_blk_ne h2 ho ne), grown_blk hg h3 (own_blk_ne h3 ho ne), h4, Below.grown h5 hg hs (fun g e => (World.ownsRow.lt ho g e).1)⟩
theorem NB.set1 {w : World} {s X : Nat} {A B E v0 v1 v2 u : Value} {q : World} (h : NB w s X A B E v0 v1 v2 q) : NB w s X A B E v0 u v2 (q.setCell ⟨X, 1, none⟩ u) := by
  obtain ⟨h1, h2, h3, h4, h5⟩ := h
  have hs : s ≤ q.heap.size := Nat.le_of_lt (Array.getElem?_eq_some_iff.1 h1).1
  exact ⟨(blk_oth _ _ _ _ _ (by omega)).trans h1, (blk_oth _ _ _ _ _ (by omega)).trans h2, blk_same h3 1 u, h4, Below.grown h5 (grown_set q X 1 u) hs (fun g e => by have := Option.some.inj e; omega)⟩
theorem NB.set2 {w : World} {s X : Nat} {A B E v0 v1 v2 u : Value} {q : World} (h : NB w s X A B E v0 v1 v2 q) : NB w s X A B E v0 v1 u (q.setCell ⟨X, 2, none⟩ u) := by
  obtain ⟨h1, h2, h3, h4, h5⟩ := h
  have hs : s ≤ q.heap.size := Nat.le_of_lt (Array.getElem?_eq_some_iff.1 h1).1
  exact ⟨(blk_oth _ _ _ _ _ (by omega)).trans h1, (blk_oth _ _ _ _ _ (by omega)).trans h2, blk_same h3 2 u, h4, Below.grown h5 (grown_set q X 2 u) hs (fun g e => by have := Option.some.inj e; omega)⟩
theorem gen_w {P : Program} {c : Code} {Q : Exit → Act → World → Prop} {a : Act} {w0 : World} (Rel : World → Prop) (h0 : Rel w0) (h : ∀ W, Rel W → Code.wp P c Q a W) : Code.wp P c Q a w0 := h w0 h0
theorem own_form {w : World} {base : Nat} {e : TypeId} {v : Value} {n : Nat} {xs : List Value} (h : w.ownsRow base e 1 v n xs) : ∃ ao cap, v = .slice ao n cap := by
  rcases h.2 with ⟨rfl, h0⟩ | ⟨g, cap, cur, rfl, -⟩
  · exact ⟨none, 0, by rw [h0]⟩
  · exact ⟨_, _, rfl⟩
set_option maxRecDepth 100000 in
set_option maxHeartbeats 4000000 in
theorem snotD_any (C : List Int) (R : Rw) (F : List Bool) (a b e : Option Addr) (ca cb ce : Nat) (w : World) (hsz : szD C R F ≤ 1048576) (hA : IntsAt w a C) (hB : RowsAt w b R) (hE : FlagsAt w e F) :
    Calls Try.prog 17 #[.agg #[.slice a C.length ca, .slice b R.length cb, .slice e F.length ce]] w fun r w' => ∃ v0 v1 v2, r = .returned (.tuple #[.agg #[v0, v1, v2], .bool (goodD C R F)]) ∧ OwnD w' w.heap.size v0 v1 v2 (notC C R F) (notR C R F).length (rw_ (notR C R F)) (notB C R F) ∧ Below w.heap.size w w' := by
  have HA : Hid _ := hA
  have HB : Hid _ := hB
  have HE : Hid _ := hE
  have hlC : C.length ≤ 1048576 := by unfold szD at hsz; omega
  have HLR : Hid (szR R ≤ 1048576) := by unfold szD at hsz; exact (by omega : szR R ≤ 1048576)
  have A2 : ∀ o p, Below w.heap.size w ((w.alloc o).alloc p) := fun o p => ((Below.refl _ _).alloc (Nat.le_refl _) o).alloc (by simp) p
  have HSG : Hid _ := fun o p => sgoodD_any C R F a b e ca cb ce ((w.alloc o).alloc p) hsz (IntsAt.keepB hA (A2 o p)) (RowsAt.keepB hB (A2 o p))
  clear hA hB hE hsz
  go_enter Try.func17, Try.ntmps17
  go_wp2_with fail
  refine Calls.mono (HSG.out _ _) ?_
  rintro r w1 ⟨rfl, b1⟩
  have hb0 : w1.heap[w.heap.size]? = some (.cells #[.slice a C.length ca, .slice b R.length cb, .slice e F.length ce] 29) := (b1.block w.heap.size (by simp; omega)).trans ((heap_prev _ _ _ (by simp)).trans (heap_last2 _ _ _ rfl))
  have hb1 : w1.heap[w.heap.size + 1]? = some (.cells #[.slice none 0 0, .slice none 0 0, .slice none 0 0] 29) := (b1.block (w.heap.size + 1) (by simp)).trans (heap_last2 _ _ _ (by simp))
  have hs1 : w.heap.size + 1 < w1.heap.size := Nat.lt_of_lt_of_le (by simp) b1.size
  have B1 : Hid (Below w.heap.size w w1) := (A2 _ _).trans (b1.mono (A2 _ _).size)
  clear b1 HSG A2
  cases hg : goodD C R F
  · have HNC : Hid (notC C R F = []) := (by simp [notC, hg] : notC C R F = [])
    have HNR : Hid (notR C R F = []) := (by simp [notR, hg] : notR C R F = [])
    have HNB : Hid (notB C R F = []) := (by simp [notB, hg] : notB C R F = [])
    have HG0 : Hid (goodD C R F = false) := hg
    have c0 : w1.cell? ⟨w.heap.size + 1, 0, none⟩ = some (.slice none 0 0) := cell_of hb1 0
    have c1 : w1.cell? ⟨w.heap.size + 1, 1, none⟩ = some (.slice none 0 0) := cell_of hb1 1
    have c2 : w1.cell? ⟨w.heap.size + 1, 2, none⟩ = some (.slice none 0 0) := cell_of hb1 2
    have z0 : w1.frozen? ⟨w.heap.size + 1, 0, none⟩ = false := frozen_of_row w1 _ _ _ _ hb1
    have z1 : w1.frozen? ⟨w.heap.size + 1, 1, none⟩ = false := frozen_of_row w1 _ _ _ _ hb1
    have z2 : w1.frozen? ⟨w.heap.size + 1, 2, none⟩ = false := frozen_of_row w1 _ _ _ _ hb1
    have HB1 : Hid _ := hb1
    clear hg hb1
    go_wp2
    obtain ⟨w9, hw9⟩ : ∃ w9, w9 = ((w1.setCell ⟨w.heap.size + 1, 0, none⟩ (.slice none 0 0)).setCell ⟨w.heap.size + 1, 1, none⟩ (.slice none 0 0)).setCell ⟨w.heap.size + 1, 2, none⟩ (.slice none 0 0) := ⟨_, rfl⟩
    have hb9 : w9.heap[w.heap.size + 1]? = some (.cells #[.slice none 0 0, .slice none 0 0, .slice none 0 0] 29) := by
      rw [hw9]
      exact blk_same (blk_same (blk_same HB1.out 0 _) 1 _) 2 _
    have bel : Below w.heap.size w w9 := by
      rw [hw9]
      have hz := B1.out.size
      refine Below.grown (Below.grown (Below.grown B1.out (grown_set _ _ _ _) hz (fun g e => by have := Option.some.inj e; omega)) (grown_set _ _ _ _) ?_ (fun g e => by have := Option.some.inj e; omega)) (grown_set _ _ _ _) ?_ (fun g e => by have := Option.some.inj e; omega)
      all_goals simpa [World.setCell] using hz
    rw [← hw9]
    have r0 : w9.cell? ⟨w.heap.size + 1, 0, none⟩ = some (.slice none 0 0) := cell_of hb9 0
    have r1 : w9.cell? ⟨w.heap.size + 1, 1, none⟩ = some (.slice none 0 0) := cell_of hb9 1
    have r2 : w9.cell? ⟨w.heap.size + 1, 2, none⟩ = some (.slice none 0 0) := cell_of hb9 2
    refine bodyPost_ret (v := .tuple #[.agg #[.slice none 0 0, .slice none 0 0, .slice none 0 0], .bool false]) (by simp [results, Try.results17, go_sem, r0, r1, r2]) rfl ⟨_, _, _, by rw [HG0.out], ?_, bel⟩
    rw [HNC.out, HNR.out, HNB.out]
    exact OwnD.mk (World.ownsRow_nil _ _ _ _) (fun g h => by simp [Value.ownBlock] at h) (ownR_none w9 w.heap.size _) (Nat.le_refl _) (World.ownsRow_nil _ _ _ _)
  have HG : Hid (goodD C R F = true) := hg
  have HNC : Hid (notC C R F = C) := (by simp [notC, hg] : notC C R F = C)
  have HNR : Hid (notR C R F = R) := (by simp [notR, hg] : notR C R F = R)
  have HNB : Hid (notB C R F = F.map (!·)) := (by simp [notB, hg] : notB C R F = F.map (!·))
  have hFR := (goodD_true hg).2.1
  have hR60 := (goodD_true hg).1.2
  have HFR : Hid _ := hFR
  clear hg hFR
  have c0 : w1.cell? ⟨w.heap.size, 0, none⟩ = some (.slice a C.length ca) := cell_of hb0 0
  go_wp2_with fail
  refine (sown_any C a _ ca _ rfl hlC (IntsAt.keepB HA.out B1.out)).mono ?_
  rintro r w2 ⟨v0, rfl, o0, b2⟩
  obtain ⟨-, va, vca, rfl, -⟩ := ints_of_own o0
  have hk0 := (b2.block w.heap.size (by omega)).trans hb0
  have hk1 := (b2.block (w.heap.size + 1) (by omega)).trans hb1
  have hs2 : w.heap.size + 1 < w2.heap.size := Nat.lt_of_lt_of_le hs1 b2.size
  have B2 : Hid (Below w.heap.size w w2) := B1.out.trans (b2.mono B1.out.size)
  have A3 : ∀ o, Below w2.heap.size w2 (w2.alloc o) := fun o => (Below.refl _ _).alloc (Nat.le_refl _) o
  have N2 : Hid (NB w w.heap.size w2.heap.size (.slice a C.length ca) (.slice b R.length cb) (.slice e F.length ce) (.slice va C.length vca) (.slice none 0 0) (.slice none 0 0) (w2.alloc (.cells #[.slice va C.length vca, .slice none 0 0, .slice none 0 0] 29))) := ⟨((A3 _).block w.heap.size (by omega)).trans hk0, ((A3 _).block (w.heap.size + 1) (by omega)).trans hk1, heap_last2 _ _ _ rfl, hs2, B2.out.trans ((A3 _).mono B2.out.size)⟩
  have O2 : Hid (OwnD (w2.alloc (.cells #[.slice va C.length vca, .slice none 0 0, .slice none 0 0] 29)) w.heap.size (.slice va C.length vca) (.slice none 0 0) (.slice none 0 0) C 0 (rw_ R) []) := OwnD.mk (own_mono (World.ownsRow.keepB o0 (A3 _)) (by omega)) (fun g h => by have := (World.ownsRow.lt o0 g h).2; omega) (ownR_none _ w2.heap.size _) (by omega) (World.ownsRow_nil _ _ _ _)
  have d1 : w2.cell? ⟨w.heap.size, 1, none⟩ = some (.slice b R.length cb) := cell_of hk0 1
  clear o0 b2 hb0 hb1 hk0 hk1 A3 c0 B2
  have hne2 : ¬ w.heap.size = w2.heap.size := by omega
  have hne2' : ¬ w2.heap.size = w.heap.size := by omega
  have d1' := cell_of N2.out.1 1
  clear d1
  go_wp2
  go_loopw [18] (fun i wr => ∃ (k : Nat) (v1 v2 : Value), k ≤ R.length ∧ i = .int .i64 k ∧ NB w w.heap.size w2.heap.size (.slice a C.length ca) (.slice b R.length cb) (.slice e F.length ce) (.slice va C.length vca) v1 v2 wr ∧ OwnD wr w.heap.size (.slice va C.length vca) v1 v2 C k (rw_ R) ((F.take k).map (!·))) (fun i _ => R.length - (intOf i).toNat)
  case atStart => exact ⟨0, .slice none 0 0, .slice none 0 0, Nat.zero_le _, rfl, N2.out, O2.out⟩
  case round =>
    obtain ⟨k, v1, v2, hk, rfl, hN, hO⟩ := hrel
    clear N2 O2 d1'
    by_cases hlt : k < R.length
    · have hltI : (k : Int) < (R.length : Int) := by omega
      obtain ⟨b1, o1, sa, sc, rfl, l1, c1, iS⟩ := HB.out k hlt
      have hls : (rw_ R k).length ≤ 1048576 := Nat.le_trans (rw_len R k hlt) HLR.out
      have hkF : k < F.length := by rw [HFR.out]; exact hlt
      have hkFI : (k : Int) < (F.length : Int) := by omega
      obtain ⟨b3, o3, rfl, l3, c3⟩ := HE.out k hkF
      generalize hx : F.getD k false = x at c3
      have HX : Hid _ := hx
      clear hx
      have g1 : wr.cell? ⟨b1, o1 + k, none⟩ = some (.slice sa (rw_ R k).length sc) := (hN.2.2.2.2.cell (p := ⟨b1, o1 + k, none⟩) l1).trans c1
      have IS : Hid (IntsAt wr.drew sa (rw_ R k)) := IntsAt.keepB iS hN.2.2.2.2.drew
      clear c1 iS
      obtain ⟨vb, vcb, rfl⟩ := own_form hO.2.2.choose_spec.2.1
      obtain ⟨ve, vce, rfl⟩ := own_form hO.2.1
      have HN : Hid (NB w w.heap.size w2.heap.size (.slice a C.length ca) (.slice (some ⟨b1, o1, none⟩) R.length cb) (.slice (some ⟨b3, o3, none⟩) F.length ce) (.slice va C.length vca) (.slice vb k vcb) (.slice ve ((F.take k).map (!·)).length vce) wr.drew) := hN.keepB (Below.refl _ _).drew
      have HO : Hid (OwnD wr.drew w.heap.size (.slice va C.length vca) (.slice vb k vcb) (.slice ve ((F.take k).map (!·)).length vce) C k (rw_ R) ((F.take k).map (!·))) := hO.keepB (Below.refl _ _).drew
      generalize hnf : ((F.take k).map (!·)).length = nf at HN HO
      have hnf60 : nf ≤ 60 := by rw [← hnf]; simp; omega
      have HNF : Hid _ := hnf
      clear hN hO hnf
      go_wp2
      have t0 : wr.drew.cell? ⟨w2.heap.size, 1, none⟩ = some (.slice vb k vcb) := cell_of HN.out.2.2.1 1
      go_region_law (first
        | (obtain ⟨h0, h2, Q, q1, q2, q3, q4, q5⟩ := HO.out
           have hle : w.heap.size ≤ wr.drew.heap.size := HN.out.2.2.2.2.size
           have bq : Below wr.drew.heap.size wr.drew (w3.alloc (.cells #[.slice ua (rw_ R k).length uca] 22)) := B3.out.trans ((A3 _).mono B3.out.size)
           refine step_row (w3.alloc (.cells #[.slice ua (rw_ R k).length uca] 22)) rfl (.tmp 24) (.tmp 27) rfl w.heap.size (.slice vb k vcb) k Q (by simp [Act.eval]) (World.ownsRow.keepB q2 bq) w3.heap.size _ ua (rw_ R k).length uca (by simp [Act.eval]; rfl) (new_cell _ _ _) (by omega) (Nat.le_trans hle bq.size) ?_
           intro v5 w5 r5 g5
           have O5 : Hid (OwnD w5 w.heap.size (.slice va C.length vca) v5 (.slice ve nf vce) C (k + 1) (rw_ R) ((F.take k).map (!·))) := OwnD.pushRow h0 h2 Q q1 q2 q3 q4 q5 hle bq (World.ownsRow.keepB OU.out (A3 _)) r5 g5
           have N5 : Hid _ := NB.grown (NB.keepB N3.out (A3 (.cells #[.slice ua (rw_ R k).length uca] 22))) (World.ownsRow.keepB q2 bq) neI g5
           obtain ⟨vg, vcg, rfl⟩ := own_form r5
           have t5 : w5.cell? ⟨w2.heap.size, 1, none⟩ = some (.slice vb k vcb) := cell_of N5.out.2.2.1 1
           have f5 : w5.frozen? ⟨w2.heap.size, 1, none⟩ = false := frozen_of_row w5 _ _ _ _ N5.out.2.2.1
           clear h0 h2 q1 q2 q3 q4 q5 hle bq r5 g5)
        | (go_simp; go_at_call 44; refine (sown_any (rw_ R k) sa _ sc _ rfl hls IS.out).mono ?_
           rintro r w3 ⟨u, rfl, ou, b3⟩
           obtain ⟨-, ua, uca, rfl, -⟩ := ints_of_own ou
           have N3 : Hid _ := NB.keepB HN.out b3
           have t3 : w3.cell? ⟨w2.heap.size, 1, none⟩ = some (.slice vb k vcb) := cell_of N3.out.2.2.1 1
           have hlt3 : w2.heap.size < w3.heap.size := (Array.getElem?_eq_some_iff.1 N3.out.2.2.1).1
           have hne3 : ¬ w2.heap.size = w3.heap.size := by omega
           have hne3' : ¬ w3.heap.size = w2.heap.size := by omega
           have A3 : ∀ o, Below w3.heap.size w3 (w3.alloc o) := fun o => (Below.refl _ _).alloc (Nat.le_refl _) o
           have OU : Hid _ := ou
           have B3 : Hid _ := b3
           have t4 : ∀ o, (w3.alloc o).cell? ⟨w2.heap.size, 1, none⟩ = some (.slice vb k vcb) := fun o => ((A3 o).cell (p := ⟨w2.heap.size, 1, none⟩) hlt3).trans t3
           clear ou b3; dsimp only))
      all_goals
        have N6 : Hid _ := NB.set1 (u := .slice vg (k + 1) vcg) N5.out
        have O6 : Hid _ := OwnD.cell (o := 1) (u := .slice vg (k + 1) vcg) O5.out N5.out.2.2.1
        clear t5 f5 O5 N5 t0 t3 t4 OU B3 N3 hlt3 hne3 hne3' A3 HN HO
        go_wp2
        refine gen_w (fun W => NB w w.heap.size w2.heap.size (.slice a C.length ca) (.slice (some ⟨b1, o1, none⟩) R.length cb) (.slice (some ⟨b3, o3, none⟩) F.length ce) (.slice va C.length vca) (.slice vg (k + 1) vcg) (.slice ve nf vce) W ∧ OwnD W w.heap.size (.slice va C.length vca) (.slice vg (k + 1) vcg) (.slice ve nf vce) C (k + 1) (rw_ R) ((F.take k).map (!·))) ⟨N6.out, O6.out⟩ ?_
        rintro W ⟨n7, o7⟩
        clear N6 O6
        have N7 : Hid _ := n7.keepB (q' := W.drew) (Below.refl _ _).drew
        have O7 : Hid _ := o7.keepB (w' := W.drew) (Below.refl _ _).drew
        clear n7 o7
        have A7 : ∀ o, Below W.drew.heap.size W.drew (W.drew.alloc o) := fun o => (Below.refl _ _).alloc (Nat.le_refl _) o
        have e0 : W.drew.cell? ⟨w2.heap.size, 2, none⟩ = some (.slice ve nf vce) := cell_of N7.out.2.2.1 2
        have e1 : W.drew.cell? ⟨w.heap.size, 2, none⟩ = some (.slice (some ⟨b3, o3, none⟩) F.length ce) := cell_of N7.out.1 2
        have e2 : W.drew.cell? ⟨b3, o3 + k, none⟩ = some (.bool x) := (N7.out.2.2.2.2.cell (p := ⟨b3, o3 + k, none⟩) l3).trans c3
        have hlt7 : w2.heap.size < W.drew.heap.size := (Array.getElem?_eq_some_iff.1 N7.out.2.2.1).1
        have hne7 : ¬ w2.heap.size = W.drew.heap.size := by omega
        have hne7' : ¬ W.drew.heap.size = w2.heap.size := by omega
        have hne8 : ¬ w2.heap.size = W.heap.size := hne7
        have hne8' : ¬ W.heap.size = w2.heap.size := hne7'
        have e3 : ∀ o, (W.drew.alloc o).cell? ⟨w2.heap.size, 2, none⟩ = some (.slice ve nf vce) := fun o => ((A7 o).cell (p := ⟨w2.heap.size, 2, none⟩) hlt7).trans e0
        have e4 : ∀ o, (W.alloc o).cell? ⟨w2.heap.size, 2, none⟩ = some (.slice ve nf vce) := e3
        go_region_law (first
          | (have bq := A7 (.cells #[.bool (!x)] 4)
             have h2 : (W.drew.alloc (.cells #[.bool (!x)] 4)).ownsRow w.heap.size 4 1 (.slice ve nf vce) nf (flags ((F.take k).map (!·))) := World.ownsRow.keepB (by have := O7.out.2.1; rw [HNF.out] at this; exact this) bq
             refine step_flag (W.drew.alloc (.cells #[.bool (!x)] 4)) rfl (.tmp 31) (.tmp 38) rfl w.heap.size (.slice ve nf vce) nf (flags ((F.take k).map (!·))) (by simp [Act.eval]) h2 W.drew.heap.size _ (!x) (by simp [Act.eval]; rfl) (new_cell _ _ _) (by omega) (Nat.le_trans N7.out.2.2.2.2.size bq.size) ?_
             intro v8 w8 r8 g8
             have O8 : Hid (OwnD w8 w.heap.size (.slice va C.length vca) (.slice vg (k + 1) vcg) v8 C (k + 1) (rw_ R) ((F.take k).map (!·) ++ [!x])) := OwnD.pushFlag O7.out bq (by rw [HNF.out]; exact r8) g8
             have N8 : Hid _ := NB.grown (NB.keepB N7.out bq) h2 ne4 g8
             obtain ⟨vh, vch, rfl⟩ := own_form r8
             have t8 : w8.cell? ⟨w2.heap.size, 2, none⟩ = some (.slice ve nf vce) := cell_of N8.out.2.2.1 2
             have f8 : w8.frozen? ⟨w2.heap.size, 2, none⟩ = false := frozen_of_row w8 _ _ _ _ N8.out.2.2.1
             clear bq h2 r8 g8))
        all_goals
          have N9 : Hid _ := NB.set2 (u := .slice vh (nf + 1) vch) N8.out
          have O9 : Hid _ := OwnD.cell (o := 2) (u := .slice vh (nf + 1) vch) O8.out N8.out.2.2.1
          clear t8 f8 N8 O8 e0 e1 e2 e3 e4 A7 N7 O7
          go_wp2
          go_roundw
          case rel => exact ⟨k + 1, _, _, by omega, by go_num, N9.out, by rw [takeN F k hkF, HX.out]; exact O9.out⟩
          case measure => simp [intOf]; omega
    · obtain rfl : k = R.length := by omega
      obtain ⟨vb, vcb, rfl⟩ := own_form hO.2.2.choose_spec.2.1
      obtain ⟨ve, vce, rfl⟩ := own_form hO.2.1
      have HTK : Hid (F.take R.length = F) := List.take_of_length_le (by rw [HFR.out]; exact Nat.le_refl _)
      have O9 : Hid (OwnD wr w.heap.size (.slice va C.length vca) (.slice vb R.length vcb) (.slice ve ((F.take R.length).map (!·)).length vce) C R.length (rw_ R) ((F.take R.length).map (!·))) := hO
      have N9 : Hid (NB w w.heap.size w2.heap.size (.slice a C.length ca) (.slice b R.length cb) (.slice e F.length ce) (.slice va C.length vca) (.slice vb R.length vcb) (.slice ve ((F.take R.length).map (!·)).length vce) wr) := hN
      obtain ⟨nf, hnf⟩ : ∃ nf, nf = ((F.take R.length).map (!·)).length := ⟨_, rfl⟩
      rw [← hnf] at hN N9 O9
      clear hO hnf
      have hlx : w.heap.size + 1 < w2.heap.size := hN.2.2.2.1
      have g0 : wr.cell? ⟨w2.heap.size, 0, none⟩ = some (.slice va C.length vca) := cell_of hN.2.2.1 0
      have g1 : wr.cell? ⟨w2.heap.size, 1, none⟩ = some (.slice vb R.length vcb) := cell_of hN.2.2.1 1
      have g2 : wr.cell? ⟨w2.heap.size, 2, none⟩ = some (.slice ve nf vce) := cell_of hN.2.2.1 2
      have d0 : wr.cell? ⟨w.heap.size + 1, 0, none⟩ = some (.slice none 0 0) := cell_of hN.2.1 0
      have d1 : wr.cell? ⟨w.heap.size + 1, 1, none⟩ = some (.slice none 0 0) := cell_of hN.2.1 1
      have d2 : wr.cell? ⟨w.heap.size + 1, 2, none⟩ = some (.slice none 0 0) := cell_of hN.2.1 2
      have z0 : wr.frozen? ⟨w.heap.size + 1, 0, none⟩ = false := frozen_of_row wr _ _ _ _ hN.2.1
      have z1 : wr.frozen? ⟨w.heap.size + 1, 1, none⟩ = false := frozen_of_row wr _ _ _ _ hN.2.1
      have z2 : wr.frozen? ⟨w.heap.size + 1, 2, none⟩ = false := frozen_of_row wr _ _ _ _ hN.2.1
      clear hN
      go_wp2
      obtain ⟨w9, hw9⟩ : ∃ w9, w9 = ((wr.setCell ⟨w.heap.size + 1, 0, none⟩ (.slice va C.length vca)).setCell ⟨w.heap.size + 1, 1, none⟩ (.slice vb R.length vcb)).setCell ⟨w.heap.size + 1, 2, none⟩ (.slice ve nf vce) := ⟨_, rfl⟩
      have k0 := N9.out.2.1
      have k1 := blk_same k0 0 (.slice va C.length vca)
      have k2 := blk_same k1 1 (.slice vb R.length vcb)
      have hb9 : w9.heap[w.heap.size + 1]? = some (.cells #[.slice va C.length vca, .slice vb R.length vcb, .slice ve nf vce] 29) := by
        rw [hw9]
        exact blk_same k2 2 _
      have bel : Below w.heap.size w w9 := by
        rw [hw9]
        have hz := N9.out.2.2.2.2.size
        refine Below.grown (Below.grown (Below.grown N9.out.2.2.2.2 (grown_set _ _ _ _) hz (fun g e => by have := Option.some.inj e; omega)) (grown_set _ _ _ _) ?_ (fun g e => by have := Option.some.inj e; omega)) (grown_set _ _ _ _) ?_ (fun g e => by have := Option.some.inj e; omega)
        all_goals simpa [World.setCell] using hz
      have o9 : OwnD w9 w.heap.size (.slice va C.length vca) (.slice vb R.length vcb) (.slice ve nf vce) C R.length (rw_ R) (F.map (!·)) := by
        rw [hw9]
        have h : OwnD wr w.heap.size (.slice va C.length vca) (.slice vb R.length vcb) (.slice ve nf vce) C R.length (rw_ R) ((F.take R.length).map (!·)) := O9.out
        rw [HTK.out] at h
        exact OwnD.cell (OwnD.cell (OwnD.cell h k0) k1) k2
      rw [← hw9]
      have r0 : w9.cell? ⟨w.heap.size + 1, 0, none⟩ = some (.slice va C.length vca) := cell_of hb9 0
      have r1 : w9.cell? ⟨w.heap.size + 1, 1, none⟩ = some (.slice vb R.length vcb) := cell_of hb9 1
      have r2 : w9.cell? ⟨w.heap.size + 1, 2, none⟩ = some (.slice ve nf vce) := cell_of hb9 2
      refine bodyPost_ret (v := .tuple #[.agg #[.slice va C.length vca, .slice vb R.length vcb, .slice ve nf vce], .bool true]) (by simp [results, Try.results17, go_sem, r0, r1, r2]) rfl ⟨_, _, _, by rw [HG.out], ?_, bel⟩
      rw [HNC.out, HNR.out, HNB.out]
      exact o9
end Go.Proofs.Ytnlccplpcbdmnaa

/-
  readAho of the program.
-/
import Derived.Test.YtabjjlcjephhkaaW8X
namespace Go.Proofs.Ytabjjlcjephhkaa
open Go.ChangeShapes Go.WideShapes Go.ChangeAt Go.WideMaps Go.WideElems Go.RowKit
/-- Where the words that end at the states lie. -/
def EndsV (w : World) (V : Nat → Value) (R : Rw) (n : Nat) : Prop := ∀ j, j < n → ∃ x cap, V j = .slice x (rw_ R j).length cap ∧ IntsAt w x (rw_ R j)
set_option maxRecDepth 100000 in
set_option maxHeartbeats 8000000 in
theorem readA_any (P B F : List Int) (R : Rw) (a b c e : Option Addr) (ca cb cc ce : Nat) (w : World) (hl : szA P B F R ≤ 1048576) (hA : IntsAt w a P) (hB : IntsAt w b B) (hC : IntsAt w c F) (hE : RowsAt w e R) :
    Calls Try.prog 66 #[.agg #[.slice a P.length ca, .slice b B.length cb, .slice c F.length cc, .slice e R.length ce]] w fun r w' => ((goodA P B F R = false ∧ r = .returned (.tuple #[.pointer none, .bool false])) ∨ (goodA P B F R = true ∧ ∃ tb V, r = .returned (.tuple #[.pointer (some ⟨tb, 0, none⟩), .bool true]) ∧ TrieAt w' (w.heap.size + 1) tb (rdQ P B F V P.length) (rdE P B P.length) ∧ EndsV w' V R P.length)) ∧ Below w.heap.size w w' := by
  have HA : Hid _ := hA
  have HB : Hid _ := hB
  have HC : Hid _ := hC
  have HE : Hid _ := hE
  have HLR : Hid (szR R ≤ 1048576) := by unfold szA at hl; exact (by omega : szR R ≤ 1048576)
  have hlP : P.length ≤ 1048576 := by unfold szA at hl; omega
  clear hA hB hC hE hl
  have A1 : ∀ o, Below w.heap.size w (w.alloc o) := fun o => (Below.refl _ _).alloc (Nat.le_refl _) o
  by_cases h1 : 1 ≤ P.length
  case neg =>
    have HG : Hid (goodA P B F R = false) := goodA_no fun h => h1 h.1.1
    have q1 : (P.length : Int) < 1 := by omega
    go_enter Try.func66, Try.ntmps66
    go_wp2
    go_ret2
    exact ⟨.inl ⟨HG.out, rfl⟩, A1 _⟩
  have p1 : ¬ (P.length : Int) < 1 := by omega
  have p1b : decide ((P.length : Int) < 1) = false := decide_eq_false p1
  by_cases h2 : P.length ≤ 100
  case neg =>
    have HG : Hid (goodA P B F R = false) := goodA_no fun h => h2 h.1.2
    have q1 : (100 : Int) < (P.length : Int) := by omega
    go_enter Try.func66, Try.ntmps66
    go_wp2
    go_ret2
    exact ⟨.inl ⟨HG.out, rfl⟩, A1 _⟩
  have p2 : ¬ (100 : Int) < (P.length : Int) := by omega
  have p2b : decide ((100 : Int) < (P.length : Int)) = false := decide_eq_false p2
  by_cases h3 : B.length = P.length
  case neg =>
    have HG : Hid (goodA P B F R = false) := goodA_no fun h => h3 h.2.1.1
    have q1 : ((B.length : Int) == (P.length : Int)) = false := by simp; omega
    have q2 : ¬ (B.length : Int) = (P.length : Int) := by omega
    have q3 : decide ((B.length : Int) = (P.length : Int)) = false := decide_eq_false q2
    go_enter Try.func66, Try.ntmps66
    go_wp2
    go_ret2
    exact ⟨.inl ⟨HG.out, rfl⟩, A1 _⟩
  rw [h3]
  have H3 : Hid (B.length = P.length) := h3
  clear h3
  by_cases h4 : F.length = P.length
  case neg =>
    have HG : Hid (goodA P B F R = false) := goodA_no fun h => h4 h.2.1.2.1
    have q1 : ((F.length : Int) == (P.length : Int)) = false := by simp; omega
    have q2 : ¬ (F.length : Int) = (P.length : Int) := by omega
    have q3 : decide ((F.length : Int) = (P.length : Int)) = false := decide_eq_false q2
    go_enter Try.func66, Try.ntmps66
    go_wp2
    go_ret2
    exact ⟨.inl ⟨HG.out, rfl⟩, A1 _⟩
  rw [h4]
  have H4 : Hid (F.length = P.length) := h4
  clear h4
  by_cases h5 : R.length = P.length
  case neg =>
    have HG : Hid (goodA P B F R = false) := goodA_no fun h => h5 h.2.1.2.2
    have q1 : ((R.length : Int) == (P.length : Int)) = false := by simp; omega
    have q2 : ¬ (R.length : Int) = (P.length : Int) := by omega
    have q3 : decide ((R.length : Int) = (P.length : Int)) = false := decide_eq_false q2
    go_enter Try.func66, Try.ntmps66
    go_wp2
    go_ret2
    exact ⟨.inl ⟨HG.out, rfl⟩, A1 _⟩
  rw [h5]
  have H5 : Hid (R.length = P.length) := h5
  clear h5
  obtain ⟨eb, eo, sa0, sc0, rfl, el0, -, -⟩ := HE.out 0 (by rw [H5.out]; omega)
  have HV : Hid (∀ j, j < P.length → ∃ x cap, w.cell? ⟨eb, eo + j, none⟩ = some (.slice x (rw_ R j).length cap) ∧ (w.cell? ⟨eb, eo + j, none⟩).getD (.slice none 0 0) = .slice x (rw_ R j).length cap ∧ IntsAt w x (rw_ R j)) := fun j hj => by
    obtain ⟨eb', eo', sa, sc, e1, -, c1, i1⟩ := HE.out j (by rw [H5.out]; exact hj)
    cases e1
    exact ⟨sa, sc, c1, by rw [c1]; rfl, i1⟩
  obtain ⟨V, hV⟩ : ∃ V : Nat → Value, V = fun j => (w.cell? ⟨eb, eo + j, none⟩).getD (.slice none 0 0) := ⟨_, rfl⟩
  have HV2 : Hid (∀ j, j < P.length → ∃ x cap, w.cell? ⟨eb, eo + j, none⟩ = some (.slice x (rw_ R j).length cap) ∧ V j = .slice x (rw_ R j).length cap ∧ IntsAt w x (rw_ R j)) := fun j hj => by rw [hV]; exact HV.out j hj
  have EL : Hid (eb < w.heap.size) := el0
  clear hV HV el0
  go_enter Try.func66, Try.ntmps66
  go_wp2_with fail
  refine (newTrie_any (-1) _).mono ?_
  rintro r w1 ⟨tb, rfl, t1, b1⟩
  rw [show (w.alloc (.cells #[.slice a P.length ca, .slice b P.length cb, .slice c P.length cc, .slice (some ⟨eb, eo, none⟩) P.length ce] 37)).heap.size = w.heap.size + 1 by simp] at t1
  have hbl1 : w1.heap[w.heap.size]? = some (.cells #[.slice a P.length ca, .slice b P.length cb, .slice c P.length cc, .slice (some ⟨eb, eo, none⟩) P.length ce] 37) := (b1.block w.heap.size (by simp)).trans (heap_last2 _ _ _ rfl)
  have T1 : Hid (TrieAt w1 (w.heap.size + 1) tb (rdQ P B F V 0) (rdE P B 0)) := t1
  have B1 : Hid (Below w.heap.size w w1) := (A1 _).trans (b1.mono (A1 _).size)
  have d3 : w1.cell? ⟨w.heap.size, 3, none⟩ = some (.slice (some ⟨eb, eo, none⟩) P.length ce) := cell_of hbl1 3
  have HBL1 : Hid _ := hbl1
  clear t1 b1 hbl1 A1
  go_wp2
  go_loopw [47] (fun i wr => ∃ k : Nat, k ≤ P.length ∧ i = .int .i64 k ∧ (∀ j, j < k → risB 0 7 (rw_ R j) = true ∧ stB P B F j = true ∧ noTwin P B j j) ∧ TrieAt wr (w.heap.size + 1) tb (rdQ P B F V k) (rdE P B k) ∧ wr.heap[w.heap.size]? = some (.cells #[.slice a P.length ca, .slice b P.length cb, .slice c P.length cc, .slice (some ⟨eb, eo, none⟩) P.length ce] 37) ∧ Below w.heap.size w wr) (fun i _ => P.length - (intOf i).toNat)
  case atStart => exact ⟨0, Nat.zero_le _, rfl, fun j hj => absurd hj (by omega), T1.out, HBL1.out, B1.out⟩
  case round =>
    obtain ⟨k, hk, rfl, hall, ht, hbl, hbw⟩ := hrel
    obtain ⟨w2, hw2⟩ : ∃ w2, w2 = wr := ⟨_, rfl⟩
    subst hw2
    have HALL : Hid _ := hall
    have T2 : Hid _ := ht
    have BW : Hid (Below w.heap.size w w2) := hbw
    have d0 : w2.cell? ⟨w.heap.size, 0, none⟩ = some (.slice a P.length ca) := cell_of hbl 0
    have d1 : w2.cell? ⟨w.heap.size, 1, none⟩ = some (.slice b P.length cb) := cell_of hbl 1
    have d2 : w2.cell? ⟨w.heap.size, 2, none⟩ = some (.slice c P.length cc) := cell_of hbl 2
    have d3' : w2.cell? ⟨w.heap.size, 3, none⟩ = some (.slice (some ⟨eb, eo, none⟩) P.length ce) := cell_of hbl 3
    have HBL : Hid _ := hbl
    clear hall ht hbw hbl d3
    by_cases hlt : k < P.length
    · have hltI : (k : Int) < (P.length : Int) := by omega
      obtain ⟨x, xc, hc, hVk, iX⟩ := HV2.out k hlt
      have hls : (rw_ R k).length ≤ 1048576 := Nat.le_trans (rw_len R k (by rw [H5.out]; exact hlt)) HLR.out
      have g1 : w2.cell? ⟨eb, eo + k, none⟩ = some (.slice x (rw_ R k).length xc) := (BW.out.cell (p := ⟨eb, eo + k, none⟩) EL.out).trans hc
      have HBI : Hid _ := bits_any (rw_ R k) x _ xc w2 rfl hls (IntsAt.keepB iX BW.out)
      have HIX : Hid _ := iX
      have HVK : Hid _ := hVk
      clear hc iX hVk
      cases q0 : risB 0 7 (rw_ R k) with
      | false =>
        rw [q0] at HBI
        have HG : Hid (goodA P B F R = false) := goodA_no fun h => by have := (h.2.2.2 k hlt).1; rw [q0] at this; cases this
        clear q0
        go_wp2_with fail
        refine Calls.mono HBI.out ?_
        rintro r w' ⟨⟨z, rfl⟩, rfl⟩
        go_wp2
        go_ret2
        exact ⟨.inl ⟨HG.out, rfl⟩, BW.out⟩
      | true =>
        rw [q0] at HBI
        have Q0 : Hid (risB 0 7 (rw_ R k) = true) := q0
        have HIS : Hid _ := isState_any P B F a b c (some ⟨eb, eo, none⟩) P.length ca cb cc P.length ce k w2 rfl H3.out.symm H4.out.symm hlt (by omega) (IntsAt.keepB HA.out BW.out) (IntsAt.keepB HB.out BW.out) (IntsAt.keepB HC.out BW.out)
        clear q0
        cases q1 : stB P B F k with
        | false =>
          rw [q1] at HIS
          have HG : Hid (goodA P B F R = false) := goodA_no fun h => by
            by_cases h0 : k = 0
            · subst h0
              rw [stB_0.2 h.2.2.1] at q1
              cases q1
            · rw [stB_of (by omega) ((h.2.2.2 k hlt).2 (by omega))] at q1
              cases q1
          clear q1
          go_wp2_with fail
          refine Calls.mono HBI.out ?_
          rintro r w' ⟨⟨z, rfl⟩, rfl⟩
          go_wp2_with fail
          refine Calls.mono HIS.out ?_
          rintro r w3 ⟨rfl, b3⟩
          have B3 : Hid (Below w.heap.size w w3) := BW.out.trans (b3.mono BW.out.size)
          clear b3
          go_wp2
          go_ret2
          exact ⟨.inl ⟨HG.out, rfl⟩, B3.out⟩
        | true =>
          rw [q1] at HIS
          have Q1 : Hid (stB P B F k = true) := q1
          clear q1
          go_wp2_with fail
          refine Calls.mono HBI.out ?_
          rintro r w' ⟨⟨z, rfl⟩, rfl⟩
          go_wp2_with fail
          refine Calls.mono HIS.out ?_
          rintro r w3 ⟨rfl, b3⟩
          have B3 : Hid (Below w.heap.size w w3) := BW.out.trans (b3.mono BW.out.size)
          have hbl3 : w3.heap[w.heap.size]? = some (.cells #[.slice a P.length ca, .slice b P.length cb, .slice c P.length cc, .slice (some ⟨eb, eo, none⟩) P.length ce] 37) := (b3.block w.heap.size (Array.getElem?_eq_some_iff.1 HBL.out).1).trans HBL.out
          have T3 : Hid (TrieAt w3 (w.heap.size + 1) tb (rdQ P B F V k) (rdE P B k)) := TrieAt.keepB T2.out b3
          clear b3 d0 d1 d2 d3' g1
          by_cases h0 : k = 0
          · have hk0I : ((k : Int) == 0) = true := by simp; omega
            have hk0K : decide ((k : Int) = 0) = true := decide_eq_true (by omega)
            have HK0 : Hid (k = 0) := h0
            obtain ⟨g, cap, m, e1, e2, e3, e4, e5, e6, e7⟩ := T3.out.form' (by rw [h0]; simp [rdQ])
            have lq : (rdQ P B F V k).length = 1 := by rw [h0]; rfl
            have st := TrieAt.setEnd T3.out.lt.1 e7 e3 e6 e4 0 (.slice x (rw_ R k).length xc)
            rw [show (0 * 5 + 4 : Nat) = 4 by rfl] at st
            have c5 := (e5 0 (by omega)).2.2.2.2
            rw [show (0 * 5 + 4 : Nat) = 4 by rfl] at c5
            obtain ⟨cs, hcs⟩ := own_is e6 (B := g) rfl
            have fz : w3.frozen? ⟨g, 4, none⟩ = false := frozen_of_row w3 _ _ _ _ hcs
            have c0 : w3.cell? ⟨tb, 0, none⟩ = some (.slice (some ⟨g, 0, none⟩) (rdQ P B F V k).length cap) := cell_of e3 0
            rw [lq] at c0
            have TN : Hid (TrieAt (w3.setCell ⟨g, 4, none⟩ (.slice x (rw_ R k).length xc)) (w.heap.size + 1) tb (rdQ P B F V (k + 1)) (rdE P B (k + 1))) := by
              have := st.1
              rw [← HVK.out] at this ⊢
              subst h0
              exact this
            have hgs : w.heap.size ≠ g := by omega
            have BN : Hid ((w3.setCell ⟨g, 4, none⟩ (.slice x (rw_ R k).length xc)).heap[w.heap.size]? = some (.cells #[.slice a P.length ca, .slice b P.length cb, .slice c P.length cc, .slice (some ⟨eb, eo, none⟩) P.length ce] 37)) := (blk_oth w3 g 4 w.heap.size _ (fun e => hgs e.symm)).trans hbl3
            have BBN : Hid (Below w.heap.size w (w3.setCell ⟨g, 4, none⟩ (.slice x (rw_ R k).length xc))) := Below.grown B3.out (grown_set w3 _ _ _) B3.out.size (fun i e => by have := Option.some.inj e; omega)
            have HN : Hid (∀ j, j < k + 1 → risB 0 7 (rw_ R j) = true ∧ stB P B F j = true ∧ noTwin P B j j) := fun j hj => by
              obtain rfl : j = k := by omega
              exact ⟨Q0.out, Q1.out, fun i i1 i2 => absurd i2 (by omega)⟩
            clear e3 e4 e5 e6 st lq h0
            go_wp2
            go_roundw
            case rel => exact ⟨k + 1, by omega, by go_num, HN.out, TN.out, BN.out, BBN.out⟩
            case measure => simp [intOf]; omega
          · have hk0I : ((k : Int) == 0) = false := by simp; omega
            have hk0J : ¬ (k : Int) = 0 := by omega
            have hk0K : decide ((k : Int) = 0) = false := decide_eq_false hk0J
            have hkpos : 0 < k := by omega
            have HSB : Hid (okA P B F R → okSt P B F k) := fun h => (h.2.2.2 k hlt).2 hkpos
            have HBD : Hid ((0 ≤ P.getD k 0 ∧ P.getD k 0 < (k : Int)) ∧ goodB (B.getD k 0) = true ∧ 0 ≤ F.getD k 0 ∧ F.getD k 0 < (k : Int)) := by
              have := Q1.out
              unfold stB at this
              rw [if_neg (by omega)] at this
              simp only [Bool.and_eq_true, decide_eq_true_eq] at this
              exact ⟨this.1, this.2.1, this.2.2⟩
            have al3 := al_W w3 (.cells #[.int .i64 0, .int .i64 0] 81)
            have B4 : Hid (Below w.heap.size w (w3.alloc (.cells #[.int .i64 0, .int .i64 0] 81))) := B3.out.trans (al3.mono B3.out.size)
            have hbl4 := (al3.block w.heap.size (Array.getElem?_eq_some_iff.1 hbl3).1).trans hbl3
            obtain ⟨pb, po, rfl, pl, pc⟩ := (IntsAt.keepB HA.out B4.out) k hlt
            obtain ⟨qb, qo, rfl, ql, qc⟩ := (IntsAt.keepB HB.out B4.out) k (by rw [H3.out]; exact hlt)
            obtain ⟨fb, fo, rfl, fl, fc⟩ := (IntsAt.keepB HC.out B4.out) k (by rw [H4.out]; exact hlt)
            have d0 := cell_of hbl4 0
            have d1 := cell_of hbl4 1
            have d2 := cell_of hbl4 2
            simp only [List.getElem?_toArray, List.getElem?_cons_zero, List.getElem?_cons_succ] at d0 d1 d2
            obtain ⟨X, hX⟩ : ∃ X, X = P.getD k 0 := ⟨_, rfl⟩
            obtain ⟨Y, hY⟩ : ∃ Y, Y = B.getD k 0 := ⟨_, rfl⟩
            obtain ⟨Z, hZ⟩ : ∃ Z, Z = F.getD k 0 := ⟨_, rfl⟩
            obtain ⟨_, _, pe, pl', pc'⟩ := (IntsAt.keepB HA.out B3.out) k hlt
            cases pe
            obtain ⟨_, _, qe, ql', qc'⟩ := (IntsAt.keepB HB.out B3.out) k (by rw [H3.out]; exact hlt)
            cases qe
            have d0' := cell_of hbl3 0
            have d1' := cell_of hbl3 1
            simp only [List.getElem?_toArray, List.getElem?_cons_zero, List.getElem?_cons_succ] at d0' d1'
            rw [← hX] at pc pc'
            rw [← hY] at qc qc'
            rw [← hZ] at fc
            have HX : Hid (X = P.getD k 0) := hX
            have HY : Hid (Y = B.getD k 0) := hY
            have HZ : Hid (Z = F.getD k 0) := hZ
            have HB4 : Hid _ := hbl4
            have e0 : (w3.alloc (.cells #[.int .i64 0, .int .i64 0] 81)).cell? ⟨w3.heap.size, 0, none⟩ = some (.int .i64 0) := cell_of (heap_last2 _ _ _ rfl) 0
            have e1 : (w3.alloc (.cells #[.int .i64 0, .int .i64 0] 81)).cell? ⟨w3.heap.size, 1, none⟩ = some (.int .i64 0) := cell_of (heap_last2 _ _ _ rfl) 1
            have z0 : (w3.alloc (.cells #[.int .i64 0, .int .i64 0] 81)).frozen? ⟨w3.heap.size, 0, none⟩ = false := frozen_of_row _ _ _ _ _ (heap_last2 _ _ _ rfl)
            have z1 : (w3.alloc (.cells #[.int .i64 0, .int .i64 0] 81)).frozen? ⟨w3.heap.size, 1, none⟩ = false := frozen_of_row _ _ _ _ _ (heap_last2 _ _ _ rfl)
            have HB3 : Hid _ := hbl3
            clear hX hY hZ hbl3 hbl4 al3
            obtain ⟨f, hf⟩ : ∃ f : Nat, X = (f : Int) := ⟨X.toNat, by have := HBD.out.1.1; have := HX.out; omega⟩
            subst hf
            go_wp2
            go_region
            clear d0 d1 d0' d1' pc pc' qc qc' fc e0 e1 z0 z1 d2
            have b6 : Below w3.heap.size w3 (w3.alloc (.cells #[.int .i64 f, .int .i64 Y] 81)).drew.drew := (al_W w3 _).drew.drew
            have t6 := TrieAt.keepB T3.out b6
            have hx6 : (w3.alloc (.cells #[.int .i64 f, .int .i64 Y] 81)).drew.drew.heap[w3.heap.size]? = some (.cells #[.int .i64 f, .int .i64 Y] 81) := heap_last2 w3 _ _ rfl
            have hbl6 := (b6.block w.heap.size (Array.getElem?_eq_some_iff.1 HB3.out).1).trans HB3.out
            have BW6 : Hid (Below w.heap.size w (w3.alloc (.cells #[.int .i64 f, .int .i64 Y] 81)).drew.drew) := B3.out.trans (b6.mono B3.out.size)
            have lq := rdQ_len P B F V k hkpos
            obtain ⟨g, cap, m, hg1, hg2, hblt, hE, hc⟩ := t6.form (by omega)
            have HYB := goodB_bd (HY.out ▸ HBD.out.2.1)
            have hYw : wf64 Y := WalkArith.wf_i64 (by omega)
            have hfk : f < k := by have := HBD.out.1.2; have := HX.out; omega
            have hfw : wf64 (f : Int) := WalkArith.wf_i64 (by omega)
            have s6 : (w3.alloc (.cells #[.int .i64 f, .int .i64 Y] 81)).drew.drew.cell? ⟨tb, 1, none⟩ = some (.map (some m)) ∧ (w3.alloc (.cells #[.int .i64 f, .int .i64 Y] 81)).drew.drew.cell? ⟨w3.heap.size, 0, none⟩ = some (.int .i64 f) ∧ (w3.alloc (.cells #[.int .i64 f, .int .i64 Y] 81)).drew.drew.cell? ⟨w3.heap.size, 1, none⟩ = some (.int .i64 Y) := ⟨cell_of hblt 1, cell_of hx6 0, cell_of hx6 1⟩
            cases he : rdE P B k f Y with
            | some j =>
              have HG : Hid (goodA P B F R = false) := goodA_no fun h => by
                obtain ⟨j1, j2, j3, j4⟩ := rdE_some P B _ _ _ _ he
                exact (HSB.out h).2.2.2 j j1 j2 ⟨by rw [j3]; exact HX.out, by rw [j4]; exact HY.out⟩
              have hl := hE.yes hfw hYw he
              clear he hE hc hblt hx6 hbl6 t6 b6
              go_wp2
              go_region_held (fun w' => w'.cell? ⟨tb, 1, none⟩ = some (.map (some m)) ∧ w'.cell? ⟨w3.heap.size, 0, none⟩ = some (.int .i64 f) ∧ w'.cell? ⟨w3.heap.size, 1, none⟩ = some (.int .i64 Y)) (first | assumption) (fail)
              go_wp2
              go_ret2
              exact ⟨.inl ⟨HG.out, rfl⟩, BW6.out⟩
            | none =>
              have HTW : Hid (noTwin P B k k) := fun j j1 j2 h => rdE_none P B _ _ _ he j j1 j2 ⟨h.1.trans HX.out.symm, h.2.trans HY.out.symm⟩
              have hl := hE.no hfw hYw he
              have T7 : Hid (TrieAt (w3.alloc (.cells #[.int .i64 f, .int .i64 Y] 81)).drew.drew.drew (w.heap.size + 1) tb (rdQ P B F V k) (rdE P B k)) := TrieAt.keepB T3.out b6.drew
              have hlev := rdQ_l P B F V k (fun j j0 j1 => by
                have := (stB_ok j0 (HALL.out j j1).2.1 (HALL.out j j1).2.2).1
                exact this) f (by omega)
              have HADD : Hid (Calls Try.prog 87 #[.pointer (some ⟨tb, 0, none⟩), .agg #[.int .i64 f, .int .i64 Y], .int .i64 Z, .slice x (rw_ R k).length xc] (w3.alloc (.cells #[.int .i64 f, .int .i64 Y] 81)).drew.drew.drew fun e w' => e = .returned (.int .i64 (rdQ P B F V k).length) ∧ TrieAt w' (w.heap.size + 1) tb (rdQ P B F V k ++ [⟨f, Y, (sq (rdQ P B F V k) f).l + 1, Z, .slice x (rw_ R k).length xc⟩]) (upE (rdE P B k) f Y (rdQ P B F V k).length) ∧ Below (w.heap.size + 1) (w3.alloc (.cells #[.int .i64 f, .int .i64 Y] 81)).drew.drew.drew w' ∧ KeepI (w3.alloc (.cells #[.int .i64 f, .int .i64 Y] 81)).drew.drew.drew w') := add_any (w.heap.size + 1) tb f Y Z x (rw_ R k).length xc (rdQ P B F V k) (rdE P B k) _ T7.out (by omega) (by omega) hYw ⟨hlev.1, by have := hlev.2; omega⟩
              have d2 : (w3.alloc (.cells #[.int .i64 f, .int .i64 Y] 81)).drew.drew.drew.cell? ⟨w.heap.size, 2, none⟩ = some (.slice (some ⟨fb, fo, none⟩) P.length cc) := cell_of hbl6 2
              have HB6 : Hid _ := hbl6
              obtain ⟨_, _, fe, fl', fc⟩ := (IntsAt.keepB HC.out BW6.out.drew) k (by rw [H4.out]; exact hlt)
              cases fe
              rw [← HZ.out] at fc
              have BW7 : Hid _ := BW6.out.drew
              clear he hE hc hblt hx6 hbl6 t6 b6 hlev
              go_wp2
              go_region_held (fun w' => w'.cell? ⟨tb, 1, none⟩ = some (.map (some m)) ∧ w'.cell? ⟨w3.heap.size, 0, none⟩ = some (.int .i64 f) ∧ w'.cell? ⟨w3.heap.size, 1, none⟩ = some (.int .i64 Y)) (first | assumption) (fail)
              go_wp2
              have x0 := s6.2.1
              have x1 := s6.2.2
              go_region_law (first
                | (go_simp
                   go_at_call 87
                   (with_reducible refine Calls.mono HADD.out ?_)
                   rintro e w8 ⟨rfl, t8, b8, -⟩
                   have T8 : Hid (TrieAt w8 (w.heap.size + 1) tb (rdQ P B F V k ++ [⟨f, Y, (sq (rdQ P B F V k) f).l + 1, Z, .slice x (rw_ R k).length xc⟩]) (upE (rdE P B k) f Y (rdQ P B F V k).length)) := t8
                   have B8 : Hid (Below (w.heap.size + 1) (w3.alloc (.cells #[.int .i64 f, .int .i64 Y] 81)).drew.drew.drew w8) := b8
                   clear t8 b8
                   dsimp only))
              all_goals
                have TN : Hid (TrieAt w8 (w.heap.size + 1) tb (rdQ P B F V (k + 1)) (rdE P B (k + 1))) := by
                  have := T8.out
                  rw [lq] at this
                  rw [rdQ_step _ _ _ _ hkpos, rdE_step _ _ hkpos, ← HX.out, ← HY.out, ← HZ.out, HVK.out]
                  exact this
                have BN : Hid (w8.heap[w.heap.size]? = some (.cells #[.slice (some ⟨pb, po, none⟩) P.length ca, .slice (some ⟨qb, qo, none⟩) P.length cb, .slice (some ⟨fb, fo, none⟩) P.length cc, .slice (some ⟨eb, eo, none⟩) P.length ce] 37)) := (B8.out.block w.heap.size (by omega)).trans HB6.out
                have BBN : Hid (Below w.heap.size w w8) := BW7.out.trans (B8.out.mono (by omega))
                have HN : Hid (∀ j, j < k + 1 → risB 0 7 (rw_ R j) = true ∧ stB P B F j = true ∧ noTwin P B j j) := fun j hj => by
                  by_cases ej : j = k
                  · subst ej
                    exact ⟨Q0.out, Q1.out, HTW.out⟩
                  · exact HALL.out j (by omega)
                go_wp2
                go_roundw
                case rel => exact ⟨k + 1, by omega, by go_num, HN.out, TN.out, BN.out, BBN.out⟩
                case measure => simp [intOf]; omega
    · obtain rfl : k = P.length := by omega
      have hltI : ¬ (P.length : Int) < (P.length : Int) := by omega
      have HG : Hid (goodA P B F R = true) := goodA_yes ⟨⟨h1, h2⟩, ⟨H3.out, H4.out, H5.out⟩, stB_0.1 (HALL.out 0 (by omega)).2.1, fun j hj => ⟨(HALL.out j hj).1, fun j0 => stB_ok j0 (HALL.out j hj).2.1 (HALL.out j hj).2.2⟩⟩
      have END : Hid (EndsV w2 V R P.length) := fun j hj => by
        obtain ⟨x, cap, -, hv, ix⟩ := HV2.out j hj
        exact ⟨x, cap, hv, IntsAt.keepB ix BW.out⟩
      go_wp2
      go_ret2
      exact ⟨.inr ⟨HG.out, tb, by first | exact ⟨V, rfl, T2.out, END.out⟩ | exact ⟨rfl, V, T2.out, END.out⟩⟩, BW.out⟩
end Go.Proofs.Ytabjjlcjephhkaa

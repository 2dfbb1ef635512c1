/-
  Whether a machine of words is good, as a plain word; GoodAho of the specification.
-/
import Derived.Test.YtabjjlcjephhkaaW8T
import Derived.Test.YtabjjlcjephhkaaW8R
import Derived.Deep.QuietTactic
import Derived.BigQuiet
namespace Go.Proofs.Ytabjjlcjephhkaa
open Go.ChangeShapes Go.WideShapes Go.ChangeAt Go.WideMaps Go.WideElems Go.RowKit
/-- What a good machine keeps at a state that is not the first. -/
def okSt (P B F : List Int) (k : Nat) : Prop := (0 ≤ P.getD k 0 ∧ P.getD k 0 ≤ (k : Int) - 1) ∧ goodB (B.getD k 0) = true ∧ (0 ≤ F.getD k 0 ∧ F.getD k 0 ≤ (k : Int) - 1) ∧ ∀ i, 1 ≤ i → i < k → ¬ (P.getD i 0 = P.getD k 0 ∧ B.getD i 0 = B.getD k 0)
def noTwin (P B : List Int) (k m : Nat) : Prop := ∀ j, 1 ≤ j → j < m → ¬ (P.getD j 0 = P.getD k 0 ∧ B.getD j 0 = B.getD k 0)
def okA (P B F : List Int) (R : Rw) : Prop := (1 ≤ P.length ∧ P.length ≤ 100) ∧ (B.length = P.length ∧ F.length = P.length ∧ R.length = P.length) ∧ (P.getD 0 0 = -1 ∧ B.getD 0 0 = -1 ∧ F.getD 0 0 = 0) ∧ ∀ k, k < P.length → risB 0 7 (rw_ R k) = true ∧ (0 < k → okSt P B F k)
open Classical in
/-- Whether a machine of words is good. -/
noncomputable def goodA (P B F : List Int) (R : Rw) : Bool := decide (okA P B F R)
theorem goodA_yes {P B F : List Int} {R : Rw} (h : okA P B F R) : goodA P B F R = true := @decide_eq_true _ (Classical.propDecidable _) h
theorem goodA_no {P B F : List Int} {R : Rw} (h : ¬ okA P B F R) : goodA P B F R = false := @decide_eq_false _ (Classical.propDecidable _) h
theorem goodA_true {P B F : List Int} {R : Rw} (h : goodA P B F R = true) : okA P B F R := @of_decide_eq_true _ (Classical.propDecidable _) h
set_option maxRecDepth 100000 in
set_option maxHeartbeats 4000000 in
theorem sgoodA_any (P B F : List Int) (R : Rw) (a b c e : Option Addr) (ca cb cc ce : Nat) (w : World) (hl : szA P B F R ≤ 1048576) (hA : IntsAt w a P) (hB : IntsAt w b B) (hC : IntsAt w c F) (hE : RowsAt w e R) :
    Calls Try.prog 34 #[.agg #[.slice a P.length ca, .slice b B.length cb, .slice c F.length cc, .slice e R.length ce]] w fun r w' => r = .returned (.bool (goodA P B F R)) ∧ Below w.heap.size w w' := by
  have HA : Hid _ := hA
  have HB : Hid _ := hB
  have HC : Hid _ := hC
  have HE : Hid _ := hE
  have HLR : Hid (szR R ≤ 1048576) := by unfold szA at hl; exact (by omega : szR R ≤ 1048576)
  have hlP : P.length ≤ 1048576 := by unfold szA at hl; omega
  clear hA hB hC hE hl
  have A1 : ∀ o, Below w.heap.size w (w.alloc o) := fun o => (Below.refl _ _).alloc (Nat.le_refl _) o
  by_cases h1 : 1 ≤ P.length ∧ P.length ≤ 100
  case neg =>
    have HG : Hid (goodA P B F R = false) := goodA_no fun h => h1 h.1
    have HI : Hid (¬ ((1 : Int) ≤ (P.length : Int) ∧ (P.length : Int) ≤ 100)) := fun h => h1 (by omega)
    clear h1
    go_enter Try.func34, Try.ntmps34
    go_wp2_with (first | (go_at_call 74; refine (in_no HI.out _).mono ?_; rintro r w' ⟨rfl, rfl⟩) | fail)
    go_ret
    exact ⟨by rw [HG.out]; rfl, A1 _⟩
  have HI : Hid ((1 : Int) ≤ (P.length : Int) ∧ (P.length : Int) ≤ 100) := by exact (by omega : (1 : Int) ≤ (P.length : Int) ∧ (P.length : Int) ≤ 100)
  by_cases h2 : B.length = P.length
  case neg =>
    have HG : Hid (goodA P B F R = false) := goodA_no fun h => h2 h.2.1.1
    have q1 : ((B.length : Int) == (P.length : Int)) = false := by simp; omega
    have q2 : ¬ (B.length : Int) = (P.length : Int) := by omega
    have q3 : decide ((B.length : Int) = (P.length : Int)) = false := decide_eq_false q2
    go_enter Try.func34, Try.ntmps34
    go_wp2_with (first | (go_at_call 74; refine (in_yes HI.out _).mono ?_; rintro r w' ⟨rfl, rfl⟩) | fail)
    go_ret
    exact ⟨by rw [HG.out]; rfl, A1 _⟩
  rw [h2]
  have H2 : Hid (B.length = P.length) := h2
  clear h2
  by_cases h3 : F.length = P.length
  case neg =>
    have HG : Hid (goodA P B F R = false) := goodA_no fun h => h3 h.2.1.2.1
    have q1 : ((F.length : Int) == (P.length : Int)) = false := by simp; omega
    have q2 : ¬ (F.length : Int) = (P.length : Int) := by omega
    have q3 : decide ((F.length : Int) = (P.length : Int)) = false := decide_eq_false q2
    go_enter Try.func34, Try.ntmps34
    go_wp2_with (first | (go_at_call 74; refine (in_yes HI.out _).mono ?_; rintro r w' ⟨rfl, rfl⟩) | fail)
    go_ret
    exact ⟨by rw [HG.out]; rfl, A1 _⟩
  rw [h3]
  have H3 : Hid (F.length = P.length) := h3
  clear h3
  by_cases h4 : R.length = P.length
  case neg =>
    have HG : Hid (goodA P B F R = false) := goodA_no fun h => h4 h.2.1.2.2
    have q1 : ((R.length : Int) == (P.length : Int)) = false := by simp; omega
    have q2 : ¬ (R.length : Int) = (P.length : Int) := by omega
    have q3 : decide ((R.length : Int) = (P.length : Int)) = false := decide_eq_false q2
    go_enter Try.func34, Try.ntmps34
    go_wp2_with (first | (go_at_call 74; refine (in_yes HI.out _).mono ?_; rintro r w' ⟨rfl, rfl⟩) | fail)
    go_ret
    exact ⟨by rw [HG.out]; rfl, A1 _⟩
  rw [h4]
  have H4 : Hid (R.length = P.length) := h4
  clear h4
  have h0 : (0 : Int) < (P.length : Int) := by omega
  have h0n : 0 < P.length := by omega
  obtain ⟨pb, po, rfl, pl, pc⟩ := HA.out 0 h0n
  have pg : ∀ o, (w.alloc o).cell? ⟨pb, po, none⟩ = some (.int .i64 (P.getD 0 0)) := fun o => ((A1 o).cell (p := ⟨pb, po, none⟩) pl).trans pc
  clear pc
  by_cases h5 : P.getD 0 0 = (-1)
  case neg =>
    have HG : Hid (goodA P B F R = false) := goodA_no fun h => h5 h.2.2.1.1
    generalize P.getD 0 0 = x at *
    have q1 : (x == (-1)) = false := by simpa using h5
    have q3 : decide (x = (-1)) = false := decide_eq_false h5
    go_enter Try.func34, Try.ntmps34
    go_wp2_with (first | (go_at_call 74; refine (in_yes HI.out _).mono ?_; rintro r w' ⟨rfl, rfl⟩) | fail)
    go_ret
    exact ⟨by rw [HG.out]; rfl, A1 _⟩
  rw [h5] at pg
  have H5 : Hid (P.getD 0 0 = (-1)) := h5
  clear h5
  obtain ⟨qb, qo, rfl, ql, qc⟩ := HB.out 0 (by rw [H2.out]; exact h0n)
  have qg : ∀ o, (w.alloc o).cell? ⟨qb, qo, none⟩ = some (.int .i64 (B.getD 0 0)) := fun o => ((A1 o).cell (p := ⟨qb, qo, none⟩) ql).trans qc
  clear qc
  by_cases h6 : B.getD 0 0 = (-1)
  case neg =>
    have HG : Hid (goodA P B F R = false) := goodA_no fun h => h6 h.2.2.1.2.1
    generalize B.getD 0 0 = x at *
    have q1 : (x == (-1)) = false := by simpa using h6
    have q3 : decide (x = (-1)) = false := decide_eq_false h6
    go_enter Try.func34, Try.ntmps34
    go_wp2_with (first | (go_at_call 74; refine (in_yes HI.out _).mono ?_; rintro r w' ⟨rfl, rfl⟩) | fail)
    go_ret
    exact ⟨by rw [HG.out]; rfl, A1 _⟩
  rw [h6] at qg
  have H6 : Hid (B.getD 0 0 = (-1)) := h6
  clear h6
  obtain ⟨fb, fo, rfl, fl, fc⟩ := HC.out 0 (by rw [H3.out]; exact h0n)
  have fg : ∀ o, (w.alloc o).cell? ⟨fb, fo, none⟩ = some (.int .i64 (F.getD 0 0)) := fun o => ((A1 o).cell (p := ⟨fb, fo, none⟩) fl).trans fc
  clear fc
  by_cases h7 : F.getD 0 0 = 0
  case neg =>
    have HG : Hid (goodA P B F R = false) := goodA_no fun h => h7 h.2.2.1.2.2
    generalize F.getD 0 0 = x at *
    have q1 : (x == 0) = false := by simpa using h7
    have q3 : decide (x = 0) = false := decide_eq_false h7
    go_enter Try.func34, Try.ntmps34
    go_wp2_with (first | (go_at_call 74; refine (in_yes HI.out _).mono ?_; rintro r w' ⟨rfl, rfl⟩) | fail)
    go_ret
    exact ⟨by rw [HG.out]; rfl, A1 _⟩
  rw [h7] at fg
  have H7 : Hid (F.getD 0 0 = 0) := h7
  clear h7
  go_enter Try.func34, Try.ntmps34
  go_wp2_with (first | (go_at_call 74; refine (in_yes HI.out _).mono ?_; rintro r w' ⟨rfl, rfl⟩) | fail)
  clear pg qg fg
  go_loopw [55] (fun i wr => ∃ k : Nat, k ≤ P.length ∧ i = .int .i64 k ∧ (∀ j, j < k → risB 0 7 (rw_ R j) = true ∧ (0 < j → okSt P B F j)) ∧ wr.heap[w.heap.size]? = some (.cells #[.slice (some ⟨pb, po, none⟩) P.length ca, .slice (some ⟨qb, qo, none⟩) P.length cb, .slice (some ⟨fb, fo, none⟩) P.length cc, .slice e P.length ce] 37) ∧ Below w.heap.size w wr) (fun i _ => P.length - (intOf i).toNat)
  case atStart => exact ⟨0, Nat.zero_le _, rfl, fun j hj => absurd hj (by omega), heap_last2 _ _ _ rfl, A1 _⟩
  case round =>
    obtain ⟨k, hk, rfl, hall, hbl, hbw⟩ := hrel
    obtain ⟨w1, hw1⟩ : ∃ w1, w1 = wr := ⟨_, rfl⟩
    subst hw1
    have HALL : Hid _ := hall
    have BW : Hid (Below w.heap.size w w1) := hbw
    have d0 : w1.cell? ⟨w.heap.size, 0, none⟩ = some (.slice (some ⟨pb, po, none⟩) P.length ca) := cell_of hbl 0
    have d1 : w1.cell? ⟨w.heap.size, 1, none⟩ = some (.slice (some ⟨qb, qo, none⟩) P.length cb) := cell_of hbl 1
    have d2 : w1.cell? ⟨w.heap.size, 2, none⟩ = some (.slice (some ⟨fb, fo, none⟩) P.length cc) := cell_of hbl 2
    have d3 : w1.cell? ⟨w.heap.size, 3, none⟩ = some (.slice e P.length ce) := cell_of hbl 3
    have HBL : Hid _ := hbl
    clear hall hbw hbl
    by_cases hlt : k < P.length
    · have hltI : (k : Int) < (P.length : Int) := by omega
      have hkR : k < R.length := by rw [H4.out]; exact hlt
      obtain ⟨eb, eo, sa, sc, rfl, l1, c1, iS⟩ := HE.out k hkR
      have hls : (rw_ R k).length ≤ 1048576 := Nat.le_trans (rw_len R k hkR) HLR.out
      have g1 : w1.cell? ⟨eb, eo + k, none⟩ = some (.slice sa (rw_ R k).length sc) := (BW.out.cell (p := ⟨eb, eo + k, none⟩) l1).trans c1
      have HRI : Hid (Calls Try.prog 76 #[.slice sa (rw_ R k).length sc, .int .i64 0, .int .i64 7] w1 fun e w' => e = .returned (.bool (risB 0 7 (rw_ R k))) ∧ w' = w1) := sris_any 0 7 (rw_ R k) _ _ _ hls (IntsAt.keepB iS BW.out)
      clear c1 iS
      cases q0 : risB 0 7 (rw_ R k) with
      | false =>
        rw [q0] at HRI
        have HG : Hid (goodA P B F R = false) := goodA_no fun h => by have := (h.2.2.2 k hlt).1; rw [q0] at this; cases this
        clear q0
        go_wp2_with fail
        refine Calls.mono HRI.out ?_
        rintro r w' ⟨rfl, rfl⟩
        go_wp2
        go_ret
        exact ⟨by rw [HG.out] <;> rfl, BW.out⟩
      | true =>
        rw [q0] at HRI
        by_cases hk0 : k = 0
        · have HN : Hid (∀ j, j < k + 1 → risB 0 7 (rw_ R j) = true ∧ (0 < j → okSt P B F j)) := fun j hj => by
            obtain rfl : j = k := by omega
            exact ⟨q0, fun h => absurd h (by omega)⟩
          have hk0I : ((k : Int) == 0) = true := by simp; omega
          have hk0K : decide ((k : Int) = 0) = true := decide_eq_true (by omega)
          clear q0 hk0
          go_wp2_with fail
          refine Calls.mono HRI.out ?_
          rintro r w' ⟨rfl, rfl⟩
          go_wp2
          go_roundw
          case rel => exact ⟨k + 1, by omega, by go_num, HN.out, HBL.out, BW.out⟩
          case measure => simp [intOf]; omega
        · have Q0 : Hid (risB 0 7 (rw_ R k) = true) := q0
          have hk0I : ((k : Int) == 0) = false := by simp; omega
          have hk0J : ¬ (k : Int) = 0 := by omega
          have hwk : IntKind.i64.wrap ((k : Int) - 1) = (k : Int) - 1 := IntWalk.i64_in _ (by omega)
          clear q0
          obtain ⟨pb', po', pe, pl', pc⟩ := HA.out k hlt
          cases pe
          have gp : w1.cell? ⟨pb, po + k, none⟩ = some (.int .i64 (P.getD k 0)) := (BW.out.cell (p := ⟨pb, po + k, none⟩) pl').trans pc
          obtain ⟨qb', qo', qe, ql', qc⟩ := HB.out k (by rw [H2.out]; exact hlt)
          cases qe
          have gq : w1.cell? ⟨qb, qo + k, none⟩ = some (.int .i64 (B.getD k 0)) := (BW.out.cell (p := ⟨qb, qo + k, none⟩) ql').trans qc
          obtain ⟨fb', fo', fe, fl', fc⟩ := HC.out k (by rw [H3.out]; exact hlt)
          cases fe
          have gf : w1.cell? ⟨fb, fo + k, none⟩ = some (.int .i64 (F.getD k 0)) := (BW.out.cell (p := ⟨fb, fo + k, none⟩) fl').trans fc
          have HIP : Hid (Calls Try.prog 74 #[.int .i64 (P.getD k 0), .int .i64 0, .int .i64 ((k : Int) - 1)] w1 fun e w' => e = .returned (.bool (decide (0 ≤ P.getD k 0 ∧ P.getD k 0 ≤ (k : Int) - 1))) ∧ w' = w1) := in_any _ _ _ _
          have HIF : Hid (Calls Try.prog 74 #[.int .i64 (F.getD k 0), .int .i64 0, .int .i64 ((k : Int) - 1)] w1 fun e w' => e = .returned (.bool (decide (0 ≤ F.getD k 0 ∧ F.getD k 0 ≤ (k : Int) - 1))) ∧ w' = w1) := in_any _ _ _ _
          have HGR : Hid (Calls Try.prog 75 #[.int .i64 (B.getD k 0)] w1 fun e w' => e = .returned (.bool (goodB (B.getD k 0))) ∧ w' = w1) := good_any _ _
          clear pc qc fc
          by_cases q1 : 0 ≤ P.getD k 0 ∧ P.getD k 0 ≤ (k : Int) - 1
          case neg =>
            have HG : Hid (goodA P B F R = false) := goodA_no fun h => q1 ((h.2.2.2 k hlt).2 (by omega)).1
            rw [decide_eq_false q1] at HIP
            generalize P.getD k 0 = x at gp HIP
            clear q1 gq gf HIF HGR
            go_wp2_with fail
            refine Calls.mono HRI.out ?_
            rintro r w' ⟨rfl, rfl⟩
            go_wp2_with fail
            refine Calls.mono HIP.out ?_
            rintro r w' ⟨rfl, rfl⟩
            go_wp2
            go_ret
            exact ⟨by rw [HG.out] <;> rfl, BW.out⟩
          cases q2 : goodB (B.getD k 0)
          case false =>
            have HG : Hid (goodA P B F R = false) := goodA_no fun h => by
              have := ((h.2.2.2 k hlt).2 (by omega)).2.1
              rw [q2] at this
              cases this
            rw [decide_eq_true q1] at HIP
            rw [q2] at HGR
            generalize P.getD k 0 = x at gp HIP
            generalize B.getD k 0 = y at gq HGR
            clear q1 q2 gf HIF
            go_wp2_with fail
            refine Calls.mono HRI.out ?_
            rintro r w' ⟨rfl, rfl⟩
            go_wp2_with fail
            refine Calls.mono HIP.out ?_
            rintro r w' ⟨rfl, rfl⟩
            go_wp2_with fail
            refine Calls.mono HGR.out ?_
            rintro r w' ⟨rfl, rfl⟩
            go_wp2
            go_ret
            exact ⟨by rw [HG.out] <;> rfl, BW.out⟩
          by_cases q3 : 0 ≤ F.getD k 0 ∧ F.getD k 0 ≤ (k : Int) - 1
          case neg =>
            have HG : Hid (goodA P B F R = false) := goodA_no fun h => q3 ((h.2.2.2 k hlt).2 (by omega)).2.2.1
            rw [decide_eq_true q1] at HIP
            rw [q2] at HGR
            rw [decide_eq_false q3] at HIF
            generalize P.getD k 0 = x at gp HIP
            generalize B.getD k 0 = y at gq HGR
            generalize F.getD k 0 = z at gf HIF
            clear q1 q2 q3
            go_wp2_with fail
            refine Calls.mono HRI.out ?_
            rintro r w' ⟨rfl, rfl⟩
            go_wp2_with fail
            refine Calls.mono HIP.out ?_
            rintro r w' ⟨rfl, rfl⟩
            go_wp2_with fail
            refine Calls.mono HGR.out ?_
            rintro r w' ⟨rfl, rfl⟩
            go_wp2_with fail
            refine Calls.mono HIF.out ?_
            rintro r w' ⟨rfl, rfl⟩
            go_wp2
            go_ret
            exact ⟨by rw [HG.out] <;> rfl, BW.out⟩
          rw [decide_eq_true q1] at HIP
          rw [q2] at HGR
          rw [decide_eq_true q3] at HIF
          have Q1 : Hid _ := q1
          have Q2 : Hid _ := q2
          have Q3 : Hid _ := q3
          generalize hx : P.getD k 0 = x at gp HIP
          generalize hy : B.getD k 0 = y at gq HGR
          generalize hz : F.getD k 0 = z at gf HIF
          have HX : Hid _ := hx
          have HY : Hid _ := hy
          clear q1 q2 q3 hx hy hz
          go_wp2_with fail
          refine Calls.mono HRI.out ?_
          rintro r w' ⟨rfl, rfl⟩
          go_wp2_with fail
          refine Calls.mono HIP.out ?_
          rintro r w' ⟨rfl, rfl⟩
          go_wp2_with fail
          refine Calls.mono HGR.out ?_
          rintro r w' ⟨rfl, rfl⟩
          go_wp2_with fail
          refine Calls.mono HIF.out ?_
          rintro r w' ⟨rfl, rfl⟩
          go_wp2
          clear d0 d1 d2 d3 g1 gp gq gf HRI HIP HIF HGR
          go_loopw [5] (fun i wr => ∃ m : Nat, 1 ≤ m ∧ m ≤ k ∧ i = .int .i64 m ∧ noTwin P B k m ∧ wr.heap[w.heap.size]? = some (.cells #[.slice (some ⟨pb, po, none⟩) P.length ca, .slice (some ⟨qb, qo, none⟩) P.length cb, .slice (some ⟨fb, fo, none⟩) P.length cc, .slice (some ⟨eb, eo, none⟩) P.length ce] 37) ∧ Below w.heap.size w wr) (fun i _ => k - (intOf i).toNat)
          case atStart => exact ⟨1, Nat.le_refl _, by omega, rfl, fun j j1 j2 => absurd j2 (by omega), HBL.out, BW.out⟩
          case round =>
            obtain ⟨m, hm1, hm2, rfl, hno, hbl, hbw⟩ := hrel
            have HNO : Hid _ := hno
            have BW2 : Hid (Below w.heap.size w wr) := hbw
            have d0 : wr.cell? ⟨w.heap.size, 0, none⟩ = some (.slice (some ⟨pb, po, none⟩) P.length ca) := cell_of hbl 0
            have d1 : wr.cell? ⟨w.heap.size, 1, none⟩ = some (.slice (some ⟨qb, qo, none⟩) P.length cb) := cell_of hbl 1
            have HBL2 : Hid _ := hbl
            clear hno hbw hbl
            by_cases hmk : m < k
            · have hmI : (m : Int) < (k : Int) := by omega
              have hmJ : (m : Int) < (P.length : Int) := by omega
              obtain ⟨pb', po', pe, pl1, pc1⟩ := HA.out k hlt
              cases pe
              have gp : wr.cell? ⟨pb, po + k, none⟩ = some (.int .i64 (P.getD k 0)) := (BW2.out.cell (p := ⟨pb, po + k, none⟩) pl1).trans pc1
              obtain ⟨pb', po', pe, pl2, pc2⟩ := HA.out m (by omega)
              cases pe
              have gp2 : wr.cell? ⟨pb, po + m, none⟩ = some (.int .i64 (P.getD m 0)) := (BW2.out.cell (p := ⟨pb, po + m, none⟩) pl2).trans pc2
              obtain ⟨qb', qo', qe, ql1, qc1⟩ := HB.out k (by rw [H2.out]; exact hlt)
              cases qe
              have gq : wr.cell? ⟨qb, qo + k, none⟩ = some (.int .i64 (B.getD k 0)) := (BW2.out.cell (p := ⟨qb, qo + k, none⟩) ql1).trans qc1
              obtain ⟨qb', qo', qe, ql2, qc2⟩ := HB.out m (by rw [H2.out]; omega)
              cases qe
              have gq2 : wr.cell? ⟨qb, qo + m, none⟩ = some (.int .i64 (B.getD m 0)) := (BW2.out.cell (p := ⟨qb, qo + m, none⟩) ql2).trans qc2
              clear pc1 pc2 qc1 qc2
              by_cases e1 : P.getD m 0 = P.getD k 0
              · by_cases e2 : B.getD m 0 = B.getD k 0
                · have HG : Hid (goodA P B F R = false) := goodA_no fun h => ((h.2.2.2 k hlt).2 (by omega)).2.2.2 m hm1 hmk ⟨e1, e2⟩
                  rw [e1] at gp2
                  rw [e2] at gq2
                  generalize P.getD k 0 = s at gp gp2
                  generalize B.getD k 0 = t at gq gq2
                  clear e1 e2
                  go_wp2
                  go_quiet (fail)
                  go_wp2
                  go_ret
                  exact ⟨by rw [HG.out] <;> rfl, below_drewN BW2.out _⟩
                · have HN : Hid (noTwin P B k (m + 1)) := fun j j1 j2 h => by
                    by_cases ej : j = m
                    · exact e2 (ej ▸ h.2)
                    · exact HNO.out j j1 (by omega) h
                  rw [e1] at gp2
                  generalize P.getD k 0 = s at gp gp2
                  generalize B.getD k 0 = t at gq e2
                  generalize B.getD m 0 = u at gq2 e2
                  have e2b : decide (u = t) = false := decide_eq_false e2
                  have e2c : (u == t) = false := by simpa using e2
                  clear e1
                  go_wp2
                  go_quiet (fail)
                  go_wp2
                  go_roundw
                  case rel => exact ⟨m + 1, by omega, by omega, by go_num, HN.out, HBL2.out, below_drewN BW2.out _⟩
                  case measure => simp [intOf]; omega
              · have HN : Hid (noTwin P B k (m + 1)) := fun j j1 j2 h => by
                  by_cases ej : j = m
                  · exact e1 (ej ▸ h.1)
                  · exact HNO.out j j1 (by omega) h
                generalize P.getD k 0 = s at gp e1
                generalize P.getD m 0 = u at gp2 e1
                have e1b : decide (u = s) = false := decide_eq_false e1
                have e1c : (u == s) = false := by simpa using e1
                clear gq gq2
                go_wp2
                go_quiet (fail)
                go_wp2
                go_roundw
                case rel => exact ⟨m + 1, by omega, by omega, by go_num, HN.out, HBL2.out, below_drewN BW2.out _⟩
                case measure => simp [intOf]; omega
            · obtain rfl : m = k := by omega
              have hmI : ¬ (m : Int) < (m : Int) := by omega
              have HN : Hid (∀ j, j < m + 1 → risB 0 7 (rw_ R j) = true ∧ (0 < j → okSt P B F j)) := fun j hj => by
                by_cases ej : j = m
                · subst ej
                  exact ⟨Q0.out, fun _ => ⟨Q1.out, Q2.out, Q3.out, HNO.out⟩⟩
                · exact HALL.out j (by omega)
              go_wp2
              go_roundw
              case rel => exact ⟨m + 1, by omega, by go_num, HN.out, HBL2.out, BW2.out⟩
              case measure => simp [intOf]; omega
    · obtain rfl : k = P.length := by omega
      have hltI : ¬ (P.length : Int) < (P.length : Int) := by omega
      have HG : Hid (goodA P B F R = true) := goodA_yes ⟨h1, ⟨H2.out, H3.out, H4.out⟩, ⟨H5.out, H6.out, H7.out⟩, HALL.out⟩
      go_wp2
      go_ret
      exact ⟨by rw [HG.out] <;> rfl, BW.out⟩
end Go.Proofs.Ytabjjlcjephhkaa

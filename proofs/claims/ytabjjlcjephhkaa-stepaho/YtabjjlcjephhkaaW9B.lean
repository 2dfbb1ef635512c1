/-
  StepAho of the specification and of the program.
-/
import Derived.Test.YtabjjlcjephhkaaW9A
import Derived.Test.YtabjjlcjephhkaaW8N
namespace Go.Proofs.Ytabjjlcjephhkaa
open Go.ChangeShapes Go.WideShapes Go.ChangeAt Go.WideMaps Go.WideElems Go.RowKit
theorem sq_none {Q : List Sq} {j : Nat} (h : Q.length ≤ j) : sq Q j = ⟨0, 0, 0, 0, .slice none 0 0⟩ := by
  unfold sq
  simp [List.getD, List.getElem?_eq_none h]
theorem rdQ_key (P B F : List Int) (V V' : Nat → Value) : ∀ n, 0 < n → ∀ j, j < n → (sq (rdQ P B F V' n) j).f = (sq (rdQ P B F V n) j).f ∧ (sq (rdQ P B F V' n) j).b = (sq (rdQ P B F V n) j).b ∧ (sq (rdQ P B F V' n) j).l = (sq (rdQ P B F V n) j).l ∧ (sq (rdQ P B F V' n) j).q = (sq (rdQ P B F V n) j).q
  | n + 1, _, j, hj => by
    by_cases n0 : n = 0
    · subst n0
      obtain rfl : j = 0 := by omega
      exact ⟨rfl, rfl, rfl, rfl⟩
    · have h0 : 0 < n := by omega
      have ih := rdQ_key P B F V V' n h0
      have l1 := rdQ_len P B F V n h0
      have l2 := rdQ_len P B F V' n h0
      rw [rdQ_step _ _ _ _ h0, rdQ_step _ _ _ _ h0]
      by_cases e : j < n
      · rw [sq_old _ _ _ (by omega), sq_old _ _ _ (by omega)]
        exact ih j e
      · obtain rfl : j = n := by omega
        have s1 := sq_new (rdQ P B F V j) ⟨P.getD j 0, B.getD j 0, (sq (rdQ P B F V j) (P.getD j 0).toNat).l + 1, F.getD j 0, V j⟩
        have s2 := sq_new (rdQ P B F V' j) ⟨P.getD j 0, B.getD j 0, (sq (rdQ P B F V' j) (P.getD j 0).toNat).l + 1, F.getD j 0, V' j⟩
        rw [l1] at s1
        rw [l2] at s2
        rw [s1, s2]
        refine ⟨rfl, rfl, ?_, rfl⟩
        dsimp only
        by_cases e2 : (P.getD j 0).toNat < j
        · rw [(ih _ e2).2.2.1]
        · have d1 : sq (rdQ P B F V j) (P.getD j 0).toNat = ⟨0, 0, 0, 0, .slice none 0 0⟩ := sq_none (show (rdQ P B F V j).length ≤ (P.getD j 0).toNat by omega)
          have d2 : sq (rdQ P B F V' j) (P.getD j 0).toNat = ⟨0, 0, 0, 0, .slice none 0 0⟩ := sq_none (show (rdQ P B F V' j).length ≤ (P.getD j 0).toNat by omega)
          rw [d1, d2]
theorem rdQ_same (P B F : List Int) (V V' : Nat → Value) (n : Nat) (hn : 0 < n) : SameQ (rdQ P B F V n) (rdQ P B F V' n) := by
  have key := rdQ_key P B F V V' n hn
  have l1 := rdQ_len P B F V n hn
  have l2 := rdQ_len P B F V' n hn
  refine ⟨by rw [l1, l2], fun j => ?_⟩
  by_cases e : j < n
  · exact key j e
  · have d1 : sq (rdQ P B F V n) j = ⟨0, 0, 0, 0, .slice none 0 0⟩ := sq_none (show (rdQ P B F V n).length ≤ j by omega)
    have d2 : sq (rdQ P B F V' n) j = ⟨0, 0, 0, 0, .slice none 0 0⟩ := sq_none (show (rdQ P B F V' n).length ≤ j by omega)
    rw [d1, d2]
    exact ⟨rfl, rfl, rfl, rfl⟩
def nV : Nat → Value := fun _ => .slice none 0 0
noncomputable def stK (P B F : List Int) (R : Rw) (s r : Int) : Bool := goodA P B F R && (decide (0 ≤ s ∧ s < P.length) && goodB r)
noncomputable def stR (P B F : List Int) (R : Rw) (s r : Int) : Int := if stK P B F R s r = true then (stepN (rdQ P B F nV P.length) (rdE P B P.length) s.toNat r : Nat) else 0
theorem st_no {P B F : List Int} {R : Rw} {s r : Int} (h : stK P B F R s r = false) : stK P B F R s r = false ∧ stR P B F R s r = 0 := ⟨h, by unfold stR; rw [h]; rfl⟩
theorem st_yes {P B F : List Int} {R : Rw} {s : Nat} {r : Int} (h : stK P B F R s r = true) : stK P B F R s r = true ∧ stR P B F R s r = (stepN (rdQ P B F nV P.length) (rdE P B P.length) s r : Nat) := ⟨h, by unfold stR; rw [if_pos h]; simp⟩
set_option maxRecDepth 100000 in
set_option maxHeartbeats 4000000 in
theorem sstepA_any (P B F : List Int) (R : Rw) (s r : Int) (a b c e : Option Addr) (ca cb cc ce : Nat) (w : World) (hl : szA P B F R ≤ 1048576) (hA : IntsAt w a P) (hB : IntsAt w b B) (hC : IntsAt w c F) (hE : RowsAt w e R) :
    Calls Try.prog 32 #[.agg #[.slice a P.length ca, .slice b B.length cb, .slice c F.length cc, .slice e R.length ce], .int .i64 s, .int .i64 r] w fun x w' => x = .returned (.tuple #[.int .i64 (stR P B F R s r), .bool (stK P B F R s r)]) ∧ Below w.heap.size w w' := by
  have HS : Hid (∀ o, Calls Try.prog 34 #[.agg #[.slice a P.length ca, .slice b B.length cb, .slice c F.length cc, .slice e R.length ce]] (w.alloc o) fun r w' => r = .returned (.bool (goodA P B F R)) ∧ Below (w.alloc o).heap.size (w.alloc o) w') := fun o => sgoodA_any P B F R a b c e ca cb cc ce (w.alloc o) hl (IntsAt.keepB hA (al_W w o)) (IntsAt.keepB hB (al_W w o)) (IntsAt.keepB hC (al_W w o)) (RowsAt.keepB hE (al_W w o))
  have HA : Hid _ := hA
  have HB : Hid _ := hB
  have HC : Hid _ := hC
  have hlP : P.length ≤ 1048576 := by unfold szA at hl; omega
  clear hA hB hC hE hl
  cases hg : goodA P B F R with
  | false =>
    have HK : Hid (stK P B F R s r = false ∧ stR P B F R s r = 0) := st_no (by unfold stK; rw [hg]; rfl)
    rw [hg] at HS
    clear hg
    go_enter Try.func32, Try.ntmps32
    go_wp2_with fail
    refine Calls.mono (HS.out _) ?_
    rintro x w1 ⟨rfl, b1⟩
    have B1 : Hid (Below w.heap.size w w1) := (al_W w _).trans (b1.mono (al_W w _).size)
    clear b1
    go_wp2
    go_ret2
    exact ⟨by rw [HK.out.1, HK.out.2] <;> rfl, B1.out⟩
  | true =>
    have hok := goodA_true hg
    rw [hg] at HS
    rw [hok.2.1.1, hok.2.1.2.1] at HS ⊢
    have HOK : Hid _ := hok
    by_cases hin : 0 ≤ s ∧ s < (P.length : Int)
    · obtain ⟨sn, rfl⟩ : ∃ sn : Nat, s = (sn : Int) := ⟨s.toNat, by omega⟩
      have HIN : Hid (∀ w, Calls Try.prog 74 #[.int .i64 sn, .int .i64 0, .int .i64 ((P.length : Int) - 1)] w fun e w' => e = .returned (.bool true) ∧ w = w') := fun w => in_yes (by omega) w
      have hw1 : IntKind.i64.wrap ((P.length : Int) - 1) = (P.length : Int) - 1 := IntWalk.i64_in _ (by omega)
      have HGR : Hid (∀ w, Calls Try.prog 75 #[.int .i64 r] w fun e w' => e = .returned (.bool (goodB r)) ∧ w' = w) := fun w => good_any r w
      cases hr : goodB r with
      | false =>
        have HK : Hid (stK P B F R sn r = false ∧ stR P B F R sn r = 0) := st_no (by unfold stK; rw [hr]; simp)
        rw [hr] at HGR
        clear hg hr hok
        go_enter Try.func32, Try.ntmps32
        go_wp2_with fail
        refine Calls.mono (HS.out _) ?_
        rintro x w1 ⟨rfl, b1⟩
        have hbl1 := (b1.block w.heap.size (by simp)).trans (heap_last2 w _ _ rfl)
        have d0 := cell_of hbl1 0
        simp only [List.getElem?_toArray, List.getElem?_cons_zero] at d0
        have B1 : Hid (Below w.heap.size w w1) := (al_W w _).trans (b1.mono (al_W w _).size)
        clear b1 hbl1
        go_wp2_with fail
        refine Calls.mono (HIN.out _) ?_
        rintro x w' ⟨rfl, rfl⟩
        go_wp2_with fail
        refine Calls.mono (HGR.out _) ?_
        rintro x w' ⟨rfl, rfl⟩
        go_wp2
        go_ret2
        exact ⟨by rw [HK.out.1, HK.out.2] <;> rfl, B1.out⟩
      | true =>
        have HK : Hid (stK P B F R sn r = true ∧ stR P B F R sn r = (stepN (rdQ P B F nV P.length) (rdE P B P.length) sn r : Nat)) := st_yes (by unfold stK; rw [hg, hr, decide_eq_true hin]; rfl)
        rw [hr] at HGR
        have HSN : Hid (sn < P.length) := by exact (by omega : sn < P.length)
        clear hg hr hok
        go_enter Try.func32, Try.ntmps32
        go_wp2_with fail
        refine Calls.mono (HS.out _) ?_
        rintro x w1 ⟨rfl, b1⟩
        have hbl1 := (b1.block w.heap.size (by simp)).trans (heap_last2 w _ _ rfl)
        have d0 := cell_of hbl1 0
        have d1 := cell_of hbl1 1
        have d2 := cell_of hbl1 2
        have d3 := cell_of hbl1 3
        simp only [List.getElem?_toArray, List.getElem?_cons_zero, List.getElem?_cons_succ] at d0 d1 d2 d3
        have B1 : Hid (Below w.heap.size w w1) := (al_W w _).trans (b1.mono (al_W w _).size)
        clear b1 hbl1
        go_wp2_with fail
        refine Calls.mono (HIN.out _) ?_
        rintro x w' ⟨rfl, rfl⟩
        go_wp2_with fail
        refine Calls.mono (HGR.out _) ?_
        rintro x w' ⟨rfl, rfl⟩
        go_wp2_with fail
        refine Calls.mono (sstep_any P B F R HOK.out nV r (sn + 1) sn (by omega) HSN.out _ _ _ _ _ _ _ _ _ _ (IntsAt.keepB HA.out B1.out) (IntsAt.keepB HB.out B1.out) (IntsAt.keepB HC.out B1.out)) ?_
        rintro x w2 ⟨rfl, b2⟩
        have B2 : Hid (Below w.heap.size w w2) := B1.out.trans (b2.mono B1.out.size)
        clear b2
        go_wp2
        go_ret2
        exact ⟨by rw [HK.out.1, HK.out.2] <;> rfl, B2.out⟩
    · have HK : Hid (stK P B F R s r = false ∧ stR P B F R s r = 0) := st_no (by unfold stK; rw [decide_eq_false hin]; simp)
      have HIN : Hid (∀ w, Calls Try.prog 74 #[.int .i64 s, .int .i64 0, .int .i64 ((P.length : Int) - 1)] w fun e w' => e = .returned (.bool false) ∧ w = w') := fun w => in_no (by omega) w
      have hw1 : IntKind.i64.wrap ((P.length : Int) - 1) = (P.length : Int) - 1 := IntWalk.i64_in _ (by omega)
      clear hg hok hin
      go_enter Try.func32, Try.ntmps32
      go_wp2_with fail
      refine Calls.mono (HS.out _) ?_
      rintro x w1 ⟨rfl, b1⟩
      have hbl1 := (b1.block w.heap.size (by simp)).trans (heap_last2 w _ _ rfl)
      have d0 := cell_of hbl1 0
      simp only [List.getElem?_toArray, List.getElem?_cons_zero] at d0
      have B1 : Hid (Below w.heap.size w w1) := (al_W w _).trans (b1.mono (al_W w _).size)
      clear b1 hbl1
      go_wp2_with fail
      refine Calls.mono (HIN.out _) ?_
      rintro x w' ⟨rfl, rfl⟩
      go_wp2
      go_ret2
      exact ⟨by rw [HK.out.1, HK.out.2] <;> rfl, B1.out⟩
set_option maxRecDepth 100000 in
set_option maxHeartbeats 4000000 in
theorem istepA_any (P B F : List Int) (R : Rw) (s r : Int) (a b c e : Option Addr) (ca cb cc ce : Nat) (w : World) (hl : szA P B F R ≤ 1048576) (hA : IntsAt w a P) (hB : IntsAt w b B) (hC : IntsAt w c F) (hE : RowsAt w e R) :
    Calls Try.prog 31 #[.agg #[.slice a P.length ca, .slice b B.length cb, .slice c F.length cc, .slice e R.length ce], .int .i64 s, .int .i64 r] w fun x w' => x = .returned (.tuple #[.int .i64 (stR P B F R s r), .bool (stK P B F R s r)]) ∧ Below w.heap.size w w' := by
  have HS : Hid (∀ o, Calls Try.prog 66 #[.agg #[.slice a P.length ca, .slice b B.length cb, .slice c F.length cc, .slice e R.length ce]] (w.alloc o) fun r w' => ((goodA P B F R = false ∧ r = .returned (.tuple #[.pointer none, .bool false])) ∨ (goodA P B F R = true ∧ ∃ tb V, r = .returned (.tuple #[.pointer (some ⟨tb, 0, none⟩), .bool true]) ∧ TrieAt w' ((w.alloc o).heap.size + 1) tb (rdQ P B F V P.length) (rdE P B P.length) ∧ EndsV w' V R P.length)) ∧ Below (w.alloc o).heap.size (w.alloc o) w') := fun o => readA_any P B F R a b c e ca cb cc ce (w.alloc o) hl (IntsAt.keepB hA (al_W w o)) (IntsAt.keepB hB (al_W w o)) (IntsAt.keepB hC (al_W w o)) (RowsAt.keepB hE (al_W w o))
  clear hA hB hC hE hl
  go_enter Try.func31, Try.ntmps31
  go_wp2_with fail
  refine Calls.mono (HS.out _) ?_
  rintro x w1 ⟨hx, b1⟩
  have B1 : Hid (Below w.heap.size w w1) := (al_W w _).trans (b1.mono (al_W w _).size)
  clear b1
  rcases hx with ⟨hg, rfl⟩ | ⟨hg, tb, V, rfl, ht, -⟩
  · have HK : Hid (stK P B F R s r = false ∧ stR P B F R s r = 0) := st_no (by unfold stK; rw [hg]; rfl)
    clear hg
    go_wp2
    go_ret2
    exact ⟨by rw [HK.out.1, HK.out.2] <;> rfl, B1.out⟩
  · have hok := goodA_true hg
    have hlq := rdQ_len P B F V P.length (by have := hok.1.1; omega)
    obtain ⟨g, cap, m, -, -, hblt, -, -⟩ := ht.form (by rw [hlq]; have := hok.1.1; omega)
    have t0 := cell_of hblt 0
    simp only [List.getElem?_toArray, List.getElem?_cons_zero] at t0
    rw [hlq] at t0
    have HT : Hid _ := ht
    have hn : P.length ≤ 100 := hok.1.2
    clear hblt ht
    by_cases hin : 0 ≤ s ∧ s < (P.length : Int)
    · obtain ⟨sn, rfl⟩ : ∃ sn : Nat, s = (sn : Int) := ⟨s.toNat, by omega⟩
      have HIN : Hid (∀ w, Calls Try.prog 72 #[.int .i64 sn, .int .i64 0, .int .i64 P.length] w fun e w' => e = .returned (.bool true) ∧ w' = w) := fun w => by
        have := amongB (r := sn) (n := P.length) (by omega) w
        rwa [decide_eq_true hin] at this
      have HGR : Hid (∀ w, Calls Try.prog 73 #[.int .i64 r] w fun e w' => e = .returned (.bool (goodB r)) ∧ w' = w) := fun w => igood_any r w
      cases hr : goodB r with
      | false =>
        have HK : Hid (stK P B F R sn r = false ∧ stR P B F R sn r = 0) := st_no (by unfold stK; rw [hr]; simp)
        rw [hr] at HGR
        clear hg hr hok hin hlq
        go_wp2_with fail
        refine Calls.mono (HIN.out _) ?_
        rintro x w' ⟨rfl, rfl⟩
        go_wp2_with fail
        refine Calls.mono (HGR.out _) ?_
        rintro x w' ⟨rfl, rfl⟩
        go_wp2
        go_ret2
        exact ⟨by rw [HK.out.1, HK.out.2] <;> rfl, B1.out⟩
      | true =>
        have HK : Hid (stK P B F R sn r = true ∧ stR P B F R sn r = (stepN (rdQ P B F V P.length) (rdE P B P.length) sn r : Nat)) := by
          have h := st_yes (P := P) (B := B) (F := F) (R := R) (s := sn) (r := r) (by unfold stK; rw [hg, hr, decide_eq_true hin]; rfl)
          refine ⟨h.1, h.2.trans ?_⟩
          rw [stepN_same (rdQ_same P B F nV V P.length (by omega))]
        rw [hr] at HGR
        have hgr := goodB_bd hr
        have HST : Hid _ := step_any _ tb sn r (rdQ P B F V P.length) (rdE P B P.length) w1 HT.out (okA_fail hok V) (by omega) (by omega) (WalkArith.wf_i64 (by omega))
        clear hg hr hok hin hlq hgr
        go_wp2_with fail
        refine Calls.mono (HIN.out _) ?_
        rintro x w' ⟨rfl, rfl⟩
        go_wp2_with fail
        refine Calls.mono (HGR.out _) ?_
        rintro x w' ⟨rfl, rfl⟩
        go_wp2_with fail
        refine Calls.mono HST.out ?_
        rintro x w' ⟨rfl, rfl⟩
        go_wp2
        go_ret2
        exact ⟨by rw [HK.out.1, HK.out.2] <;> rfl, B1.out⟩
    · have HK : Hid (stK P B F R s r = false ∧ stR P B F R s r = 0) := st_no (by unfold stK; rw [decide_eq_false hin]; simp)
      have HIN : Hid (∀ w, Calls Try.prog 72 #[.int .i64 s, .int .i64 0, .int .i64 P.length] w fun e w' => e = .returned (.bool false) ∧ w' = w) := fun w => by
        have := amongB (r := s) (n := P.length) (by omega) w
        rwa [decide_eq_false hin] at this
      clear hg hok hin hlq
      go_wp2_with fail
      refine Calls.mono (HIN.out _) ?_
      rintro x w' ⟨rfl, rfl⟩
      go_wp2
      go_ret2
      exact ⟨by rw [HK.out.1, HK.out.2] <;> rfl, B1.out⟩
end Go.Proofs.Ytabjjlcjephhkaa

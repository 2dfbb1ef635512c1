/-
  GoodRe of the specification.
-/
import Derived.Test.YtendikiflikobaaR5A
import Derived.Test.YtendikiflikobaaAlls
namespace Go.Proofs.Ytendikiflikobaa
open Go.ChangeShapes Go.WideShapes Go.ChangeAt Go.RowKit
set_option maxRecDepth 100000 in
set_option maxHeartbeats 1000000 in
theorem sar_any (op : Int) (w : World) :
    Calls Try.prog 97 #[.int .i64 op] w fun e w' => e = .returned (.int .i64 (arity op)) ∧ w' = w := by
  by_cases h1 : op = 1
  · subst h1; go_enter Try.func97, Try.ntmps97; go_wp2; go_ret; exact ⟨rfl, rfl⟩
  by_cases h2 : op = 2
  · subst h2; go_enter Try.func97, Try.ntmps97; go_wp2; go_ret; exact ⟨rfl, rfl⟩
  by_cases h6 : op = 6
  · subst h6; go_enter Try.func97, Try.ntmps97; go_wp2; go_ret; exact ⟨rfl, rfl⟩
  by_cases h7 : op = 7
  · subst h7; go_enter Try.func97, Try.ntmps97; go_wp2; go_ret; exact ⟨rfl, rfl⟩
  by_cases h3 : op = 3
  · subst h3; go_enter Try.func97, Try.ntmps97; go_wp2; go_ret; exact ⟨rfl, rfl⟩
  by_cases h4 : op = 4
  · subst h4; go_enter Try.func97, Try.ntmps97; go_wp2; go_ret; exact ⟨rfl, rfl⟩
  by_cases h5 : op = 5
  · subst h5; go_enter Try.func97, Try.ntmps97; go_wp2; go_ret; exact ⟨rfl, rfl⟩
  have HB : Hid (arity op = -1) := by show arity op = -1; simp [arity, h1, h2, h3, h4, h5, h6, h7]
  go_enter Try.func97, Try.ntmps97
  go_wp2
  go_ret
  exact ⟨by rw [HB.out] <;> rfl, rfl⟩
theorem goodS_len {L : List Int} (h : goodS L = true) : L.length ≤ 24 := (goodS_true h).2.1
set_option maxRecDepth 100000 in
set_option maxHeartbeats 2000000 in
theorem snode_any (x : Nd) (sa : Option Addr) (sc : Nat) (w : World) (hl : x.2.length ≤ 1048576) (hA : IntsAt w sa x.2) :
    Calls Try.prog 102 #[.agg #[.int .i64 x.1, .slice sa x.2.length sc]] w fun e w' => e = .returned (.bool (nodeB x)) ∧ Below w.heap.size w w' := by
  obtain ⟨op, s⟩ := x
  have HA : Hid _ := hA
  clear hA
  by_cases h1 : arity op < 0
  · have HB : Hid (nodeB (op, s) = false) := by show nodeB (op, s) = false; simp [nodeB, show ¬ 0 ≤ arity op by omega]
    go_enter Try.func102, Try.ntmps102
    go_wp2_with fail
    refine (sar_any op _).mono ?_
    rintro e w1 ⟨rfl, rfl⟩
    go_wp2
    go_ret
    exact ⟨by rw [HB.out] <;> rfl, by go_grown⟩
  have hEmp : goodS ([] : List Int) = true ∧ allG ([] : List Int) = true := ⟨by decide, by decide⟩
  have AL : ∀ o, Below w.heap.size w (w.alloc o) := fun o => (Below.refl _ _).alloc (Nat.le_refl _) o
  by_cases h2 : op = 2
  · subst h2
    have HN : Hid (nodeB (2, s) = (goodS s && allG s)) := by show nodeB (2, s) = (goodS s && allG s); simp [nodeB, arity]
    cases hgs : goodS s
    · have HG : Hid _ := hgs
      clear hgs
      go_enter Try.func102, Try.ntmps102
      go_wp2_with fail
      refine (sar_any 2 _).mono ?_
      rintro e w1 ⟨rfl, rfl⟩
      go_wp2_with fail
      refine (sgood4_any s sa sc _ hl (IntsAt.keepB HA.out (AL _))).mono ?_
      rintro e w1 ⟨rfl, b1⟩
      rw [HG.out]
      have B1 : Hid _ := (AL _).trans (b1.mono (by simp))
      clear b1
      go_wp2
      go_ret
      exact ⟨by rw [HN.out, HG.out]; rfl, B1.out⟩
    · have HG : Hid _ := hgs
      have hl24 := goodS_len hgs
      clear hgs
      go_enter Try.func102, Try.ntmps102
      go_wp2_with fail
      refine (sar_any 2 _).mono ?_
      rintro e w1 ⟨rfl, rfl⟩
      go_wp2_with fail
      refine (sgood4_any s sa sc _ hl (IntsAt.keepB HA.out (AL _))).mono ?_
      rintro e w1 ⟨rfl, b1⟩
      rw [HG.out]
      have c1 : w1.cell? ⟨w.heap.size, 1, none⟩ = some (.slice sa s.length sc) := (b1.cell (p := ⟨w.heap.size, 1, none⟩) (by simp)).trans (by simp)
      have B1 : Hid _ := (AL _).trans (b1.mono (by simp))
      clear b1
      go_wp2_with fail
      refine (all_any s sa sc _ (by omega) (IntsAt.keepB HA.out B1.out)).mono ?_
      rintro e w2 ⟨rfl, b2⟩
      have B2 : Hid _ := B1.out.trans (b2.mono B1.out.size)
      clear b2
      go_wp2
      go_ret
      exact ⟨by rw [HN.out, HG.out]; simp [show s.length ≤ 1000 by omega], B2.out⟩
  · by_cases h3 : s.length = 0
    · obtain rfl : s = [] := List.length_eq_zero_iff.1 h3
      have HN : Hid (nodeB (op, []) = true) := by show nodeB (op, []) = true; simp only [nodeB, hEmp.1, hEmp.2, decide_eq_true (show 0 ≤ arity op by omega)]; simp
      have HG : Hid (goodS ([] : List Int) = true) := hEmp.1
      clear hEmp
      go_enter Try.func102, Try.ntmps102
      go_wp2_with fail
      refine (sar_any op _).mono ?_
      rintro e w1 ⟨rfl, rfl⟩
      go_wp2_with fail
      refine (sgood4_any [] sa sc _ hl (IntsAt.keepB HA.out (AL _))).mono ?_
      rintro e w1 ⟨rfl, b1⟩
      rw [HG.out]
      have c1 : w1.cell? ⟨w.heap.size, 1, none⟩ = some (.slice sa 0 sc) := (b1.cell (p := ⟨w.heap.size, 1, none⟩) (by simp)).trans (by simp)
      have B1 : Hid _ := (AL _).trans (b1.mono (by simp))
      clear b1
      go_wp2_with fail
      refine (all_any [] sa sc _ (by simp) (IntsAt.keepB HA.out B1.out)).mono ?_
      rintro e w2 ⟨rfl, b2⟩
      have B2 : Hid _ := B1.out.trans (b2.mono B1.out.size)
      clear b2
      go_wp2
      go_ret
      exact ⟨by rw [HN.out]; rfl, B2.out⟩
    · have HN : Hid (nodeB (op, s) = false) := by
        show nodeB (op, s) = false
        cases s with
        | nil => simp at h3
        | cons x r => simp [nodeB, h2]
      have h3I : (0 : Int) < (s.length : Int) := by omega
      clear hEmp
      go_enter Try.func102, Try.ntmps102
      go_wp2_with fail
      refine (sar_any op _).mono ?_
      rintro e w1 ⟨rfl, rfl⟩
      go_wp2
      go_ret
      exact ⟨by rw [HN.out] <;> rfl, by go_grown⟩
set_option maxRecDepth 100000 in
set_option maxHeartbeats 4000000 in
theorem sgoodP_any (P : List Nd) (ao : Option Addr) (cap : Nat) (w : World) (hl : szP P ≤ 1048576) (hA : ResAt w ao P) :
    Calls Try.prog 58 #[.slice ao P.length cap] w fun e w' => e = .returned (.bool (oneP P)) ∧ Below w.heap.size w w' := by
  have HA : Hid _ := hA
  have HL : Hid _ := hl
  have hPl : P.length ≤ 1048576 := by unfold szP at hl; omega
  clear hA hl
  go_enter Try.func58, Try.ntmps58
  go_wp2
  go_loopw [3, 8] (fun p i wr => ∃ (k : Nat) (n : Int), k ≤ P.length ∧ i = .int .i64 k ∧ p = .int .i64 n ∧ pileK P k = some n ∧ Below w.heap.size w wr) (fun _ i _ => P.length - (intOf i).toNat)
  case atStart => exact ⟨0, 0, Nat.zero_le _, rfl, rfl, rfl, Below.refl _ _⟩
  case round =>
    obtain ⟨k, n, hk, rfl, rfl, hp, hbw⟩ := hrel
    have HP : Hid _ := hp
    obtain ⟨hn0, hnk⟩ := pileK_bd hp
    have BW0 : Hid _ := hbw
    clear hp hbw
    by_cases hlt : k < P.length
    · have hltI : (k : Int) < (P.length : Int) := by omega
      obtain ⟨b1, o1, sa, sc, rfl, l1, h0, h1, iS⟩ := HA.out k hlt
      have hls : (nd P k).2.length ≤ 1048576 := Nat.le_trans (nd_len P k hlt) HL.out
      have g0 : wr.cell? ⟨b1, o1 + k * 2, none⟩ = some (.int .i64 (nd P k).1) := (BW0.out.cell (p := ⟨b1, o1 + k * 2, none⟩) l1).trans h0
      have g1 : wr.cell? ⟨b1, o1 + k * 2 + 1, none⟩ = some (.slice sa (nd P k).2.length sc) := (BW0.out.cell (p := ⟨b1, o1 + k * 2 + 1, none⟩) l1).trans h1
      have IS : Hid _ := IntsAt.keepB iS BW0.out
      have AL : ∀ o, Below wr.heap.size wr (wr.alloc o) := fun o => (Below.refl _ _).alloc (Nat.le_refl _) o
      obtain ⟨ha0, ha2⟩ := arity_bd (nd P k).1
      clear h0 h1 iS
      cases hn : nodeB (nd P k)
      · have HN : Hid _ := hn
        have HF : Hid (oneP P = false) := by show oneP P = false; simp [oneP, pileK_no hlt HP.out (by simp [hn])]
        clear hn
        go_wp2_with fail
        refine (snode_any (nd P k) sa sc _ hls (IntsAt.keepB IS.out (AL _))).mono ?_
        rintro e w2 ⟨rfl, b2⟩
        rw [HN.out]
        have B2 : Hid (Below w.heap.size w w2) := BW0.out.trans (((AL _).trans (b2.mono (by simp))).mono BW0.out.size)
        clear b2 g0 g1
        go_wp2
        go_ret
        exact ⟨by rw [HF.out] <;> rfl, B2.out⟩
      · have HN : Hid _ := hn
        clear hn
        go_wp2_with fail
        refine (snode_any (nd P k) sa sc _ hls (IntsAt.keepB IS.out (AL _))).mono ?_
        rintro e w2 ⟨rfl, b2⟩
        rw [HN.out]
        have c0 : w2.cell? ⟨wr.heap.size, 0, none⟩ = some (.int .i64 (nd P k).1) := (b2.cell (p := ⟨wr.heap.size, 0, none⟩) (by simp)).trans (by simp)
        have B2 : Hid (Below w.heap.size w w2) := BW0.out.trans (((AL _).trans (b2.mono (by simp))).mono BW0.out.size)
        clear b2 g0 g1
        by_cases hle : arity (nd P k).1 ≤ n
        · have HS : Hid _ := pileK_yes HP.out HN.out hle
          have hle' : ¬ n < arity (nd P k).1 := by omega
          go_wp2_with fail
          refine (sar_any _ _).mono ?_
          rintro e w3 ⟨rfl, rfl⟩
          go_wp2_with fail
          refine (sar_any _ _).mono ?_
          rintro e w3 ⟨rfl, rfl⟩
          go_wp2
          go_roundw
          case rel => exact ⟨k + 1, n + 1 - arity (nd P k).1, by omega, by go_num, by go_num, HS.out, B2.out⟩
          case measure => simp [intOf]; omega
        · have HF : Hid (oneP P = false) := by show oneP P = false; simp [oneP, pileK_no hlt HP.out (by omega)]
          have hle' : n < arity (nd P k).1 := by omega
          go_wp2_with fail
          refine (sar_any _ _).mono ?_
          rintro e w3 ⟨rfl, rfl⟩
          go_wp2
          go_ret
          exact ⟨by rw [HF.out] <;> rfl, B2.out⟩
    · obtain rfl : k = P.length := by omega
      by_cases h1 : n = 1
      · subst h1
        have HF : Hid (oneP P = true) := by show oneP P = true; simp [oneP, HP.out]
        go_wp2
        go_ret
        exact ⟨by rw [HF.out] <;> rfl, BW0.out⟩
      · have HF : Hid (oneP P = false) := by show oneP P = false; simp [oneP, HP.out, h1]
        have hb1 : (n == 1) = false := by simpa using h1
        go_wp2
        go_ret
        exact ⟨by rw [HF.out] <;> rfl, BW0.out⟩
set_option maxRecDepth 100000 in
set_option maxHeartbeats 1000000 in
theorem sgoodRe_any (P : List Nd) (ao : Option Addr) (cap : Nat) (w : World) (hl : szP P ≤ 1048576) (hA : ResAt w ao P) :
    Calls Try.prog 17 #[.slice ao P.length cap] w fun e w' => e = .returned (.bool (goodP P)) ∧ Below w.heap.size w w' := by
  have HA : Hid _ := hA
  clear hA
  by_cases h40 : P.length ≤ 40
  · have HF : Hid (goodP P = oneP P) := by show goodP P = oneP P; simp [goodP, h40]
    have h40I : (P.length : Int) ≤ 40 := by omega
    go_enter Try.func17, Try.ntmps17
    go_wp2_with fail
    refine (sgoodP_any P ao cap _ hl HA.out).mono ?_
    rintro e w1 ⟨rfl, b1⟩
    go_wp2
    go_ret
    exact ⟨by rw [HF.out] <;> rfl, b1⟩
  · have HF : Hid (goodP P = false) := by show goodP P = false; simp [goodP, h40]
    have h40I : ¬ (P.length : Int) ≤ 40 := by omega
    go_enter Try.func17, Try.ntmps17
    go_wp2
    go_ret
    exact ⟨by rw [HF.out] <;> rfl, Below.refl _ _⟩
end Go.Proofs.Ytendikiflikobaa

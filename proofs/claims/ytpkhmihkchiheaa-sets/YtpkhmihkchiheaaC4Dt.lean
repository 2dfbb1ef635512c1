/-
  The draws DrawGoodSet, DrawCountSet, DrawFoldSet: a list in a row of its own.
-/
import Derived.Test.YtpkhmihkchiheaaC4Ds
namespace Go.Proofs.Ytpkhmihkchiheaa
open Go.ChangeShapes Go.WideShapes Go.ChangeAt Go.RowKit
/-- A list that was drawn, in a row of its own. -/
def DrawnL (w w' : World) (e : Ending) : Prop := ∃ (v : Value) (L : List Int), e = .returned v ∧ L.length ≤ 30 ∧ w'.ownsRow w.heap.size 3 1 v L.length (ints L)
set_option maxRecDepth 100000 in
set_option maxHeartbeats 2000000 in
theorem dgs_any (ao : Option Addr) (n cap : Nat) (w : World) (h : ArgB w ao n) :
    Calls Try.prog 54 #[.slice ao n cap] w fun e w' => DrawnL w w' e ∧ Below w.heap.size w w' := by
  have HC : Hid _ := cur_new cap h
  clear h
  go_enter Try.func54, Try.ntmps54
  go_wp2_with fail
  refine (one_any 20 _ _ ao n cap 0 _ (by omega) HC.out).mono ?_
  rintro e w1 ⟨r, k1, rfl, hk1, C1, g1⟩
  have HC1 : Hid _ := C1
  have G1 : Hid _ := g1
  clear C1 g1
  have hsz : w.heap.size < w1.heap.size := Nat.lt_of_lt_of_le (by simp) G1.out.size
  have hb1 : w.heap.size < w1.heap.size := hsz
  cases r
  · go_wp2_with fail
    refine (cset_any _ _ ao n cap k1 _ (by omega) HC1.out).mono ?_
    rintro e w2 ⟨v2, L2, k2, rfl, l2, hk2, C2, o2, g2⟩
    have G2 : Hid _ := grown_trans' G1.out g2
    have O2 : Hid (w2.ownsRow w.heap.size 3 1 v2 L2.length (ints L2)) := own_mono o2 (by omega)
    clear C2 g2 o2
    go_wp2
    go_ret
    exact ⟨⟨v2, L2, rfl, l2, O2.out⟩, below_of_cur G2.out⟩
  · go_wp2
    go_loopw [4, 5] (fun v i wr => ∃ (k kk : Nat) (L : List Int), i = .int .i64 k ∧ k ≤ 13 ∧ L.length = 2 * k ∧ kk ≤ 2 + 4 * k ∧ Cur wr (w.heap.size + 1) w.heap.size ao n cap kk ∧ wr.ownsRow w1.heap.size 3 1 v L.length (ints L) ∧ w1.grownBy wr (some w.heap.size)) (fun _ i _ => 13 - (intOf i).toNat)
    case atStart => exact ⟨0, k1, [], rfl, by omega, rfl, by omega, HC1.out, World.ownsRow_nil _ _ _ _, ⟨rfl, rfl, rfl, Nat.le_refl _, fun _ _ _ => rfl⟩⟩
    case round =>
      obtain ⟨k, kk, L, rfl, hk, hL, hkk, C2, o2, g2⟩ := hrel
      have HC2 : Hid _ := C2
      have O2 : Hid _ := o2
      have G2 : Hid _ := g2
      have HL : Hid _ := hL
      have hLl : L.length ≤ 26 := by omega
      clear C2 o2 g2 hL
      go_wp2_with fail
      refine (pick_any 2 _ _ ao n cap kk _ (by omega) HC2.out).mono ?_
      rintro e w3 ⟨r3, k3, rfl, p0, p1, hk3, C3, g3⟩
      have HC3 : Hid _ := C3
      have O3 : Hid _ := World.ownsRow.kept O2.out g3 (own_ne_cur O2.out hsz)
      have G3 : Hid _ := grown_trans' G2.out g3
      clear C3 g3
      have hr3 : r3 ≤ 1 := by omega
      by_cases hlt : (k : Int) < 12 + r3
      · have hk12 : k ≤ 12 := by omega
        go_wp2_with fail
        refine (pick_any 9 _ _ ao n cap k3 _ (by omega) HC3.out).mono ?_
        rintro e w4 ⟨r4, k4, rfl, q0, q1, hk4, C4, g4⟩
        have HC4 : Hid _ := C4
        have O4 : Hid _ := World.ownsRow.kept O3.out g4 (own_ne_cur O3.out hsz)
        have G4 : Hid _ := grown_trans' G3.out g4
        have hr4 : r4 ≤ 8 := by omega
        clear C4 g4 p1 q1
        have AL : ∀ o, Below w4.heap.size w4 (w4.alloc o) := fun o => (Below.refl _ _).alloc (Nat.le_refl _) o
        go_wp2_with (at_builtin; refine wpA _ rfl _ _ rfl w1.heap.size _ _ _ rfl (World.ownsRow.keepB O4.out (AL _)) (some ⟨w4.heap.size, 0, none⟩) [10 * (k : Int), 10 * (k : Int) + r4] 2 2 rfl rfl (ints_new2 w4 _ _ _ _ rfl) ?c1 ?c2 ?_)
        case c1 => omega
        case c2 => have := G4.out.size; simp; omega
        intro v5 w5 hown5 hgrow _
        have HC5 : Hid (Cur w5 (w.heap.size + 1) w.heap.size ao n cap k4) := Cur.grown (Cur.below HC4.out (AL _)) hgrow (fun g hg => by have := (World.ownsRow.lt O4.out g hg).1; omega)
        have G5 : Hid (w1.grownBy w5 (some w.heap.size)) := by
          have ga := grown_trans' G4.out (grown_of_below (AL (.cells #[.int .i64 (10 * (k : Int)), .int .i64 (10 * (k : Int) + r4)] 3)) (some w.heap.size))
          exact ⟨hgrow.os.trans ga.os, hgrow.tape.trans ga.tape, hgrow.output.trans ga.output, Nat.le_trans ga.size hgrow.size, fun i hi hn => (hgrow.block i (Nat.lt_of_lt_of_le hi ga.size) (fun e => by have := (World.ownsRow.lt O4.out i e.symm).1; omega)).trans (ga.block i hi hn)⟩
        have O5 : Hid _ := hown5
        clear hgrow hown5
        go_wp2
        go_roundw
        case rel => exact ⟨k + 1, k4, L ++ [10 * (k : Int), 10 * (k : Int) + r4], by go_num, by omega, by have := HL.out; simp; omega, by omega, HC5.out, own_cast O5.out (by simp) (by simp [ints]), G5.out⟩
        case measure => simp [intOf]; omega
      · have GW : Hid _ := grown_trans' G1.out G3.out
        clear p1
        go_wp2
        go_ret
        exact ⟨⟨_, L, rfl, by omega, own_mono O3.out (by omega)⟩, below_of_cur GW.out⟩
theorem dcs_any (ao : Option Addr) (n cap : Nat) (w : World) (h : ArgB w ao n) :
    Calls Try.prog 28 #[.slice ao n cap] w fun e w' => DrawnL w w' e ∧ Below w.heap.size w w' := by
  have HA : Hid _ := h
  clear h
  go_enter Try.func28, Try.ntmps28
  go_wp2_with fail
  refine (dgs_any ao n cap _ HA.out).mono ?_
  rintro e w1 ⟨⟨v, L, rfl, l, o⟩, b⟩
  go_wp2
  go_ret
  exact ⟨⟨v, L, rfl, l, o⟩, b⟩
end Go.Proofs.Ytpkhmihkchiheaa

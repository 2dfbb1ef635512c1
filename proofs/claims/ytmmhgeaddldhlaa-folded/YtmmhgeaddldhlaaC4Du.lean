/-
  The draws DrawSetOf, DrawFoldRune.
-/
import Derived.Test.YtmmhgeaddldhlaaC4Dt
namespace Go.Proofs.Ytmmhgeaddldhlaa
open Go.ChangeShapes Go.WideShapes Go.ChangeAt Go.RowKit
def setDL : List Int := [97, 98, 99, 100, 101, 48, 57, 12354, 0, 1114111]
theorem ints_new1 (w : World) (x : Int) (t : TypeId) (B : Nat) (hB : B = w.heap.size) : IntsAt (w.alloc (.cells #[.int .i64 x] t)) (some ⟨B, 0, none⟩) [x] := fun j hj => by
  subst hB
  obtain rfl : j = 0 := by simp at hj; omega
  exact ⟨w.heap.size, 0, rfl, by simp, by simp⟩
set_option maxRecDepth 100000 in
set_option maxHeartbeats 2000000 in
theorem dso_any (ao : Option Addr) (n cap : Nat) (w : World) (h : ArgB w ao n) :
    Calls Try.prog 34 #[.slice ao n cap] w fun e w' => DrawnL w w' e ∧ Below w.heap.size w w' := by
  have HC : Hid _ := cur_new cap h
  clear h
  go_enter Try.func34, Try.ntmps34
  go_wp2_with fail
  refine (pick_any 8 _ _ ao n cap 0 _ (by omega) HC.out).mono ?_
  rintro e w1 ⟨r, k1, rfl, r0, r1, hk1, C1, g1⟩
  have HC1 : Hid _ := C1
  have G1 : Hid _ := g1
  clear C1 g1
  have hsz : w.heap.size < w1.heap.size := Nat.lt_of_lt_of_le (by simp) G1.out.size
  have hr : r ≤ 7 := by omega
  clear r1
  go_wp2
  go_loopw [4, 5] (fun v i wr => ∃ (m kk : Nat) (L : List Int), i = .int .i64 m ∧ m ≤ 7 ∧ L.length + m ≤ 7 ∧ kk ≤ 2 + 2 * L.length ∧ Cur wr (w.heap.size + 1) w.heap.size ao n cap kk ∧ wr.ownsRow w1.heap.size 3 1 v L.length (ints L) ∧ w1.grownBy wr (some w.heap.size)) (fun _ i _ => (intOf i).toNat)
  case atStart => exact ⟨r.toNat, k1, [], by go_num, by omega, by simp; omega, by omega, HC1.out, World.ownsRow_nil _ _ _ _, ⟨rfl, rfl, rfl, Nat.le_refl _, fun _ _ _ => rfl⟩⟩
  case round =>
    obtain ⟨m, kk, L, rfl, hm, hL, hkk, C2, o2, g2⟩ := hrel
    have HC2 : Hid _ := C2
    have O2 : Hid _ := o2
    have G2 : Hid _ := g2
    clear C2 o2 g2
    have hws : w.heap.size < wr.heap.size := Nat.lt_of_lt_of_le hsz G2.out.size
    by_cases hlt : 0 < m
    · have hltI : (0 : Int) < (m : Int) := by omega
      have HV : Hid _ := vals_new wr w.heap.size hws _ (ints setDL) rfl 3
      have HB : Hid (Below wr.heap.size wr (wr.alloc (.cells (ints setDL).toArray 3))) := (Below.refl _ _).alloc (Nat.le_refl _) _
      go_wp2_with fail
      refine (among_any setDL _ _ _ _ ao n cap kk _ (by omega) (by decide) (by decide) HV.out (Cur.below HC2.out HB.out)).mono ?_
      rintro e w3 ⟨x, k3, rfl, hx, hk3, C3, g3⟩
      have G3 : Hid _ := grown_trans' (grown_of_below HB.out (some w.heap.size)) g3
      have HC3 : Hid _ := C3
      have O3 : Hid _ := World.ownsRow.kept O2.out G3.out (own_ne_cur O2.out hsz)
      have G4 : Hid _ := grown_trans' G2.out G3.out
      clear C3 g3 G3 hx
      have AL : ∀ o, Below w3.heap.size w3 (w3.alloc o) := fun o => (Below.refl _ _).alloc (Nat.le_refl _) o
      go_wp2_with (at_builtin; refine wpA _ rfl _ _ rfl w1.heap.size _ _ _ rfl (World.ownsRow.keepB O3.out (AL _)) (some ⟨w3.heap.size, 0, none⟩) [x] 1 1 rfl rfl (ints_new1 w3 _ _ _ rfl) ?c1 ?c2 ?_)
      case c1 => omega
      case c2 => have := G4.out.size; simp; omega
      intro v5 w5 hown5 hgrow _
      have HC5 : Hid (Cur w5 (w.heap.size + 1) w.heap.size ao n cap k3) := Cur.grown (Cur.below HC3.out (AL _)) hgrow (fun g hg => by have := (World.ownsRow.lt O3.out g hg).1; omega)
      have G5 : Hid (w1.grownBy w5 (some w.heap.size)) := by
        have ga := grown_trans' G4.out (grown_of_below (AL (.cells #[.int .i64 x] 3)) (some w.heap.size))
        exact ⟨hgrow.os.trans ga.os, hgrow.tape.trans ga.tape, hgrow.output.trans ga.output, Nat.le_trans ga.size hgrow.size, fun i hi hn => (hgrow.block i (Nat.lt_of_lt_of_le hi ga.size) (fun e => by have := (World.ownsRow.lt O3.out i e.symm).1; omega)).trans (ga.block i hi hn)⟩
      have O5 : Hid _ := hown5
      clear hgrow hown5
      go_wp2
      go_roundw
      case rel => exact ⟨m - 1, k3, L ++ [x], by go_num, by omega, by simp; omega, by simp; omega, HC5.out, own_cast O5.out (by simp) (by simp [ints]), G5.out⟩
      case measure => simp [intOf]; omega
    · obtain rfl : m = 0 := by omega
      go_wp2_with fail
      refine (one_any 30 _ _ ao n cap kk _ (by omega) HC2.out).mono ?_
      rintro e w2 ⟨q, k2, rfl, hk2, C2, g2⟩
      have O3 : Hid _ := World.ownsRow.kept O2.out g2 (own_ne_cur O2.out hsz)
      have G3 : Hid _ := grown_trans' G2.out g2
      clear C2 g2 HC2
      cases q
      · have GW : Hid _ := grown_trans' G1.out G3.out
        go_wp2
        go_ret
        exact ⟨⟨_, L, rfl, by omega, own_mono O3.out (by omega)⟩, below_of_cur GW.out⟩
      · clear hkk
        go_wp2
        go_loopw [4, 6] (fun v i wr => ∃ (k : Nat) (M : List Int), i = .int .i64 k ∧ k ≤ 13 ∧ M.length = L.length + k ∧ wr.ownsRow w1.heap.size 3 1 v M.length (ints M) ∧ w1.grownBy wr (some w.heap.size)) (fun _ i _ => 13 - (intOf i).toNat)
        case atStart => exact ⟨0, L, rfl, by omega, by omega, O3.out, G3.out⟩
        case round =>
          obtain ⟨k, M, rfl, hk, hM, o4, g4⟩ := hrel
          have O4 : Hid _ := o4
          have G4 : Hid _ := g4
          have HM : Hid _ := hM
          have hMl : M.length ≤ 20 := by omega
          clear o4 g4 hM
          by_cases hlt : k < 13
          · have hltI : (k : Int) < 13 := by omega
            have AL : ∀ o, Below wr.heap.size wr (wr.alloc o) := fun o => (Below.refl _ _).alloc (Nat.le_refl _) o
            go_wp2_with (at_builtin; refine wpA _ rfl _ _ rfl w1.heap.size _ _ _ rfl (World.ownsRow.keepB O4.out (AL _)) (some ⟨wr.heap.size, 0, none⟩) [2 * (k : Int)] 1 1 rfl rfl (ints_new1 wr _ _ _ rfl) ?c1 ?c2 ?_)
            case c1 => omega
            case c2 => have := G4.out.size; simp; omega
            intro v5 w5 hown5 hgrow _
            have G5 : Hid (w1.grownBy w5 (some w.heap.size)) := by
              have ga := grown_trans' G4.out (grown_of_below (AL (.cells #[.int .i64 (2 * (k : Int))] 3)) (some w.heap.size))
              exact ⟨hgrow.os.trans ga.os, hgrow.tape.trans ga.tape, hgrow.output.trans ga.output, Nat.le_trans ga.size hgrow.size, fun i hi hn => (hgrow.block i (Nat.lt_of_lt_of_le hi ga.size) (fun e => by have := (World.ownsRow.lt O4.out i e.symm).1; omega)).trans (ga.block i hi hn)⟩
            have O5 : Hid _ := hown5
            clear hgrow hown5
            go_wp2
            go_roundw
            case rel => exact ⟨k + 1, M ++ [2 * (k : Int)], by go_num, by omega, by have := HM.out; simp; omega, own_cast O5.out (by simp) (by simp [ints]), G5.out⟩
            case measure => simp [intOf]; omega
          · have GW : Hid _ := grown_trans' G1.out G4.out
            have hltI : ¬ (k : Int) < 13 := by omega
            go_wp2
            go_ret
            exact ⟨⟨_, M, rfl, by omega, own_mono O4.out (by omega)⟩, below_of_cur GW.out⟩
end Go.Proofs.Ytmmhgeaddldhlaa

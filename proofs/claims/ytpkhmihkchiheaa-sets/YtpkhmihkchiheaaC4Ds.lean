/-
  The draws DrawUnionSet, DrawInSet: lists in rows of their own.
-/
import Derived.Test.YtpkhmihkchiheaaC4Dr
import Derived.Test.YtpkhmihkchiheaaDraw
namespace Go.Proofs.Ytpkhmihkchiheaa
open Go.ChangeShapes Go.WideShapes Go.ChangeAt Go.RowKit
set_option maxRecDepth 100000 in
set_option maxHeartbeats 1000000 in
theorem duni_any (ao : Option Addr) (n cap : Nat) (w : World) (h : ArgB w ao n) :
    Calls Try.prog 15 #[.slice ao n cap] w fun e w' => ∃ (v1 v2 : Value) (L1 L2 : List Int), e = .returned (.tuple #[v1, v2]) ∧ L1.length ≤ 30 ∧ L2.length ≤ 30 ∧ w'.ownsRow w.heap.size 3 1 v1 L1.length (ints L1) ∧ w'.ownsRow w.heap.size 3 1 v2 L2.length (ints L2) ∧ Below w.heap.size w w' := by
  have HC : Hid _ := cur_new cap h
  clear h
  go_enter Try.func15, Try.ntmps15
  go_wp2_with fail
  refine (cset_any _ _ ao n cap 0 _ (by omega) HC.out).mono ?_
  rintro e w1 ⟨v1, L1, k1, rfl, l1, hk1, C1, o1, g1⟩
  have HC1 : Hid _ := C1
  have G1 : Hid _ := g1
  have O1 : Hid _ := o1
  clear C1 g1 o1
  go_wp2_with fail
  refine (cset_any _ _ ao n cap k1 _ (by omega) HC1.out).mono ?_
  rintro e w2 ⟨v2, L2, k2, rfl, l2, hk2, C2, o2, g2⟩
  have O1' : Hid _ := World.ownsRow.kept O1.out g2 (own_ne_cur O1.out (by simp))
  have G2 : Hid _ := grown_trans' G1.out g2
  have O2 : Hid (w2.ownsRow w.heap.size 3 1 v2 L2.length (ints L2)) := own_mono o2 (Nat.le_trans (by simp) G1.out.size)
  clear C2 g2 o2
  go_wp2
  go_ret2
  exact ⟨v1, v2, L1, L2, rfl, l1, l2, own_mono O1'.out (by simp), O2.out, below_of_cur G2.out⟩
set_option maxRecDepth 100000 in
set_option maxHeartbeats 1000000 in
theorem dinS_any (ao : Option Addr) (n cap : Nat) (w : World) (h : ArgB w ao n) :
    Calls Try.prog 24 #[.slice ao n cap] w fun e w' => ∃ (v : Value) (L : List Int) (r : Int), e = .returned (.tuple #[v, .int .i64 r]) ∧ L.length ≤ 30 ∧ goodB r = true ∧ w'.ownsRow w.heap.size 3 1 v L.length (ints L) ∧ Below w.heap.size w w' := by
  have HC : Hid _ := cur_new cap h
  clear h
  go_enter Try.func24, Try.ntmps24
  go_wp2_with fail
  refine (cset_any _ _ ao n cap 0 _ (by omega) HC.out).mono ?_
  rintro e w1 ⟨v1, L1, k1, rfl, l1, hk1, C1, o1, g1⟩
  have HC1 : Hid _ := C1
  have G1 : Hid _ := g1
  have O1 : Hid _ := o1
  clear C1 g1 o1
  go_wp2_with fail
  refine (rune_any _ _ ao n cap k1 _ (by omega) HC1.out).mono ?_
  rintro e w2 ⟨r, k2, rfl, hg, hk2, C2, g2⟩
  have O1' : Hid _ := World.ownsRow.kept O1.out g2 (own_ne_cur O1.out (by simp))
  have G2 : Hid _ := grown_trans' G1.out g2
  clear C2 g2
  go_wp2
  go_ret2
  exact ⟨v1, L1, r, rfl, l1, hg, own_mono O1'.out (by simp), below_of_cur G2.out⟩
end Go.Proofs.Ytpkhmihkchiheaa

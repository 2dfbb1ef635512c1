/-
  The draw DrawFoldRune.
-/
import Derived.Test.YtmmhgeaddldhlaaC4Dt
namespace Go.Proofs.Ytmmhgeaddldhlaa
open Go.ChangeShapes Go.WideShapes Go.ChangeAt Go.RowKit
def foldDL : List Int := [64, 65, 90, 91, 97, 122, -1, 55296, 1114111, 12354]
theorem amongF (W0 : World) (S : Nat) (hS : S = W0.heap.size) (B b : Nat) (ao : Option Addr) (n cap k : Nat) (hk : k ≤ 900) (h : Cur W0 B b ao n cap k) :
    Calls Try.prog 68 #[.pointer (some ⟨b, 0, none⟩), .slice (some ⟨S, 0, none⟩) 10 10] (W0.alloc (.cells #[.int .i64 64, .int .i64 65, .int .i64 90, .int .i64 91, .int .i64 97, .int .i64 122, .int .i64 (-1), .int .i64 55296, .int .i64 1114111, .int .i64 12354] 3)) fun e w' => ∃ r : Int, e = .returned (.int .i64 r) ∧ W0.grownBy w' (some b) := by
  subst hS
  have hb : b < W0.heap.size := Nat.lt_of_lt_of_le h.lt h.le
  have HV := vals_new W0 b hb _ (ints foldDL) rfl 3
  have HB : Below W0.heap.size W0 (W0.alloc (.cells (ints foldDL).toArray 3)) := (Below.refl _ _).alloc (Nat.le_refl _) _
  refine (among_any foldDL _ 10 B b ao n cap k _ hk (by decide) (by decide) HV (Cur.below h HB)).mono ?_
  rintro e w1 ⟨r, k', rfl, -, -, -, g1⟩
  exact ⟨r, rfl, grown_trans' (grown_of_below HB (some b)) g1⟩
set_option maxRecDepth 100000 in
set_option maxHeartbeats 1000000 in
theorem dfr_any (ao : Option Addr) (n cap : Nat) (w : World) (h : ArgB w ao n) :
    Calls Try.prog 37 #[.slice ao n cap] w fun e w' => ∃ r : Int, e = .returned (.int .i64 r) ∧ Below w.heap.size w w' := by
  have HC : Hid _ := cur_new cap h
  clear h
  go_enter Try.func37, Try.ntmps37
  go_wp2_with fail
  refine (amongF _ _ (by simp) _ _ ao n cap 0 (by omega) HC.out).mono ?_
  rintro e w1 ⟨r, rfl, g1⟩
  have GW : Hid _ := g1
  clear g1
  go_wp2
  go_ret
  exact ⟨r, rfl, below_of_cur GW.out⟩
end Go.Proofs.Ytmmhgeaddldhlaa

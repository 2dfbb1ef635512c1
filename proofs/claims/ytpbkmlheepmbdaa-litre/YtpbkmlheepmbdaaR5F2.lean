/-
  The program's reading of a node.
-/
import Derived.Test.YtpbkmlheepmbdaaR5F
import Derived.Test.YtpbkmlheepmbdaaC4F
namespace Go.Proofs.Ytpbkmlheepmbdaa
open Go.ChangeShapes Go.WideShapes Go.ChangeAt Go.RowKit
section
variable (op : Int) (s : List Int) (sa : Option Addr) (sc pb U n : Nat) (w : World)
set_option maxRecDepth 100000 in
set_option maxHeartbeats 4000000 in
theorem node_set (hop : op = 2) (hl : s.length ≤ 1048576) (hA : IntsAt w sa s) (hP : Pile w pb U n) :
    Calls Try.prog 78 #[.pointer (some ⟨pb, 0, none⟩), .agg #[.int .i64 op, .slice sa s.length sc]] w fun e w' => NodeE (op, s) pb n w w' e := by
  have HP : Hid _ := hP
  have HA : Hid _ := hA
  have A2 : ∀ o p, Below w.heap.size w ((w.alloc o).alloc p) := fun o p => ((Below.refl _ _).alloc (Nat.le_refl _) o).alloc (by simp) p
  have HNB : Hid (nodeB (2, s) = (goodS s && allG s)) := by show nodeB (2, s) = (goodS s && allG s); simp [nodeB, arity]
  have HAR : Hid (arity 2 = 0) := rfl
  have L2 : ∀ o p, ((w.alloc o).alloc p).heap.size = w.heap.size + 2 := fun o p => by simp
  have K0 : ∀ o p, ((w.alloc o).alloc p).heap[w.heap.size]? = some o := fun o p => (heap_prev _ _ _ (by simp)).trans (heap_last2 _ _ _ rfl)
  clear hP hA
  subst hop
  cases hgs : goodS s
  · have HG : Hid _ := hgs
    clear hgs
    go_enter Try.func78, Try.ntmps78
    go_wp2_with fail
    refine (igood4_any s sa sc _ hl (IntsAt.keepB HA.out (A2 _ _))).mono ?_
    rintro e w1 ⟨rfl, b1⟩
    rw [HG.out]
    have c01 : w1.cell? ⟨w.heap.size, 1, none⟩ = some (.slice sa s.length sc) := (b1.cell (p := ⟨w.heap.size, 1, none⟩) (by rw [L2]; exact Nat.lt_succ_of_lt (Nat.lt_succ_self _))).trans (cell_of (K0 _ _) 1)
    have B1 : Hid (Below w.heap.size w w1) := (A2 _ _).trans (b1.mono (A2 _ _).size)
    clear b1
    go_wp2
    go_ret2
    exact .inr ⟨by rw [HNB.out, HG.out]; simp, _, rfl, grown_of_below5 B1.out _⟩
  · have HG : Hid _ := hgs
    clear hgs
    go_enter Try.func78, Try.ntmps78
    go_wp2_with fail
    refine (igood4_any s sa sc _ hl (IntsAt.keepB HA.out (A2 _ _))).mono ?_
    rintro e w1 ⟨rfl, b1⟩
    rw [HG.out]
    have c01 : w1.cell? ⟨w.heap.size, 1, none⟩ = some (.slice sa s.length sc) := (b1.cell (p := ⟨w.heap.size, 1, none⟩) (by rw [L2]; exact Nat.lt_succ_of_lt (Nat.lt_succ_self _))).trans (cell_of (K0 _ _) 1)
    have B1 : Hid (Below w.heap.size w w1) := (A2 _ _).trans (b1.mono (A2 _ _).size)
    clear b1
    go_wp2_with fail
    refine (iall3_any s sa sc _ hl (IntsAt.keepB HA.out B1.out)).mono ?_
    rintro e w2 ⟨rfl, rfl⟩
    cases hag : allG s
    · go_wp2
      go_ret2
      exact .inr ⟨by rw [HNB.out, HG.out, hag]; simp, _, rfl, grown_of_below5 B1.out _⟩
    · go_wp2
      go_ret2
      exact .inl ⟨by rw [HNB.out, HG.out, hag]; rfl, by show arity 2 ≤ (n : Int); rw [HAR.out]; omega, _, U, rfl, HP.out.below B1.out, grown_of_below5 B1.out _⟩
end
theorem node_any (x : Nd) (sa : Option Addr) (sc pb U n : Nat) (w : World) (hn : n ≤ 1000) (hl : x.2.length ≤ 1048576) (hA : IntsAt w sa x.2) (hP : Pile w pb U n) :
    Calls Try.prog 78 #[.pointer (some ⟨pb, 0, none⟩), .agg #[.int .i64 x.1, .slice sa x.2.length sc]] w fun e w' => NodeE x pb n w w' e := by
  obtain ⟨op, s⟩ := x
  by_cases h1 : op = 3 ∨ op = 4 ∨ op = 5
  · exact node_two op s sa sc pb U n w h1 hn hP
  by_cases h2 : op = 6 ∨ op = 7
  · exact node_one op s sa sc pb U n w h2 hn hP
  by_cases h3 : op = 1
  · exact node_nil op s sa sc pb U n w h3 hP
  by_cases h4 : op = 2
  · exact node_set op s sa sc pb U n w h4 hl hA hP
  · exact node_else op s sa sc pb n w (by unfold arity; rw [if_neg (by omega), if_neg (by omega), if_neg (by omega)])
end Go.Proofs.Ytpbkmlheepmbdaa

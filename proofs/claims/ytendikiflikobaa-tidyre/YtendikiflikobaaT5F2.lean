/-
  The program's reading of a node, over a pile of trees: sets.
-/
import Derived.Test.YtendikiflikobaaT5F
import Derived.Test.YtendikiflikobaaC4F
namespace Go.Proofs.Ytendikiflikobaa
open Go.ChangeShapes Go.WideShapes Go.ChangeAt Go.RowKit
section
variable (op : Int) (s : List Int) (sa : Option Addr) (sc pb U : Nat) (ts : List Tr) (w : World)
set_option maxRecDepth 100000 in
set_option maxHeartbeats 4000000 in
theorem nodeT_set (hop : op = 2) (hl : s.length ≤ 1048576) (hA : IntsB pb w sa s) (hP : PileT w pb U ts) :
    Calls Try.prog 85 #[.pointer (some ⟨pb, 0, none⟩), .agg #[.int .i64 op, .slice sa s.length sc]] w fun e w' => NodeT (op, s) pb ts w w' e := by
  have HP : Hid _ := hP
  have HA : Hid _ := hA
  have hpw : pb < w.heap.size := Nat.lt_of_lt_of_le hP.lt hP.le
  have A2 : ∀ o p, Below w.heap.size w ((w.alloc o).alloc p) := fun o p => ((Below.refl _ _).alloc (Nat.le_refl _) o).alloc (by simp) p
  have HNB : Hid (nodeB (2, s) = (goodS s && allG s)) := by show nodeB (2, s) = (goodS s && allG s); simp [nodeB, arity]
  have HAR : Hid (arity 2 = 0) := rfl
  have L2 : ∀ o p, ((w.alloc o).alloc p).heap.size = w.heap.size + 2 := fun o p => by simp
  have K0 : ∀ o p, ((w.alloc o).alloc p).heap[w.heap.size]? = some o := fun o p => (heap_prev _ _ _ (by simp)).trans (heap_last2 _ _ _ rfl)
  have K1 : ∀ o p, ((w.alloc o).alloc p).heap[w.heap.size + 1]? = some p := fun o p => heap_last2 _ _ _ (by simp)
  clear hP hA
  subst hop
  cases hgs : goodS s
  · have HG : Hid _ := hgs
    clear hgs
    go_enter Try.func85, Try.ntmps85
    go_wp2_with fail
    refine (igood4_any s sa sc _ hl (IntsAt.keepB HA.out.1 (A2 _ _))).mono ?_
    rintro e w1 ⟨rfl, b1⟩
    rw [HG.out]
    have c01 : w1.cell? ⟨w.heap.size, 1, none⟩ = some (.slice sa s.length sc) := (b1.cell (p := ⟨w.heap.size, 1, none⟩) (by rw [L2]; exact Nat.lt_succ_of_lt (Nat.lt_succ_self _))).trans (cell_of (K0 _ _) 1)
    have N1 : Hid (w1.heap[w.heap.size + 1]? = some (.cells #[.int .i64 2, .slice sa s.length sc, .pointer none, .pointer none] 108)) := (b1.block _ (by rw [L2]; exact Nat.lt_succ_self _)).trans (K1 _ _)
    have B1 : Hid (Below w.heap.size w w1) := (A2 _ _).trans (b1.mono (A2 _ _).size)
    clear b1
    go_wp2
    go_ret2
    exact .inr ⟨step_bad (by rw [HNB.out, HG.out]; rfl) _, _, rfl, grown_of_belowT B1.out _⟩
  · have HG : Hid _ := hgs
    clear hgs
    go_enter Try.func85, Try.ntmps85
    go_wp2_with fail
    refine (igood4_any s sa sc _ hl (IntsAt.keepB HA.out.1 (A2 _ _))).mono ?_
    rintro e w1 ⟨rfl, b1⟩
    rw [HG.out]
    have c01 : w1.cell? ⟨w.heap.size, 1, none⟩ = some (.slice sa s.length sc) := (b1.cell (p := ⟨w.heap.size, 1, none⟩) (by rw [L2]; exact Nat.lt_succ_of_lt (Nat.lt_succ_self _))).trans (cell_of (K0 _ _) 1)
    have N1 : Hid (w1.heap[w.heap.size + 1]? = some (.cells #[.int .i64 2, .slice sa s.length sc, .pointer none, .pointer none] 108)) := (b1.block _ (by rw [L2]; exact Nat.lt_succ_self _)).trans (K1 _ _)
    have B1 : Hid (Below w.heap.size w w1) := (A2 _ _).trans (b1.mono (A2 _ _).size)
    clear b1
    go_wp2_with fail
    refine (iall3_any s sa sc _ hl (IntsAt.keepB HA.out.1 B1.out)).mono ?_
    rintro e w2 ⟨rfl, rfl⟩
    cases hag : allG s
    · go_wp2
      go_ret2
      exact .inr ⟨step_bad (by rw [HNB.out, HG.out, hag]; rfl) _, _, rfl, grown_of_belowT B1.out _⟩
    · go_wp2
      go_ret2
      have TT := TreeAt.mk' (B := pb) (U := _) (by omega) (lt_of_heap N1.out) N1.out (IntsB.grown HA.out (grown_of_belowT B1.out none) (fun g e => by cases e)) (by rw [TreeAt]) (by rw [TreeAt])
      exact .inl ⟨_, ts, step0 HAR.out (by rw [HNB.out, HG.out, hag]; rfl) ts, _, U, rfl, HP.out.below B1.out, TT, grown_of_belowT B1.out _⟩
end
theorem nodeT_any (x : Nd) (sa : Option Addr) (sc pb U : Nat) (ts : List Tr) (w : World) (hn : ts.length ≤ 1000) (hl : x.2.length ≤ 1048576) (hA : IntsB pb w sa x.2) (hP : PileT w pb U ts) :
    Calls Try.prog 85 #[.pointer (some ⟨pb, 0, none⟩), .agg #[.int .i64 x.1, .slice sa x.2.length sc]] w fun e w' => NodeT x pb ts w w' e := by
  obtain ⟨op, s⟩ := x
  by_cases h1 : op = 3 ∨ op = 4 ∨ op = 5
  · exact nodeT_two op s sa sc pb U ts w h1 hn hP
  by_cases h2 : op = 6 ∨ op = 7
  · exact nodeT_one op s sa sc pb U ts w h2 hn hP
  by_cases h3 : op = 1
  · exact nodeT_nil op s sa sc pb U ts w h3 hP
  by_cases h4 : op = 2
  · exact nodeT_set op s sa sc pb U ts w h4 hl hA hP
  · exact nodeT_else op s sa sc pb ts w (by unfold arity; rw [if_neg (by omega), if_neg (by omega), if_neg (by omega)])
end Go.Proofs.Ytendikiflikobaa

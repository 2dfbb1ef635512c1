/-
  step, isFinal of the program.
-/
import Derived.Test.YtlkcdcdgpklpoaaN6G
import Derived.BigQuiet
namespace Go.Proofs.Ytlkcdcdgpklpoaa
open Go.ChangeShapes Go.WideShapes Go.ChangeAt Go.WideMaps Go.WideElems Go.RowKit
theorem and_N {x y : Nat} (hx : x < 1099511627776) (hy : y < 1099511627776) : bits BinOp.and IntKind.u64 (x : Int) (y : Int) = ((x &&& y : Nat) : Int) := u64_and_nat _ _ (by omega) (by omega)
theorem or_N {x y : Nat} (hx : x < 1099511627776) (hy : y < 1099511627776) : bits BinOp.or IntKind.u64 (x : Int) (y : Int) = ((x ||| y : Nat) : Int) := u64_or_nat _ _ (by omega) (by omega)
theorem and_lt {x y : Nat} (hx : x < 1099511627776) : x &&& y < 1099511627776 := Nat.lt_of_le_of_lt Nat.and_le_left hx
theorem or_ltN {x y : Nat} (hx : x < 1099511627776) (hy : y < 1099511627776) : x ||| y < 1099511627776 := Nat.or_lt_two_pow (n := 40) hx hy
/-- What a run's state is: nothing read yet, or the places that some runes led to. -/
def rst : Option Nat → Value
  | none => .agg #[.bool false, .int .u64 0]
  | some n => .agg #[.bool true, .int .u64 (n : Int)]
def finN (E : Bool) (l : Nat) : Option Nat → Bool
  | none => E
  | some n => decide (n &&& l ≠ 0)
theorem ne_fin {E : Bool} {z : Int} {n l : Nat} (h : z = ((n &&& l : Nat) : Int)) : (z != 0) = finN E l (some n) := by
  subst h
  show _ = decide (n &&& l ≠ 0)
  generalize n &&& l = y
  by_cases e : y = 0 <;> simp [e]
set_option maxRecDepth 100000 in
set_option maxHeartbeats 2000000 in
theorem final_any (E : Bool) (x1 x2 : Nat) (c3 fv : Value) (mb : Nat) (st : Option Nat) (w : World) (h2 : x2 < 1099511627776) (hs : ∀ n, st = some n → n < 1099511627776) (hM : w.heap[mb]? = some (.cells #[.bool E, .int .u64 (x1 : Int), .int .u64 (x2 : Int), c3, fv] 132)) :
    Calls Try.prog 104 #[.pointer (some ⟨mb, 0, none⟩), rst st] w fun e w' => e = .returned (.bool (finN E x2 st)) ∧ Below w.heap.size w w' := by
  have hmb : mb < w.heap.size := (Array.getElem?_eq_some_iff.1 hM).1
  have d0 : ∀ o, (w.alloc o).cell? ⟨mb, 0, none⟩ = some (.bool E) := fun o => cell_of (((al_N w o).block mb hmb).trans hM) 0
  have d2 : ∀ o, (w.alloc o).cell? ⟨mb, 2, none⟩ = some (.int .u64 (x2 : Int)) := fun o => cell_of (((al_N w o).block mb hmb).trans hM) 2
  clear hM
  cases st with
  | none =>
    unfold rst
    go_enter Try.func104, Try.ntmps104
    go_wp2
    go_ret
    exact ⟨rfl, al_N w _⟩
  | some n =>
    have hn := hs n rfl
    have HA : Hid (bits BinOp.and IntKind.u64 (n : Int) (x2 : Int) = ((n &&& x2 : Nat) : Int)) := and_N hn h2
    unfold rst
    go_enter Try.func104, Try.ntmps104
    go_wp2
    have e2 : (w.alloc (.cells #[.bool true, .int .u64 (n : Int)] 147)).cell? ⟨mb, 2, none⟩ = some (.int .u64 (x2 : Int)) := d2 _
    have e1 : (w.alloc (.cells #[.bool true, .int .u64 (n : Int)] 147)).cell? ⟨w.heap.size, 1, none⟩ = some (.int .u64 (n : Int)) := cell_of (heap_last2 _ _ _ rfl) 1
    clear d0 d2 hs
    go_quiet (fail)
    go_wp2
    go_ret
    exact ⟨congrArg (fun b => Ending.returned (.bool b)) (ne_fin HA.out), below_drewN (al_N w _) _⟩
/-- The places that some places lead to, as bits: only those of q. -/
def stepB (G : Rw) (n q : Nat) : Nat → Nat
  | 0 => 0
  | k + 1 => if n.testBit k then stepB G n q k ||| (bitsL (rw_ G k) &&& q) else stepB G n q k
theorem stepB_lt {G : Rw} {n q : Nat} {m : Nat} (h : ∀ k, k < m → bitsL (rw_ G k) < 1099511627776) : ∀ k, k ≤ m → stepB G n q k < 1099511627776
  | 0, _ => by show 0 < _; omega
  | k + 1, hk => by
    unfold stepB
    have ih := stepB_lt (n := n) (q := q) h k (by omega)
    split
    · exact or_ltN ih (and_lt (h k (by omega)))
    · exact ih
def nextN (G : Rw) (f m : Nat) (q : Nat) : Option Nat → Nat
  | none => f &&& q
  | some n => stepB G n q m
theorem flw_len (G : Rw) (k : Nat) : (flw G k).length = k := by simp [flw]
theorem flw_at {w : World} {base n : Nat} {v : Value} {G : Rw} (h : w.ownsRow base 127 1 v n (flw G n)) : ∃ ao cap, v = .slice ao n cap ∧ ∀ j, j < n → ∃ g, ao = some ⟨g, 0, none⟩ ∧ g < w.heap.size ∧ w.cell? ⟨g, 0 + j, none⟩ = some (.int .u64 (bitsL (rw_ G j) : Nat)) := by
  rcases h.2 with ⟨rfl, h0⟩ | ⟨g, cap, cur, rfl, h2, h3, h4⟩
  · refine ⟨none, 0, by rw [h0], fun j hj => ?_⟩
    omega
  · refine ⟨_, _, rfl, fun j hj => ⟨g, rfl, (Array.getElem?_eq_some_iff.1 h3).1, ?_⟩⟩
    have := h.cells (g := g) rfl j (.int .u64 (bitsL (rw_ G j) : Nat)) (by simp [flw, hj])
    have hp : (⟨g, 0, none⟩ : Addr).add j = ⟨g, 0 + j, none⟩ := by unfold Addr.add; split <;> simp_all
    rw [hp] at this
    exact this
set_option maxRecDepth 100000 in
set_option maxHeartbeats 4000000 in
theorem step_anyN (E : Bool) (x1 x2 : Nat) (c3 fv : Value) (mb base m : Nat) (G : Rw) (st : Option Nat) (q : Nat) (w : World) (hm : m ≤ 40) (h1 : x1 < 1099511627776) (hq : q < 1099511627776) (hs : ∀ n, st = some n → n < 1099511627776) (hG : ∀ k, k < m → bitsL (rw_ G k) < 1099511627776) (hM : w.heap[mb]? = some (.cells #[.bool E, .int .u64 (x1 : Int), .int .u64 (x2 : Int), c3, fv] 132)) (hO : w.ownsRow base 127 1 fv m (flw G m)) :
    Calls Try.prog 103 #[.pointer (some ⟨mb, 0, none⟩), rst st, .int .u64 (q : Int)] w fun e w' => e = .returned (rst (some (nextN G x1 m q st))) ∧ Below w.heap.size w w' := by
  have hmb : mb < w.heap.size := (Array.getElem?_eq_some_iff.1 hM).1
  obtain ⟨fo, fc, rfl, hF⟩ := flw_at hO
  clear hO
  cases st with
  | none =>
    have d1 : ∀ o o', ((w.alloc o).alloc o').cell? ⟨mb, 1, none⟩ = some (.int .u64 (x1 : Int)) := fun o o' => cell_of ((((al_N w o).alloc (al_N w o).size o').block mb hmb).trans hM) 1
    have HA : Hid (bits BinOp.and IntKind.u64 (x1 : Int) (q : Int) = ((x1 &&& q : Nat) : Int)) := and_N h1 hq
    clear hM hF hG
    unfold rst
    go_enter Try.func103, Try.ntmps103
    go_wp2
    exact bodyPost_ret (v := .agg #[.bool true, .int .u64 ((x1 &&& q : Nat) : Int)]) (by simp [results, Try.results103, go_sem, HA.out]) rfl ⟨rfl, (al_N w _).alloc (al_N w _).size _⟩
  | some n =>
    have hn := hs n rfl
    have hz : ∀ o o' o'', (((w.alloc o).alloc o').alloc o'').heap.size = w.heap.size + 3 := fun o o' o'' => by simp
    have bb : ∀ o o' o'', Below w.heap.size w (((w.alloc o).alloc o').alloc o'') := fun o o' o'' => ((al_N w o).alloc (al_N w o).size o').alloc ((al_N w o).alloc (al_N w o).size o').size o''
    have d4 : (((w.alloc (.cells #[.bool true, .int .u64 (n : Int)] 147)).alloc (.cells #[.bool false, .int .u64 0] 147)).alloc (.cells #[.bool true, .int .u64 0] 147)).cell? ⟨mb, 4, none⟩ = some (.slice fo m fc) := cell_of (((bb _ _ _).block mb hmb).trans hM) 4
    have T0 : Hid ((((w.alloc (.cells #[.bool true, .int .u64 (n : Int)] 147)).alloc (.cells #[.bool false, .int .u64 0] 147)).alloc (.cells #[.bool true, .int .u64 0] 147)).heap[w.heap.size]? = some (.cells #[.bool true, .int .u64 (n : Int)] 147)) := (heap_prev _ _ _ (by simp; omega)).trans ((heap_prev _ _ _ (by simp)).trans (heap_last2 _ _ _ rfl))
    have T1 : Hid ((((w.alloc (.cells #[.bool true, .int .u64 (n : Int)] 147)).alloc (.cells #[.bool false, .int .u64 0] 147)).alloc (.cells #[.bool true, .int .u64 0] 147)).heap[w.heap.size + 1]? = some (.cells #[.bool false, .int .u64 0] 147)) := (heap_prev _ _ _ (by simp)).trans (heap_last2 _ _ _ (by simp))
    have T2 : Hid ((((w.alloc (.cells #[.bool true, .int .u64 (n : Int)] 147)).alloc (.cells #[.bool false, .int .u64 0] 147)).alloc (.cells #[.bool true, .int .u64 0] 147)).heap[w.heap.size + 1 + 1]? = some (.cells #[.bool true, .int .u64 0] 147)) := heap_last2 _ _ _ (by simp)
    have TB : Hid (Below w.heap.size w (((w.alloc (.cells #[.bool true, .int .u64 (n : Int)] 147)).alloc (.cells #[.bool false, .int .u64 0] 147)).alloc (.cells #[.bool true, .int .u64 0] 147))) := bb _ _ _
    have HFF : Hid _ := hF
    have HGB : Hid _ := hG
    clear hF hM hG hs bb hz
    unfold rst
    go_enter Try.func103, Try.ntmps103
    go_wp2
    go_loopw [27] (fun i wr => ∃ k : Nat, k ≤ m ∧ i = .int .i64 k ∧ wr.heap[w.heap.size]? = some (.cells #[.bool true, .int .u64 (n : Int)] 147) ∧ wr.heap[w.heap.size + 1]? = some (.cells #[.bool false, .int .u64 0] 147) ∧ wr.heap[w.heap.size + 1 + 1]? = some (.cells #[.bool true, .int .u64 ((stepB G n q k : Nat) : Int)] 147) ∧ Below w.heap.size w wr) (fun i _ => m - (intOf i).toNat)
    case atStart => exact ⟨0, Nat.zero_le _, rfl, T0.out, T1.out, T2.out, TB.out⟩
    case round =>
      obtain ⟨k, hk, rfl, ha, hb, hc, hbw⟩ := hrel
      have BW : Hid _ := hbw
      have HT0 : Hid _ := ha
      have HT1 : Hid _ := hb
      have HT2 : Hid _ := hc
      have hsz : w.heap.size + 1 + 1 < wr.heap.size := (Array.getElem?_eq_some_iff.1 hc).1
      have HC0 : Hid (wr.cell? ⟨w.heap.size, 1, none⟩ = some (.int .u64 (n : Int))) := cell_of ha 1
      have HC2 : Hid (wr.cell? ⟨w.heap.size + 1 + 1, 1, none⟩ = some (.int .u64 (stepB G n q k : Nat))) := cell_of hc 1
      have c20 : wr.cell? ⟨w.heap.size + 1 + 1, 0, none⟩ = some (.bool true) := cell_of hc 0
      have c10 : wr.cell? ⟨w.heap.size + 1, 0, none⟩ = some (.bool false) := cell_of hb 0
      have c11 : wr.cell? ⟨w.heap.size + 1, 1, none⟩ = some (.int .u64 0) := cell_of hb 1
      have f21 := frozen_of_row wr (w.heap.size + 1 + 1) 1 _ _ hc
      have f10 := frozen_of_row wr (w.heap.size + 1) 0 _ _ hb
      have f11 := frozen_of_row wr (w.heap.size + 1) 1 _ _ hb
      clear ha hb hc hbw T0 T1 T2 TB d4
      by_cases hlt : k < m
      · have hltI : (k : Int) < (m : Int) := by omega
        obtain ⟨g, rfl, hgl, hgc⟩ := HFF.out k hlt
        have c0 := HC0.out
        have c2 := HC2.out
        have gk : wr.cell? ⟨g, k, none⟩ = some (.int .u64 (bitsL (rw_ G k) : Nat)) := by
          have := (BW.out.cell (p := ⟨g, 0 + k, none⟩) hgl).trans hgc
          rw [Nat.zero_add] at this
          exact this
        have hBL : bitsL (rw_ G k) < 1099511627776 := HGB.out k hlt
        have hSL : stepB G n q k < 1099511627776 := stepB_lt HGB.out k hk
        have HH : Hid (Calls Try.prog 137 #[.int .u64 (n : Int), .int .i64 (k : Int)] wr fun e w' => e = .returned (.bool (n.testBit k)) ∧ w' = wr) := has_any n k hn (by omega) wr
        have HA : Hid (bits BinOp.or IntKind.u64 (stepB G n q k : Nat) (bits BinOp.and IntKind.u64 (bitsL (rw_ G k) : Nat) (q : Int)) = ((stepB G n q k ||| (bitsL (rw_ G k) &&& q) : Nat) : Int)) := (by rw [and_N hBL hq, or_N hSL (and_lt hBL)] : bits BinOp.or IntKind.u64 (stepB G n q k : Nat) (bits BinOp.and IntKind.u64 (bitsL (rw_ G k) : Nat) (q : Int)) = ((stepB G n q k ||| (bitsL (rw_ G k) &&& q) : Nat) : Int))
        have HN : Hid (stepB G n q (k + 1) = if n.testBit k then stepB G n q k ||| (bitsL (rw_ G k) &&& q) else stepB G n q k) := rfl
        clear hgc hSL hBL
        generalize bitsL (rw_ G k) = y at *
        generalize stepB G n q k = z at *
        go_wp2_with fail
        refine Calls.mono HH.out ?_
        rintro r w' ⟨rfl, rfl⟩
        cases ht : n.testBit k with
        | true =>
          rw [ht] at HN
          have HN2 : Hid (bits BinOp.or IntKind.u64 (z : Int) (bits BinOp.and IntKind.u64 (y : Int) (q : Int)) = (stepB G n q (k + 1) : Nat)) := by rw [HN.out]; exact HA.out
          clear HN HA ht
          go_wp2
          go_roundw
          case rel => exact ⟨k + 1, by omega, by go_num, (blk_oth w' (w.heap.size + 1 + 1) 1 w.heap.size _ (by omega)).trans HT0.out, (blk_oth w' (w.heap.size + 1 + 1) 1 (w.heap.size + 1) _ (by omega)).trans HT1.out, (blk_same HT2.out 1 _).trans (by rw [HN2.out]; rfl), Below.grown BW.out (grown_set w' (w.heap.size + 1 + 1) 1 _) BW.out.size (fun g e => by have := Option.some.inj e; omega)⟩
          case measure => simp [intOf]; omega
        | false =>
          have HN3 : Hid (stepB G n q (k + 1) = z) := (by have := HN.out; rw [ht] at this; simpa using this : stepB G n q (k + 1) = z)
          clear HA HN ht
          go_wp2
          go_roundw
          case rel => exact ⟨k + 1, by omega, by go_num, HT0.out, HT1.out, by rw [HN3.out]; exact HT2.out, BW.out⟩
          case measure => simp [intOf]; omega
      · obtain rfl : k = m := by omega
        have hltI : ¬ (k : Int) < (k : Int) := by omega
        have c2 := HC2.out
        go_wp2
        have hb9 : ((wr.setCell ⟨w.heap.size + 1, 0, none⟩ (.bool true)).setCell ⟨w.heap.size + 1, 1, none⟩ (.int .u64 (stepB G n q k : Nat))).heap[w.heap.size + 1]? = some (.cells #[.bool true, .int .u64 (stepB G n q k : Nat)] 147) := blk_same (blk_same HT1.out 0 _) 1 _
        have r0 : ((wr.setCell ⟨w.heap.size + 1, 0, none⟩ (.bool true)).setCell ⟨w.heap.size + 1, 1, none⟩ (.int .u64 (stepB G n q k : Nat))).cell? ⟨w.heap.size + 1, 0, none⟩ = some (.bool true) := cell_of hb9 0
        have r1 : ((wr.setCell ⟨w.heap.size + 1, 0, none⟩ (.bool true)).setCell ⟨w.heap.size + 1, 1, none⟩ (.int .u64 (stepB G n q k : Nat))).cell? ⟨w.heap.size + 1, 1, none⟩ = some (.int .u64 (stepB G n q k : Nat)) := cell_of hb9 1
        have bel : Below w.heap.size w ((wr.setCell ⟨w.heap.size + 1, 0, none⟩ (.bool true)).setCell ⟨w.heap.size + 1, 1, none⟩ (.int .u64 (stepB G n q k : Nat))) := by
          have q1 := Below.grown BW.out (grown_set wr (w.heap.size + 1) 0 (.bool true)) BW.out.size (fun g e => by have := Option.some.inj e; omega)
          exact Below.grown q1 (grown_set _ (w.heap.size + 1) 1 _) q1.size (fun g e => by have := Option.some.inj e; omega)
        exact bodyPost_ret (v := .agg #[.bool true, .int .u64 (stepB G n q k : Nat)]) (by simp [results, Try.results103, go_sem, r0, r1]) rfl ⟨rfl, bel⟩
end Go.Proofs.Ytlkcdcdgpklpoaa

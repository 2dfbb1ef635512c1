/-
  Buffers: the bytes ahead of a place; slices.Clone and slices.Delete at numbers.
-/
import Derived.Test.YtklgagonbehpeaaX1C
import Derived.Shelf.Slices.Delete
import Derived.Lib.OwnBridge
import Derived.Shelf.Lay
import Derived.Ground.Names2Prog
namespace Go.Proofs.Ytklgagonbehpeaa
open Go.ChangeShapes Go.WideShapes Go.ChangeAt Go.RowKit
open Go.Shelf Go.Sort
theorem eqNil_at (d : Nat) (ao : Option Addr) (n c : Nat) (w : World) : (Op.equalIn (d + 1) 24 (.slice ao n c) (.slice none 0 0)).run Try.prog w = .ok ao.isNone w := by
  cases ao <;> simp [Op.equalIn, run_underlying Try.underlying24]
theorem eqNil (ao : Option Addr) (n c : Nat) (w : World) : (binOp .eql 24 (.slice ao n c) (.slice none 0 0)).run Try.prog w = .ok (.bool ao.isNone) w := by
  have h : (Op.equal 24 (.slice ao n c) (.slice none 0 0)).run Try.prog w = .ok ao.isNone w := eqNil_at 9999 ao n c w
  simp only [binOp, Sem.run_bind, h, Result.andThen_ok, Sem.run_pure]
set_option maxRecDepth 100000 in
set_option maxHeartbeats 1000000 in
theorem cloneI_any (L : List Int) (ao : Option Addr) (n cap : Nat) (w : World) (hn : n = L.length) (hl : L.length ≤ 1048576) (hA : IntsAt w ao L) :
    Calls Try.prog 61 #[.slice ao n cap] w fun e w' => ∃ v, e = .returned v ∧ w'.ownsRow w.heap.size 3 1 v L.length (ints L) ∧ Below w.heap.size w w' := by
  subst hn
  have HA : Hid _ := hA
  have B1 : ∀ o, Below w.heap.size w (w.alloc o) := fun o => (Below.refl _ _).alloc (Nat.le_refl _) o
  have hnil := eqNil ao L.length cap
  cases ao with
  | none =>
    have h0 : L = [] := by
      cases L with
      | nil => rfl
      | cons x L => obtain ⟨b, off, h, _⟩ := hA 0 (by simp); cases h
    subst h0
    clear hA
    simp only [Option.isNone, List.length_nil] at hnil
    go_enter Try.func61, Try.ntmps61
    go_wp2
    go_ret
    exact ⟨_, rfl, World.ownsRow_nil _ _ _ _, Below.refl _ _⟩
  | some a0 =>
    clear hA
    simp only [Option.isNone] at hnil
    go_enter Try.func61, Try.ntmps61
    go_wp2_with (at_builtin; refine wpA _ rfl _ _ rfl w.heap.size _ _ _ rfl (row_lit w [] _ rfl 0 rfl (by simp)) (some a0) L L.length cap rfl rfl (IntsAt.below HA.out (B1 _)) ?c1 ?c2 ?_)
    case c1 => simp; omega
    case c2 => simp
    intro v' w2 hown2 hgrow _
    have hb2 : Below w.heap.size w w2 := Below.grown (B1 _) hgrow (B1 _).size (fun g hg => by simp [Value.ownBlock] at hg; omega)
    clear hgrow
    go_wp2
    go_ret
    exact ⟨_, rfl, by simpa [ints] using hown2, hb2⟩
shelf_lay Lays2.n23 Nm2 23 at Try as Try.deleteI
theorem grown_putRow (w : World) (g q : Nat) (d : Array Int) : w.grownBy (putRow (Value.int .i64) (Sort.ahead w q) g 0 d) (some g) := by
  refine ⟨rfl, rfl, rfl, ?_, fun k hk hne => ?_⟩
  · simp [putRow, mapBlock, Sort.ahead]
  · show ((Sort.ahead w q).heap.modify g _)[k]? = _
    rw [Array.getElem?_modify, if_neg (fun e => hne (by rw [e]))]
    rfl
set_option maxRecDepth 100000 in
set_option maxHeartbeats 1000000 in
theorem deleteI_any (L : List Int) (k : Nat) (v : Value) (base : Nat) (w : World) (hl : L.length ≤ 1048576) (hk : k ≤ L.length) (h : w.ownsRow base 3 1 v L.length (ints L)) :
    Calls Try.prog 66 #[v, .int .i64 0, .int .i64 k] w fun e w' => ∃ v', e = .returned v' ∧ w'.ownsRow base 3 1 v' (L.drop k).length (ints (L.drop k)) ∧ w.grownBy w' v.ownBlock ∧ v'.ownBlock = v.ownBlock := by
  rcases h.2 with ⟨rfl, h0⟩ | ⟨g, cap, cur, rfl, hb, hg, hn, hm, hs, ht⟩
  · obtain rfl : L = [] := List.eq_nil_of_length_eq_zero h0
    obtain rfl : k = 0 := by simpa using hk
    clear h h0 hk hl
    show Calls Try.prog 66 #[.slice none 0 0, .int .i64 0, .int .i64 0] w _
    go_enter Try.func66, Try.ntmps66
    go_wp2
    all_goals (go_ret; exact ⟨.slice none 0 0, rfl, World.ownsRow_nil _ _ _ _, grown_refl _ _, rfl⟩)
  · have H := Lib.holds_of_ownsRow (enc := Value.int .i64) (zs := L) h (by simp)
    obtain ⟨g', cap', e1, -, -, hc1, hc2, -, hH⟩ := H
    simp only [Value.slice.injEq, Option.some.injEq, Addr.mk.injEq, and_true, true_and] at e1
    obtain ⟨rfl, rfl⟩ := e1
    have hcon := Any.slices_Delete_int Try.deleteI g 0 cap 0 k L w hH hn (by unfold maxLen at hm; omega) (Nat.zero_le _) hk
    refine Calls.mono hcon ?_
    rintro e w' ⟨rfl, q, rfl⟩
    have hy : (L.take 0 ++ L.drop k ++ List.replicate (k - 0) (0 : Int)).length = L.length := by simp; omega
    have o := Lib.ownsRow_putRow (q := q) (k := L.length - (k - 0)) (ys := L.take 0 ++ L.drop k ++ List.replicate (k - 0) (0 : Int)) h hy (by omega)
    have e1 : (L.take 0 ++ L.drop k ++ List.replicate (k - 0) (0 : Int)).take (L.length - (k - 0)) = L.drop k := by
      rw [List.take_zero, List.nil_append, List.take_append_of_le_length (by simp), List.take_of_length_le (by simp)]
    rw [e1] at o
    refine ⟨_, rfl, ?_, grown_putRow w g q _, rfl⟩
    have e2 : (L.drop k).length = L.length - (k - 0) := by simp
    rw [e2]
    exact o
/-- A buffer of the program's own, in a block. -/
def OB (w : World) (b : Nat) (M G : Int) (v0 v1 : Value) : Prop := w.heap[b]? = some (.cells #[.int .i64 M, v0, v1, .int .i64 G] 66)
set_option maxRecDepth 100000 in
set_option maxHeartbeats 2000000 in
theorem ibyte_any (b : Nat) (M G : Int) (v0 : Value) (L : List Int) (a : Option Addr) (ca : Nat) (k : Nat) (w : World) (hl : L.length ≤ 1048576) (hk : k ≤ L.length) (hL : inBx 1 1000 L = true) (hG : 0 ≤ G ∧ G ≤ 1000000) (hO : OB w b M G v0 (.slice a L.length ca)) (hA : Sl w a ca L) :
    Calls Try.prog 53 #[.pointer (some ⟨b, 0, none⟩), .int .i64 k] w fun r w' => r = .returned (.int .i64 (G + sumL (L.take k))) ∧ w' = w := by
  obtain ⟨hf, iT⟩ := hA.front k hk
  have HA : Hid (IntsAt w a L) := hA.2.2
  have d2 : w.cell? ⟨b, 2, none⟩ = some (.slice a L.length ca) := cell_ofB hO 2
  have d3 : w.cell? ⟨b, 3, none⟩ = some (.int .i64 G) := cell_ofB hO 3
  have hs : ∀ j, j ≤ k → 0 ≤ sumL (L.take j) ∧ sumL (L.take j) ≤ 1000 * 1048576 := fun j hj => by
    have h1 := inBx_sum (inBx_take hL j)
    have h2 : ((L.take j).length : Int) ≤ 1048576 := by simp; omega
    omega
  have HS : Hid _ := hs
  clear hA hO iT hL hs
  go_enter Try.func53, Try.ntmps53
  go_wp2
  go_loopw [5, 19] (fun s i wr => ∃ j : Nat, j ≤ k ∧ i = .int .i64 j ∧ s = .int .i64 (G + sumL (L.take j)) ∧ wr = w) (fun _ i _ => k - (intOf i).toNat)
  case atStart => exact ⟨0, Nat.zero_le _, rfl, by simp [sumL], rfl⟩
  case round =>
    obtain ⟨j, hj, rfl, rfl, rfl⟩ := hrel
    by_cases hlt : j < k
    · have hltI : (j : Int) < (k : Int) := by omega
      obtain ⟨b1, o1, rfl, l1, h1⟩ := HA.out j (by omega)
      have e1 := sumL_snoc L j (by omega)
      have x1 := HS.out j (by omega)
      have x2 := HS.out (j + 1) (by omega)
      have E1 : Hid _ := e1
      have hw : IntKind.i64.wrap (G + sumL (L.take j) + L.getD j 0) = G + sumL (L.take j) + L.getD j 0 := IntWalk.i64_in _ (by omega)
      clear e1 x1 x2
      generalize L.getD j 0 = x at *
      generalize sumL (L.take j) = y at *
      go_wp2
      go_roundw
      case rel => exact ⟨j + 1, by omega, by go_num, by rw [E1.out]; first | rfl | (rw [hw, Int.add_assoc]) | (congr 1; omega), by first | rfl | trivial⟩
      case measure => simp [intOf]; omega
    · obtain rfl : j = k := by omega
      go_wp2
      go_ret
      exact ⟨rfl, rfl⟩
end Go.Proofs.Ytklgagonbehpeaa

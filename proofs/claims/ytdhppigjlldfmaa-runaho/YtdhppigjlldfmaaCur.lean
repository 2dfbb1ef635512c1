/-
  The cursor of the specification's draws: contracts of (*l1Cur).next, pick, one, among, of, rune, runes: what they return lies within bounds, and they write into the cursor alone.
-/
import Derived.Test.YtdhppigjlldfmaaLst
import Derived.Deep.RegionHeld3
import Derived.Laws.BitsAllLaws
namespace Go.Proofs.Ytdhppigjlldfmaa
open Go.ChangeShapes Go.WideShapes Go.ChangeAt Go.RowKit
/-- Bytes lie where a slice of that length begins, in another block than b, below B. -/
def BytesAt (w : World) (B b : Nat) (ao : Option Addr) (n : Nat) : Prop :=
  ∀ j, j < n → ∃ b' off z, ao = some ⟨b', off, none⟩ ∧ b' ≠ b ∧ b' < B ∧ w.cell? ⟨b', off + j, none⟩ = some (.int .u8 z) ∧ 0 ≤ z ∧ z ≤ 255
/-- A cursor in block b over a slice of n bytes, that has gone on k times; all of it lies below block B. -/
structure Cur (w : World) (B b : Nat) (ao : Option Addr) (n cap k : Nat) : Prop where
  c0 : w.cell? ⟨b, 0, none⟩ = some (.slice ao n cap)
  c1 : w.cell? ⟨b, 1, none⟩ = some (.int .i64 k)
  c2 : ∃ sd : Int, w.cell? ⟨b, 2, none⟩ = some (.int .u64 sd)
  fz : ∀ j, w.frozen? ⟨b, j, none⟩ = false
  by' : BytesAt w B b ao n
  lt : b < B
  le : B ≤ w.heap.size
theorem Cur.grown {w w' : World} {B b : Nat} {ao : Option Addr} {n cap k : Nat} {row : Option Nat} (h : Cur w B b ao n cap k) (hg : w.grownBy w' row) (hr : ∀ g, row = some g → B ≤ g) : Cur w' B b ao n cap k := by
  have hbl := h.lt
  have hle := h.le
  have blk : ∀ i, i < B → w'.heap[i]? = w.heap[i]? := fun i hi => hg.block i (by omega) (fun e => by have := hr i e.symm; omega)
  have cc : ∀ o, w'.cell? ⟨b, o, none⟩ = w.cell? ⟨b, o, none⟩ := fun o => World.cell?_of_block (a := ⟨b, o, none⟩) (blk b hbl)
  refine ⟨(cc 0).trans h.c0, (cc 1).trans h.c1, ?_, fun j => (World.frozen?_of_block (a := ⟨b, j, none⟩) (blk b hbl)).trans (h.fz j), fun j hj => ?_, hbl, Nat.le_trans hle hg.size⟩
  · obtain ⟨sd, hs⟩ := h.c2; exact ⟨sd, (cc 2).trans hs⟩
  · obtain ⟨b', off, z, h1, h2, h3, h4, h5⟩ := h.by' j hj
    exact ⟨b', off, z, h1, h2, h3, (World.cell?_of_block (a := ⟨b', off + j, none⟩) (blk b' h3)).trans h4, h5⟩
theorem grown_of_below {w w' : World} (hb : Below w.heap.size w w') (row : Option Nat) : w.grownBy w' row := ⟨hb.os, hb.tape, hb.output, hb.size, fun k hk _ => hb.block k hk⟩
theorem Cur.below {w w' : World} {B b : Nat} {ao : Option Addr} {n cap k : Nat} (h : Cur w B b ao n cap k) (hb : Below w.heap.size w w') : Cur w' B b ao n cap k := h.grown (grown_of_below hb none) (fun g hg => by cases hg)
theorem grown_trans' {a b c : World} {row : Option Nat} (h : a.grownBy b row) (k : b.grownBy c row) : a.grownBy c row :=
  ⟨k.os.trans h.os, k.tape.trans h.tape, k.output.trans h.output, Nat.le_trans h.size k.size, fun i hi hn => (k.block i (Nat.lt_of_lt_of_le hi h.size) hn).trans (h.block i hi hn)⟩
theorem sc_other (w : World) (b b' o o' : Nat) (v : Value) (h : b ≠ b' ∨ o ≠ o') : (w.setCell ⟨b, o, none⟩ v).cell? ⟨b', o', none⟩ = w.cell? ⟨b', o', none⟩ := by
  apply World.cell?_setCell_other
  intro e
  simp only [Addr.mk.injEq] at e
  omega
theorem sc_same (w : World) (b o : Nat) (u v : Value) (h : w.cell? ⟨b, o, none⟩ = some u) : (w.setCell ⟨b, o, none⟩ v).cell? ⟨b, o, none⟩ = some v := by
  apply World.cell?_setCell_same
  exact h
/-- The two fields that a step writes. -/
theorem Cur.step {w : World} {B b : Nat} {ao : Option Addr} {n cap k : Nat} (h : Cur w B b ao n cap k) (k' : Nat) (sd : Int) (p q : Nat) :
    Cur (((w.drewN p).setCell ⟨b, 1, none⟩ (.int .i64 k')).setCell ⟨b, 2, none⟩ (.int .u64 sd) |>.drewN q) B b ao n cap k' ∧ w.grownBy (((w.drewN p).setCell ⟨b, 1, none⟩ (.int .i64 k')).setCell ⟨b, 2, none⟩ (.int .u64 sd) |>.drewN q) (some b) := by
  obtain ⟨s0, hs0⟩ := h.c2
  refine ⟨⟨?_, ?_, ⟨sd, ?_⟩, fun j => ?_, fun j hj => ?_, h.lt, ?_⟩, ⟨rfl, rfl, rfl, ?_, fun i hi hn => ?_⟩⟩
  · show (((w.drewN p).setCell ⟨b, 1, none⟩ (.int .i64 k')).setCell ⟨b, 2, none⟩ (.int .u64 sd)).cell? ⟨b, 0, none⟩ = _
    rw [sc_other _ b b 2 0 _ (by omega), sc_other _ b b 1 0 _ (by omega)]; exact h.c0
  · show (((w.drewN p).setCell ⟨b, 1, none⟩ (.int .i64 k')).setCell ⟨b, 2, none⟩ (.int .u64 sd)).cell? ⟨b, 1, none⟩ = _
    rw [sc_other _ b b 2 1 _ (by omega)]; exact sc_same _ b 1 (.int .i64 k) _ h.c1
  · show (((w.drewN p).setCell ⟨b, 1, none⟩ (.int .i64 k')).setCell ⟨b, 2, none⟩ (.int .u64 sd)).cell? ⟨b, 2, none⟩ = _
    exact sc_same _ b 2 (.int .u64 s0) _ (by rw [sc_other _ b b 1 2 _ (by omega)]; exact hs0)
  · show ((((w.drewN p).setCell ⟨b, 1, none⟩ (.int .i64 k')).setCell ⟨b, 2, none⟩ (.int .u64 sd))).frozen? ⟨b, j, none⟩ = false
    rw [World.frozen?_setCell, World.frozen?_setCell]; exact h.fz j
  · obtain ⟨b', off, z, h1, h2, h3, h4, h5⟩ := h.by' j hj
    refine ⟨b', off, z, h1, h2, h3, ?_, h5⟩
    show (((w.drewN p).setCell ⟨b, 1, none⟩ (.int .i64 k')).setCell ⟨b, 2, none⟩ (.int .u64 sd)).cell? ⟨b', off + j, none⟩ = _
    rw [sc_other _ b b' 2 _ _ (by omega), sc_other _ b b' 1 _ _ (by omega)]; exact h4
  · simp [World.setCell, World.drewN]; exact h.le
  · simp [World.setCell, World.drewN]
  · show ((((w.drewN p).setCell ⟨b, 1, none⟩ (.int .i64 k')).setCell ⟨b, 2, none⟩ (.int .u64 sd))).heap[i]? = _
    have hne : i ≠ b := fun e => hn (by rw [e])
    rw [Below.heap_setCell _ _ _ _ hne, Below.heap_setCell _ _ _ _ hne]
    rfl
set_option maxRecDepth 100000 in
set_option maxHeartbeats 1000000 in
theorem next_in (B b : Nat) (ao : Option Addr) (n cap k : Nat) (w : World) (hk : k ≤ 1000) (h : Cur w B b ao n cap k) (hlt : k < n) :
    Calls Try.prog 76 #[.pointer (some ⟨b, 0, none⟩)] w fun e w' => ∃ r : Int, e = .returned (.int .i64 r) ∧ 0 ≤ r ∧ r ≤ 255 ∧ Cur w' B b ao n cap (k + 1) ∧ w.grownBy w' (some b) := by
  obtain ⟨b', off, z, rfl, h2, h3, h4, hz0, hz1⟩ := h.by' k hlt
  have HC : Hid _ := h
  obtain ⟨sd, hs⟩ := h.c2
  have c0 := h.c0
  have c1 := h.c1
  have f1 := h.fz 1
  have f2 := h.fz 2
  have hltI : (k : Int) < (n : Int) := by omega
  clear h
  go_enter Try.func76, Try.ntmps76
  go_wp2
  go_quiet (fail)
  go_wp2
  go_quiet (fail)
  go_wp2
  go_quiet (fail)
  go_wp2
  go_ret
  exact ⟨z, rfl, hz0, hz1, (Cur.step HC.out (k + 1) _ _ _).1, (Cur.step HC.out (k + 1) _ _ _).2⟩
theorem and255 (y : Int) : ∃ r : Int, wrap64 (bits BinOp.and IntKind.u64 (IntKind.u64.wrap y / 1099511627776) 255) = r ∧ 0 ≤ r ∧ r ≤ 255 := by
  have h1 : 0 ≤ IntKind.u64.wrap y ∧ IntKind.u64.wrap y < 18446744073709551616 := by
    have e : IntKind.u64.wrap y = y % 18446744073709551616 := by simp [IntKind.wrap, IntKind.bits, IntKind.signed]
    rw [e]; omega
  rw [u64_and (IntKind.u64.wrap y / 1099511627776) 255 (by omega) (by omega) (by decide) (by decide)]
  have h2 : (IntKind.u64.wrap y / 1099511627776).toNat &&& (255 : Int).toNat ≤ 255 := Nat.and_le_right
  generalize (IntKind.u64.wrap y / 1099511627776).toNat &&& (255 : Int).toNat = m at *
  refine ⟨m, ?_, by omega, by omega⟩
  unfold wrap64
  omega
set_option maxRecDepth 100000 in
set_option maxHeartbeats 1000000 in
theorem next_out (B b : Nat) (ao : Option Addr) (n cap k : Nat) (w : World) (hk : k ≤ 1000) (h : Cur w B b ao n cap k) (hlt : ¬ k < n) :
    Calls Try.prog 76 #[.pointer (some ⟨b, 0, none⟩)] w fun e w' => ∃ r : Int, e = .returned (.int .i64 r) ∧ 0 ≤ r ∧ r ≤ 255 ∧ Cur w' B b ao n cap (k + 1) ∧ w.grownBy w' (some b) := by
  have HC : Hid _ := h
  obtain ⟨sd, hs⟩ := h.c2
  have c0 := h.c0
  have c1 := h.c1
  have f1 := h.fz 1
  have f2 := h.fz 2
  have hltI : ¬ (k : Int) < (n : Int) := by omega
  clear h
  go_enter Try.func76, Try.ntmps76
  go_wp2
  go_quiet (fail)
  go_wp2
  go_quiet (fail)
  go_wp2
  go_ret
  obtain ⟨r, hr, h0, h1⟩ := and255 (IntKind.u64.wrap (IntKind.u64.wrap (sd * 6364136223846793005)) + 1442695040888963407)
  exact ⟨r, ret_int hr, h0, h1, (Cur.step HC.out (k + 1) _ _ _).1, (Cur.step HC.out (k + 1) _ _ _).2⟩
theorem next_any (B b : Nat) (ao : Option Addr) (n cap k : Nat) (w : World) (hk : k ≤ 1000) (h : Cur w B b ao n cap k) :
    Calls Try.prog 76 #[.pointer (some ⟨b, 0, none⟩)] w fun e w' => ∃ r : Int, e = .returned (.int .i64 r) ∧ 0 ≤ r ∧ r ≤ 255 ∧ Cur w' B b ao n cap (k + 1) ∧ w.grownBy w' (some b) := by
  by_cases hlt : k < n
  · exact next_in B b ao n cap k w hk h hlt
  · exact next_out B b ao n cap k w hk h hlt
end Go.Proofs.Ytdhppigjlldfmaa

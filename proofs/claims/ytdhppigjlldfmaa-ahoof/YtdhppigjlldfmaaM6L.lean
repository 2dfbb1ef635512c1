/-
  Contracts of the laws' markDfa, heldIntSS, heldBoolS, heldDfa.
-/
import Derived.Test.YtdhppigjlldfmaaM6K
namespace Go.Proofs.Ytdhppigjlldfmaa
open Go.ChangeShapes Go.WideShapes Go.ChangeAt Go.RowKit
/-- How many marks a machine takes. -/
def cntM (C : List Int) (R : Rw) (F : List Bool) : Nat := C.length + szRK R R.length + F.length
theorem cntM_le (C : List Int) (R : Rw) (F : List Bool) : cntM C R F ≤ szD C R F := by
  have := szRK_bd R R.length
  unfold cntM szD
  omega
def mkC (C : List Int) : List Int := mk2 C 1 C.length
def mkN (C : List Int) (R : Rw) : Nat → List Int := mkW R (1 + C.length)
def mkE (C : List Int) (R : Rw) (F : List Bool) : List Bool := mkF F (1 + C.length + szRK R R.length) F.length
set_option maxRecDepth 100000 in
set_option maxHeartbeats 2000000 in
theorem heldSS_any (c : Int) (c0 : 0 ≤ c) (c1 : c ≤ 2000000) (R : Rw) (ao : Option Addr) (cap : Nat) (w : World) (hl : szR R ≤ 1048576) (hA : RowF w ao R.length (mkW R c)) :
    Calls Try.prog 62 #[.slice ao R.length cap, .int .i64 c] w fun e w' => e = .returned (.int .i64 (c + szRK R R.length)) ∧ Below w.heap.size w w' := by
  have hpl : R.length ≤ 1048576 := by unfold szR at hl; omega
  have HA : Hid _ := hA
  have HL : Hid _ := hl
  clear hA hl
  go_enter Try.func62, Try.ntmps62
  go_wp2
  go_loopw [1, 5] (fun cc i wr => ∃ k : Nat, k ≤ R.length ∧ i = .int .i64 k ∧ cc = .int .i64 (c + szRK R k) ∧ Below w.heap.size w wr) (fun _ i _ => R.length - (intOf i).toNat)
  case atStart => exact ⟨0, Nat.zero_le _, rfl, by simp [szRK], Below.refl _ _⟩
  case round =>
    obtain ⟨k, hk, rfl, rfl, hbw⟩ := hrel
    have hbd : szRK R k ≤ 1048576 := Nat.le_trans (szRK_bd R k) HL.out
    have BW0 : Hid _ := hbw
    clear hbw
    by_cases hlt : k < R.length
    · have hltI : (k : Int) < (R.length : Int) := by omega
      have hls : (rw_ R k).length ≤ 1048576 := Nat.le_trans (rw_len R k hlt) HL.out
      obtain ⟨b1, o1, sa, sc, rfl, l1, h1, iS⟩ := HA.out k hlt
      have HST : Hid _ := szRK_step R k hlt
      have g1 : wr.cell? ⟨b1, o1 + k, none⟩ = some (.slice sa (rw_ R k).length sc) := (BW0.out.cell (p := ⟨b1, o1 + k, none⟩) l1).trans (by rw [h1]; simp [mkW, mk2_len])
      have IS : Hid (IntsAt wr sa (mk2 (rw_ R k) (c + szRK R k) (rw_ R k).length)) := IntsAt.keepB iS BW0.out
      clear h1 iS
      generalize szRK R k = z at *
      have hz : ¬ (c + (z : Int) + ((rw_ R k).length : Int)) < 0 := by omega
      go_wp2_with fail
      refine (held_c (c + z) (by omega) (by omega) (rw_ R k) sa _ sc rfl _ hls IS.out).mono ?_
      rintro e w2 ⟨rfl, b2⟩
      have B2 : Hid (Below w.heap.size w w2) := BW0.out.trans (b2.mono BW0.out.size)
      clear b2 g1
      go_wp2
      go_roundw
      case rel => exact ⟨k + 1, by omega, by go_num, by rw [HST.out]; exact congrArg (Value.int .i64) (by push_cast; omega), B2.out⟩
      case measure => simp [intOf]; omega
    · obtain rfl : k = R.length := by omega
      go_wp2
      go_ret
      exact ⟨rfl, BW0.out⟩
/-- A machine as it is marked. -/
def MarkedAt (w : World) (a b e : Option Addr) (C : List Int) (R : Rw) (F : List Bool) : Prop := IntsAt w a (mkC C) ∧ RowF w b R.length (mkN C R) ∧ FlagsAt w e (mkE C R F)
theorem RowF.keepB {w w' : World} {ao : Option Addr} {n : Nat} {f : Nat → List Int} (h : RowF w ao n f) (hb : Below w.heap.size w w') : RowF w' ao n f := fun j hj => by
  obtain ⟨b, off, sa, sc, h1, h2, h3, h5⟩ := h j hj
  exact ⟨b, off, sa, sc, h1, Nat.lt_of_lt_of_le h2 hb.size, (hb.cell (p := ⟨b, off + j, none⟩) h2).trans h3, h5.keepB hb⟩
theorem MarkedAt.keepB {w w' : World} {a b e : Option Addr} {C : List Int} {R : Rw} {F : List Bool} (h : MarkedAt w a b e C R F) (hb : Below w.heap.size w w') : MarkedAt w' a b e C R F := ⟨h.1.keepB hb, h.2.1.keepB hb, h.2.2.keepB hb⟩
theorem OwnQ.marked {w : World} {base top : Nat} {a b e : Option Addr} {n0 n1 n2 c0 c1 c2 : Nat} {Q : List Value} {C : List Int} {R : Rw} {F : List Bool} (h : OwnQ w base top (.slice a n0 c0) (.slice b n1 c1) (.slice e n2 c2) Q (mkC C) R.length (mkN C R) (mkE C R F)) : MarkedAt w a b e C R F := by
  refine ⟨?_, ?_, ?_⟩
  · obtain ⟨-, a', c', e', i⟩ := ints_of_own h.1
    simp only [Value.slice.injEq] at e'
    obtain ⟨rfl, -, -⟩ := e'
    exact i
  · obtain ⟨a', c', e', i⟩ := OwnR.form h.d.rows
    simp only [Value.slice.injEq] at e'
    obtain ⟨rfl, -, -⟩ := e'
    exact i
  · obtain ⟨-, a', c', e', i⟩ := flags_of_own h.2.1
    simp only [Value.slice.injEq] at e'
    obtain ⟨rfl, -, -⟩ := e'
    exact i
theorem OwnQ.at {w : World} {base top : Nat} {a b e : Option Addr} {n0 n1 n2 c0 c1 c2 : Nat} {Q : List Value} {C : List Int} {R : Rw} {F : List Bool} (h : OwnQ w base top (.slice a n0 c0) (.slice b n1 c1) (.slice e n2 c2) Q C R.length (rw_ R) F) : IntsAt w a C ∧ RowsAt w b R ∧ FlagsAt w e F := by
  refine ⟨?_, ?_, ?_⟩
  · obtain ⟨-, a', c', e', i⟩ := ints_of_own h.1
    simp only [Value.slice.injEq] at e'
    obtain ⟨rfl, -, -⟩ := e'
    exact i
  · obtain ⟨a', c', e', i⟩ := OwnR.rows h.d.rows
    simp only [Value.slice.injEq] at e'
    obtain ⟨rfl, -, -⟩ := e'
    exact i
  · obtain ⟨-, a', c', e', i⟩ := flags_of_own h.2.1
    simp only [Value.slice.injEq] at e'
    obtain ⟨rfl, -, -⟩ := e'
    exact i
/-- The boxes of a law. -/
def Bx (q : World) (s b4 b6 b7 : Nat) (o o4 o6 o7 : Obj) : Prop := q.heap[s]? = some o ∧ q.heap[b4]? = some o4 ∧ q.heap[b6]? = some o6 ∧ q.heap[b7]? = some o7
theorem Bx.keepB {q q' : World} {s b4 b6 b7 : Nat} {o o4 o6 o7 : Obj} (h : Bx q s b4 b6 b7 o o4 o6 o7) (hb : Below q.heap.size q q') : Bx q' s b4 b6 b7 o o4 o6 o7 :=
  ⟨(hb.block _ (Array.getElem?_eq_some_iff.1 h.1).1).trans h.1, (hb.block _ (Array.getElem?_eq_some_iff.1 h.2.1).1).trans h.2.1, (hb.block _ (Array.getElem?_eq_some_iff.1 h.2.2.1).1).trans h.2.2.1, (hb.block _ (Array.getElem?_eq_some_iff.1 h.2.2.2).1).trans h.2.2.2⟩
theorem mid_blk {base top : Nat} {w w' : World} (h : Mid base top w w') {k : Nat} {o : Obj} (hk : w.heap[k]? = some o) (hc : k < base ∨ top ≤ k) : w'.heap[k]? = some o := by
  rcases hc with hc | hc
  · exact (h.1.block k hc).trans hk
  · exact (h.2 k hc (Array.getElem?_eq_some_iff.1 hk).1).trans hk
theorem Bx.mid {q q' : World} {s b4 b6 b7 : Nat} {o o4 o6 o7 : Obj} (h : Bx q s b4 b6 b7 o o4 o6 o7) {base top : Nat} (hm : Mid base top q q') (h1 : s < base ∨ top ≤ s) (h2 : b4 < base ∨ top ≤ b4) (h3 : b6 < base ∨ top ≤ b6) (h4 : b7 < base ∨ top ≤ b7) : Bx q' s b4 b6 b7 o o4 o6 o7 :=
  ⟨mid_blk hm h.1 h1, mid_blk hm h.2.1 h2, mid_blk hm h.2.2.1 h3, mid_blk hm h.2.2.2 h4⟩
end Go.Proofs.Ytdhppigjlldfmaa

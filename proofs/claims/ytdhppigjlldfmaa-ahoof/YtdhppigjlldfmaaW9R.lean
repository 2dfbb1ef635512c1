/-
  l6Index and l8Ends of the specification; slices from a place on, and of rows.
-/
import Derived.Test.YtdhppigjlldfmaaW9J
import Derived.Test.YtdhppigjlldfmaaW8K
namespace Go.Proofs.Ytdhppigjlldfmaa
open Go.ChangeShapes Go.WideShapes Go.ChangeAt Go.WideMaps Go.WideElems Go.RowKit
set_option maxRecDepth 100000 in
theorem drop_ints (ao : Option Addr) (N cap lo : Nat) (h1 : lo ≤ N) (hc : N ≤ cap) : ∃ A C, (∀ w, (Instr.slice 26 (.slice ao N cap) (some (.int .i64 (lo : Int))) none none).run Try.prog w = .ok (.slice A (N - lo) C) w) ∧ ∀ w L, L.length = N → IntsAt w ao L → IntsAt w A (L.drop lo) := by
  obtain ⟨i0, hi0, hz0, hz1, hz2⟩ := info_parts Try.info3
  refine ⟨if cap = lo then ao else ao.map (·.add (lo * 1)), cap - lo, fun w => ?_, fun w L hL h j hj => ?_⟩
  · rw [run_slice_l w 26 ao N cap Try.underlying26 .i64 (lo : Int) (by omega) (by omega), show Try.prog.elem 26 = 3 by kernel_rfl]
    simp [sizeOf, typeInfo, hi0, hz1, sliced]
  · rw [List.length_drop] at hj
    obtain ⟨b, off, rfl, k2, k3⟩ := h (lo + j) (by omega)
    rw [if_neg (by omega)]
    refine ⟨b, off + lo, by simp [Addr.add], k2, ?_⟩
    rw [show off + lo + j = off + (lo + j) by omega, k3]
    congr 2
    simp only [List.getD, List.getElem?_drop]
set_option maxRecDepth 100000 in
theorem front_rows (b o N cap k : Nat) (hk : k ≤ N) (hc : N ≤ cap) : ∀ w, (Instr.slice 24 (.slice (some ⟨b, o, none⟩) N cap) none (some (.int .i64 (k : Int))) none).run Try.prog w = .ok (.slice (some ⟨b, o, none⟩) k cap) w := fun w => by
  obtain ⟨i0, hi, hz0, hz1, hz2⟩ := infoInts
  rw [run_slice_h w 24 (some ⟨b, o, none⟩) N cap Try.underlying24 .i64 (k : Int) (by omega) (by omega), show Try.prog.elem 24 = 26 by kernel_rfl]
  simp [sizeOf, typeInfo, hi, hz1, sliced, Addr.add]
def endsB (l x : Lst) : Bool := decide (x <:+ l)
theorem endsB_yes {l x : Lst} (h : x <:+ l) : endsB l x = true := decide_eq_true h
theorem endsB_no {l x : Lst} (h : ¬ x <:+ l) : endsB l x = false := decide_eq_false h
set_option maxRecDepth 100000 in
set_option maxHeartbeats 1000000 in
theorem sends_any (l x : Lst) (lo xo : Option Addr) (lc xc : Nat) (w : World) (hc : l.length ≤ lc) (hl : l.length ≤ 1048576) (hA : IntsAt w lo l) (hX : IntsAt w xo x) :
    Calls Try.prog 41 #[.slice lo l.length lc, .slice xo x.length xc] w fun e w' => e = .returned (.bool (endsB l x)) ∧ Below w.heap.size w w' := by
  by_cases hlen : x.length ≤ l.length
  case neg =>
    have hI : ¬ (x.length : Int) ≤ (l.length : Int) := by omega
    have hIb : decide ((x.length : Int) ≤ (l.length : Int)) = false := decide_eq_false hI
    have HE : Hid (endsB l x = false) := endsB_no fun h => hlen h.length_le
    clear hA hX
    go_enter Try.func41, Try.ntmps41
    go_wp2
    go_ret
    exact ⟨by rw [HE.out] <;> rfl, Below.refl _ _⟩
  have hI : (x.length : Int) ≤ (l.length : Int) := by omega
  have hIb : decide ((x.length : Int) ≤ (l.length : Int)) = true := decide_eq_true hI
  obtain ⟨A, C, hs, hi⟩ := drop_ints lo l.length lc (l.length - x.length) (by omega) hc
  have e0 : ((l.length - x.length : Nat) : Int) = (l.length : Int) - x.length := by omega
  have e1 : l.length - (l.length - x.length) = x.length := by omega
  have hd : (l.drop (l.length - x.length)).length = x.length := by rw [List.length_drop]; exact e1
  have HSM : Hid (Calls Try.prog 70 #[.slice A x.length C, .slice xo x.length xc] w fun e w' => e = .returned (.bool (decide (l.drop (l.length - x.length) = x))) ∧ Below w.heap.size w w') := by
    have := sSame8_any (l.drop (l.length - x.length)) x A xo C xc w (by omega) (hi w l rfl hA) hX
    rwa [hd] at this
  have HE : Hid (endsB l x = decide (l.drop (l.length - x.length) = x)) := by
    show _ = _
    by_cases h : l.drop (l.length - x.length) = x
    · rw [decide_eq_true h]
      exact endsB_yes (List.suffix_iff_eq_drop.2 h.symm)
    · rw [decide_eq_false h]
      exact endsB_no fun c => h (List.suffix_iff_eq_drop.1 c).symm
  rw [e0, e1] at hs
  have hw : IntKind.i64.wrap ((l.length : Int) - x.length) = (l.length : Int) - x.length := IntWalk.i64_in _ (by omega)
  have HS : Hid _ := hs
  clear hA hX hi hd e0 e1
  have hs2 := HS.out w
  clear hs
  go_enter Try.func41, Try.ntmps41
  go_wp2_with fail
  refine Calls.mono HSM.out ?_
  rintro e w1 ⟨rfl, b1⟩
  go_wp2
  go_ret
  exact ⟨by rw [HE.out] <;> rfl, b1⟩
/-- Where a list first stands among lists. -/
def FirstAt (Ls : List Lst) (x : Lst) (z : Int) : Prop := (∃ j : Nat, j < Ls.length ∧ z = j ∧ lsAt Ls j = x ∧ ∀ i, i < j → ¬ lsAt Ls i = x) ∨ (z = -1 ∧ ∀ i, i < Ls.length → ¬ lsAt Ls i = x)
theorem lsAt_rw (Ls : List Lst) (j : Nat) : rw_ Ls j = lsAt Ls j := rfl
set_option maxRecDepth 100000 in
set_option maxHeartbeats 1000000 in
theorem sidx_any (Ls : List Lst) (x : Lst) (ao xo : Option Addr) (cap xc : Nat) (w : World) (hn : Ls.length ≤ 100000) (hl : x.length ≤ 1048576) (hL : RowsAt w ao Ls) (hX : IntsAt w xo x) :
    Calls Try.prog 40 #[.slice ao Ls.length cap, .slice xo x.length xc] w fun e w' => ∃ z, e = .returned (.int .i64 z) ∧ FirstAt Ls x z ∧ Below w.heap.size w w' := by
  have HL : Hid (RowsAt w ao Ls) := hL
  have HX : Hid (IntsAt w xo x) := hX
  clear hL hX
  go_enter Try.func40, Try.ntmps40
  go_wp2
  go_loopw [9] (fun i wr => ∃ k : Nat, k ≤ Ls.length ∧ i = .int .i64 k ∧ (∀ j, j < k → ¬ lsAt Ls j = x) ∧ Below w.heap.size w wr) (fun i _ => Ls.length - (intOf i).toNat)
  case atStart => exact ⟨0, Nat.zero_le _, rfl, fun j hj => absurd hj (by omega), Below.refl _ _⟩
  case round =>
    obtain ⟨k, hk, rfl, hno, hbw⟩ := hrel
    have HNO : Hid _ := hno
    have BW : Hid (Below w.heap.size w wr) := hbw
    clear hno hbw
    by_cases hlt : k < Ls.length
    · have hltI : (k : Int) < (Ls.length : Int) := by omega
      obtain ⟨b1, o1, sa, sc, rfl, l1, c1, i1⟩ := HL.out k hlt
      have g1 : wr.cell? ⟨b1, o1 + k, none⟩ = some (.slice sa (rw_ Ls k).length sc) := (BW.out.cell (p := ⟨b1, o1 + k, none⟩) l1).trans c1
      have HSM : Hid (Calls Try.prog 70 #[.slice xo x.length xc, .slice sa (rw_ Ls k).length sc] wr fun e w' => e = .returned (.bool (decide (x = rw_ Ls k))) ∧ Below wr.heap.size wr w') := sSame8_any x (rw_ Ls k) xo sa xc sc wr hl (IntsAt.keepB HX.out BW.out) (IntsAt.keepB i1 BW.out)
      clear c1 i1
      by_cases he : x = rw_ Ls k
      · have HF : Hid (FirstAt Ls x k) := .inl ⟨k, hlt, rfl, he.symm, HNO.out⟩
        have hd : decide (x = rw_ Ls k) = true := decide_eq_true he
        rw [hd] at HSM
        clear he hd
        go_wp2_with fail
        refine Calls.mono HSM.out ?_
        rintro e w2 ⟨rfl, b2⟩
        have B2 : Hid (Below w.heap.size w w2) := BW.out.trans (b2.mono BW.out.size)
        clear b2
        go_wp2
        go_ret
        exact ⟨k, rfl, HF.out, B2.out⟩
      · have HN : Hid (∀ j, j < k + 1 → ¬ lsAt Ls j = x) := fun j hj h => by
          by_cases e : j = k
          · exact he (e ▸ h).symm
          · exact HNO.out j (by omega) h
        have hd : decide (x = rw_ Ls k) = false := decide_eq_false he
        rw [hd] at HSM
        clear he hd
        go_wp2_with fail
        refine Calls.mono HSM.out ?_
        rintro e w2 ⟨rfl, b2⟩
        have B2 : Hid (Below w.heap.size w w2) := BW.out.trans (b2.mono BW.out.size)
        clear b2
        go_wp2
        go_roundw
        case rel => exact ⟨k + 1, by omega, by go_num, HN.out, B2.out⟩
        case measure => simp [intOf]; omega
    · obtain rfl : k = Ls.length := by omega
      have hltI : ¬ (Ls.length : Int) < (Ls.length : Int) := by omega
      have HF : Hid (FirstAt Ls x (-1)) := .inr ⟨rfl, HNO.out⟩
      go_wp2
      go_ret
      exact ⟨-1, rfl, HF.out, BW.out⟩
/-- Rows that may be cut. -/
def RowsC (w : World) (ao : Option Addr) (R : Rw) : Prop :=
  ∀ j, j < R.length → ∃ b off sa sc, ao = some ⟨b, off, none⟩ ∧ b < w.heap.size ∧ w.cell? ⟨b, off + j, none⟩ = some (.slice sa (rw_ R j).length sc) ∧ (rw_ R j).length ≤ sc ∧ IntsAt w sa (rw_ R j)
theorem RowsC.at {w : World} {ao : Option Addr} {R : Rw} (h : RowsC w ao R) : RowsAt w ao R := fun j hj => by
  obtain ⟨b, off, sa, sc, h1, h2, h3, -, h5⟩ := h j hj
  exact ⟨b, off, sa, sc, h1, h2, h3, h5⟩
theorem RowsC.keepB {w w' : World} {ao : Option Addr} {R : Rw} (h : RowsC w ao R) (hb : Below w.heap.size w w') : RowsC w' ao R := fun j hj => by
  obtain ⟨b, off, sa, sc, h1, h2, h3, h4, h5⟩ := h j hj
  exact ⟨b, off, sa, sc, h1, Nat.lt_of_lt_of_le h2 hb.size, (hb.cell (p := ⟨b, off + j, none⟩) h2).trans h3, h4, h5.keepB hb⟩
theorem own_capI {w : World} {base : Nat} {ao : Option Addr} {n cap : Nat} {xs : List Value} (h : w.ownsRow base 3 1 (.slice ao n cap) n xs) : n ≤ cap := by
  rcases h.2 with ⟨e, h0⟩ | ⟨g, c, cur, e, -, -, h3, -⟩
  · omega
  · simp only [Value.slice.injEq] at e
    omega
theorem OwnR.rowsC {w : World} {base : Nat} {v : Value} {R : Rw} (h : OwnR w base v R.length R.length (rw_ R)) : ∃ ao cap, v = .slice ao R.length cap ∧ RowsC w ao R := by
  obtain ⟨Q, hQ, hr, hs, -⟩ := h
  rcases hr.2 with ⟨rfl, h0⟩ | ⟨g, cap, cur, rfl, h2, h3, h4⟩
  · exact ⟨none, 0, by rw [h0], fun j hj => by omega⟩
  · refine ⟨_, _, rfl, fun j hj => ?_⟩
    obtain ⟨-, a, c, hv, hi⟩ := ints_of_own (hs j hj)
    have hc := hs j hj
    rw [hv] at hc
    refine ⟨g, 0, a, c, rfl, (Array.getElem?_eq_some_iff.1 h3).1, ?_, own_capI hc, hi⟩
    rw [Nat.zero_add, World.ownsRow.cellAt hr j (by omega), vd_at Q j (by omega), hv]
end Go.Proofs.Ytdhppigjlldfmaa

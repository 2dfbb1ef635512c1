/-
  The laws' copy of a list of nodes.
-/
import Derived.Test.YtlkcdcdgpklpoaaR5C
import Derived.Test.YtlkcdcdgpklpoaaN3F2
namespace Go.Proofs.Ytlkcdcdgpklpoaa
open Go.ChangeShapes Go.WideShapes Go.ChangeAt Go.RowKit
theorem own_ne {w : World} {base : Nat} {e : TypeId} {size : Nat} {v : Value} {n : Nat} {xs : List Value} (h : w.ownsRow base e size v n xs) {b : Nat} (hb : b < base) : v.ownBlock = none ∨ v.ownBlock ≠ some b := by
  cases hv : v.ownBlock with
  | none => exact .inl rfl
  | some g => exact .inr fun e' => by have := (h.lt g hv).1; have := Option.some.inj e'; omega
theorem set_other (w : World) (b b' o o' : Nat) (v : Value) (h : b ≠ b' ∨ o ≠ o') : (w.setCell ⟨b, o, none⟩ v).cell? ⟨b', o', none⟩ = w.cell? ⟨b', o', none⟩ := by
  apply World.cell?_setCell_other
  intro e
  simp only [Addr.mk.injEq] at e
  omega
theorem set_same (w : World) (b o : Nat) (u v : Value) (h : w.cell? ⟨b, o, none⟩ = some u) : (w.setCell ⟨b, o, none⟩ v).cell? ⟨b, o, none⟩ = some v := by
  apply World.cell?_setCell_same
  exact h
theorem own_set {w : World} {base : Nat} {e : TypeId} {size : Nat} {v : Value} {n : Nat} {xs : List Value} (h : w.ownsRow base e size v n xs) {b : Nat} (hb : b < base) (o : Nat) (u : Value) : (w.setCell ⟨b, o, none⟩ u).ownsRow base e size v n xs :=
  World.ownsRow.kept h (grown_set w b o u) (own_ne h hb)
theorem heap_last2 (w : World) (o : Obj) (i : Nat) (h : i = w.heap.size) : (w.alloc o).heap[i]? = some o := by subst h; show (w.heap.push o)[w.heap.size]? = some o; simp
theorem heap_prev (w : World) (o : Obj) (i : Nat) (h : i < w.heap.size) : (w.alloc o).heap[i]? = w.heap[i]? := by
  show (w.heap.push o)[i]? = w.heap[i]?
  rw [Array.getElem?_push, if_neg (by omega)]
theorem cell_of {w : World} {b : Nat} {cs : Array Value} {t : TypeId} (h : w.heap[b]? = some (.cells cs t)) (o : Nat) : w.cell? ⟨b, o, none⟩ = cs[o]? := by simp [World.cell?, h]
/-- A block of nodes of which the first k are laid, each with a set in a row of its own behind the block. -/
structure ReRow (w : World) (g : Nat) (P : List Nd) (k : Nat) : Prop where
  lt : g < w.heap.size
  fz : ∀ j, w.frozen? ⟨g, j, none⟩ = false
  ins : ∀ j, j < k → ∃ v, w.cell? ⟨g, j * 2, none⟩ = some (.int .i64 (nd P j).1) ∧ w.cell? ⟨g, j * 2 + 1, none⟩ = some v ∧ w.ownsRow (g + 1) 3 1 v (nd P j).2.length (ints (nd P j).2)
  outs : ∀ j, k ≤ j → j < P.length → (∃ u, w.cell? ⟨g, j * 2, none⟩ = some u) ∧ ∃ u, w.cell? ⟨g, j * 2 + 1, none⟩ = some u
theorem ReRow.keepB {w w' : World} {g : Nat} {P : List Nd} {k : Nat} (h : ReRow w g P k) (hb : Below w.heap.size w w') : ReRow w' g P k :=
  ⟨Nat.lt_of_lt_of_le h.lt hb.size, fun j => (World.frozen?_of_block (a := ⟨g, j, none⟩) (hb.block g h.lt)).trans (h.fz j),
   fun j hj => by
    obtain ⟨v, h1, h2, h3⟩ := h.ins j hj
    exact ⟨v, (hb.cell (p := ⟨g, j * 2, none⟩) h.lt).trans h1, (hb.cell (p := ⟨g, j * 2 + 1, none⟩) h.lt).trans h2, World.ownsRow.keepB h3 hb⟩,
   fun j hj hl => by
    obtain ⟨⟨u, h1⟩, ⟨u', h2⟩⟩ := h.outs j hj hl
    exact ⟨⟨u, (hb.cell (p := ⟨g, j * 2, none⟩) h.lt).trans h1⟩, ⟨u', (hb.cell (p := ⟨g, j * 2 + 1, none⟩) h.lt).trans h2⟩⟩⟩
theorem ReRow.put {w : World} {g : Nat} {P : List Nd} {k : Nat} (h : ReRow w g P k) (hk : k < P.length) (v : Value) (hv : w.ownsRow (g + 1) 3 1 v (nd P k).2.length (ints (nd P k).2)) :
    ReRow ((w.setCell ⟨g, k * 2, none⟩ (.int .i64 (nd P k).1)).setCell ⟨g, k * 2 + 1, none⟩ v) g P (k + 1) := by
  obtain ⟨⟨u, h1⟩, ⟨u', h2⟩⟩ := h.outs k (Nat.le_refl _) hk
  have own2 : ∀ {v' : Value} {n : Nat} {xs : List Value}, w.ownsRow (g + 1) 3 1 v' n xs → ((w.setCell ⟨g, k * 2, none⟩ (.int .i64 (nd P k).1)).setCell ⟨g, k * 2 + 1, none⟩ v).ownsRow (g + 1) 3 1 v' n xs := fun h => own_set (own_set h (Nat.lt_succ_self _) _ _) (Nat.lt_succ_self _) _ _
  refine ⟨by simpa [World.setCell] using h.lt, fun j => by rw [World.frozen?_setCell, World.frozen?_setCell]; exact h.fz j, fun j hj => ?_, fun j hj hl => ?_⟩
  · by_cases e : j = k
    · subst e
      refine ⟨v, ?_, ?_, own2 hv⟩
      · rw [set_other _ _ _ _ _ _ (by omega)]
        exact set_same _ _ _ _ _ h1
      · exact set_same _ _ _ u' _ (by rw [set_other _ _ _ _ _ _ (by omega)]; exact h2)
    · obtain ⟨v', h1, h2, h3⟩ := h.ins j (by omega)
      refine ⟨v', ?_, ?_, own2 h3⟩
      · rw [set_other _ _ _ _ _ _ (by omega), set_other _ _ _ _ _ _ (by omega)]; exact h1
      · rw [set_other _ _ _ _ _ _ (by omega), set_other _ _ _ _ _ _ (by omega)]; exact h2
  · obtain ⟨⟨u, h1⟩, ⟨u', h2⟩⟩ := h.outs j (by omega) hl
    refine ⟨⟨u, ?_⟩, ⟨u', ?_⟩⟩
    · rw [set_other _ _ _ _ _ _ (by omega), set_other _ _ _ _ _ _ (by omega)]; exact h1
    · rw [set_other _ _ _ _ _ _ (by omega), set_other _ _ _ _ _ _ (by omega)]; exact h2
theorem ReRow.res {w : World} {g : Nat} {P : List Nd} (h : ReRow w g P P.length) : ResAt w (some ⟨g, 0, none⟩) P := fun j hj => by
  obtain ⟨v, h1, h2, h3⟩ := h.ins j hj
  obtain ⟨_, a, c, rfl, i⟩ := ints_of_own h3
  exact ⟨g, 0, a, c, rfl, h.lt, by rw [Nat.zero_add]; exact h1, by rw [Nat.zero_add]; exact h2, i⟩
theorem make_res (w : World) (P : List Nd) (hn : P.length ≤ 1048576) : ∃ w', (Instr.makeSlice 51 (.int .i64 (P.length : Int)) (.int .i64 (P.length : Int))).run Try.prog w = .ok (.slice (some ⟨w.heap.size, 0, none⟩) P.length P.length) w' ∧
    ReRow w' w.heap.size P 0 ∧ Below w.heap.size w w' := by
  have hinfo : ∃ i, Try.prog.info? 115 = some i ∧ i.zero = some (.agg #[.int .i64 0, .slice none 0 0]) ∧ i.size = 2 ∧ i.bytes = 32 := by
    have h : (Try.prog.info? 115).map (fun i => (i.zero, i.size, i.bytes)) = some (some (.agg #[.int .i64 0, .slice none 0 0]), 2, 32) := by kernel_rfl
    cases hi : Try.prog.info? 115 with
    | none => rw [hi] at h; cases h
    | some i =>
      rw [hi] at h
      simp only [Option.map_some, Option.some.injEq, Prod.mk.injEq] at h
      exact ⟨i, rfl, h.1, h.2.1, h.2.2⟩
  obtain ⟨i0, hi, hz0, hz1, hz2⟩ := hinfo
  obtain ⟨w1, h1, h2, h3⟩ := run_make_full (P := Try.prog) w w.heap.size 51 115 i0 (.agg #[.int .i64 0, .slice none 0 0]) 2 Try.underlying51 hi hz0 hz1 .i64 .i64 P.length (by rw [hz2]; omega) (by unfold maxLen; omega) (Nat.le_refl _)
  have hb : Below w.heap.size w w1 := Below.grown (Below.refl _ _) h3 (Nat.le_refl _) (fun g hg => by cases hg)
  refine ⟨w1, h1, ⟨(h2.lt w.heap.size rfl).2, h2.frozenAt, fun j hj => absurd hj (by omega), fun j _ hl => ?_⟩, hb⟩
  constructor
  · refine ⟨_, (h2.cellAt (j * 2) (by omega)).trans (List.getElem?_eq_getElem ?_)⟩
    simp [size_madeCells]; omega
  · refine ⟨_, (h2.cellAt (j * 2 + 1) (by omega)).trans (List.getElem?_eq_getElem ?_)⟩
    simp [size_madeCells]; omega
set_option maxRecDepth 100000 in
set_option maxHeartbeats 1000000 in
theorem toRe_any (x : Nd) (sa : Option Addr) (sc : Nat) (w : World) (hl : x.2.length ≤ 1048576) (hA : IntsAt w sa x.2) :
    Calls Try.prog 75 #[.agg #[.int .i64 x.1, .slice sa x.2.length sc]] w fun e w' => ∃ v, e = .returned (.agg #[.int .i64 x.1, v]) ∧ w'.ownsRow w.heap.size 3 1 v x.2.length (ints x.2) ∧ Below w.heap.size w w' := by
  obtain ⟨op, s⟩ := x
  have HA : Hid _ := hA
  clear hA
  go_enter Try.func75, Try.ntmps75
  go_wp2_with fail
  refine (toI_any s sa sc _ hl (IntsAt.keepB HA.out (by go_grown))).mono ?_
  rintro e w2 ⟨v, rfl, ox, b2⟩
  have hb3 : w2.heap[w.heap.size + 1 + 1]? = some (.cells #[.int .i64 op, .slice none 0 0] 115) := (b2.block (w.heap.size + 1 + 1) (by simp)).trans (heap_last2 _ _ _ (by simp))
  have hb2 : w2.heap[w.heap.size + 1]? = some (.cells #[.int .i64 0, .slice none 0 0] 115) := (b2.block (w.heap.size + 1) (by simp)).trans ((heap_prev _ _ _ (by simp)).trans (heap_last2 _ _ _ (by simp)))
  have c30 : w2.cell? ⟨w.heap.size + 1 + 1, 0, none⟩ = some (.int .i64 op) := cell_of hb3 0
  have c31 : w2.cell? ⟨w.heap.size + 1 + 1, 1, none⟩ = some (.slice none 0 0) := cell_of hb3 1
  have c20 : w2.cell? ⟨w.heap.size + 1, 0, none⟩ = some (.int .i64 0) := cell_of hb2 0
  have c21 : w2.cell? ⟨w.heap.size + 1, 1, none⟩ = some (.slice none 0 0) := cell_of hb2 1
  have f31 : w2.frozen? ⟨w.heap.size + 1 + 1, 1, none⟩ = false := frozen_of_row w2 _ _ _ _ hb3
  have f20 : w2.frozen? ⟨w.heap.size + 1, 0, none⟩ = false := frozen_of_row w2 _ _ _ _ hb2
  have f21 : w2.frozen? ⟨w.heap.size + 1, 1, none⟩ = false := frozen_of_row w2 _ _ _ _ hb2
  have OX : Hid (w2.ownsRow (w.heap.size + 1 + 1 + 1) 3 1 v s.length (ints s)) := own_mono ox (by simp)
  have B2 : Hid (Below w.heap.size w w2) := (by go_grown : Below w.heap.size w _).trans (b2.mono (by simp; omega))
  obtain ⟨-, va, vc, rfl, -⟩ := ints_of_own ox
  clear b2 ox hb3 hb2
  go_wp2
  have r20 : (((w2.setCell ⟨w.heap.size + 1 + 1, 1, none⟩ (.slice va s.length vc)).setCell ⟨w.heap.size + 1, 0, none⟩ (.int .i64 op)).setCell ⟨w.heap.size + 1, 1, none⟩ (.slice va s.length vc)).cell? ⟨w.heap.size + 1, 0, none⟩ = some (.int .i64 op) := by
    rw [set_other _ _ _ _ _ _ (by omega)]
    exact set_same _ _ _ _ _ ((set_other _ _ _ _ _ _ (by omega)).trans c20)
  have r21 : (((w2.setCell ⟨w.heap.size + 1 + 1, 1, none⟩ (.slice va s.length vc)).setCell ⟨w.heap.size + 1, 0, none⟩ (.int .i64 op)).setCell ⟨w.heap.size + 1, 1, none⟩ (.slice va s.length vc)).cell? ⟨w.heap.size + 1, 1, none⟩ = some (.slice va s.length vc) :=
    set_same _ _ _ _ _ ((set_other _ _ _ _ _ _ (by omega)).trans ((set_other _ _ _ _ _ _ (by omega)).trans c21))
  have OF : Hid _ := own_set (own_set (own_set OX.out (show w.heap.size + 1 + 1 < _ by omega) 1 (.slice va s.length vc)) (show w.heap.size + 1 < _ by omega) 0 (.int .i64 op)) (show w.heap.size + 1 < _ by omega) 1 (.slice va s.length vc)
  have BF : Hid (Below w.heap.size w _) := Below.grown (Below.grown (Below.grown B2.out (grown_set w2 (w.heap.size + 1 + 1) 1 (.slice va s.length vc)) B2.out.size (fun g e => by have := Option.some.inj e; omega)) (grown_set _ (w.heap.size + 1) 0 (.int .i64 op)) (by have := B2.out.size; simpa [World.setCell] using this) (fun g e => by have := Option.some.inj e; omega)) (grown_set _ (w.heap.size + 1) 1 (.slice va s.length vc)) (by have := B2.out.size; simpa [World.setCell] using this) (fun g e => by have := Option.some.inj e; omega)
  generalize ((w2.setCell ⟨w.heap.size + 1 + 1, 1, none⟩ (.slice va s.length vc)).setCell ⟨w.heap.size + 1, 0, none⟩ (.int .i64 op)).setCell ⟨w.heap.size + 1, 1, none⟩ (.slice va s.length vc) = w9 at *
  exact bodyPost_ret (v := .agg #[.int .i64 op, .slice va s.length vc]) (by simp [results, Try.results75, go_sem, r20, r21]) rfl ⟨_, rfl, own_mono OF.out (by omega), BF.out⟩
set_option maxRecDepth 100000 in
set_option maxHeartbeats 2000000 in
theorem toReS_any (P : List Nd) (ao : Option Addr) (cap : Nat) (w : World) (hl : szP P ≤ 1048576) (hA : ResAt w ao P) :
    Calls Try.prog 25 #[.slice ao P.length cap] w fun e w' => ∃ bo cb, e = .returned (.slice bo P.length cb) ∧ ResAt w' bo P ∧ Below w.heap.size w w' := by
  have hpl : P.length ≤ 1048576 := by unfold szP at hl; omega
  obtain ⟨w1, hmk, how, hb1⟩ := make_res w P hpl
  have HA : Hid _ := hA
  have HL : Hid _ := hl
  have HO : Hid _ := how
  have HB : Hid _ := hb1
  clear hA hl how hb1
  go_enter Try.func25, Try.ntmps25
  go_wp2
  go_loopw [4] (fun i wr => ∃ k : Nat, k ≤ P.length ∧ i = .int .i64 k ∧ ReRow wr w.heap.size P k ∧ Below w.heap.size w wr) (fun i _ => P.length - (intOf i).toNat)
  case atStart => exact ⟨0, Nat.zero_le _, rfl, HO.out, HB.out⟩
  case round =>
    obtain ⟨k, hk, rfl, hrow, hbw⟩ := hrel
    have HR : Hid _ := hrow
    have BW0 : Hid _ := hbw
    clear hrow hbw
    by_cases hlt : k < P.length
    · have hltI : (k : Int) < (P.length : Int) := by omega
      obtain ⟨b1, o1, sa, sc, rfl, l1, h0, h1, iS⟩ := HA.out k hlt
      have hls : (nd P k).2.length ≤ 1048576 := Nat.le_trans (nd_len P k hlt) HL.out
      have g0 : wr.cell? ⟨b1, o1 + k * 2, none⟩ = some (.int .i64 (nd P k).1) := (BW0.out.cell (p := ⟨b1, o1 + k * 2, none⟩) l1).trans h0
      have g1 : wr.cell? ⟨b1, o1 + k * 2 + 1, none⟩ = some (.slice sa (nd P k).2.length sc) := (BW0.out.cell (p := ⟨b1, o1 + k * 2 + 1, none⟩) l1).trans h1
      have IS : Hid _ := IntsAt.keepB iS BW0.out
      clear h0 h1 iS
      go_wp2_with fail
      refine (toRe_any (nd P k) sa sc _ hls IS.out).mono ?_
      rintro e w2 ⟨v, rfl, ox, b2⟩
      have HR2 : Hid _ := HR.out.keepB b2
      have hlt2 := HR.out.lt
      have OX : Hid (w2.ownsRow (w.heap.size + 1) 3 1 v (nd P k).2.length (ints (nd P k).2)) := own_mono ox (by omega)
      have B2 : Hid (Below w.heap.size w w2) := BW0.out.trans (b2.mono BW0.out.size)
      obtain ⟨⟨u1, d1⟩, ⟨u2, d2⟩⟩ := HR2.out.outs k (Nat.le_refl _) hlt
      have z1 := HR2.out.fz (k * 2)
      have z2 := HR2.out.fz (k * 2 + 1)
      have HPUT : Hid _ := HR2.out.put hlt v OX.out
      have d2' : (w2.setCell ⟨w.heap.size, k * 2, none⟩ (.int .i64 (nd P k).1)).cell? ⟨w.heap.size, k * 2 + 1, none⟩ = some u2 := (set_other _ _ _ _ _ _ (by omega)).trans d2
      have z2' : (w2.setCell ⟨w.heap.size, k * 2, none⟩ (.int .i64 (nd P k).1)).frozen? ⟨w.heap.size, k * 2 + 1, none⟩ = false := (World.frozen?_setCell _ _ _ _).trans z2
      obtain ⟨-, va, vc, rfl, -⟩ := ints_of_own ox
      clear b2 ox g0 g1
      go_wp2
      go_roundw
      case rel => exact ⟨k + 1, by omega, by go_num, HPUT.out, Below.grown (Below.grown B2.out (grown_set w2 w.heap.size (k * 2) _) B2.out.size (fun g e => by have := Option.some.inj e; omega)) (grown_set _ w.heap.size (k * 2 + 1) _) (by have := B2.out.size; simpa [World.setCell] using this) (fun g e => by have := Option.some.inj e; omega)⟩
      case measure => simp [intOf]; omega
    · obtain rfl : k = P.length := by omega
      have HRES : Hid _ := HR.out.res
      go_wp2
      go_ret
      exact ⟨_, _, rfl, HRES.out, BW0.out⟩
end Go.Proofs.Ytlkcdcdgpklpoaa

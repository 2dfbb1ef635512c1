/-
  The program's reader of the shifting code; the state of feeding beside a block that holds the shift.
-/
import Derived.Test.YtcclollclbegoaaDoorI2Feed0
namespace Go.Proofs.YtcclollclbegoaaDoor
open Go.ChangeShapes Go.WideShapes Go.ChangeAt Go.RowKit
theorem cons_at (x : ByteArray) (h : 0 < x.size) : x.data.toList = x[0] :: (x.extract 1 x.size).data.toList := by
  have h1 := drop_at x 0 h
  rw [List.drop_zero] at h1
  have h2 : (x.extract 1 x.size).data.toList = x.data.toList.drop 1 := by
    rw [Lib.extract_data, List.take_of_length_le (by simp)]
  rw [h2]; exact h1
theorem feedB4_state : ∀ (t : List UInt8), (feedB 4 t 0 0).2.2 = (0, 0)
  | [] => rfl
  | b :: t => by
    rw [feedB, if_neg (fun x => by cases x.1)]
    exact feedB4_state t
theorem feedB5_state : ∀ (t : List UInt8) (sh lo : Int), 0 ≤ sh ∧ sh ≤ 1 → 0 ≤ lo → (0 ≤ (feedB 5 t sh lo).2.2.1 ∧ (feedB 5 t sh lo).2.2.1 ≤ 1) ∧ 0 ≤ (feedB 5 t sh lo).2.2.2
  | [], sh, lo, h, h' => ⟨h, h'⟩
  | b :: t, sh, lo, h, h' => by
    rw [feedB]
    split
    · rename_i h2
      exact feedB5_state t _ _ (by omega) (by omega)
    · exact feedB5_state t sh 0 h (by omega)
set_option maxRecDepth 100000 in
set_option maxHeartbeats 1000000 in
theorem iread_5on (C : Nat) (sh : Int) (x : ByteArray) (w : World) (h0 : 0 < x.size) (hc : w.cell? ⟨C, 0, none⟩ = some (.int .i64 sh)) (hf : w.frozen? ⟨C, 0, none⟩ = false) (h : (x[0].toNat : Int) = 14) :
    Calls Tryd.prog 103 #[.pointer (some ⟨C, 0, none⟩), .string x] w fun e w' => e = .returned (.tuple #[.int .i64 (-1), .int .i64 1]) ∧ w' = w.setCell ⟨C, 0, none⟩ (.int .i64 1) := by
  have h0I : (0 : Int) < x.size := by omega
  have c0 := byte_le x 0 h0
  have t1 : ((x[0].toNat : Int) == 14) = true := by rw [beq_iff_eq]; exact h
  clear h
  go_enter Tryd.func103, Tryd.ntmps103
  go_wp2
  go_ret2
  exact ⟨rfl, rfl⟩
set_option maxRecDepth 100000 in
set_option maxHeartbeats 1000000 in
theorem iread_5off (C : Nat) (sh : Int) (x : ByteArray) (w : World) (h0 : 0 < x.size) (hc : w.cell? ⟨C, 0, none⟩ = some (.int .i64 sh)) (hf : w.frozen? ⟨C, 0, none⟩ = false) (h : (x[0].toNat : Int) = 15) :
    Calls Tryd.prog 103 #[.pointer (some ⟨C, 0, none⟩), .string x] w fun e w' => e = .returned (.tuple #[.int .i64 (-1), .int .i64 1]) ∧ w' = w.setCell ⟨C, 0, none⟩ (.int .i64 0) := by
  have h0I : (0 : Int) < x.size := by omega
  have c0 := byte_le x 0 h0
  have t1 : ((x[0].toNat : Int) == 14) = false := by rw [beq_eq_false_iff_ne]; omega
  have t2 : ((x[0].toNat : Int) == 15) = true := by rw [beq_iff_eq]; exact h
  clear h
  go_enter Tryd.func103, Tryd.ntmps103
  go_wp2
  go_ret2
  exact ⟨rfl, rfl⟩
set_option maxRecDepth 100000 in
set_option maxHeartbeats 2000000 in
theorem iread_5 (C : Nat) (sh : Int) (x : ByteArray) (w : World) (h0 : 0 < x.size) (hc : w.cell? ⟨C, 0, none⟩ = some (.int .i64 sh)) (h : ¬ ((x[0].toNat : Int) = 14 ∨ (x[0].toNat : Int) = 15)) (hs : sh = 0 ∨ sh = 1) :
    Calls Tryd.prog 103 #[.pointer (some ⟨C, 0, none⟩), .string x] w fun e w' => e = .returned (.tuple #[.int .i64 (shiftedN sh x[0].toNat), .int .i64 1]) ∧ w' = w := by
  have h0I : (0 : Int) < x.size := by omega
  have c0 := byte_le x 0 h0
  have t1 : ((x[0].toNat : Int) == 14) = false := by rw [beq_eq_false_iff_ne]; omega
  have t2 : ((x[0].toNat : Int) == 15) = false := by rw [beq_eq_false_iff_ne]; omega
  clear h
  by_cases h1 : (x[0].toNat : Int) < 32
  · rw [show shiftedN sh x[0].toNat = x[0].toNat by unfold shiftedN; rw [if_pos (.inl h1)]]
    clear hs
    go_enter Tryd.func103, Tryd.ntmps103
    go_wp2
    go_ret2
    exact ⟨rfl, rfl⟩
  · rcases hs with rfl | rfl
    · by_cases h2 : (x[0].toNat : Int) < 128
      · rw [show shiftedN 0 x[0].toNat = x[0].toNat by unfold shiftedN; rw [if_pos (.inr ⟨h2, rfl⟩)]]
        go_enter Tryd.func103, Tryd.ntmps103
        go_wp2
        go_ret2
        exact ⟨rfl, rfl⟩
      · rw [show shiftedN 0 x[0].toNat = 65533 by unfold shiftedN; rw [if_neg (by omega), if_neg (by omega)]]
        go_enter Tryd.func103, Tryd.ntmps103
        go_wp2
        go_ret2
        exact ⟨rfl, rfl⟩
    · by_cases h2 : (x[0].toNat : Int) ≤ 126
      · rw [show shiftedN 1 x[0].toNat = (12352 : Int) + (x[0].toNat : Int) - 32 by unfold shiftedN; rw [if_neg (by omega), if_pos ⟨rfl, h2⟩]]
        go_enter Tryd.func103, Tryd.ntmps103
        go_wp2
        go_ret2
        exact ⟨rfl, rfl⟩
      · rw [show shiftedN 1 x[0].toNat = 65533 by unfold shiftedN; rw [if_neg (by omega), if_neg (by omega)]]
        go_enter Tryd.func103, Tryd.ntmps103
        go_wp2
        go_ret2
        exact ⟨rfl, rfl⟩
/-- While feeding with shifts: a decoder in block D, the result's block D + 1, the shift in block C, two lists behind. -/
structure FedS (D C : Nat) (w : World) (en sh0 lo0 : Int) (held : ByteArray) (sh : Int) (v1 : Value) (L1 : List Int) (v2 : Value) (L2 : List Int) : Prop where
  d : DecAt w D en sh0 lo0 held
  r : DecAt w (D + 1) 0 0 0 ⟨#[]⟩
  t : Two (C + 1) w v1 L1 v2 L2
  c : w.cell? ⟨C, 0, none⟩ = some (.int .i64 sh)
  cf : w.frozen? ⟨C, 0, none⟩ = false
  clt : C < w.heap.size
  far : D + 1 < C
section
variable {D C : Nat} {w w' : World} {en sh0 lo0 sh : Int} {held : ByteArray} {v1 v2 : Value} {L1 L2 : List Int}
theorem FedS.grown {row : Option Nat} (h : FedS D C w en sh0 lo0 held sh v1 L1 v2 L2) (hg : w.grownBy w' row) (hr : ∀ g, row = some g → C < g) {u1 u2 : Value} {M1 M2 : List Int} (ht : Two (C + 1) w' u1 M1 u2 M2) : FedS D C w' en sh0 lo0 held sh u1 M1 u2 M2 := by
  have far := h.far
  have blk : w'.heap[C]? = w.heap[C]? := hg.block C h.clt (fun e => by have := hr C e.symm; omega)
  exact ⟨h.d.grown hg (fun e => by have := hr D e; omega), h.r.grown hg (fun e => by have := hr (D + 1) e; omega), ht, (World.cell?_of_block (a := ⟨C, 0, none⟩) blk).trans h.c, (World.frozen?_of_block (a := ⟨C, 0, none⟩) blk).trans h.cf, Nat.lt_of_lt_of_le h.clt hg.size, h.far⟩
theorem FedS.below (h : FedS D C w en sh0 lo0 held sh v1 L1 v2 L2) (hb : Below w.heap.size w w') : FedS D C w' en sh0 lo0 held sh v1 L1 v2 L2 :=
  h.grown (row := none) ⟨hb.os, hb.tape, hb.output, hb.size, fun k hk _ => hb.block k hk⟩ (fun g e => by cases e) (h.t.below hb)
theorem FedS.alloc (h : FedS D C w en sh0 lo0 held sh v1 L1 v2 L2) (o : Obj) : FedS D C (w.alloc o) en sh0 lo0 held sh v1 L1 v2 L2 :=
  h.grown (row := none) (World.grownBy_alloc w o none) (fun g e => by cases e) (h.t.alloc o)
theorem FedS.push {v1' : Value} {M : List Int} {n : Nat} (h : FedS D C w en sh0 lo0 held sh v1 L1 v2 L2) (ho : w'.ownsRow (C + 1) 3 1 v1' n (ints L1 ++ ints M)) (hn : n = L1.length + M.length) (hg : w.grownBy w' v1.ownBlock)
    (hat : v1'.ownBlock = v1.ownBlock ∨ v1'.ownBlock = some w.heap.size) : FedS D C w' en sh0 lo0 held sh v1' (L1 ++ M) v2 L2 :=
  h.grown hg (fun g e => by have := (h.t.a.lt g e).1; omega) (h.t.push ho hn hg hat)
theorem FedS.push2 {v2' : Value} {M : List Int} {n : Nat} (h : FedS D C w en sh0 lo0 held sh v1 L1 v2 L2) (ho : w'.ownsRow (C + 1) 3 1 v2' n (ints L2 ++ ints M)) (hn : n = L2.length + M.length) (hg : w.grownBy w' v2.ownBlock)
    (hat : v2'.ownBlock = v2.ownBlock ∨ v2'.ownBlock = some w.heap.size) : FedS D C w' en sh0 lo0 held sh v1 L1 v2' (L2 ++ M) :=
  h.grown hg (fun g e => by have := (h.t.b.lt g e).1; omega) ((h.t.swap.push ho hn hg hat).swap)
theorem FedS.shift (h : FedS D C w en sh0 lo0 held sh v1 L1 v2 L2) (s' : Int) : FedS D C (w.setCell ⟨C, 0, none⟩ (.int .i64 s')) en sh0 lo0 held s' v1 L1 v2 L2 := by
  have far := h.far
  exact ⟨h.d.grown (grown_set _ _ _ _) (fun e => by have := Option.some.inj e; omega), h.r.grown (grown_set _ _ _ _) (fun e => by have := Option.some.inj e; omega), h.t.set _ _ _ (by omega), World.cell?_setCell_same _ _ _ h.c, by rw [World.frozen?_setCell]; exact h.cf, by rw [World.size_setCell]; exact h.clt, far⟩
theorem FedS.putHigh {l hi P : Nat} (h : FedS D C w en sh0 lo0 held sh v1 L1 v2 L2) (hl : Lies v1 v2 l hi) (hP : hi ≤ P) (hC : C < P) (a b c d : Value) : FedS D C (putDec w P a b c d) en sh0 lo0 held sh v1 L1 v2 L2 := by
  have hr : ∀ g, some P = some g → C < g := fun g e => by have := Option.some.inj e; omega
  have hr' : ∀ g, some P = some g → hi ≤ g := fun g e => by have := Option.some.inj e; omega
  have k0 := h.t.keep (grown_set w P 0 a) hl hr'
  have f0 := h.grown (grown_set w P 0 a) hr k0
  have k1 := f0.t.keep (grown_set _ P 1 b) hl hr'
  have f1 := f0.grown (grown_set _ P 1 b) hr k1
  have k2 := f1.t.keep (grown_set _ P 2 c) hl hr'
  have f2 := f1.grown (grown_set _ P 2 c) hr k2
  exact f2.grown (grown_set _ P 3 d) hr (f2.t.keep (grown_set _ P 3 d) hl hr')
/-- What is told: the shift goes into block P, then the decoder of P is laid into block D + 1. -/
theorem FedS.out {w0 : World} {l hi P : Nat} (h : FedS D C w en sh0 lo0 held sh v1 L1 v2 L2) (hb : Below D w0 w) (hl : Lies v1 v2 l hi) (hP : hi ≤ P) (hC : C < P) (v a b c d : Value) :
    Two D (putDec (w.setCell ⟨P, 1, none⟩ v) (D + 1) a b c d) v1 L1 v2 L2 ∧ Below D w0 (putDec (w.setCell ⟨P, 1, none⟩ v) (D + 1) a b c d) := by
  have far := h.far
  have hlt := h.d.lt
  have b1 := below_set hb P 1 v (by omega) (by omega)
  exact ⟨((h.t.keep (grown_set w P 1 v) hl (fun g e => by have := Option.some.inj e; omega)).put _ (by omega) _ _ _ _).lower (by omega), below_put b1 (by omega) (by simp; omega) _ _ _ _⟩
end
end Go.Proofs.YtcclollclbegoaaDoor

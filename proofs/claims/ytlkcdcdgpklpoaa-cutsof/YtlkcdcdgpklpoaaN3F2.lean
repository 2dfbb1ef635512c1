/-
  The buckets in memory: six rows apart from each other, five of them in a list of the call's own.
-/
import Derived.Test.YtlkcdcdgpklpoaaN3F1
import Derived.Laws.MakeOwn
namespace Go.Proofs.Ytlkcdcdgpklpoaa
open Go.ChangeShapes Go.WideShapes Go.ChangeAt Go.RowKit
def nilS : Value := .slice none 0 0
structure BK (w wr : World) (R : Nat) (v : Nat → Value) (B : Nat → List Int) : Prop where
  row : ∀ i, i ≤ 5 → wr.ownsRow w.heap.size 3 1 (v i) (B i).length (ints (B i))
  ap : ∀ i j, i ≤ 5 → j ≤ 5 → i ≠ j → SA (v i) (v j)
  cel : ∀ i, i < 5 → wr.cell? ⟨R, i, none⟩ = some (v (i + 1))
  fz : ∀ i, wr.frozen? ⟨R, i, none⟩ = false
  lo : w.heap.size ≤ R
  hi : R < wr.heap.size
  nR : ∀ i, i ≤ 5 → (v i).ownBlock ≠ some R
  be : Below w.heap.size w wr
theorem BK.congr {w wr : World} {R : Nat} {v : Nat → Value} {B B' : Nat → List Int} (h : BK w wr R v B) (e : ∀ i, i ≤ 5 → B i = B' i) : BK w wr R v B' :=
  { h with row := fun i hi => by rw [← e i hi]; exact h.row i hi }
theorem grown_set (w : World) (R o : Nat) (u : Value) : w.grownBy (w.setCell ⟨R, o, none⟩ u) (some R) :=
  ⟨rfl, rfl, rfl, by simp, fun k _ hk => heap_setCell_other w ⟨R, o, none⟩ k u (fun e => hk (by simp [e]))⟩
theorem grown_sets (R : Nat) : ∀ (vs : List Value) (o : Nat) (w : World), w.grownBy (w.setCells R o vs) (some R)
  | [], _, _ => ⟨rfl, rfl, rfl, Nat.le_refl _, fun _ _ _ => rfl⟩
  | v :: r, o, w => grown_trans (grown_set w R o v) (grown_sets R r (o + 1) _)
theorem sc3_other (w : World) (b b' o o' : Nat) (v : Value) (h : b ≠ b' ∨ o ≠ o') : (w.setCell ⟨b, o, none⟩ v).cell? ⟨b', o', none⟩ = w.cell? ⟨b', o', none⟩ := by
  apply World.cell?_setCell_other
  intro e
  simp only [Addr.mk.injEq] at e
  omega
theorem sc3_same (w : World) (b o : Nat) (u v : Value) (h : w.cell? ⟨b, o, none⟩ = some u) : (w.setCell ⟨b, o, none⟩ v).cell? ⟨b, o, none⟩ = some v := by
  apply World.cell?_setCell_same
  exact h
theorem grown_alloc (w : World) (o : Obj) (row : Option Nat) : w.grownBy (w.alloc o) row := by
  have b : Below w.heap.size w (w.alloc o) := (Below.refl _ _).alloc (Nat.le_refl _) o
  exact ⟨b.os, b.tape, b.output, b.size, fun k hk _ => b.block k hk⟩
/-- A world in which one row has grown keeps the rest of it. -/
structure GR (w wr w2 : World) (R : Nat) (v : Nat → Value) (B : Nat → List Int) (i : Nat) : Prop where
  row : ∀ j, j ≤ 5 → j ≠ i → w2.ownsRow w.heap.size 3 1 (v j) (B j).length (ints (B j))
  cel : ∀ j, j < 5 → w2.cell? ⟨R, j, none⟩ = some (v (j + 1))
  fz : ∀ j, w2.frozen? ⟨R, j, none⟩ = false
  hi : R < w2.heap.size
  be : Below w.heap.size w w2
theorem BK.gr {w wr w2 : World} {R : Nat} {v : Nat → Value} {B : Nat → List Int} (h : BK w wr R v B) (i : Nat) (hi : i ≤ 5) (hg : wr.grownBy w2 (v i).ownBlock) : GR w wr w2 R v B i := by
  have blk : w2.heap[R]? = wr.heap[R]? := hg.block R h.hi (fun e => h.nR i hi e.symm)
  refine ⟨fun j hj hne => World.ownsRow.kept (h.row j hj) hg (h.ap j i hj hi hne).ne, fun j hj => ?_, fun j => ?_, Nat.lt_of_lt_of_le h.hi hg.size, ?_⟩
  · rw [World.cell?_of_block (a := ⟨R, j, none⟩) blk]; exact h.cel j hj
  · rw [World.frozen?_of_block (a := ⟨R, j, none⟩) blk]; exact h.fz j
  · exact Below.grown h.be hg h.be.size (fun g e => ((h.row i hi).lt g e).1)
theorem BK.put {w wr w2 : World} {R : Nat} {v : Nat → Value} {B : Nat → List Int} {r : Int} {v' : Value} (h : BK w wr R v B) (m : Nat) (hm : m < 5) (hg : wr.grownBy w2 (v (m + 1)).ownBlock)
    (hown : w2.ownsRow w.heap.size 3 1 v' ((B (m + 1)).length + 1) (ints (B (m + 1)) ++ ints [r])) (hb : v'.ownBlock = (v (m + 1)).ownBlock ∨ ∃ g, v'.ownBlock = some g ∧ wr.heap.size ≤ g) :
    BK w (w2.setCell ⟨R, m, none⟩ v') R (fun j => if j = m + 1 then v' else v j) (fun j => if j = m + 1 then B (m + 1) ++ [r] else B j) := by
  have G := h.gr (m + 1) (by omega) hg
  have gs := grown_set w2 R m v'
  have hvR : v'.ownBlock ≠ some R := by
    rcases hb with e | ⟨g, e, hl⟩
    · rw [e]; exact h.nR (m + 1) (by omega)
    · rw [e]; intro e'; have := Option.some.inj e'; have := h.hi; omega
  have hSA : ∀ j, j ≤ 5 → j ≠ m + 1 → SA (v j) v' := fun j hj hne g hgj e' => by
    rcases hb with e | ⟨g', e, hl⟩
    · exact h.ap j (m + 1) hj (by omega) hne g hgj (e ▸ e')
    · rw [e] at e'; have := Option.some.inj e'; have := ((h.row j hj).lt g hgj).2; omega
  refine ⟨fun j hj => ?_, fun a b ha hb' hab => ?_, fun j hj => ?_, fun j => ?_, h.lo, ?_, fun j hj => ?_, ?_⟩
  · by_cases e : j = m + 1
    · simp only [e, if_true]
      exact own_cast (World.ownsRow.kept hown gs (.inr hvR)) (by simp) (by simp [ints])
    · simp only [e, if_false]
      exact World.ownsRow.kept (G.row j hj e) gs (.inr (h.nR j hj))
  · by_cases e : a = m + 1
    · have e2 : b ≠ m + 1 := fun e' => hab (e.trans e'.symm)
      simp only [e, if_true, e2, if_false]
      exact (hSA b hb' e2).symm
    · by_cases e2 : b = m + 1
      · simp only [e, if_false, e2, if_true]
        exact hSA a ha e
      · simp only [e, if_false, e2]
        exact h.ap a b ha hb' hab
  · by_cases e : j = m
    · subst e
      simp only [if_true]
      exact sc3_same w2 R j _ v' (G.cel j hj)
    · have e' : ¬ j + 1 = m + 1 := fun h' => e (by omega)
      simp only [e', if_false]
      rw [sc3_other w2 R R m j v' (.inr (Ne.symm e))]
      exact G.cel j hj
  · rw [World.frozen?_setCell]; exact G.fz j
  · exact Nat.lt_of_lt_of_le G.hi gs.size
  · by_cases e : j = m + 1
    · simp only [e, if_true]; exact hvR
    · simp only [e, if_false]; exact h.nR j hj
  · exact Below.grown G.be gs G.be.size (fun g e => by have := Option.some.inj e; have := h.lo; omega)
theorem BK.flush {w wr w2 : World} {R : Nat} {v : Nat → Value} {B : Nat → List Int} {X : List Int} {v' : Value} (h : BK w wr R v B) (hg : wr.grownBy w2 (v 0).ownBlock)
    (hown : w2.ownsRow w.heap.size 3 1 v' X.length (ints X)) (hb : v'.ownBlock = (v 0).ownBlock ∨ ∃ g, v'.ownBlock = some g ∧ wr.heap.size ≤ g) :
    BK w (w2.setCells R 0 (List.replicate 5 nilS)) R (fun j => if j = 0 then v' else nilS) (fun j => if j = 0 then X else []) := by
  have G := h.gr 0 (by omega) hg
  have gs := grown_sets R (List.replicate 5 nilS) 0 w2
  have hvR : v'.ownBlock ≠ some R := by
    rcases hb with e | ⟨g, e, hl⟩
    · rw [e]; exact h.nR 0 (by omega)
    · rw [e]; intro e'; have := Option.some.inj e'; have := h.hi; omega
  refine ⟨fun j hj => ?_, fun a b ha hb' hab => ?_, fun j hj => ?_, fun j => ?_, h.lo, Nat.lt_of_lt_of_le G.hi gs.size, fun j hj => ?_, ?_⟩
  · by_cases e : j = 0
    · simp only [e, if_true]
      exact World.ownsRow.kept hown gs (.inr hvR)
    · simp only [e, if_false]
      exact World.ownsRow_nil _ _ _ _
  · by_cases e : a = 0
    · have e2 : b ≠ 0 := fun e' => hab (e.trans e'.symm)
      simp only [e, if_true, e2, if_false]
      intro g _ e'; cases e'
    · simp only [e, if_false]
      intro g e' _; cases e'
  · have e : ¬ j + 1 = 0 := by omega
    simp only [e, if_false]
    have := World.cell?_setCells_in R (List.replicate 5 nilS) 0 w2 (fun i hi => by rw [Nat.zero_add, G.cel i (by simpa using hi)]; rfl) j (by simpa using hj)
    rw [Nat.zero_add] at this
    rw [this, List.getElem_replicate]
  · rw [World.frozen?_setCells]; exact G.fz j
  · by_cases e : j = 0
    · simp only [e, if_true]; exact hvR
    · simp only [e, if_false]; intro e'; cases e'
  · exact Below.grown G.be gs G.be.size (fun g e => by have := Option.some.inj e; have := h.lo; omega)
theorem BK.start {w w1 : World} {v : Value} {t : TypeId} (hown : w1.ownsRow w.heap.size 3 1 v 0 []) (hbe : Below w.heap.size w w1) :
    BK w (w1.alloc (.cells #[nilS, nilS, nilS, nilS, nilS] t)) w1.heap.size (fun j => if j = 0 then v else nilS) (fun _ => []) := by
  have hvR : v.ownBlock ≠ some w1.heap.size := fun e => by have := (hown.lt _ e).2; omega
  refine ⟨fun j hj => ?_, fun a b ha hb' hab => ?_, fun j hj => ?_, fun j => ?_, hbe.size, by simp, fun j hj => ?_, hbe.alloc hbe.size _⟩
  · by_cases e : j = 0
    · simp only [e, if_true]
      exact hown.alloc _
    · simp only [e, if_false]
      exact World.ownsRow_nil _ _ _ _
  · by_cases e : a = 0
    · have e2 : b ≠ 0 := fun e' => hab (e.trans e'.symm)
      simp only [e, if_true, e2, if_false]
      intro g _ e'; cases e'
    · simp only [e, if_false]
      intro g e' _; cases e'
  · have e : ¬ j + 1 = 0 := by omega
    simp only [e, if_false]
    rw [World.cell?_alloc_new]
    rcases (by omega : j = 0 ∨ j = 1 ∨ j = 2 ∨ j = 3 ∨ j = 4) with rfl | rfl | rfl | rfl | rfl <;> rfl
  · exact frozen_of_row _ w1.heap.size j _ t (heap_alloc_new w1 _)
  · by_cases e : j = 0
    · simp only [e, if_true]; exact hvR
    · simp only [e, if_false]; intro e'; cases e'
def Sts.get (s : Sts) : Nat → List Int
  | 0 => s.out
  | 1 => s.b1
  | 2 => s.b2
  | 3 => s.b3
  | 4 => s.b4
  | 5 => s.b5
  | _ => []
theorem Sts.get_step (s : Sts) (r : Int) (m : Nat) (hm : m < 5) (hr : orderN r = (m : Int) + 1) (j : Nat) (hj : j ≤ 5) : (if j = m + 1 then s.get (m + 1) ++ [r] else s.get j) = (s.step r).get j := by
  have e : s.step r = (if m = 0 then { s with b1 := s.b1 ++ [r] } else if m = 1 then { s with b2 := s.b2 ++ [r] } else if m = 2 then { s with b3 := s.b3 ++ [r] } else if m = 3 then { s with b4 := s.b4 ++ [r] } else { s with b5 := s.b5 ++ [r] }) := by
    unfold Sts.step
    rcases (by omega : m = 0 ∨ m = 1 ∨ m = 2 ∨ m = 3 ∨ m = 4) with rfl | rfl | rfl | rfl | rfl <;> simp [hr]
  rw [e]
  rcases (by omega : m = 0 ∨ m = 1 ∨ m = 2 ∨ m = 3 ∨ m = 4) with rfl | rfl | rfl | rfl | rfl <;>
    rcases (by omega : j = 0 ∨ j = 1 ∨ j = 2 ∨ j = 3 ∨ j = 4 ∨ j = 5) with rfl | rfl | rfl | rfl | rfl | rfl <;> simp [Sts.get]
theorem Sts.get_zero (s : Sts) (r : Int) (hr : orderN r = 0) (j : Nat) (hj : j ≤ 5) : (if j = 0 then s.all ++ [r] else []) = (s.step r).get j := by
  rw [Sts.step_zero s r hr]
  rcases (by omega : j = 0 ∨ j = 1 ∨ j = 2 ∨ j = 3 ∨ j = 4 ∨ j = 5) with rfl | rfl | rfl | rfl | rfl | rfl <;> simp [Sts.get]
theorem Sts.get_len (s : Sts) : s.all.length = (s.get 0).length + (s.get 1).length + (s.get 2).length + (s.get 3).length + (s.get 4).length + (s.get 5).length := by simp [Sts.all, Sts.get]; omega
theorem Sts.get_all (s : Sts) : s.all = s.get 0 ++ s.get 1 ++ s.get 2 ++ s.get 3 ++ s.get 4 ++ s.get 5 := rfl
theorem run_clear5 (w : World) (R : Nat) (ty : TypeId) (hc : ∀ j, j < 5 → (w.cell? ⟨R, j, none⟩).isSome = true) (hf : ∀ j, w.frozen? ⟨R, j, none⟩ = false) :
    (Builtin.clear_ #[24] ty #[.slice (some ⟨R, 0, none⟩) 5 5]).run Try.prog w = .ok (.tuple #[]) (w.setCells R 0 (List.replicate 5 nilS)) := by
  exact Go.Lib.run_clear_slice (P := Try.prog) w 24 26 ty nilS (by kernel_rfl) (fun w => by kernel_rfl) rfl rfl R 0 5 5 (by omega) (fun j hj => by rw [Nat.zero_add]; exact hc j hj) (fun j hj => by rw [Nat.zero_add]; exact hf j)
end Go.Proofs.Ytlkcdcdgpklpoaa

/-
  The program's sorting by buckets: rows apart from each other, appendLists.
-/
import Derived.Test.YtlkcdcdgpklpoaaN3E
import Derived.Lib.SliceRun
namespace Go.Proofs.Ytlkcdcdgpklpoaa
open Go.ChangeShapes Go.WideShapes Go.ChangeAt Go.RowKit
/-- Two rows share no block. -/
def SA (a b : Value) : Prop := ∀ g, a.ownBlock = some g → b.ownBlock ≠ some g
theorem SA.symm {a b : Value} (h : SA a b) : SA b a := fun g hb ha => h g ha hb
theorem SA.ne {a b : Value} (h : SA a b) : a.ownBlock = none ∨ a.ownBlock ≠ b.ownBlock := by
  cases ha : a.ownBlock with
  | none => exact .inl rfl
  | some g => exact .inr fun e => h g ha e.symm
theorem grown_then {a b c : World} {row row' : Option Nat} (h : a.grownBy b row) (k : b.grownBy c row') (hr : row' = row ∨ ∃ g, row' = some g ∧ a.heap.size ≤ g) : a.grownBy c row :=
  ⟨k.os.trans h.os, k.tape.trans h.tape, k.output.trans h.output, Nat.le_trans h.size k.size, fun i hi hn => (k.block i (Nat.lt_of_lt_of_le hi h.size) (fun e => by
    rcases hr with hr | ⟨g, hr, hg⟩
    · exact hn (e.trans hr)
    · rw [hr] at e
      have := Option.some.inj e
      omega)).trans (h.block i hi hn)⟩
/-- A row as it grows: from vo in w to vc in wc. -/
structure AL (w wc : World) (base : Nat) (vo vc : Value) (X : List Int) : Prop where
  own : wc.ownsRow base 3 1 vc X.length (ints X)
  gr : w.grownBy wc vo.ownBlock
  blk : vc.ownBlock = vo.ownBlock ∨ ∃ g, vc.ownBlock = some g ∧ w.heap.size ≤ g
theorem AL.start {w : World} {base : Nat} {vo : Value} {X : List Int} (h : w.ownsRow base 3 1 vo X.length (ints X)) (o : Obj) : AL w (w.alloc o) base vo vo X :=
  have b : Below w.heap.size w (w.alloc o) := (Below.refl _ _).alloc (Nat.le_refl _) o
  ⟨h.alloc o, ⟨b.os, b.tape, b.output, b.size, fun k hk _ => b.block k hk⟩, .inl rfl⟩
theorem AL.step {w wc w' : World} {base : Nat} {vo vc v' : Value} {X Y : List Int} {m : Nat} (h : AL w wc base vo vc X) (hown : w'.ownsRow base 3 1 v' (X.length + m) (ints X ++ ints Y)) (hm : m = Y.length) (hg : wc.grownBy w' vc.ownBlock) (hb : v'.ownBlock = vc.ownBlock ∨ v'.ownBlock = some wc.heap.size) : AL w w' base vo v' (X ++ Y) := by
  refine ⟨own_cast hown (by simp [hm]) (by simp [ints]), grown_then h.gr hg h.blk, ?_⟩
  rcases hb with hb | hb
  · rw [hb]; exact h.blk
  · exact .inr ⟨_, hb, h.gr.size⟩
theorem AL.row {w wc : World} {base base' : Nat} {vo vc v : Value} {X : List Int} {n : Nat} {xs : List Value} (h : AL w wc base vo vc X) (hr : w.ownsRow base' 3 1 v n xs) (ha : SA v vo) : wc.ownsRow base' 3 1 v n xs := World.ownsRow.kept hr h.gr ha.ne
theorem AL.ap {w wc : World} {base base' : Nat} {vo vc v : Value} {X : List Int} {n : Nat} {xs : List Value} (h : AL w wc base vo vc X) (hr : w.ownsRow base' 3 1 v n xs) (ha : SA v vo) : SA v vc := fun g hg e => by
  rcases h.blk with hb | ⟨g', hb, hl⟩
  · exact ha g hg (hb ▸ e)
  · rw [hb] at e
    have h1 := (World.ownsRow.lt hr g hg).2
    have := Option.some.inj e
    omega
end Go.Proofs.Ytlkcdcdgpklpoaa

/-
  A region that draws its order and whose operations and callees leave all old memory as it was: one walk of the text's order serves every order, with the class of worlds 'nothing below the heap's size has turned'.
-/
import Derived.Test.YtlkcdcdgpklpoaaCore
import Derived.Deep.QuietTactic
import Derived.BigQuiet
import Derived.Handy
import Derived.Deep.DeepMust
namespace Go.Proofs.Ytlkcdcdgpklpoaa
open Go.ChangeShapes Go.WideShapes Go.ChangeAt Go.RowKit
/-- A world in which all that w holds stands as it stood. -/
structure BW (w : World) where
  x : World
  h : Below w.heap.size w x
theorem BW.some (w : World) : Nonempty (BW w) := ⟨⟨w, Below.refl _ _⟩⟩
theorem BW.call {P : Program} {f : FuncId} {args : Array Value} {w : World} {b : BW w} {v : Value}
    (h : Calls P f args b.x fun e w'' => e = .returned v ∧ Below b.x.heap.size b.x w'') : Calls P f args b.x fun e w'' => e = .returned v ∧ ∃ y : BW w, w'' = y.x :=
  h.mono fun _ _ ⟨he, hb⟩ => ⟨he, ⟨_, b.h.trans (hb.mono b.h.size)⟩, rfl⟩
theorem BW.same {P : Program} {f : FuncId} {args : Array Value} {w : World} {b : BW w} {v : Value}
    (h : Calls P f args b.x fun e w'' => e = .returned v ∧ w'' = b.x) : Calls P f args b.x fun e w'' => e = .returned v ∧ ∃ y : BW w, w'' = y.x :=
  h.mono fun _ _ ⟨he, hb⟩ => ⟨he, b, hb⟩
theorem wp_region_below {P : Program} {id : Nat} {Q : Exit → Act → World → Prop} {a : Act} {w : World} {l : List Oper} (hm : P.follows .mixedOrders = true) (hB : Region.lexB .any l.toArray = true)
    (h : wpQuiet P l.toArray (fun w' => ∃ y : BW w, w' = y.x) (fun a' => ∀ w', (∃ y : BW w, w' = y.x) → Q .normal a' w') l a) : (Code.region id l.toArray true).wp P Q a w :=
  wp_region_quiet (C := fun w' => ∃ y : BW w, w' = y.x) hm hB ⟨⟨_, (Below.refl _ _).drew⟩, rfl⟩ (by simpa using h)
theorem good_yes {r : Int} (h : goodB r = true) (w : World) : Calls Try.prog 69 #[.int .i64 r] w fun e w' => e = .returned (.bool true) ∧ w' = w := by rw [← h]; exact good_any r w
theorem good_not {r : Int} (h : goodB r = false) (w : World) : Calls Try.prog 69 #[.int .i64 r] w fun e w' => e = .returned (.bool false) ∧ w' = w := by rw [← h]; exact good_any r w
theorem igood_yes {r : Int} (h : goodB r = true) (w : World) : Calls Try.prog 67 #[.int .i64 r] w fun e w' => e = .returned (.bool true) ∧ w' = w := by rw [← h]; exact igood_any r w
theorem igood_not {r : Int} (h : goodB r = false) (w : World) : Calls Try.prog 67 #[.int .i64 r] w fun e w' => e = .returned (.bool false) ∧ w' = w := by rw [← h]; exact igood_any r w
theorem byte_le (s : ByteArray) (i : Nat) (h : i < s.size) : (s[i].toNat : Int) ≤ 255 := by have := s[i].toNat_lt; omega
theorem slice_run (s : ByteArray) (i j : Nat) (J : Int) (hJ : J = j) (h1 : i ≤ j) (h2 : j ≤ s.size) (w : World) : (Instr.slice 9 (.string s) (some (.int .i64 i)) (some (.int .i64 J)) none).run Try.prog w = .ok (.string (s.extract i j)) w := by
  subst hJ
  go_simp
end Go.Proofs.Ytlkcdcdgpklpoaa

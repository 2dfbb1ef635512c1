/-
  Lists of numbers in memory, the runes of a text one behind the other, the bytes of runes one behind the other; contract of spec.l1Runes.
-/
import Derived.Test.YtlkcdcdgpklpoaaReg
import Derived.Test.YtlkcdcdgpklpoaaDec
import Derived.Lib.AppendStr
import Derived.Lib.OthersKept
import Derived.WalkSmall
namespace Go.Proofs.Ytlkcdcdgpklpoaa
open Go.ChangeShapes Go.WideShapes Go.ChangeAt Go.RowKit
theorem Try.info3 : (Try.prog.info? 3).map (fun i => (i.zero, i.size, i.bytes)) = some (some (.int .i64 0), 1, 8) := by kernel_rfl
theorem Try.info5 : (Try.prog.info? 5).map (fun i => (i.zero, i.size, i.bytes)) = some (some (.int .u8 0), 1, 1) := by kernel_rfl
theorem ownsRow_below {w w' : World} {base : Nat} {e : TypeId} {size : Nat} {v : Value} {n : Nat} {xs : List Value} (h : w.ownsRow base e size v n xs) (hb : Below w.heap.size w w') : w'.ownsRow base e size v n xs := by
  refine ⟨h.1, ?_⟩
  rcases h.2 with h2 | ⟨g, cap, cur, h1, h2, h3, h4⟩
  · exact .inl h2
  · exact .inr ⟨g, cap, cur, h1, h2, by rw [hb.block g (Array.getElem?_eq_some_iff.1 h3).1]; exact h3, h4⟩
/-- The numbers L lie, one behind the other, where a slice of that length begins. -/
def IntsAt (w : World) (ao : Option Addr) (L : List Int) : Prop :=
  ∀ j, j < L.length → ∃ b off, ao = some ⟨b, off, none⟩ ∧ b < w.heap.size ∧ w.cell? ⟨b, off + j, none⟩ = some (.int .i64 (L.getD j 0))
theorem IntsAt.below {w w' : World} {ao : Option Addr} {L : List Int} (h : IntsAt w ao L) (hb : Below w.heap.size w w') : IntsAt w' ao L := fun j hj => by
  obtain ⟨b, off, h1, h2, h3⟩ := h j hj
  exact ⟨b, off, h1, by have := hb.size; omega, (hb.cell (p := ⟨b, off + j, none⟩) h2).trans h3⟩
abbrev ints (L : List Int) : List Value := L.map (Value.int .i64)
theorem ints_of_own {w : World} {base : Nat} {v : Value} {n : Nat} {L : List Int} (h : w.ownsRow base 3 1 v n (ints L)) : n = L.length ∧ ∃ ao cap, v = .slice ao n cap ∧ IntsAt w ao L := by
  have hn : n = L.length := by have := h.1; simp [ints] at this; omega
  subst hn
  refine ⟨rfl, ?_⟩
  rcases h.2 with ⟨rfl, h0⟩ | ⟨g, cap, cur, rfl, h2, h3, h4⟩
  · refine ⟨none, 0, by rw [h0], fun j hj => ?_⟩
    omega
  · refine ⟨_, _, rfl, fun j hj => ⟨g, 0, rfl, (Array.getElem?_eq_some_iff.1 h3).1, ?_⟩⟩
    have := h.cells (g := g) rfl j (.int .i64 (L.getD j 0)) (by simp [ints, List.getD, hj])
    have hp : (⟨g, 0, none⟩ : Addr).add j = ⟨g, 0 + j, none⟩ := by unfold Addr.add; split <;> simp_all
    rw [hp] at this
    exact this
/-- The runes of a text from a place on. -/
def runesFrom (s : ByteArray) : Nat → Nat → List Int
  | 0, _ => []
  | f + 1, p => if p < s.size then decR s p :: runesFrom s f (p + decW s p) else []
def runes (s : ByteArray) : List Int := runesFrom s s.size 0
theorem runesFrom_end (s : ByteArray) (f p : Nat) (h : ¬ p < s.size) : runesFrom s f p = [] := by
  cases f with
  | zero => rfl
  | succ f => simp [runesFrom, h]
theorem runesFrom_len (s : ByteArray) : ∀ f p, (runesFrom s f p).length ≤ f
  | 0, _ => Nat.le_refl _
  | f + 1, p => by
    unfold runesFrom
    split
    · simp only [List.length_cons]; have := runesFrom_len s f (p + decW s p); omega
    · simp
theorem runes_len (s : ByteArray) : (runes s).length ≤ s.size := runesFrom_len s _ _
theorem runesFrom_good (s : ByteArray) : ∀ f p, ∀ r ∈ runesFrom s f p, goodB r = true
  | 0, _, r, h => by simp [runesFrom] at h
  | f + 1, p, r, h => by
    unfold runesFrom at h
    split at h
    · rename_i hp
      rcases List.mem_cons.1 h with rfl | h
      · exact decR_good s p hp
      · exact runesFrom_good s f _ r h
    · simp at h
theorem runes_good (s : ByteArray) : ∀ r ∈ runes s, goodB r = true := runesFrom_good s _ _
end Go.Proofs.Ytlkcdcdgpklpoaa

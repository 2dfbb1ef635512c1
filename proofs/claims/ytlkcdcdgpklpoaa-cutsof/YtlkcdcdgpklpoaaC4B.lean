/-
  Arrays of spans in memory: what is held, compared, loaded; (runeSpan).isEmpty, meet, moved.
-/
import Derived.Test.YtlkcdcdgpklpoaaC4A
import Derived.Test.YtlkcdcdgpklpoaaN3F2
import Derived.Deep.MidRow
import Derived.ChangeKeysEq
namespace Go.Proofs.Ytlkcdcdgpklpoaa
open Go.ChangeShapes Go.WideShapes Go.ChangeAt Go.RowKit
/-- A span as a value. -/
def spV (p : Int × Int) : Value := .agg #[.int .i64 p.1, .int .i64 p.2]
set_option maxRecDepth 100000 in
set_option maxHeartbeats 1000000 in
theorem isEmpty_any (a b : Int) (w : World) :
    Calls Try.prog 166 #[.agg #[.int .i64 a, .int .i64 b]] w fun e w' => e = .returned (.bool (decide (b ≤ a))) ∧ Below w.heap.size w w' := by
  go_enter Try.func166, Try.ntmps166
  go_wp2
  go_ret
  exact ⟨rfl, (Below.refl _ _).alloc (Nat.le_refl _) _⟩
/-- Spans in memory, from an address on. -/
def SpansAt (w : World) (ao : Option Addr) (S : List (Int × Int)) : Prop :=
  ∀ j, j < S.length → ∃ b off, ao = some ⟨b, off, none⟩ ∧ b < w.heap.size ∧ w.cell? ⟨b, off + j * 2, none⟩ = some (.int .i64 (S.getD j (0, 0)).1) ∧ w.cell? ⟨b, off + j * 2 + 1, none⟩ = some (.int .i64 (S.getD j (0, 0)).2)
/-- The cells of spans. -/
def fl : List (Int × Int) → List Int
  | [] => []
  | p :: r => p.1 :: p.2 :: fl r
/-- The cells of a set of at most twelve spans. -/
def pad (S : List (Int × Int)) : List Int := fl S ++ List.replicate (24 - 2 * S.length) 0
def setV (S : List (Int × Int)) : Value := .agg (ints (pad S)).toArray
theorem fl_len (S : List (Int × Int)) : (fl S).length = 2 * S.length := by
  induction S with
  | nil => rfl
  | cons p r ih => simp [fl, ih]; omega
theorem pad_len {S : List (Int × Int)} (h : S.length ≤ 12) : (pad S).length = 24 := by simp [pad, fl_len]; omega
theorem ints_len (L : List Int) : (ints L).length = L.length := by simp [ints]
theorem ints_all (L : List Int) : ∀ v ∈ ints L, v.oneCell' = true := by
  intro v hv
  simp [ints] at hv
  obtain ⟨x, _, rfl⟩ := hv
  rfl
/-- A set of spans in the block R. -/
structure SetAt (w : World) (R : Nat) (S : List (Int × Int)) : Prop where
  le : S.length ≤ 12
  ra : w.rangeAt R 0 (ints (pad S))
  th : w.there R 0 24
  lt : R < w.heap.size
theorem info64 : (Try.prog.info? 205).map (·.size) = some 24 := by kernel_rfl
theorem info62 : (Try.prog.info? 203).map (·.size) = some 2 := by kernel_rfl
theorem SetAt.load {w : World} {R : Nat} {S : List (Int × Int)} (h : SetAt w R S) : (Instr.loadAt 205 (.pointer (some ⟨R, 0, none⟩))).run Try.prog w = .ok (setV S) w :=
  run_loadAt_mid w R 0 205 (ints (pad S)) _ h.ra Try.underlying205 rfl (by rw [info64, ints_len, pad_len h.le])
theorem SetAt.loadV {w : World} {R : Nat} {S : List (Int × Int)} (h : SetAt w R S) : (loadVar 205 ⟨R, 0, none⟩).run Try.prog w = .ok (setV S) w :=
  run_loadVar_mid w R 0 205 (ints (pad S)) _ h.ra Try.underlying205 rfl (by rw [info64, ints_len, pad_len h.le])
theorem SetAt.store {w : World} {R : Nat} {S : List (Int × Int)} (h : SetAt w R S) (S' : List (Int × Int)) (h' : S'.length ≤ 12) :
    ∃ w', (Instr.storeAt 205 (.pointer (some ⟨R, 0, none⟩)) (setV S')).run Try.prog w = .ok () w' ∧ SetAt w' R S' ∧ w.grownBy w' (some R) := by
  have hn : (ints (pad S')).length = 24 := by rw [ints_len, pad_len h']
  refine ⟨w.setCells R 0 (ints (pad S')), ?_, ⟨h', ?_, World.there_setCells h.th _ _ _, Nat.lt_of_lt_of_le h.lt (grown_sets R _ _ _).size⟩, grown_sets R _ _ _⟩
  · have := run_storeAt_mid (P := Try.prog) w R 0 205 (ints (pad S')).toArray (by simpa [hn] using h.th) (by rw [info64]; simp [hn]) (all_oneCell_toArray (ints_all _))
    unfold setV
    simpa using this
  · exact World.rangeAt_setCells_same w R 0 _ (by rw [hn]; exact h.th)
theorem SetAt.keep {w w' : World} {R : Nat} {S : List (Int × Int)} (h : SetAt w R S) (hb : Below w.heap.size w w') : SetAt w' R S := by
  have blk : w'.heap[R]? = w.heap[R]? := hb.block R h.lt
  refine ⟨h.le, fun j v hv => ?_, fun j hj => ?_, Nat.lt_of_lt_of_le h.lt hb.size⟩
  · rw [World.cell?_of_block (a := ⟨R, 0 + j, none⟩) blk]; exact h.ra j v hv
  · rw [World.cell?_of_block (a := ⟨R, 0 + j, none⟩) blk, World.frozen?_of_block (a := ⟨R, 0 + j, none⟩) blk]; exact h.th j hj
theorem SetAt.kept {w w' : World} {R B : Nat} {S : List (Int × Int)} (h : SetAt w R S) (hg : w.grownBy w' (some B)) (hne : R ≠ B) : SetAt w' R S := by
  have blk : w'.heap[R]? = w.heap[R]? := hg.block R h.lt (fun e => hne (Option.some.inj e))
  refine ⟨h.le, fun j v hv => ?_, fun j hj => ?_, Nat.lt_of_lt_of_le h.lt hg.size⟩
  · rw [World.cell?_of_block (a := ⟨R, 0 + j, none⟩) blk]; exact h.ra j v hv
  · rw [World.cell?_of_block (a := ⟨R, 0 + j, none⟩) blk, World.frozen?_of_block (a := ⟨R, 0 + j, none⟩) blk]; exact h.th j hj
theorem setV_nil : setV [] = .agg #[.int .i64 0, .int .i64 0, .int .i64 0, .int .i64 0, .int .i64 0, .int .i64 0, .int .i64 0, .int .i64 0, .int .i64 0, .int .i64 0, .int .i64 0, .int .i64 0, .int .i64 0, .int .i64 0, .int .i64 0, .int .i64 0, .int .i64 0, .int .i64 0, .int .i64 0, .int .i64 0, .int .i64 0, .int .i64 0, .int .i64 0, .int .i64 0] := rfl
theorem SetAt.new (w : World) (B : Nat) (hB : B = w.heap.size) : SetAt (w.alloc (.cells #[.int .i64 0, .int .i64 0, .int .i64 0, .int .i64 0, .int .i64 0, .int .i64 0, .int .i64 0, .int .i64 0, .int .i64 0, .int .i64 0, .int .i64 0, .int .i64 0, .int .i64 0, .int .i64 0, .int .i64 0, .int .i64 0, .int .i64 0, .int .i64 0, .int .i64 0, .int .i64 0, .int .i64 0, .int .i64 0, .int .i64 0, .int .i64 0] 205)) B [] := by
  subst hB
  have hc : ∀ j, j < 24 → (w.alloc (.cells (Array.replicate 24 (.int .i64 0)) 205)).cell? ⟨w.heap.size, 0 + j, none⟩ = some (.int .i64 0) := fun j hj => by
    rw [World.cell?_alloc_at _ _ _ _ rfl]
    simp [hj]
  have e : (#[.int .i64 0, .int .i64 0, .int .i64 0, .int .i64 0, .int .i64 0, .int .i64 0, .int .i64 0, .int .i64 0, .int .i64 0, .int .i64 0, .int .i64 0, .int .i64 0, .int .i64 0, .int .i64 0, .int .i64 0, .int .i64 0, .int .i64 0, .int .i64 0, .int .i64 0, .int .i64 0, .int .i64 0, .int .i64 0, .int .i64 0, .int .i64 0] : Array Value) = Array.replicate 24 (.int .i64 0) := rfl
  rw [e]
  refine ⟨by simp, fun j v hv => ?_, fun j hj => ⟨by rw [hc j hj]; rfl, ?_⟩, by simp⟩
  · have e2 : ints (pad []) = List.replicate 24 (.int .i64 0) := rfl
    rw [e2] at hv
    have hj : j < 24 := by have := (List.getElem?_eq_some_iff.1 hv).1; simpa using this
    rw [hc j hj]
    rw [List.getElem?_replicate, if_pos hj] at hv
    exact hv
  · simp
theorem fl_append (A B : List (Int × Int)) : fl (A ++ B) = fl A ++ fl B := by
  induction A with
  | nil => rfl
  | cons p r ih => simp [fl, ih]
theorem pad_at (A : List (Int × Int)) (q : Int × Int) : (pad (A ++ [q])).getD (2 * A.length) 0 = q.1 ∧ (pad (A ++ [q])).getD (2 * A.length + 1) 0 = q.2 := by
  have h := fl_len A
  unfold pad
  rw [fl_append]
  constructor
  · rw [List.append_assoc, List.getD_eq_getElem?_getD, List.getElem?_append_right (by omega), h]
    simp [fl]
  · rw [List.append_assoc, List.getD_eq_getElem?_getD, List.getElem?_append_right (by omega), h]
    simp [fl]
theorem pad_set (A : List (Int × Int)) (q : Int × Int) (x : Int) : (pad (A ++ [q])).set (2 * A.length + 1) x = pad (A ++ [(q.1, x)]) := by
  have h := fl_len A
  unfold pad
  rw [fl_append, fl_append, List.append_assoc, List.append_assoc, List.set_append_right _ _ (by omega), h]
  simp [fl]
theorem pad_snoc (A : List (Int × Int)) (p : Int × Int) (hA : A.length < 12) : ((pad A).set (2 * A.length) p.1).set (2 * A.length + 1) p.2 = pad (A ++ [p]) := by
  have h := fl_len A
  have e : List.replicate (24 - 2 * A.length) (0 : Int) = 0 :: 0 :: List.replicate (24 - 2 * (A ++ [p]).length) 0 := by
    rw [show 24 - 2 * A.length = (24 - 2 * (A ++ [p]).length) + 1 + 1 by simp; omega, List.replicate_succ, List.replicate_succ]
  unfold pad
  rw [e, fl_append, List.append_assoc, List.set_append_right _ _ (by omega), List.set_append_right _ _ (by omega), h]
  simp [fl]
theorem range_set {w : World} {R o : Nat} {cs : List Value} (h : w.rangeAt R 0 cs) (v : Value) (ho : o < cs.length) : (w.setCell ⟨R, o, none⟩ v).rangeAt R 0 (cs.set o v) := fun j u hu => by
  rw [Nat.zero_add]
  by_cases e : o = j
  · subst e
    have h1 := h o _ (List.getElem?_eq_getElem ho)
    rw [Nat.zero_add] at h1
    rw [sc3_same w R o _ v h1]
    simpa [ho] using hu
  · rw [sc3_other w R R o j v (.inr e)]
    rw [List.getElem?_set_ne e] at hu
    have := h j u hu
    rwa [Nat.zero_add] at this
theorem there_set {w : World} {R o n : Nat} (h : w.there R 0 n) (v : Value) : (w.setCell ⟨R, o, none⟩ v).there R 0 n := World.there_setCells (b := R) (o := o) h [v]
theorem ints_set (L : List Int) (o : Nat) (x : Int) : (ints L).set o (.int .i64 x) = ints (L.set o x) := by simp [ints, List.map_set]
/-- The last span's cells. -/
theorem SetAt.last {w : World} {R : Nat} {A : List (Int × Int)} {q : Int × Int} (h : SetAt w R (A ++ [q])) : w.cell? ⟨R, 2 * A.length, none⟩ = some (.int .i64 q.1) ∧ w.cell? ⟨R, 2 * A.length + 1, none⟩ = some (.int .i64 q.2) := by
  have hl := pad_len h.le
  have hA := h.le
  simp at hA
  have hp := pad_at A q
  constructor
  · have := h.ra (2 * A.length) (.int .i64 q.1) (by rw [← hp.1]; simp [ints, List.getD, show 2 * A.length < (pad (A ++ [q])).length by omega])
    rwa [Nat.zero_add] at this
  · have := h.ra (2 * A.length + 1) (.int .i64 q.2) (by rw [← hp.2]; simp [ints, List.getD, show 2 * A.length + 1 < (pad (A ++ [q])).length by omega])
    rwa [Nat.zero_add] at this
theorem SetAt.put1 {w : World} {R : Nat} {A : List (Int × Int)} {q : Int × Int} (h : SetAt w R (A ++ [q])) (x : Int) : SetAt (w.setCell ⟨R, 2 * A.length + 1, none⟩ (.int .i64 x)) R (A ++ [(q.1, x)]) := by
  have hl := pad_len h.le
  have hA := h.le
  simp at hA
  refine ⟨by simpa using hA, ?_, there_set h.th _, by simpa using h.lt⟩
  rw [← pad_set, ← ints_set]
  exact range_set h.ra _ (by rw [ints_len]; omega)
theorem SetAt.put2 {w : World} {R : Nat} {A : List (Int × Int)} (h : SetAt w R A) (p : Int × Int) (hA : A.length < 12) : SetAt ((w.setCell ⟨R, 2 * A.length, none⟩ (.int .i64 p.1)).setCell ⟨R, 2 * A.length + 1, none⟩ (.int .i64 p.2)) R (A ++ [p]) := by
  have hl := pad_len h.le
  refine ⟨by simp; omega, ?_, there_set (there_set h.th _) _, by simpa using h.lt⟩
  rw [← pad_snoc A p hA, ← ints_set, ← ints_set]
  exact range_set (range_set h.ra _ (by rw [ints_len]; omega)) _ (by simp; omega)
theorem SetAt.fz {w : World} {R : Nat} {A : List (Int × Int)} (h : SetAt w R A) (o : Nat) (ho : o < 24) : w.frozen? ⟨R, o, none⟩ = false := by have := (h.th o ho).2; rwa [Nat.zero_add] at this
theorem SetAt.isThere {w : World} {R : Nat} {A : List (Int × Int)} (h : SetAt w R A) (o : Nat) (ho : o < 24) : ∃ v, w.cell? ⟨R, o, none⟩ = some v := by
  have := (h.th o ho).1
  rw [Nat.zero_add] at this
  exact Option.isSome_iff_exists.1 this
end Go.Proofs.Ytlkcdcdgpklpoaa

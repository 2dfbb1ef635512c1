/-
  Contract of strings.Clone: the same bytes; nothing that was there has turned. And small facts on decoders in blocks.
-/
import Derived.Test.YtcclollclbegoaaDoorMarks2
import Derived.Test.YtcclollclbegoaaDoorD2FeedD
import Derived.Lib.Strings
import Derived.Lib.Walk
import Derived.Lib.BufferWrite
import Derived.Lib.UnsafeStr
import Derived.Lib.Hide
import Derived.Laws.MakeOwn
namespace Go.Proofs.YtcclollclbegoaaDoor
open Go.ChangeShapes Go.WideShapes Go.ChangeAt Go.RowKit
theorem Tryd.cells5 : Tryd.prog.cellsOf 5 = 1 := by kernel_rfl
set_option maxHeartbeats 4000000 in
set_option maxRecDepth 100000 in
theorem clone_lite (s : ByteArray) (w : World) (hlim : s.size ≤ 100000) :
    Calls Tryd.prog 65 #[.string s] w fun e w' => e = .returned (.string s) ∧ Below w.heap.size w w' := by
  by_cases h0 : s.size = 0
  · have hs : s = ⟨#[]⟩ := by
      apply ByteArray.ext
      exact Array.eq_empty_of_size_eq_zero h0
    subst hs
    go_enter Tryd.func65, Tryd.ntmps65
    go_wp2
    go_ret
    exact ⟨rfl, Below.refl _ _⟩
  · obtain ⟨i0, hi, hz0, hz1, hz2⟩ := info_parts Tryd.info5
    have hinfo : (Tryd.prog.info? 5).map (·.size) = some 1 := by rw [hi]; simp [hz1]
    obtain ⟨M, hM⟩ : ∃ M, M = madeCells (Value.int .u8 0).cells (((s.size : Nat) : Int).toNat * i0.size) := ⟨_, rfl⟩
    have hMs : M.size = s.size := by rw [hM, size_madeCells, hz1]; simp
    have hmk : ∀ W : World, (Instr.makeSlice 22 (.int .i64 (s.size : Int)) (.int .i64 (s.size : Int))).run Tryd.prog W = .ok (.slice (some ⟨W.heap.size, 0, none⟩) s.size s.size) (W.alloc (.cells M 5)) := fun W => by
      have h := run_make (P := Tryd.prog) W 22 5 i0 (.int .u8 0) Tryd.underlying22 hi hz0 .i64 .i64 (s.size : Int) (s.size : Int) (by omega) (by omega) (by rw [hz2]; omega) (by omega)
      rw [← hM] at h
      simpa using h
    clear hM
    have hcp := Lib.run_copy_row_string (P := Tryd.prog) (w.alloc (.cells M 5)) 22 9 3 5 w.heap.size 0 s.size s.size s M 5 Tryd.underlying22 hinfo (heap_alloc_new w _) (Nat.le_refl _) (by omega)
    obtain ⟨Y, hY⟩ : ∃ Y, Y = (M.toList.take 0 ++ Lib.byteCells s.data.toList ++ M.toList.drop (0 + s.size)).toArray := ⟨_, rfl⟩
    rw [← hY] at hcp
    have hYl : Y.toList = Lib.byteCells s.data.toList := by
      rw [hY, List.toList_toArray, List.take_zero, List.nil_append, List.drop_of_length_le (by rw [Array.length_toList]; omega), List.append_nil]
    have hYs : Y.size = s.size := by rw [← Array.length_toList, hYl, Lib.byteCells_length, ← Lib.size_eq]
    have hgY : ((w.alloc (.cells M 5)).setRow w.heap.size Y).heap[w.heap.size]? = some (.cells Y 5 (0, 0)) := setRow_heap _ _ M _ 5 (0, 0) (heap_alloc_new w _)
    have hne : s.data.toList ≠ [] := fun e => h0 (by rw [Lib.size_eq, e]; rfl)
    have hUS := Lib.run_unsafeString_row (P := Tryd.prog) ((w.alloc (.cells M 5)).setRow w.heap.size Y) 108 3 9 5 Tryd.underlying108 Tryd.cells5 w.heap.size Y.size (by unfold World.shape?; rw [hgY]) s.data.toList hne (by rw [← Lib.size_eq]; omega) (by rw [← Lib.size_eq]; omega)
      (fun j x hx => Lib.cells_of_row hgY Y.size j _ (by rw [List.take_of_length_le (by rw [Array.length_toList]; exact Nat.le_refl _), hYl]; simp [Lib.byteCells, hx]))
    rw [← Lib.size_eq] at hUS
    clear hY
    go_enter Tryd.func65, Tryd.ntmps65
    go_wp2
    go_ret
    have hb1 : Below w.heap.size w (w.alloc (.cells M 5)) := (Below.refl _ w).alloc (Nat.le_refl _) _
    have hb2 : Below w.heap.size (w.alloc (.cells M 5)) ((w.alloc (.cells M 5)).setRow w.heap.size Y) := ⟨rfl, rfl, rfl, by simp, fun k hk => setRow_other _ _ _ _ (by omega)⟩
    exact ⟨rfl, Lib.below_freeze (hb1.trans hb2) (p := ⟨w.heap.size, 0, none⟩) (Nat.le_refl _) _⟩
set_option maxRecDepth 100000 in
theorem clone_any (s : ByteArray) (w : World) (hlim : s.size ≤ 100000) :
    Calls Tryd.prog 37 #[.string s] w fun e w' => e = .returned (.string s) ∧ Below w.heap.size w w' := by
  have HL : Hid _ := hlim
  clear hlim
  go_enter Tryd.func37, Tryd.ntmps37
  go_wp2_with fail
  refine (clone_lite s _ HL.out).mono ?_
  rintro e w1 ⟨rfl, b1⟩
  go_wp2
  go_ret
  exact ⟨rfl, b1⟩
theorem Two.putHigh {B : Nat} {w : World} {v1 v2 : Value} {L1 L2 : List Int} {lo hi P : Nat} (T : Two B w v1 L1 v2 L2) (hl : Lies v1 v2 lo hi) (hP : hi ≤ P) (a b c d : Value) : Two B (putDec w P a b c d) v1 L1 v2 L2 := by
  have hr : ∀ g, some P = some g → hi ≤ g := fun g h => by have := Option.some.inj h; omega
  exact (((T.keep (grown_set _ P 0 a) hl hr).keep (grown_set _ P 1 b) hl hr).keep (grown_set _ P 2 c) hl hr).keep (grown_set _ P 3 d) hl hr
theorem DecAt.set0 {w : World} {D : Nat} {en sh lo : Int} {held : ByteArray} (h : DecAt w D en sh lo held) (x : Int) : DecAt (w.setCell ⟨D, 0, none⟩ (.int .i64 x)) D x sh lo held :=
  ⟨World.cell?_setCell_same _ _ _ h.c0, (sc_other' _ _ _ _ _ _ (by omega)).trans h.c1, (sc_other' _ _ _ _ _ _ (by omega)).trans h.c2, (sc_other' _ _ _ _ _ _ (by omega)).trans h.c3, fun j => by rw [World.frozen?_setCell]; exact h.fz j, by rw [World.size_setCell]; exact h.lt⟩
theorem DecAt.putAll {w : World} {D : Nat} {en sh lo : Int} {held : ByteArray} (h : DecAt w D en sh lo held) (a b c : Int) (d : ByteArray) : DecAt (putDec w D (.int .i64 a) (.int .i64 b) (.int .i64 c) (.string d)) D a b c d :=
  (((h.set0 a).set1 b).set2 c).set3 d
theorem DecAt.putOther {w : World} {D : Nat} {en sh lo : Int} {held : ByteArray} (h : DecAt w D en sh lo held) (P : Nat) (hP : P ≠ D) (a b c d : Value) : DecAt (putDec w P a b c d) D en sh lo held := by
  have hr : some P ≠ some D := fun e => hP (Option.some.inj e)
  exact (((h.grown (grown_set _ _ _ _) hr).grown (grown_set _ _ _ _) hr).grown (grown_set _ _ _ _) hr).grown (grown_set _ _ _ _) hr
theorem Fed.putHigh {D : Nat} {w : World} {en sh lo : Int} {held : ByteArray} {v1 v2 : Value} {L1 L2 : List Int} {l hi P : Nat} (h : Fed D w en sh lo held v1 L1 v2 L2) (hl : Lies v1 v2 l hi) (hP : hi ≤ P) (hD : D + 1 < P) (a b c d : Value) : Fed D (putDec w P a b c d) en sh lo held v1 L1 v2 L2 :=
  ⟨h.d.putOther P (by omega) _ _ _ _, h.r.putOther P (by omega) _ _ _ _, h.t.putHigh hl hP _ _ _ _⟩
theorem app_empty (s : ByteArray) : (⟨#[]⟩ : ByteArray) ++ s = s := by
  apply ByteArray.ext
  simp
theorem size_zero {s : ByteArray} (h : s.size = 0) : s = ⟨#[]⟩ := by
  apply ByteArray.ext
  exact Array.eq_empty_of_size_eq_zero h
theorem oneS_nn (en : Int) (s : ByteArray) (h : 0 < s.size) : 0 ≤ (oneS en s).1 := by
  have h1 := goodB_true (decR_good s 0 h)
  have h2 := unitN_bd en s 0
  have h3 := unitN_bd en s 2
  unfold oneS
  repeat' split
  all_goals first | (show (0 : Int) ≤ 0; omega) | (show (0 : Int) ≤ decR s 0; omega) | (show (0 : Int) ≤ 65533; omega) | (show 0 ≤ unitN en s 0; omega) | skip
  rename_i h4 _
  have h5 := of_decide_eq_true (show decide (55296 ≤ unitN en s 0 ∧ unitN en s 0 ≤ 56319) = true by simpa [highB] using ‹¬ highB (unitN en s 0) = false›)
  have h6 := of_decide_eq_true (show decide (56320 ≤ unitN en s 2 ∧ unitN en s 2 ≤ 57343) = true from ‹lowB (unitN en s 2) = true›)
  show 0 ≤ 65536 + (unitN en s 0 - 55296) * 1024 + unitN en s 2 - 56320
  omega
/-- What is left of feeding is empty, or begins a rune that has not ended. -/
theorem feedU_stop (en : Int) : ∀ (f : Nat) (x : ByteArray), x.size ≤ f → (feedU en f x).2.2.size = 0 ∨ (0 < (feedU en f x).2.2.size ∧ (oneS en (feedU en f x).2.2).2 = 0)
  | 0, x, h => .inl (by show x.size = 0; omega)
  | f + 1, x, h => by
    unfold feedU
    by_cases h0 : x.size = 0
    · rw [if_pos h0]; exact .inl h0
    · rw [if_neg h0]
      by_cases h1 : (oneS en x).2 = 0
      · rw [if_pos h1]; exact .inr ⟨by show 0 < x.size; omega, h1⟩
      · rw [if_neg h1]
        exact feedU_stop en f _ (by rw [ByteArray.size_extract]; omega)
theorem feedU_held (en : Int) (f : Nat) (x : ByteArray) (hf : x.size ≤ f) (he : en = 1 ∨ en = 2 ∨ en = 3) : goodD en 0 0 (feedU en f x).2.2 = true := by
  have h := feedU_stop en f x hf
  generalize (feedU en f x).2.2 = r at h
  rcases h with h | ⟨h, h'⟩
  · rw [size_zero h]
    rcases he with rfl | rfl | rfl <;> rfl
  · have hw := decW_pos r 0 h
    rcases he with rfl | rfl | rfl
    · have hb : begB r = true := by
        cases hb' : begB r
        · exfalso
          rw [show oneS 1 r = (decR r 0, decW r 0) by simp [oneS, hb']] at h'
          have h'' : decW r 0 = 0 := h'
          omega
        · rfl
      show (_ && (decide (r.size = 0) || begB r)) = true
      rw [hb]; simp [codeB]
    · have hc : r.size < 2 ∨ (r.size < 4 ∧ highB (unitN 2 r 0) = true) := by
        by_cases h2 : r.size < 2
        · exact .inl h2
        · refine .inr ?_
          unfold oneS at h'
          rw [if_neg (by decide), if_neg h2] at h'
          split at h'
          · cases h'
          · split at h'
            · cases h'
            · rename_i hh
              have hh' : highB (unitN 2 r 0) = true := by simpa using hh
              split at h'
              · exact ⟨by assumption, hh'⟩
              · split at h' <;> cases h'
      show (_ && (decide (r.size < 2) || (decide (r.size < 4) && highB (unitN 2 r 0)))) = true
      rcases hc with hc | ⟨hc, hc'⟩
      · rw [decide_eq_true hc]; simp [codeB]
      · rw [decide_eq_true hc, hc']; simp [codeB]
    · have hc : r.size < 2 ∨ (r.size < 4 ∧ highB (unitN 3 r 0) = true) := by
        by_cases h2 : r.size < 2
        · exact .inl h2
        · refine .inr ?_
          unfold oneS at h'
          rw [if_neg (by decide), if_neg h2] at h'
          split at h'
          · cases h'
          · split at h'
            · cases h'
            · rename_i hh
              have hh' : highB (unitN 3 r 0) = true := by simpa using hh
              split at h'
              · exact ⟨by assumption, hh'⟩
              · split at h' <;> cases h'
      show (_ && (decide (r.size < 2) || (decide (r.size < 4) && highB (unitN 3 r 0)))) = true
      rcases hc with hc | ⟨hc, hc'⟩
      · rw [decide_eq_true hc]; simp [codeB]
      · rw [decide_eq_true hc, hc']; simp [codeB]
end Go.Proofs.YtcclollclbegoaaDoor

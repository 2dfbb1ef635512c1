/-
  The draw DrawFlushNorm.
-/
import Derived.Test.YtjfehgmpcgepnaaN3Q
namespace Go.Proofs.Ytjfehgmpcgepnaa
open Go.ChangeShapes Go.WideShapes Go.ChangeAt Go.RowKit
set_option maxRecDepth 100000 in
set_option maxHeartbeats 1000000 in
theorem dfl_any (ao : Option Addr) (n cap : Nat) (w : World) (h : ArgB w ao n) :
    Calls Try.prog 12 #[.slice ao n cap] w fun e w' => ∃ (ah : Option Addr) (ch : Nat) (H : List Int), e = .returned (.agg #[.slice ah H.length ch]) ∧ H.length ≤ 18 ∧ IntsAt w' ah H ∧ Below w.heap.size w w' := by
  have A1 : ∀ o, Below w.heap.size w (w.alloc o) := fun o => (Below.refl _ _).alloc (Nat.le_refl _) o
  have HA : Hid (∀ o, ArgB (w.alloc o) ao n) := fun o => h.below (A1 o)
  clear h
  go_enter Try.func12, Try.ntmps12
  go_wp2_with fail
  refine (dfn_any ao n cap _ (HA.out _)).mono ?_
  rintro e w1 ⟨ah, al, ch, cl, H, L, rfl, hH, hL, iH, iL, b1⟩
  have hb1 : w1.heap[w.heap.size]? = some (.cells #[.slice none 0 0] 26) := (b1.block w.heap.size (by simp)).trans (heap_last2 _ _ _ rfl)
  have hs1 : w.heap.size < w1.heap.size := Nat.lt_of_lt_of_le (by simp) b1.size
  have B1 : Hid (Below w.heap.size w w1) := (A1 _).trans (b1.mono (by simp))
  have O1 : Hid (w1.ownsRow (w.heap.size + 1) 3 1 (.slice ah H.length ch) H.length (ints H)) := own_mono iH (by simp)
  have c1 : w1.cell? ⟨w.heap.size, 0, none⟩ = some (.slice none 0 0) := cell_of hb1 0
  have f1 : w1.frozen? ⟨w.heap.size, 0, none⟩ = false := frozen_of_row w1 _ _ _ _ hb1
  have hne : ¬ w.heap.size = w1.heap.size := by omega
  have hne' : ¬ w1.heap.size = w.heap.size := by omega
  clear b1 iH iL hb1 HA
  go_wp2
  have hsz : (w1.setCell ⟨w.heap.size, 0, none⟩ (.slice ah H.length ch)).heap.size = w1.heap.size := by simp [World.setCell]
  have ALS : ∀ o, Below (w1.setCell ⟨w.heap.size, 0, none⟩ (.slice ah H.length ch)).heap.size (w1.setCell ⟨w.heap.size, 0, none⟩ (.slice ah H.length ch)) ((w1.setCell ⟨w.heap.size, 0, none⟩ (.slice ah H.length ch)).alloc o) := fun o => (Below.refl _ _).alloc (Nat.le_refl _) o
  have r0 := ((ALS (.cells #[.slice ah H.length ch] 26)).cell (p := ⟨w.heap.size, 0, none⟩) (by rw [hsz]; exact hs1)).trans (set_same w1 w.heap.size 0 (.slice none 0 0) (.slice ah H.length ch) c1)
  have BS : Below w.heap.size w (w1.setCell ⟨w.heap.size, 0, none⟩ (.slice ah H.length ch)) := Below.grown B1.out (grown_set w1 w.heap.size 0 (.slice ah H.length ch)) B1.out.size (fun g e => by have := Option.some.inj e; omega)
  exact bodyPost_ret (v := .agg #[.slice ah H.length ch]) (by simp [results, Try.results12, go_sem, r0]) rfl ⟨ah, ch, H, rfl, hH, own_ints (ownsRow_below (own_set O1.out (Nat.lt_succ_self _) 0 (.slice ah H.length ch)) (ALS _)), BS.trans ((ALS _).mono BS.size)⟩
end Go.Proofs.Ytjfehgmpcgepnaa

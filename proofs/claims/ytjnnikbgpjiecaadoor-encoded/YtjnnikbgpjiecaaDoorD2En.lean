/-
  Contract of the specification's draw (*l1Cur).en, and what the draws of chapter 2 need.
-/
import Derived.Test.YtjnnikbgpjiecaaDoorD2Guess
import Derived.Test.YtjnnikbgpjiecaaDoorDraw
namespace Go.Proofs.YtjnnikbgpjiecaaDoor
open Go.ChangeShapes Go.WideShapes Go.ChangeAt Go.RowKit
def enL : List Int := [1, 1, 2, 3, 4, 5, 5, 1, 2, 3, 5, 0, 6]
def codL : List Int := [97, 122, 7, 200, 12352, 12400, 12446]
def tailL : List ByteArray := [⟨#[216, 61]⟩, ⟨#[61, 216]⟩, ⟨#[222, 0]⟩, ⟨#[14]⟩, ⟨#[15, 97]⟩, ⟨#[255]⟩]
theorem tailL_size (y : ByteArray) (h : y ∈ tailL) : y.size ≤ 2 := by
  simp only [tailL, List.mem_cons, List.not_mem_nil, or_false] at h
  rcases h with rfl | rfl | rfl | rfl | rfl | rfl <;> decide
set_option maxRecDepth 100000 in
set_option maxHeartbeats 1000000 in
theorem cen_any (B b : Nat) (ao : Option Addr) (n cap k : Nat) (w : World) (hk : k ≤ 900) (h : Cur w B b ao n cap k) :
    Calls Tryd.prog 56 #[.pointer (some ⟨b, 0, none⟩)] w fun e w' => ∃ (r : Int) (k' : Nat), e = .returned (.int .i64 r) ∧ 0 ≤ r ∧ r ≤ 6 ∧ k' ≤ k + 2 ∧ Cur w' B b ao n cap k' ∧ w.grownBy w' (some b) := by
  have hbw : b < w.heap.size := Nat.lt_of_lt_of_le h.lt h.le
  have HC : Hid _ := h
  have HV : Hid _ := vals_new w b hbw _ (ints enL) rfl 3
  have HB : Hid (Below w.heap.size w (w.alloc (.cells (ints enL).toArray 3))) := (Below.refl _ _).alloc (Nat.le_refl _) _
  clear h
  go_enter Tryd.func56, Tryd.ntmps56
  go_wp2_with fail
  refine (among_any enL _ _ _ _ ao n cap k _ hk (by decide) (by decide) HV.out (Cur.below HC.out HB.out)).mono ?_
  rintro e w2 ⟨r, k2, rfl, hr, hk2, C2, g2⟩
  have hr2 : 0 ≤ r ∧ r ≤ 6 := by
    simp only [enL, List.mem_cons, List.not_mem_nil, or_false] at hr
    omega
  have HC2 : Hid _ := C2
  have G2 : Hid _ := grown_trans' (grown_of_below HB.out (some b)) g2
  clear C2 g2 hr
  go_wp2
  go_ret
  exact ⟨r, k2, rfl, hr2.1, hr2.2, hk2, HC2.out, G2.out⟩
theorem encA_size (en : Int) (L : List Int) : (encA en L).s.size ≤ 1000 := by
  have go : ∀ (M : List Int) (k : Nat) (sh : Int) (s : ByteArray), (encGo en M k sh s).s.size ≤ 1000 := by
    intro M
    induction M with
    | nil =>
      intro k sh s
      show (encEnd sh s).s.size ≤ 1000
      by_cases h : (if sh = 1 then s ++ strOfNums [15] else s).size ≤ 1000
      · rw [encEnd, if_pos h]; exact h
      · rw [encEnd, if_neg h]; exact Nat.zero_le _
    | cons r M ih =>
      intro k sh s
      unfold encGo
      split
      · exact ih _ _ _
      · exact Nat.zero_le _
  unfold encA
  split
  · exact go _ _ _ _
  · exact Nat.zero_le _
/-- The lists that the loop of coded makes. -/
theorem grown_row {w w3 w4 : World} {b : Nat} {v : Value} {nn : Nat} {xs : List Value} {o : Obj} (G3 : w.grownBy w3 (some b)) (hown : (w3.alloc o).ownsRow w.heap.size 3 1 v nn xs) (hg : (w3.alloc o).grownBy w4 v.ownBlock) : w.grownBy w4 (some b) := by
  have ga := grown_trans' G3 (grown_of_below ((Below.refl w3.heap.size w3).alloc (Nat.le_refl _) o) (some b))
  exact ⟨hg.os.trans ga.os, hg.tape.trans ga.tape, hg.output.trans ga.output, Nat.le_trans ga.size hg.size, fun i hi hn => (hg.block i (Nat.lt_of_lt_of_le hi ga.size) (fun e => by have := (hown.lt i e.symm).1; omega)).trans (ga.block i hi hn)⟩
end Go.Proofs.YtjnnikbgpjiecaaDoor

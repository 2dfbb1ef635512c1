/-
  Lists of nodes in memory of their own: marked and looked at again by the laws.
-/
import Derived.Test.YtdhppigjlldfmaaR5D
import Derived.Test.YtdhppigjlldfmaaMarkC
namespace Go.Proofs.Ytdhppigjlldfmaa
open Go.ChangeShapes Go.WideShapes Go.ChangeAt Go.RowKit
/-- Ops and slices as cells. -/
def fl2 : List (Int × Value) → List Value
  | [] => []
  | q :: r => .int .i64 q.1 :: q.2 :: fl2 r
def qd (Q : List (Int × Value)) (j : Nat) : Int × Value := Q.getD j (0, .slice none 0 0)
theorem fl2_len (Q : List (Int × Value)) : (fl2 Q).length = Q.length * 2 := by
  induction Q with
  | nil => rfl
  | cons q r ih => simp [fl2, ih]; omega
theorem fl2_append (A B : List (Int × Value)) : fl2 (A ++ B) = fl2 A ++ fl2 B := by
  induction A with
  | nil => rfl
  | cons q r ih => simp [fl2, ih]
theorem fl2_at : ∀ (Q : List (Int × Value)) (j : Nat), j < Q.length → (fl2 Q)[j * 2]? = some (.int .i64 (qd Q j).1) ∧ (fl2 Q)[j * 2 + 1]? = some (qd Q j).2
  | [], j, h => by simp at h
  | q :: r, 0, _ => ⟨rfl, rfl⟩
  | q :: r, j + 1, h => by
    have := fl2_at r j (by simp at h; omega)
    rw [show (j + 1) * 2 = j * 2 + 1 + 1 by omega]
    simpa [fl2, qd] using this
theorem fl2_set : ∀ (Q : List (Int × Value)) (j : Nat) (x : Int), (fl2 Q).set (j * 2) (.int .i64 x) = fl2 (Q.set j (x, (qd Q j).2))
  | [], j, x => by simp [fl2]
  | q :: r, 0, x => by simp [fl2, qd]
  | q :: r, j + 1, x => by
    have := fl2_set r j x
    rw [show (j + 1) * 2 = j * 2 + 1 + 1 by omega]
    simpa [fl2, qd] using this
theorem qd_set (Q : List (Int × Value)) (i j : Nat) (x : Int × Value) (hi : i < Q.length) : qd (Q.set i x) j = if i = j then x else qd Q j := by
  unfold qd List.getD
  rw [List.getElem?_set]
  by_cases e : i = j
  · subst e; simp [hi]
  · simp [e]
/-- Nodes, by their places, where a slice of that length begins. -/
def ReF (w : World) (ao : Option Addr) (n : Nat) (f : Nat → Nd) : Prop :=
  ∀ j, j < n → ∃ b off sa sc, ao = some ⟨b, off, none⟩ ∧ b < w.heap.size ∧ w.cell? ⟨b, off + j * 2, none⟩ = some (.int .i64 (f j).1) ∧ w.cell? ⟨b, off + j * 2 + 1, none⟩ = some (.slice sa (f j).2.length sc) ∧ IntsAt w sa (f j).2
/-- Which number the op of node j is marked with, from 1 on. -/
def cntR (P : List Nd) (j : Nat) : Int := 1 + j + szK P j
def mkR (P : List Nd) (j : Nat) : Nd := (cntR P j, mk2 (nd P j).2 (cntR P j + 1) (nd P j).2.length)
theorem cntR_step (P : List Nd) (j : Nat) (h : j < P.length) : cntR P (j + 1) = cntR P j + 1 + (nd P j).2.length := by unfold cntR; rw [szK_step P j h]; push_cast; omega
theorem cntR_all (P : List Nd) : cntR P P.length = 1 + szP P := by unfold cntR szP; rw [szK_all]; push_cast; omega
theorem cntR_bd (P : List Nd) (j : Nat) (h : j ≤ P.length) : 0 ≤ cntR P j ∧ cntR P j ≤ 1 + szP P := by
  have := szK_mono P j
  rw [szK_all] at this
  unfold cntR szP
  omega
set_option maxRecDepth 100000 in
set_option maxHeartbeats 1000000 in
theorem held_c (c : Int) (c0 : 0 ≤ c) (c1 : c ≤ 10000000) (L : List Int) (ao : Option Addr) (n cap : Nat) (hn : n = L.length) (w : World) (hl : L.length ≤ 1048576) (hA : IntsAt w ao (mk2 L c L.length)) :
    Calls Try.prog 61 #[.slice ao n cap, .int .i64 c] w fun e w' => e = .returned (.int .i64 (c + L.length)) ∧ Below w.heap.size w w' := by
  subst hn
  have HA : Hid _ := hA
  clear hA
  go_enter Try.func61, Try.ntmps61
  go_wp2
  go_loopw [1, 5] (fun cc i wr => ∃ k : Nat, k ≤ L.length ∧ i = .int .i64 k ∧ cc = .int .i64 (c + k) ∧ Below w.heap.size w wr) (fun _ i _ => L.length - (intOf i).toNat)
  case atStart => exact ⟨0, Nat.zero_le _, rfl, by simp, Below.refl _ _⟩
  case round =>
    obtain ⟨k, hk, rfl, rfl, hbw⟩ := hrel
    by_cases hlt : k < L.length
    · have hltI : (k : Int) < (L.length : Int) := by omega
      obtain ⟨b1, o1, rfl, l1, h1⟩ := HA.out k (by rw [mk2_len]; exact hlt)
      have e1 : (mk2 L c L.length).getD k 0 = c + k := by rw [List.getD, mk2_at L c _ k hlt, if_pos hlt]; rfl
      rw [e1] at h1
      have g1 : wr.cell? ⟨b1, o1 + k, none⟩ = some (.int .i64 (c + k)) := (hbw.cell (p := ⟨b1, o1 + k, none⟩) l1).trans h1
      clear h1 e1
      go_wp2
      go_roundw
      case rel => exact ⟨k + 1, by omega, by go_num, by go_num, hbw⟩
      case measure => simp [intOf]; omega
    · go_wp2
      go_ret
      obtain rfl : k = L.length := by omega
      exact ⟨rfl, hbw⟩
end Go.Proofs.Ytdhppigjlldfmaa

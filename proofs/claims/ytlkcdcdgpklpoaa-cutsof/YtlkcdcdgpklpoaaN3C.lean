/-
  Rows and lists: small facts; a copy of a list (laws.toIntS); what an argument of the type []int holds.
-/
import Derived.Test.YtlkcdcdgpklpoaaN3B
import Derived.ChangeOld
import Derived.Laws.OwnMore
namespace Go.Proofs.Ytlkcdcdgpklpoaa
open Go.ChangeShapes Go.WideShapes Go.ChangeAt Go.WideMaps Go.WideElems Go.RowKit
theorem World.ownsRow.keepB {w w' : World} {base : Nat} {e : TypeId} {size : Nat} {v : Value} {n : Nat} {xs : List Value} (h : w.ownsRow base e size v n xs) (hb : Below w.heap.size w w') : w'.ownsRow base e size v n xs := ownsRow_below h hb
theorem IntsAt.keepB {w w' : World} {ao : Option Addr} {L : List Int} (h : IntsAt w ao L) (hb : Below w.heap.size w w') : IntsAt w' ao L := h.below hb
theorem own_ints {w : World} {base : Nat} {ao : Option Addr} {n cap : Nat} {L : List Int} (h : w.ownsRow base 3 1 (.slice ao n cap) n (ints L)) : IntsAt w ao L := by
  obtain ⟨_, a, c, e, i⟩ := ints_of_own h
  simp only [Value.slice.injEq] at e
  obtain ⟨rfl, _, _⟩ := e
  exact i
theorem own_ints2 {w : World} {base : Nat} {ao : Option Addr} {n cap : Nat} {L : List Int} (h : w.ownsRow base 3 1 (.slice ao n cap) n (ints L)) : IntsAt w ao L := own_ints h
theorem own_mono {w : World} {base base' : Nat} {e : TypeId} {size : Nat} {v : Value} {n : Nat} {xs : List Value} (h : w.ownsRow base e size v n xs) (hb : base' ≤ base) : w.ownsRow base' e size v n xs := by
  refine ⟨h.1, ?_⟩
  rcases h.2 with h2 | ⟨g, cap, cur, h1, h2, h3⟩
  · exact .inl h2
  · exact .inr ⟨g, cap, cur, h1, Nat.le_trans hb h2, h3⟩
theorem take_snoc (L : List Int) (k : Nat) (h : k < L.length) : L.take (k + 1) = L.take k ++ [L.getD k 0] := by rw [List.take_add_one]; simp [List.getD, h]
theorem splitAllL_snoc (L : List Int) (k : Nat) (h : k < L.length) : splitAllL (L.take (k + 1)) = splitAllL (L.take k) ++ splitL (L.getD k 0) := by
  rw [take_snoc L k h, splitAllL_append]
  simp [splitAllL]
/-- A list as far as it is copied. -/
def cpy (L : List Int) (k : Nat) : List Int := L.take k ++ List.replicate (L.length - k) 0
theorem cpy_len (L : List Int) (k : Nat) (h : k ≤ L.length) : (cpy L k).length = L.length := by simp [cpy]; omega
theorem cpy_step (L : List Int) (k : Nat) (h : k < L.length) : (ints (cpy L k)).set k (.int .i64 (L.getD k 0)) = ints (cpy L (k + 1)) := by
  have h1 : L.take (k + 1) = L.take k ++ [L.getD k 0] := by rw [List.take_add_one]; simp [List.getD, h]
  have h2 : List.replicate (L.length - k) (0 : Int) = 0 :: List.replicate (L.length - (k + 1)) 0 := by
    rw [show L.length - k = (L.length - (k + 1)) + 1 by omega, List.replicate_succ]
  have h3 : (ints (L.take k)).length = k := by simp [ints]; omega
  unfold cpy
  rw [h1, h2]
  simp only [ints, List.map_append, List.map_cons, List.map_nil] at h3 ⊢
  rw [List.set_append_right _ _ (by omega)]
  simp [show k - min k L.length = 0 by omega]
theorem cpy_get (L : List Int) (k : Nat) (h : k < L.length) : (ints (cpy L k))[k]? = some (.int .i64 0) := by
  simp only [ints, cpy, List.getElem?_map]
  rw [List.getElem?_append_right (by simp; omega)]
  simp [show k - min k L.length = 0 by omega, show 0 < L.length - k by omega]
theorem cpy_all (L : List Int) : cpy L L.length = L := by simp [cpy]
theorem cpy_none (L : List Int) : cpy L 0 = List.replicate L.length 0 := by simp [cpy]
theorem make_row (w : World) (n : Nat) (hn : n ≤ 1048576) : ∃ w', (Instr.makeSlice 26 (.int .i64 (n : Int)) (.int .i64 (n : Int))).run Try.prog w = .ok (.slice (some ⟨w.heap.size, 0, none⟩) n n) w' ∧
    w'.ownsRow w.heap.size 3 1 (.slice (some ⟨w.heap.size, 0, none⟩) n n) n (ints (List.replicate n 0)) ∧ Below w.heap.size w w' := by
  obtain ⟨i0, hi, hz0, hz1, hz2⟩ := info_parts Try.info3
  obtain ⟨w1, h1, h2, h3⟩ := run_make_full (P := Try.prog) w w.heap.size 26 3 i0 (.int .i64 0) 1 Try.underlying26 hi hz0 hz1 .i64 .i64 n (by rw [hz2]; omega) (by unfold maxLen; omega) (Nat.le_refl _)
  refine ⟨w1, h1, ?_, Below.grown (Below.refl _ _) h3 (Nat.le_refl _) (fun g hg => by cases hg)⟩
  have e : (madeCells (Value.cells (.int .i64 0)) (n * 1)).toList = ints (List.replicate n 0) := by
    rw [Nat.mul_one, show Value.cells (.int .i64 0) = #[.int .i64 0] from rfl, toList_madeCells_one]
    simp [ints]
  rw [e] at h2
  exact h2
set_option maxRecDepth 100000 in
set_option maxHeartbeats 1000000 in
theorem toI_any (L : List Int) (ao : Option Addr) (cap : Nat) (w : World) (hl : L.length ≤ 1048576) (hA : IntsAt w ao L) :
    Calls Try.prog 26 #[.slice ao L.length cap] w fun e w' => ∃ v, e = .returned v ∧ w'.ownsRow w.heap.size 3 1 v L.length (ints L) ∧ Below w.heap.size w w' := by
  obtain ⟨w1, hmk, how, hb1⟩ := make_row w L.length hl
  have HA : Hid _ := hA
  have HO : Hid _ := how
  have HB : Hid _ := hb1
  clear hA how hb1
  go_enter Try.func26, Try.ntmps26
  go_wp2
  go_loopw [4] (fun i wr => ∃ k : Nat, k ≤ L.length ∧ i = .int .i64 k ∧ wr.ownsRow w.heap.size 3 1 (.slice (some ⟨w.heap.size, 0, none⟩) L.length L.length) L.length (ints (cpy L k)) ∧ Below w.heap.size w wr) (fun i _ => L.length - (intOf i).toNat)
  case atStart => exact ⟨0, Nat.zero_le _, rfl, by rw [cpy_none]; exact HO.out, HB.out⟩
  case round =>
    obtain ⟨k, hk, rfl, hown, hbw⟩ := hrel
    by_cases hlt : k < L.length
    · have hltI : (k : Int) < (L.length : Int) := by omega
      obtain ⟨b1, o1, rfl, l1, h1⟩ := HA.out k hlt
      have hc : wr.cell? ⟨b1, o1 + k, none⟩ = some (.int .i64 (L.getD k 0)) := (hbw.cell (p := ⟨b1, o1 + k, none⟩) l1).trans h1
      have hfz := hown.frozenAt k
      have hcell := hown.cellAt k (by omega)
      rw [cpy_get L k hlt] at hcell
      have hst := hown.stored k (.int .i64 (L.getD k 0))
      rw [cpy_step L k hlt] at hst
      have HST : Hid _ := hst
      have HBW : Hid _ := hbw
      clear hst hown hbw h1
      generalize L.getD k 0 = x at *
      go_wp2
      go_roundw
      case rel => exact ⟨k + 1, by omega, by go_num, HST.out.1, Below.grown HBW.out HST.out.2 (Below.size HBW.out) (fun g hg => by simp at hg; omega)⟩
      case measure => simp [intOf]; omega
    · go_wp2
      go_ret
      obtain rfl : k = L.length := by omega
      rw [cpy_all] at hown
      exact ⟨_, rfl, hown, hbw⟩
theorem argI_of {H : Type} {enc : TypeId × Value → H} {W : World} {a : Option Addr} {len cap : Nat} {x : DataW H × List MemPlace} {base : Nat} {held : Bool} {fuel : Nat}
    (hf : DataW.trod enc Try.prog W base (fun _ => true) held fuel 26 (Value.cells (.slice a len cap)).toList = some x) : ∃ L : List Int, L.length = len ∧ IntsAt W a L := by
  rcases open_ints Try.underlying26 Try.underlying3 (by kernel_rfl) hf with ⟨hcs, _⟩ | ⟨y, l, c, zs, hcs, _, hl, hm, hz, _, hcell, hwz⟩
  · simp [Value.cells] at hcs
    obtain ⟨rfl, rfl, rfl⟩ := hcs
    exact ⟨[], rfl, fun j hj => absurd hj (by simp)⟩
  · simp [Value.cells] at hcs
    obtain ⟨rfl, rfl, rfl⟩ := hcs
    have hz' : zs.length = cap := by simpa using hz
    refine ⟨zs.take len, by simp; omega, fun j hj => ?_⟩
    have hj' : j < len := by simp at hj; omega
    obtain ⟨b, off, rfl, hc⟩ := ints_at hcell (by omega)
    have hcj := hc j (by omega)
    refine ⟨b, off, rfl, World.block_lt_of_cell? W _ hcj, ?_⟩
    rw [hcj]
    simp [List.getD, hj', show j < zs.length by omega]
end Go.Proofs.Ytlkcdcdgpklpoaa

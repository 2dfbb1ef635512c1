/-
  Contracts of (*l1Cur).runes and bytes.
-/
import Derived.Test.YtcclollclbegoaaDoorCur2
namespace Go.Proofs.YtcclollclbegoaaDoor
open Go.ChangeShapes Go.WideShapes Go.ChangeAt Go.RowKit
theorem own_ne_cur {w : World} {base : Nat} {e : TypeId} {size : Nat} {v : Value} {n : Nat} {xs : List Value} (h : w.ownsRow base e size v n xs) {b : Nat} (hb : b < base) : v.ownBlock = none ∨ v.ownBlock ≠ some b := by
  cases hv : v.ownBlock with
  | none => exact .inl rfl
  | some g => exact .inr fun e' => by have := (h.lt g hv).1; have := Option.some.inj e'; omega
set_option maxRecDepth 100000 in
set_option maxHeartbeats 1000000 in
theorem cruns_any (M : Nat) (B b : Nat) (ao : Option Addr) (n cap k : Nat) (w : World) (hM : M ≤ 100) (hk : k ≤ 500) (h : Cur w B b ao n cap k) :
    Calls Tryd.prog 78 #[.pointer (some ⟨b, 0, none⟩), .int .i64 M] w fun e w' => ∃ (v : Value) (L : List Int) (k' : Nat), e = .returned v ∧ (∀ r ∈ L, goodB r = true) ∧ L.length ≤ M ∧ k' ≤ k + 2 + 2 * M ∧ Cur w' B b ao n cap k' ∧ w'.ownsRow w.heap.size 3 1 v L.length (ints L) ∧ w.grownBy w' (some b) := by
  obtain ⟨i0, hi, hz0, hz1, hz2⟩ := info_parts Tryd.info3
  have hbw : b < w.heap.size := Nat.lt_of_lt_of_le h.lt h.le
  have HBW : Hid _ := h.le
  have HC : Hid _ := h
  clear h
  go_enter Tryd.func78, Tryd.ntmps78
  go_wp2_with fail
  refine (pick_any ((M : Int) + 1) B b ao n cap k _ (by omega) HC.out).mono ?_
  rintro e w1 ⟨r, k1, rfl, p0, p1, hk1, C1, g1⟩
  obtain ⟨m0, rfl⟩ := Int.eq_ofNat_of_zero_le p0
  have hm0 : m0 ≤ M := by omega
  have HC1 : Hid _ := C1
  have G1 : Hid _ := g1
  clear C1 g1 p0 p1
  go_wp2
  go_loopw [5, 6] (fun v i wr => ∃ (m k' : Nat) (L : List Int), i = .int .i64 m ∧ (∀ r ∈ L, goodB r = true) ∧ L.length + m ≤ M ∧ k' + 2 * m ≤ k + 2 + 2 * M ∧ Cur wr B b ao n cap k' ∧ wr.ownsRow w.heap.size 3 1 v L.length (ints L) ∧ w.grownBy wr (some b)) (fun _ i _ => (intOf i).toNat)
  case atStart => exact ⟨m0, k1, [], rfl, by simp, by simpa using hm0, by omega, HC1.out, World.ownsRow_nil _ _ _ _, G1.out⟩
  case round =>
    obtain ⟨m, k', L, rfl, hg, hlm, hk', C2, own2, g2⟩ := hrel
    have HG : Hid _ := hg
    have HC2 : Hid _ := C2
    have OW2 : Hid _ := own2
    have G2 : Hid _ := g2
    clear hg C2 own2 g2
    by_cases hlt : 0 < m
    · have hltI : (0 : Int) < (m : Int) := by omega
      obtain ⟨m', rfl⟩ : ∃ m', m = m' + 1 := ⟨m - 1, by omega⟩
      go_wp2_with fail
      refine (rune_any B b ao n cap k' _ (by omega) HC2.out).mono ?_
      rintro e w3 ⟨x, k3, rfl, hgx, hk3, C3, g3⟩
      have hown3 := World.ownsRow.kept OW2.out g3 (own_ne_cur OW2.out hbw)
      have HC3 : Hid _ := C3
      have G3 : Hid _ := grown_trans' G2.out g3
      have HGX : Hid _ := hgx
      have hsz : w.heap.size ≤ w3.heap.size := G3.out.size
      clear C3 g3 hgx
      go_wp2_with (at_builtin; refine wpList_append_own _ rfl _ _ 28 rfl w.heap.size 3 i0 (.int .i64 0) 1 8 Tryd.underlying28 hi hz0 hz1 hz2 rfl (by decide) _ _ _ rfl (hown3.alloc _) ⟨w3.heap.size, 0, none⟩ 1 1 [.int .i64 x] rfl rfl ?c1 ?c2 ?c3 ?c4 ?c5 ?_)
      case c1 => exact cell_one_new _ _ _
      case c2 => intro u hu; simp at hu; subst hu; rfl
      case c3 => unfold maxLen; omega
      case c4 => omega
      case c5 => simp; omega
      intro v' w4 hown4 hgrow _
      have hal : Below w3.heap.size w3 (w3.alloc (.cells #[.int .i64 x] 3)) := (Below.refl _ _).alloc (Nat.le_refl _) _
      have HC4 : Hid (Cur w4 B b ao n cap k3) := Cur.grown (Cur.below HC3.out hal) hgrow (fun g hg => by have := (hown3.lt g hg).1; have := HBW.out; omega)
      have G4 : Hid (w.grownBy w4 (some b)) := by
        have ga := grown_trans' G3.out (grown_of_below hal (some b))
        exact ⟨hgrow.os.trans ga.os, hgrow.tape.trans ga.tape, hgrow.output.trans ga.output, Nat.le_trans ga.size hgrow.size, fun i hi hn => (hgrow.block i (Nat.lt_of_lt_of_le hi ga.size) (fun e => by have := (hown3.lt i e.symm).1; omega)).trans (ga.block i hi hn)⟩
      have OW4 : Hid (w4.ownsRow w.heap.size 3 1 v' (L ++ [x]).length (ints (L ++ [x]))) := by
        show w4.ownsRow w.heap.size 3 1 v' (L ++ [x]).length (ints (L ++ [x]))
        simpa [ints] using hown4
      have HGN : Hid (∀ r ∈ L ++ [x], goodB r = true) := fun r hr => by
        rcases List.mem_append.1 hr with h | h
        · exact HG.out r h
        · obtain rfl : r = x := by simpa using h
          exact HGX.out
      clear hown4 hgrow hown3 hal
      go_wp2
      go_roundw
      case rel => exact ⟨m', k3, L ++ [x], by go_num, HGN.out, by simp; omega, by omega, HC4.out, OW4.out, G4.out⟩
      case measure => simp [intOf]
    · obtain rfl : m = 0 := by omega
      go_wp2
      go_ret
      exact ⟨_, L, k', rfl, HG.out, by omega, by omega, HC2.out, OW2.out, G2.out⟩
end Go.Proofs.YtcclollclbegoaaDoor

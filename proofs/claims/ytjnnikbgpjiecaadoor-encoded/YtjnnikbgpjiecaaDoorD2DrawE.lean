/-
  Contract of spec.DrawEncodeAll.
-/
import Derived.Test.YtjnnikbgpjiecaaDoorD2En
namespace Go.Proofs.YtjnnikbgpjiecaaDoor
open Go.ChangeShapes Go.WideShapes Go.ChangeAt Go.RowKit
def encL1 : List Int := [97, 122, 7, 32, 126, 12352, 12400, 12446]
def encL2 : List Int := [14, 15, 127, 255, 256, 12351, 12447, -1]
set_option maxRecDepth 100000 in
set_option maxHeartbeats 8000000 in
theorem denc_any (ao : Option Addr) (n cap : Nat) (w : World) (h : ArgB w ao n) :
    Calls Tryd.prog 22 #[.slice ao n cap] w fun e w' => ∃ (en : Int) (v : Value) (L : List Int), e = .returned (.tuple #[.int .i64 en, v]) ∧ L.length ≤ 7 ∧ w'.ownsRow (w.heap.size + 1) 3 1 v L.length (ints L) ∧ Below w.heap.size w w' := by
  obtain ⟨i0, hi, hz0, hz1, hz2⟩ := info_parts Tryd.info3
  have HC : Hid _ := cur_new cap h
  clear h
  go_enter Tryd.func22, Tryd.ntmps22
  go_wp2_with fail
  refine (cen_any _ _ ao n cap 0 _ (by omega) HC.out).mono ?_
  rintro e w0 ⟨en, k0, rfl, en0, en6, hk0, C0, g0⟩
  have HC0 : Hid _ := C0
  have G0 : Hid _ := g0
  clear C0 g0
  go_wp2_with fail
  refine (pick_any 8 _ _ ao n cap k0 _ (by omega) HC0.out).mono ?_
  rintro e w1 ⟨r, k1, rfl, p0, p1, hk1, C1, g1⟩
  obtain ⟨m0, rfl⟩ := Int.eq_ofNat_of_zero_le p0
  have hm0 : m0 ≤ 7 := by omega
  have HC1 : Hid _ := C1
  have G1 : Hid _ := grown_trans' G0.out g1
  clear C1 g1 p0 p1
  go_wp2
  go_loopw [6, 7] (fun v i wr => ∃ (m k' : Nat) (L : List Int), i = .int .i64 m ∧ L.length + m ≤ 7 ∧ k' + 12 * m ≤ 100 ∧ Cur wr (w.heap.size + 1) w.heap.size ao n cap k' ∧ wr.ownsRow (w.heap.size + 1) 3 1 v L.length (ints L) ∧ World.grownBy (w.alloc (curObj ao n cap)) wr (some w.heap.size)) (fun _ i _ => (intOf i).toNat)
  case atStart => exact ⟨m0, k1, [], rfl, by simpa using hm0, by omega, HC1.out, World.ownsRow_nil _ _ _ _, G1.out⟩
  case round =>
    obtain ⟨m, k', L, rfl, hlm, hk', C2, own2, g2⟩ := hrel
    have HC2 : Hid _ := C2
    have OW2 : Hid _ := own2
    have G2 : Hid _ := g2
    clear C2 own2 g2
    by_cases hlt : 0 < m
    · have hltI : (0 : Int) < (m : Int) := by omega
      obtain ⟨m', rfl⟩ : ∃ m', m = m' + 1 := ⟨m - 1, by omega⟩
      have b5 : w.heap.size < wr.heap.size := by have := G2.out.size; simp at this; omega
      have HV5 : Hid _ := vals_new wr w.heap.size b5 _ (ints encL1) rfl 3
      have HB5 : Hid (Below wr.heap.size wr (wr.alloc (.cells (ints encL1).toArray 3))) := (Below.refl _ _).alloc (Nat.le_refl _) _
      go_wp2_with fail
      refine (among_any encL1 _ _ _ _ ao n cap k' _ (by omega) (by decide) (by decide) HV5.out (Cur.below HC2.out HB5.out)).mono ?_
      rintro e x5 ⟨x, k5, rfl, hx5, hk5, C5, g5⟩
      have HC5 : Hid _ := C5
      have G5 : Hid _ := grown_trans' (grown_trans' G2.out (grown_of_below HB5.out _)) g5
      have OW5 : Hid _ := World.ownsRow.kept (ownsRow_below OW2.out HB5.out) g5 (own_ne_cur (ownsRow_below OW2.out HB5.out) (by omega))
      clear C5 g5 hx5 HV5
      go_wp2_with fail
      refine (one_any 5 _ _ ao n cap k5 _ (by omega) HC5.out).mono ?_
      rintro e x6 ⟨q, k6, rfl, hk6, C6, g6⟩
      have HC6 : Hid _ := C6
      have G6 : Hid _ := grown_trans' G5.out g6
      have OW6 : Hid _ := World.ownsRow.kept OW5.out g6 (own_ne_cur OW5.out (by omega))
      clear C6 g6
      cases q
      · go_wp2_with fail
        refine (one_any 20 _ _ ao n cap k6 _ (by omega) HC6.out).mono ?_
        rintro e x7 ⟨q, k7, rfl, hk7, C7, g7⟩
        have HC7 : Hid _ := C7
        have G7 : Hid _ := grown_trans' G6.out g7
        have OW7 : Hid _ := World.ownsRow.kept OW6.out g7 (own_ne_cur OW6.out (by omega))
        clear C7 g7
        cases q
        · have HC3 : Hid _ := HC7.out
          have G3 : Hid _ := G7.out
          have OW3 : Hid _ := OW7.out
          have hsz : w.heap.size + 1 ≤ x7.heap.size := by have := G3.out.size; simp at this; omega
          have hown3 : World.ownsRow x7 (w.heap.size + 1) 3 1 u6 L.length (ints L) := OW3.out
          go_wp2_with (at_builtin; refine wpList_append_own _ rfl _ _ 28 rfl (w.heap.size + 1) 3 i0 (.int .i64 0) 1 8 Tryd.underlying28 hi hz0 hz1 hz2 rfl (by decide) _ _ _ rfl (hown3.alloc _) ⟨x7.heap.size, 0, none⟩ 1 1 [.int .i64 x] rfl rfl ?c1 ?c2 ?c3 ?c4 ?c5 ?_)
          try (case c1 => exact cell_one_new _ _ _)
          case c2 => first | rfl | (intro u hu; simp at hu; subst hu; rfl)
          case c3 => unfold maxLen; omega
          case c4 => omega
          case c5 => first | omega | (simp; omega)
          intro v' w4 hown4 hgrow _
          have hal : Below x7.heap.size x7 (x7.alloc (.cells #[.int .i64 x] 3)) := (Below.refl _ _).alloc (Nat.le_refl _) _
          have HC4 : Hid (Cur w4 (w.heap.size + 1) w.heap.size ao n cap k7) := Cur.grown (Cur.below HC3.out hal) hgrow (fun g hg => by have := (hown3.lt g hg).1; omega)
          have G4 : Hid (World.grownBy (w.alloc (curObj ao n cap)) w4 (some w.heap.size)) := by
            have := hown3.alloc (.cells #[.int .i64 x] 3)
            rw [show w.heap.size + 1 = (w.alloc (curObj ao n cap)).heap.size by simp] at this
            exact grown_row G3.out this hgrow
          have OW4 : Hid (w4.ownsRow (w.heap.size + 1) 3 1 v' (L ++ [x]).length (ints (L ++ [x]))) := by
            show w4.ownsRow (w.heap.size + 1) 3 1 v' (L ++ [x]).length (ints (L ++ [x]))
            simpa [ints] using hown4
          clear hown4 hgrow hown3 hal
          go_wp2
          go_roundw
          case rel => exact ⟨m', k7, L ++ [x], by go_num, by simp; omega, by omega, HC4.out, OW4.out, G4.out⟩
          case measure => simp [intOf]
        · have b8 : w.heap.size < x7.heap.size := by have := G7.out.size; simp at this; omega
          have HV8 : Hid _ := vals_new x7 w.heap.size b8 _ (ints encL2) rfl 3
          have HB8 : Hid (Below x7.heap.size x7 (x7.alloc (.cells (ints encL2).toArray 3))) := (Below.refl _ _).alloc (Nat.le_refl _) _
          go_wp2_with fail
          refine (among_any encL2 _ _ _ _ ao n cap k7 _ (by omega) (by decide) (by decide) HV8.out (Cur.below HC7.out HB8.out)).mono ?_
          rintro e x8 ⟨z, k8, rfl, hx8, hk8, C8, g8⟩
          have HC8 : Hid _ := C8
          have G8 : Hid _ := grown_trans' (grown_trans' G7.out (grown_of_below HB8.out _)) g8
          have OW8 : Hid _ := World.ownsRow.kept (ownsRow_below OW7.out HB8.out) g8 (own_ne_cur (ownsRow_below OW7.out HB8.out) (by omega))
          clear C8 g8 hx8 HV8
          have HC3 : Hid _ := HC8.out
          have G3 : Hid _ := G8.out
          have OW3 : Hid _ := OW8.out
          have hsz : w.heap.size + 1 ≤ x8.heap.size := by have := G3.out.size; simp at this; omega
          have hown3 : World.ownsRow x8 (w.heap.size + 1) 3 1 u6 L.length (ints L) := OW3.out
          go_wp2_with (at_builtin; refine wpList_append_own _ rfl _ _ 28 rfl (w.heap.size + 1) 3 i0 (.int .i64 0) 1 8 Tryd.underlying28 hi hz0 hz1 hz2 rfl (by decide) _ _ _ rfl (hown3.alloc _) ⟨x8.heap.size, 0, none⟩ 1 1 [.int .i64 z] rfl rfl ?c1 ?c2 ?c3 ?c4 ?c5 ?_)
          try (case c1 => exact cell_one_new _ _ _)
          case c2 => first | rfl | (intro u hu; simp at hu; subst hu; rfl)
          case c3 => unfold maxLen; omega
          case c4 => omega
          case c5 => first | omega | (simp; omega)
          intro v' w4 hown4 hgrow _
          have hal : Below x8.heap.size x8 (x8.alloc (.cells #[.int .i64 z] 3)) := (Below.refl _ _).alloc (Nat.le_refl _) _
          have HC4 : Hid (Cur w4 (w.heap.size + 1) w.heap.size ao n cap k8) := Cur.grown (Cur.below HC3.out hal) hgrow (fun g hg => by have := (hown3.lt g hg).1; omega)
          have G4 : Hid (World.grownBy (w.alloc (curObj ao n cap)) w4 (some w.heap.size)) := by
            have := hown3.alloc (.cells #[.int .i64 z] 3)
            rw [show w.heap.size + 1 = (w.alloc (curObj ao n cap)).heap.size by simp] at this
            exact grown_row G3.out this hgrow
          have OW4 : Hid (w4.ownsRow (w.heap.size + 1) 3 1 v' (L ++ [z]).length (ints (L ++ [z]))) := by
            show w4.ownsRow (w.heap.size + 1) 3 1 v' (L ++ [z]).length (ints (L ++ [z]))
            simpa [ints] using hown4
          clear hown4 hgrow hown3 hal
          go_wp2
          go_roundw
          case rel => exact ⟨m', k8, L ++ [z], by go_num, by simp; omega, by omega, HC4.out, OW4.out, G4.out⟩
          case measure => simp [intOf]
      · go_wp2_with fail
        refine (rune_any _ _ ao n cap k6 _ (by omega) HC6.out).mono ?_
        rintro e x7 ⟨y, k7, rfl, hx7, hk7, C7, g7⟩
        have HC7 : Hid _ := C7
        have G7 : Hid _ := grown_trans' G6.out g7
        have OW7 : Hid _ := World.ownsRow.kept OW6.out g7 (own_ne_cur OW6.out (by omega))
        clear C7 g7 hx7
        go_wp2_with fail
        refine (one_any 20 _ _ ao n cap k7 _ (by omega) HC7.out).mono ?_
        rintro e x8 ⟨q, k8, rfl, hk8, C8, g8⟩
        have HC8 : Hid _ := C8
        have G8 : Hid _ := grown_trans' G7.out g8
        have OW8 : Hid _ := World.ownsRow.kept OW7.out g8 (own_ne_cur OW7.out (by omega))
        clear C8 g8
        cases q
        · have HC3 : Hid _ := HC8.out
          have G3 : Hid _ := G8.out
          have OW3 : Hid _ := OW8.out
          have hsz : w.heap.size + 1 ≤ x8.heap.size := by have := G3.out.size; simp at this; omega
          have hown3 : World.ownsRow x8 (w.heap.size + 1) 3 1 u6 L.length (ints L) := OW3.out
          go_wp2_with (at_builtin; refine wpList_append_own _ rfl _ _ 28 rfl (w.heap.size + 1) 3 i0 (.int .i64 0) 1 8 Tryd.underlying28 hi hz0 hz1 hz2 rfl (by decide) _ _ _ rfl (hown3.alloc _) ⟨x8.heap.size, 0, none⟩ 1 1 [.int .i64 y] rfl rfl ?c1 ?c2 ?c3 ?c4 ?c5 ?_)
          try (case c1 => exact cell_one_new _ _ _)
          case c2 => first | rfl | (intro u hu; simp at hu; subst hu; rfl)
          case c3 => unfold maxLen; omega
          case c4 => omega
          case c5 => first | omega | (simp; omega)
          intro v' w4 hown4 hgrow _
          have hal : Below x8.heap.size x8 (x8.alloc (.cells #[.int .i64 y] 3)) := (Below.refl _ _).alloc (Nat.le_refl _) _
          have HC4 : Hid (Cur w4 (w.heap.size + 1) w.heap.size ao n cap k8) := Cur.grown (Cur.below HC3.out hal) hgrow (fun g hg => by have := (hown3.lt g hg).1; omega)
          have G4 : Hid (World.grownBy (w.alloc (curObj ao n cap)) w4 (some w.heap.size)) := by
            have := hown3.alloc (.cells #[.int .i64 y] 3)
            rw [show w.heap.size + 1 = (w.alloc (curObj ao n cap)).heap.size by simp] at this
            exact grown_row G3.out this hgrow
          have OW4 : Hid (w4.ownsRow (w.heap.size + 1) 3 1 v' (L ++ [y]).length (ints (L ++ [y]))) := by
            show w4.ownsRow (w.heap.size + 1) 3 1 v' (L ++ [y]).length (ints (L ++ [y]))
            simpa [ints] using hown4
          clear hown4 hgrow hown3 hal
          go_wp2
          go_roundw
          case rel => exact ⟨m', k8, L ++ [y], by go_num, by simp; omega, by omega, HC4.out, OW4.out, G4.out⟩
          case measure => simp [intOf]
        · have b9 : w.heap.size < x8.heap.size := by have := G8.out.size; simp at this; omega
          have HV9 : Hid _ := vals_new x8 w.heap.size b9 _ (ints encL2) rfl 3
          have HB9 : Hid (Below x8.heap.size x8 (x8.alloc (.cells (ints encL2).toArray 3))) := (Below.refl _ _).alloc (Nat.le_refl _) _
          go_wp2_with fail
          refine (among_any encL2 _ _ _ _ ao n cap k8 _ (by omega) (by decide) (by decide) HV9.out (Cur.below HC8.out HB9.out)).mono ?_
          rintro e x9 ⟨z, k9, rfl, hx9, hk9, C9, g9⟩
          have HC9 : Hid _ := C9
          have G9 : Hid _ := grown_trans' (grown_trans' G8.out (grown_of_below HB9.out _)) g9
          have OW9 : Hid _ := World.ownsRow.kept (ownsRow_below OW8.out HB9.out) g9 (own_ne_cur (ownsRow_below OW8.out HB9.out) (by omega))
          clear C9 g9 hx9 HV9
          have HC3 : Hid _ := HC9.out
          have G3 : Hid _ := G9.out
          have OW3 : Hid _ := OW9.out
          have hsz : w.heap.size + 1 ≤ x9.heap.size := by have := G3.out.size; simp at this; omega
          have hown3 : World.ownsRow x9 (w.heap.size + 1) 3 1 u6 L.length (ints L) := OW3.out
          go_wp2_with (at_builtin; refine wpList_append_own _ rfl _ _ 28 rfl (w.heap.size + 1) 3 i0 (.int .i64 0) 1 8 Tryd.underlying28 hi hz0 hz1 hz2 rfl (by decide) _ _ _ rfl (hown3.alloc _) ⟨x9.heap.size, 0, none⟩ 1 1 [.int .i64 z] rfl rfl ?c1 ?c2 ?c3 ?c4 ?c5 ?_)
          try (case c1 => exact cell_one_new _ _ _)
          case c2 => first | rfl | (intro u hu; simp at hu; subst hu; rfl)
          case c3 => unfold maxLen; omega
          case c4 => omega
          case c5 => first | omega | (simp; omega)
          intro v' w4 hown4 hgrow _
          have hal : Below x9.heap.size x9 (x9.alloc (.cells #[.int .i64 z] 3)) := (Below.refl _ _).alloc (Nat.le_refl _) _
          have HC4 : Hid (Cur w4 (w.heap.size + 1) w.heap.size ao n cap k9) := Cur.grown (Cur.below HC3.out hal) hgrow (fun g hg => by have := (hown3.lt g hg).1; omega)
          have G4 : Hid (World.grownBy (w.alloc (curObj ao n cap)) w4 (some w.heap.size)) := by
            have := hown3.alloc (.cells #[.int .i64 z] 3)
            rw [show w.heap.size + 1 = (w.alloc (curObj ao n cap)).heap.size by simp] at this
            exact grown_row G3.out this hgrow
          have OW4 : Hid (w4.ownsRow (w.heap.size + 1) 3 1 v' (L ++ [z]).length (ints (L ++ [z]))) := by
            show w4.ownsRow (w.heap.size + 1) 3 1 v' (L ++ [z]).length (ints (L ++ [z]))
            simpa [ints] using hown4
          clear hown4 hgrow hown3 hal
          go_wp2
          go_roundw
          case rel => exact ⟨m', k9, L ++ [z], by go_num, by simp; omega, by omega, HC4.out, OW4.out, G4.out⟩
          case measure => simp [intOf]
    · obtain rfl : m = 0 := by omega
      go_wp2
      go_ret2
      exact ⟨en, _, L, rfl, by omega, OW2.out, below_of_cur G2.out⟩
end Go.Proofs.YtjnnikbgpjiecaaDoor

/-
  Contract of the specification's draw (*l1Cur).coded.
-/
import Derived.Test.YtjnnikbgpjiecaaDoorD2En
import Derived.Deep.DeepCutAuto
namespace Go.Proofs.YtjnnikbgpjiecaaDoor
open Go.ChangeShapes Go.WideShapes Go.ChangeAt Go.RowKit
set_option maxRecDepth 100000 in
set_option maxHeartbeats 8000000 in
theorem coded_any (en : Int) (B b : Nat) (ao : Option Addr) (n cap k : Nat) (w : World) (hk : k ≤ 300) (h : Cur w B b ao n cap k) :
    Calls Tryd.prog 41 #[.pointer (some ⟨b, 0, none⟩), .int .i64 en] w fun e w' => ∃ (s : ByteArray) (k' : Nat), e = .returned (.string s) ∧ s.size ≤ 1028 ∧ k' ≤ k + 100 ∧ Cur w' B b ao n cap k' ∧ w.grownBy w' (some b) := by
  obtain ⟨i0, hi, hz0, hz1, hz2⟩ := info_parts Tryd.info3
  have hbw : b < w.heap.size := Nat.lt_of_lt_of_le h.lt h.le
  have HBW : Hid _ := h.le
  have HC : Hid _ := h
  clear h
  go_enter Tryd.func41, Tryd.ntmps41
  go_wp2_with fail
  refine (pick_any 7 B b ao n cap k _ (by omega) HC.out).mono ?_
  rintro e w1 ⟨r, k1, rfl, p0, p1, hk1, C1, g1⟩
  obtain ⟨m0, rfl⟩ := Int.eq_ofNat_of_zero_le p0
  have hm0 : m0 ≤ 6 := by omega
  have HC1 : Hid _ := C1
  have G1 : Hid _ := g1
  clear C1 g1 p0 p1
  go_wp2
  go_loopw [5, 6] (fun v i wr => ∃ (m k' : Nat) (L : List Int), i = .int .i64 m ∧ L.length + m ≤ 6 ∧ k' + 6 * m ≤ k + 2 + 36 ∧ Cur wr B b ao n cap k' ∧ wr.ownsRow w.heap.size 3 1 v L.length (ints L) ∧ w.grownBy wr (some b)) (fun _ i _ => (intOf i).toNat)
  case atStart => exact ⟨m0, k1, [], rfl, by simpa using hm0, by omega, HC1.out, World.ownsRow_nil _ _ _ _, G1.out⟩
  case round =>
    obtain ⟨m, k', L, rfl, hlm, hk', C2, own2, g2⟩ := hrel
    have HC2 : Hid _ := C2
    have OW2 : Hid _ := own2
    have G2 : Hid _ := g2
    clear C2 own2 g2
    by_cases hlt : 0 < m
    · have hltI : (0 : Int) < (m : Int) := by omega
      obtain ⟨m', rfl⟩ : ∃ m', m = m' + 1 := ⟨m - 1, by omega⟩
      by_cases h4 : 4 ≤ en
      · go_wp2_with fail
        refine (rune_any B b ao n cap k' _ (by omega) HC2.out).mono ?_
        rintro e w3 ⟨x, k3, rfl, hgx, hk3, C3, g3⟩
        have HCa : Hid _ := C3
        have G23 := g3
        have Ga : Hid _ := grown_trans' G2.out g3
        clear C3 g3 hgx
        go_wp2_with fail
        refine (one_any 2 B b ao n cap k3 _ (by omega) HCa.out).mono ?_
        rintro e w5 ⟨q, k5, rfl, hk5, C5, g5⟩
        have HC5 : Hid _ := C5
        have G25 := grown_trans' G23 g5
        have G5 : Hid _ := grown_trans' Ga.out g5
        clear C5 g5 G23
        cases q
        · have HC3 : Hid _ := HC5.out
          have G3 : Hid _ := G5.out
          have G23 := G25
          have hown3 := World.ownsRow.kept OW2.out G23 (own_ne_cur OW2.out hbw)
          have hsz : w.heap.size ≤ w5.heap.size := G3.out.size
          clear G23
          go_wp2_with (at_builtin; refine wpList_append_own _ rfl _ _ 28 rfl w.heap.size 3 i0 (.int .i64 0) 1 8 Tryd.underlying28 hi hz0 hz1 hz2 rfl (by decide) _ _ _ rfl (hown3.alloc _) ⟨w5.heap.size, 0, none⟩ 1 1 [.int .i64 x] rfl rfl ?c1 ?c2 ?c3 ?c4 ?c5 ?_)
          try (case c1 => exact cell_one_new _ _ _)
          case c2 => first | rfl | (intro u hu; simp at hu; subst hu; rfl)
          case c3 => unfold maxLen; omega
          case c4 => omega
          case c5 => first | omega | (simp; omega)
          intro v' w4 hown4 hgrow _
          have hal : Below w5.heap.size w5 (w5.alloc (.cells #[.int .i64 x] 3)) := (Below.refl _ _).alloc (Nat.le_refl _) _
          have HC4 : Hid (Cur w4 B b ao n cap k5) := Cur.grown (Cur.below HC3.out hal) hgrow (fun g hg => by have := (hown3.lt g hg).1; have := HBW.out; omega)
          have G4 : Hid (w.grownBy w4 (some b)) := grown_row G3.out (hown3.alloc _) hgrow
          have OW4 : Hid (w4.ownsRow w.heap.size 3 1 v' (L ++ [x]).length (ints (L ++ [x]))) := by
            show w4.ownsRow w.heap.size 3 1 v' (L ++ [x]).length (ints (L ++ [x]))
            simpa [ints] using hown4
          clear hown4 hgrow hown3 hal
          go_wp2
          go_roundw
          case rel => exact ⟨m', k5, L ++ [x], by go_num, by simp; omega, by omega, HC4.out, OW4.out, G4.out⟩
          case measure => simp [intOf]
        · have b5 : b < w5.heap.size := Nat.lt_of_lt_of_le hbw G5.out.size
          have HV : Hid _ := vals_new w5 b b5 _ (ints codL) rfl 3
          have HB : Hid (Below w5.heap.size w5 (w5.alloc (.cells (ints codL).toArray 3))) := (Below.refl _ _).alloc (Nat.le_refl _) _
          go_wp2_with fail
          refine (among_any codL _ _ _ _ ao n cap k5 _ (by omega) (by decide) (by decide) HV.out (Cur.below HC5.out HB.out)).mono ?_
          rintro e w6 ⟨y, k6, rfl, hy, hk6, C6, g6⟩
          have HC3 : Hid _ := C6
          have G23 := grown_trans' (grown_trans' G25 (grown_of_below HB.out (some b))) g6
          have G3 : Hid _ := grown_trans' (grown_trans' G5.out (grown_of_below HB.out (some b))) g6
          clear C6 g6 G25 hy
          have hown3 := World.ownsRow.kept OW2.out G23 (own_ne_cur OW2.out hbw)
          have hsz : w.heap.size ≤ w6.heap.size := G3.out.size
          clear G23
          go_wp2_with (at_builtin; refine wpList_append_own _ rfl _ _ 28 rfl w.heap.size 3 i0 (.int .i64 0) 1 8 Tryd.underlying28 hi hz0 hz1 hz2 rfl (by decide) _ _ _ rfl (hown3.alloc _) ⟨w6.heap.size, 0, none⟩ 1 1 [.int .i64 y] rfl rfl ?c1 ?c2 ?c3 ?c4 ?c5 ?_)
          try (case c1 => exact cell_one_new _ _ _)
          case c2 => first | rfl | (intro u hu; simp at hu; subst hu; rfl)
          case c3 => unfold maxLen; omega
          case c4 => omega
          case c5 => first | omega | (simp; omega)
          intro v' w4 hown4 hgrow _
          have hal : Below w6.heap.size w6 (w6.alloc (.cells #[.int .i64 y] 3)) := (Below.refl _ _).alloc (Nat.le_refl _) _
          have HC4 : Hid (Cur w4 B b ao n cap k6) := Cur.grown (Cur.below HC3.out hal) hgrow (fun g hg => by have := (hown3.lt g hg).1; have := HBW.out; omega)
          have G4 : Hid (w.grownBy w4 (some b)) := grown_row G3.out (hown3.alloc _) hgrow
          have OW4 : Hid (w4.ownsRow w.heap.size 3 1 v' (L ++ [y]).length (ints (L ++ [y]))) := by
            show w4.ownsRow w.heap.size 3 1 v' (L ++ [y]).length (ints (L ++ [y]))
            simpa [ints] using hown4
          clear hown4 hgrow hown3 hal
          go_wp2
          go_roundw
          case rel => exact ⟨m', k6, L ++ [y], by go_num, by simp; omega, by omega, HC4.out, OW4.out, G4.out⟩
          case measure => simp [intOf]
      · go_wp2_with fail
        refine (rune_any B b ao n cap k' _ (by omega) HC2.out).mono ?_
        rintro e w3 ⟨x, k3, rfl, hgx, hk3, C3, g3⟩
        have HC3 : Hid _ := C3
        have G23 := g3
        have G3 : Hid _ := grown_trans' G2.out g3
        clear C3 g3 hgx
        have hown3 := World.ownsRow.kept OW2.out G23 (own_ne_cur OW2.out hbw)
        have hsz : w.heap.size ≤ w3.heap.size := G3.out.size
        clear G23
        go_wp2_with (at_builtin; refine wpList_append_own _ rfl _ _ 28 rfl w.heap.size 3 i0 (.int .i64 0) 1 8 Tryd.underlying28 hi hz0 hz1 hz2 rfl (by decide) _ _ _ rfl (hown3.alloc _) ⟨w3.heap.size, 0, none⟩ 1 1 [.int .i64 x] rfl rfl ?c1 ?c2 ?c3 ?c4 ?c5 ?_)
        try (case c1 => exact cell_one_new _ _ _)
        case c2 => first | rfl | (intro u hu; simp at hu; subst hu; rfl)
        case c3 => unfold maxLen; omega
        case c4 => omega
        case c5 => first | omega | (simp; omega)
        intro v' w4 hown4 hgrow _
        have hal : Below w3.heap.size w3 (w3.alloc (.cells #[.int .i64 x] 3)) := (Below.refl _ _).alloc (Nat.le_refl _) _
        have HC4 : Hid (Cur w4 B b ao n cap k3) := Cur.grown (Cur.below HC3.out hal) hgrow (fun g hg => by have := (hown3.lt g hg).1; have := HBW.out; omega)
        have G4 : Hid (w.grownBy w4 (some b)) := grown_row G3.out (hown3.alloc _) hgrow
        have OW4 : Hid (w4.ownsRow w.heap.size 3 1 v' (L ++ [x]).length (ints (L ++ [x]))) := by
          show w4.ownsRow w.heap.size 3 1 v' (L ++ [x]).length (ints (L ++ [x]))
          simpa [ints] using hown4
        clear hown4 hgrow hown3 hal
        go_wp2
        go_roundw
        case rel => exact ⟨m', k3, L ++ [x], by go_num, by simp; omega, by omega, HC4.out, OW4.out, G4.out⟩
        case measure => simp [intOf]
    · clear hi hz0 hz1 hz2
      obtain rfl : m = 0 := by omega
      obtain ⟨_, la, lc, rfl, hA⟩ := ints_of_own OW2.out
      have HA : Hid _ := hA
      clear hA
      go_wp2_with fail
      refine (enc_any en L la lc _ (by omega) HA.out).mono ?_
      rintro e w5 ⟨rfl, b5⟩
      have hs0 := encA_size en L
      generalize encA en L = R at *
      obtain ⟨y, ri, rok⟩ := R
      have hs0' : y.size ≤ 1000 := hs0
      have HC5 : Hid _ := Cur.below HC2.out b5
      have G5 : Hid _ := grown_trans' G2.out (grown_of_below b5 (some b))
      clear b5 HA hs0
      go_upto_region 10 with fail
      go_cut [45] (fun sb wx => ∃ (q : Bool) (kx : Nat), sb = .bool q ∧ kx ≤ k' + 2 ∧ Cur wx B b ao n cap kx ∧ w.grownBy wx (some b))
      case first =>
        by_cases hz : y.size = 0
        · have hem := isEmpty_yes hz
          go_wp2
          go_meet
          exact ⟨true, k', rfl, by omega, HC5.out, G5.out⟩
        · have hem := isEmpty_no (s := y) (by omega)
          go_wp2_with fail
          refine (one_any 4 B b ao n cap k' _ (by omega) HC5.out).mono ?_
          rintro e w6 ⟨q, k6, rfl, hk6, C6, g6⟩
          have HC6 : Hid _ := C6
          have G6 : Hid _ := grown_trans' G5.out g6
          clear C6 g6
          go_wp2
          go_meet
          exact ⟨q, k6, rfl, by omega, HC6.out, G6.out⟩
      case rest =>
        obtain ⟨q, k6, rfl, hk6, C6, g6⟩ := hcut
        have HC6 : Hid _ := C6
        have G6 : Hid _ := g6
        clear C6 g6 HC5 G5
        go_upto_if 45 with fail
        go_cut [8] (fun sx wx => ∃ (z : ByteArray) (kx : Nat), sx = .string z ∧ z.size ≤ 1026 ∧ kx ≤ k' + 42 ∧ Cur wx B b ao n cap kx ∧ w.grownBy wx (some b))
        case first =>
          cases q
          · go_wp2
            go_meet
            exact ⟨y, k6, rfl, by omega, by omega, HC6.out, G6.out⟩
          · go_wp2_with fail
            refine (bytes_any B b ao n cap k6 _ (by omega) HC6.out).mono ?_
            rintro e w7 ⟨x, k7, rfl, hx, hk7, C7, g7⟩
            have HC7 : Hid _ := C7
            have G7 : Hid _ := grown_trans' G6.out g7
            clear C7 g7
            have hcat : ¬ 9223372036854775807 < y.size + x.size := by omega
            have hs1 := ByteArray.size_append (a := y) (b := x)
            go_wp2
            go_meet
            exact ⟨_, k7, rfl, by omega, by omega, HC7.out, G7.out⟩
        case rest =>
          clear HC6 G6 hs0'
          obtain ⟨y2, k7, rfl, hy7, hk7, C7, g7⟩ := hcut
          have HC7 : Hid _ := C7
          have G7 : Hid _ := g7
          clear C7 g7 hk6
          go_upto_region 12 with fail
          go_cut [56] (fun sb wx => ∃ (q : Bool) (kx : Nat), sb = .bool q ∧ (q = true → 0 < y2.size) ∧ kx ≤ k' + 44 ∧ Cur wx B b ao n cap kx ∧ w.grownBy wx (some b))
          case first =>
            by_cases hl : 0 < y2.size
            · have hlI : (0 : Int) < (y2.size : Int) := by omega
              go_wp2_with fail
              refine (one_any 4 B b ao n cap k7 _ (by omega) HC7.out).mono ?_
              rintro e w8 ⟨q, k8, rfl, hk8, C8, g8⟩
              have HC8 : Hid _ := C8
              have G8 : Hid _ := grown_trans' G7.out g8
              clear C8 g8
              go_wp2
              go_meet
              exact ⟨q, k8, rfl, fun _ => hl, by omega, HC8.out, G8.out⟩
            · have hlI : ¬ (0 : Int) < (y2.size : Int) := by omega
              go_wp2
              go_meet
              exact ⟨false, k7, (by first | rfl | simp [hlI]), (fun h => by cases h), by omega, HC7.out, G7.out⟩
          case rest =>
            obtain ⟨q, k8, rfl, hq, hk8, C8, g8⟩ := hcut
            have HC8 : Hid _ := C8
            have G8 : Hid _ := g8
            clear C8 g8 HC7 G7 hk7
            go_upto_if 56 with fail
            go_cut [8, 11] (fun sx sy wx => ∃ (z : ByteArray) (kx : Nat), sx = .string z ∧ z.size ≤ 1026 ∧ kx ≤ k' + 46 ∧ Cur wx B b ao n cap kx ∧ w.grownBy wx (some b))
            case first =>
              cases q
              · go_wp2
                go_meet
                exact ⟨y2, k8, rfl, by omega, by omega, HC8.out, G8.out⟩
              · have hl := hq rfl
                go_wp2_with fail
                refine (pick_any y2.size B b ao n cap k8 _ (by omega) HC8.out).mono ?_
                rintro e w9 ⟨r, k9, rfl, p0, p1, hk9, C9, g9⟩
                obtain ⟨i, rfl⟩ := Int.eq_ofNat_of_zero_le p0
                have hi' : i < y2.size := by omega
                have HC9 : Hid _ := C9
                have G9 : Hid _ := grown_trans' G8.out g9
                clear C9 g9 p0 p1
                have s1 := slice_head y2 i (by omega)
                have s2 := slice_from y2 (i + 1) ((i : Int) + 1) (by omega) (by omega)
                have z1 := head_size y2 i (by omega)
                have z2 := from_size y2 (i + 1)
                have hcat : ¬ 9223372036854775807 < (y2.extract 0 i).size + (y2.extract (i + 1) y2.size).size := by rw [z1, z2]; omega
                have hs2 : (y2.extract 0 i ++ y2.extract (i + 1) y2.size).size ≤ 1026 := by rw [ByteArray.size_append, z1, z2]; omega
                clear z1 z2
                generalize y2.extract 0 i = sa at *
                generalize y2.extract (i + 1) y2.size = sb at *
                go_wp2
                go_quiet (fail)
                go_wp2
                go_meet
                exact ⟨_, k9, rfl, hs2, by omega, Cur.below HC9.out (below_drewN (Below.refl _ _) _), grown_trans' G9.out (grown_of_below (below_drewN (Below.refl _ _) _) (some b))⟩
            case rest =>
              clear HC8 G8 hq hy7
              obtain ⟨y3, k9, rfl, hy9, hk9, C9, g9⟩ := hcut
              have HC9 : Hid _ := C9
              have G9 : Hid _ := g9
              clear C9 g9 hk8
              go_wp2_with fail
              refine (one_any 6 B b ao n cap k9 _ (by omega) HC9.out).mono ?_
              rintro e wz ⟨q, kz, rfl, hkz, Cz, gz⟩
              have HCz : Hid _ := Cz
              have Gz : Hid _ := grown_trans' G9.out gz
              clear Cz gz HC9 G9
              have bz : b < wz.heap.size := Nat.lt_of_lt_of_le hbw Gz.out.size
              have HV : Hid _ := vals_new wz b bz _ (tailL.map Value.string) rfl 9
              have HB : Hid (Below wz.heap.size wz (wz.alloc (.cells (tailL.map Value.string).toArray 9))) := (Below.refl _ _).alloc (Nat.le_refl _) _
              cases q
              · go_wp2
                go_ret
                exact ⟨_, kz, rfl, by omega, by omega, HCz.out, Gz.out⟩
              · go_wp2_with fail
                refine (of_any tailL _ _ _ _ ao n cap kz _ (by omega) (by decide) (by decide) HV.out (Cur.below HCz.out HB.out)).mono ?_
                rintro e wy ⟨t, ky, rfl, hy, hky, Cy, gy⟩
                have hy2 := tailL_size t hy
                have HCy : Hid _ := Cy
                have Gy : Hid _ := grown_trans' (grown_trans' Gz.out (grown_of_below HB.out (some b))) gy
                clear Cy gy hy
                have hcat : ¬ 9223372036854775807 < y3.size + t.size := by omega
                have hss := ByteArray.size_append (a := y3) (b := t)
                go_wp2
                go_ret
                exact ⟨_, ky, rfl, by omega, by omega, HCy.out, Gy.out⟩
end Go.Proofs.YtjnnikbgpjiecaaDoor

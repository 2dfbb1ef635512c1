/-
  For every two lists of bytes, laws.FnChunks returns true: bytes that come in two pieces become the same runes as all at once, with as many bytes each, for a drawn decoder and drawn bytes; and both decoders tell the same. Condition: the two package-level tables of forms hold what the program's text lays in them (tied to the text by the given card).
-/
import Derived.Test.YtcclollclbegoaaDoorUtf
import Derived.Test.YtcclollclbegoaaDoorTie
import Derived.Test.YtcclollclbegoaaDoorCards
import Derived.ProofKit
import Derived.LaidMore
import Derived.OpenShut
import Derived.OpenVars
import Derived.Stop.Joined
import Derived.Stop.LaidErr
import Derived.Lib.LaidTab
import Derived.SevenTiedAt
import Derived.Test.YtcclollclbegoaaDoorD2Guess
import Derived.Test.YtcclollclbegoaaDoorDraw
import Derived.Deep.DeepCutAuto
import Derived.Test.YtcclollclbegoaaDoorI2Clone
import Derived.Test.YtcclollclbegoaaDoorD2Dec
import Derived.Deep.RegionHeld
import Derived.Test.YtcclollclbegoaaDoorD2FeedD
import Derived.Test.YtcclollclbegoaaDoorD2Enc
import Derived.Test.YtcclollclbegoaaDoorD2DecA
import Derived.Test.YtcclollclbegoaaDoorI2Feed1
import Derived.Test.YtcclollclbegoaaDoorI2Feed2
import Derived.Test.YtcclollclbegoaaDoorI2Feed3
import Derived.Test.YtcclollclbegoaaDoorI2Feed4
import Derived.Test.YtcclollclbegoaaDoorI2Feed5
import Derived.Test.YtcclollclbegoaaDoorI2Good
import Derived.Test.YtcclollclbegoaaDoorMarks2
import Derived.ChangeOld
namespace Go.Proofs.YtcclollclbegoaaDoor
open Go.ChangeShapes Go.WideShapes Go.ChangeAt Go.WideMaps Go.WideElems Go.RowKit
theorem own : ownKnob Tryd.prog.godebug = none := by kernel_rfl
theorem laidOut : laidOutB Tryd.prog = true := by kernel_rfl
def laid2 : List (String × DataW Unit) := [("loop.example/g00692/impl.formLeast", Rows.laid_loop_example_g00692_impl_formLeast), ("loop.example/g00692/impl.formLead", Rows.laid_loop_example_g00692_impl_formLead)]
def vars2 : List String := ["loop.example/g00692/impl.formLead", "loop.example/g00692/impl.formLeast"]
theorem gLead : Tryd.prog.globalNamed "loop.example/g00692/impl.formLead" = some 0 := by kernel_rfl
theorem gLeast : Tryd.prog.globalNamed "loop.example/g00692/impl.formLeast" = some 1 := by kernel_rfl
theorem tLead : (Tryd.prog.globals[0]?).map (·.type) = some 111 := by kernel_rfl
theorem tLeast : (Tryd.prog.globals[1]?).map (·.type) = some 111 := by kernel_rfl
theorem Tryd.cells3 : Tryd.prog.cellsOf 3 = 1 := by kernel_rfl
theorem Tryd.cellsArr4 : Tryd.prog.cellsOf 111 = 4 := by kernel_rfl
theorem door_met (os : Os) (args : Array Value) : laidMetH Tryd.prog laid2 ((World.doorLaid Tryd.prog 400 os).forCall (fun _ _ => 0) ⟨#[], args, []⟩).memory :=
  laidMetH_of_parts3 (fuel := 8) (laidMet_of_run' 8 (by kernel_rfl) (by kernel_rfl)) (by kernel_rfl) (by kernel_rfl)
theorem tabs_of_laid {W : World} (h : laidMetH Tryd.prog laid2 W) : Tabs W := by
  rw [MakeChecks.laidMetH_plain _ _ _ (by kernel_rfl)] at h
  have h1 : Lib.TabIs Tryd.prog W "loop.example/g00692/impl.formLeast" .i64 [0, 128, 2048, 65536] := Lib.tabIs_of_head gLeast tLeast Tryd.underlying111 Tryd.underlying3 Tryd.cells3 Tryd.cellsArr4 h
  have h2 : Lib.TabIs Tryd.prog W "loop.example/g00692/impl.formLead" .i64 [0, 192, 224, 240] := Lib.tabIs_of_head gLead tLead Tryd.underlying111 Tryd.underlying3 Tryd.cells3 Tryd.cellsArr4 (laidMet.tail h)
  have c := h1.cell gLeast 0 (by decide)
  have c' := h2.cell gLead 0 (by decide)
  have hb := World.block_lt_of_cell? W ⟨1, 0, none⟩ c
  have hb' := World.block_lt_of_cell? W ⟨0, 0, none⟩ c'
  exact ⟨c', h2.cell gLead 1 (by decide), h2.cell gLead 2 (by decide), h2.cell gLead 3 (by decide), c, h1.cell gLeast 1 (by decide), h1.cell gLeast 2 (by decide), h1.cell gLeast 3 (by decide), hb', hb⟩
end Go.Proofs.YtcclollclbegoaaDoor
namespace Go.Proofs.YtcclollclbegoaaDoor
open Go.ChangeShapes Go.WideShapes Go.ChangeAt Go.RowKit
def enL : List Int := [1, 1, 2, 3, 4, 5, 5, 1, 2, 3, 5, 0, 6]
def codL : List Int := [97, 122, 7, 200, 12352, 12400, 12446]
def tailL : List ByteArray := [⟨#[216, 61]⟩, ⟨#[61, 216]⟩, ⟨#[222, 0]⟩, ⟨#[14]⟩, ⟨#[15, 97]⟩, ⟨#[255]⟩]
theorem tailL_size (y : ByteArray) (h : y ∈ tailL) : y.size ≤ 2 := by
  simp only [tailL, List.mem_cons, List.not_mem_nil, or_false] at h
  rcases h with rfl | rfl | rfl | rfl | rfl | rfl <;> decide
set_option maxRecDepth 100000 in
set_option maxHeartbeats 1000000 in
theorem cen_any (B b : Nat) (ao : Option Addr) (n cap k : Nat) (w : World) (hk : k ≤ 900) (h : Cur w B b ao n cap k) :
    Calls Tryd.prog 50 #[.pointer (some ⟨b, 0, none⟩)] w fun e w' => ∃ (r : Int) (k' : Nat), e = .returned (.int .i64 r) ∧ 0 ≤ r ∧ r ≤ 6 ∧ k' ≤ k + 2 ∧ Cur w' B b ao n cap k' ∧ w.grownBy w' (some b) := by
  have hbw : b < w.heap.size := Nat.lt_of_lt_of_le h.lt h.le
  have HC : Hid _ := h
  have HV : Hid _ := vals_new w b hbw _ (ints enL) rfl 3
  have HB : Hid (Below w.heap.size w (w.alloc (.cells (ints enL).toArray 3))) := (Below.refl _ _).alloc (Nat.le_refl _) _
  clear h
  go_enter Tryd.func50, Tryd.ntmps50
  go_wp2_with fail
  refine (among_any enL _ _ _ _ ao n cap k _ hk (by decide) (by decide) HV.out (Cur.below HC.out HB.out)).mono ?_
  rintro e w2 ⟨r, k2, rfl, hr, hk2, C2, g2⟩
  have hr2 : 0 ≤ r ∧ r ≤ 6 := by
    simp only [enL, List.mem_cons, List.not_mem_nil, or_false] at hr
    omega
  have HC2 : Hid _ := C2
  have G2 : Hid _ := grown_trans' (grown_of_below HB.out (some b)) g2
  clear C2 g2 hr
  go_wp2
  go_ret
  exact ⟨r, k2, rfl, hr2.1, hr2.2, hk2, HC2.out, G2.out⟩
theorem encA_size (en : Int) (L : List Int) : (encA en L).s.size ≤ 1000 := by
  have go : ∀ (M : List Int) (k : Nat) (sh : Int) (s : ByteArray), (encGo en M k sh s).s.size ≤ 1000 := by
    intro M
    induction M with
    | nil =>
      intro k sh s
      show (encEnd sh s).s.size ≤ 1000
      by_cases h : (if sh = 1 then s ++ strOfNums [15] else s).size ≤ 1000
      · rw [encEnd, if_pos h]; exact h
      · rw [encEnd, if_neg h]; exact Nat.zero_le _
    | cons r M ih =>
      intro k sh s
      unfold encGo
      split
      · exact ih _ _ _
      · exact Nat.zero_le _
  unfold encA
  split
  · exact go _ _ _ _
  · exact Nat.zero_le _
/-- The lists that the loop of coded makes. -/
theorem grown_row {w w3 w4 : World} {b : Nat} {v : Value} {nn : Nat} {xs : List Value} {o : Obj} (G3 : w.grownBy w3 (some b)) (hown : (w3.alloc o).ownsRow w.heap.size 3 1 v nn xs) (hg : (w3.alloc o).grownBy w4 v.ownBlock) : w.grownBy w4 (some b) := by
  have ga := grown_trans' G3 (grown_of_below ((Below.refl w3.heap.size w3).alloc (Nat.le_refl _) o) (some b))
  exact ⟨hg.os.trans ga.os, hg.tape.trans ga.tape, hg.output.trans ga.output, Nat.le_trans ga.size hg.size, fun i hi hn => (hg.block i (Nat.lt_of_lt_of_le hi ga.size) (fun e => by have := (hown.lt i e.symm).1; omega)).trans (ga.block i hi hn)⟩
end Go.Proofs.YtcclollclbegoaaDoor
namespace Go.Proofs.YtcclollclbegoaaDoor
open Go.ChangeShapes Go.WideShapes Go.ChangeAt Go.RowKit
set_option maxRecDepth 100000 in
set_option maxHeartbeats 8000000 in
theorem coded_any (en : Int) (B b : Nat) (ao : Option Addr) (n cap k : Nat) (w : World) (hk : k ≤ 300) (h : Cur w B b ao n cap k) :
    Calls Tryd.prog 35 #[.pointer (some ⟨b, 0, none⟩), .int .i64 en] w fun e w' => ∃ (s : ByteArray) (k' : Nat), e = .returned (.string s) ∧ s.size ≤ 1028 ∧ k' ≤ k + 100 ∧ Cur w' B b ao n cap k' ∧ w.grownBy w' (some b) := by
  obtain ⟨i0, hi, hz0, hz1, hz2⟩ := info_parts Tryd.info3
  have hbw : b < w.heap.size := Nat.lt_of_lt_of_le h.lt h.le
  have HBW : Hid _ := h.le
  have HC : Hid _ := h
  clear h
  go_enter Tryd.func35, Tryd.ntmps35
  go_wp2_with fail
  refine (pick_any 7 B b ao n cap k _ (by omega) HC.out).mono ?_
  rintro e w1 ⟨r, k1, rfl, p0, p1, hk1, C1, g1⟩
  obtain ⟨m0, rfl⟩ := Int.eq_ofNat_of_zero_le p0
  have hm0 : m0 ≤ 6 := by omega
  have HC1 : Hid _ := C1
  have G1 : Hid _ := g1
  clear C1 g1 p0 p1
  go_wp2
  go_loopw [5, 6] (fun v i wr => ∃ (m k' : Nat) (L : List Int), i = .int .i64 m ∧ L.length + m ≤ 6 ∧ k' + 6 * m ≤ k + 2 + 36 ∧ Cur wr B b ao n cap k' ∧ wr.ownsRow w.heap.size 3 1 v L.length (ints L) ∧ w.grownBy wr (some b)) (fun _ i _ => (intOf i).toNat)
  case atStart => exact ⟨m0, k1, [], rfl, by simpa using hm0, by omega, HC1.out, World.ownsRow_nil _ _ _ _, G1.out⟩
  case round =>
    obtain ⟨m, k', L, rfl, hlm, hk', C2, own2, g2⟩ := hrel
    have HC2 : Hid _ := C2
    have OW2 : Hid _ := own2
    have G2 : Hid _ := g2
    clear C2 own2 g2
    by_cases hlt : 0 < m
    · have hltI : (0 : Int) < (m : Int) := by omega
      obtain ⟨m', rfl⟩ : ∃ m', m = m' + 1 := ⟨m - 1, by omega⟩
      by_cases h4 : 4 ≤ en
      · go_wp2_with fail
        refine (rune_any B b ao n cap k' _ (by omega) HC2.out).mono ?_
        rintro e w3 ⟨x, k3, rfl, hgx, hk3, C3, g3⟩
        have HCa : Hid _ := C3
        have G23 := g3
        have Ga : Hid _ := grown_trans' G2.out g3
        clear C3 g3 hgx
        go_wp2_with fail
        refine (one_any 2 B b ao n cap k3 _ (by omega) HCa.out).mono ?_
        rintro e w5 ⟨q, k5, rfl, hk5, C5, g5⟩
        have HC5 : Hid _ := C5
        have G25 := grown_trans' G23 g5
        have G5 : Hid _ := grown_trans' Ga.out g5
        clear C5 g5 G23
        cases q
        · have HC3 : Hid _ := HC5.out
          have G3 : Hid _ := G5.out
          have G23 := G25
          have hown3 := World.ownsRow.kept OW2.out G23 (own_ne_cur OW2.out hbw)
          have hsz : w.heap.size ≤ w5.heap.size := G3.out.size
          clear G23
          go_wp2_with (at_builtin; refine wpList_append_own _ rfl _ _ 28 rfl w.heap.size 3 i0 (.int .i64 0) 1 8 Tryd.underlying28 hi hz0 hz1 hz2 rfl (by decide) _ _ _ rfl (hown3.alloc _) ⟨w5.heap.size, 0, none⟩ 1 1 [.int .i64 x] rfl rfl ?c1 ?c2 ?c3 ?c4 ?c5 ?_)
          try (case c1 => exact cell_one_new _ _ _)
          case c2 => first | rfl | (intro u hu; simp at hu; subst hu; rfl)
          case c3 => unfold maxLen; omega
          case c4 => omega
          case c5 => first | omega | (simp; omega)
          intro v' w4 hown4 hgrow _
          have hal : Below w5.heap.size w5 (w5.alloc (.cells #[.int .i64 x] 3)) := (Below.refl _ _).alloc (Nat.le_refl _) _
          have HC4 : Hid (Cur w4 B b ao n cap k5) := Cur.grown (Cur.below HC3.out hal) hgrow (fun g hg => by have := (hown3.lt g hg).1; have := HBW.out; omega)
          have G4 : Hid (w.grownBy w4 (some b)) := grown_row G3.out (hown3.alloc _) hgrow
          have OW4 : Hid (w4.ownsRow w.heap.size 3 1 v' (L ++ [x]).length (ints (L ++ [x]))) := by
            show w4.ownsRow w.heap.size 3 1 v' (L ++ [x]).length (ints (L ++ [x]))
            simpa [ints] using hown4
          clear hown4 hgrow hown3 hal
          go_wp2
          go_roundw
          case rel => exact ⟨m', k5, L ++ [x], by go_num, by simp; omega, by omega, HC4.out, OW4.out, G4.out⟩
          case measure => simp [intOf]
        · have b5 : b < w5.heap.size := Nat.lt_of_lt_of_le hbw G5.out.size
          have HV : Hid _ := vals_new w5 b b5 _ (ints codL) rfl 3
          have HB : Hid (Below w5.heap.size w5 (w5.alloc (.cells (ints codL).toArray 3))) := (Below.refl _ _).alloc (Nat.le_refl _) _
          go_wp2_with fail
          refine (among_any codL _ _ _ _ ao n cap k5 _ (by omega) (by decide) (by decide) HV.out (Cur.below HC5.out HB.out)).mono ?_
          rintro e w6 ⟨y, k6, rfl, hy, hk6, C6, g6⟩
          have HC3 : Hid _ := C6
          have G23 := grown_trans' (grown_trans' G25 (grown_of_below HB.out (some b))) g6
          have G3 : Hid _ := grown_trans' (grown_trans' G5.out (grown_of_below HB.out (some b))) g6
          clear C6 g6 G25 hy
          have hown3 := World.ownsRow.kept OW2.out G23 (own_ne_cur OW2.out hbw)
          have hsz : w.heap.size ≤ w6.heap.size := G3.out.size
          clear G23
          go_wp2_with (at_builtin; refine wpList_append_own _ rfl _ _ 28 rfl w.heap.size 3 i0 (.int .i64 0) 1 8 Tryd.underlying28 hi hz0 hz1 hz2 rfl (by decide) _ _ _ rfl (hown3.alloc _) ⟨w6.heap.size, 0, none⟩ 1 1 [.int .i64 y] rfl rfl ?c1 ?c2 ?c3 ?c4 ?c5 ?_)
          try (case c1 => exact cell_one_new _ _ _)
          case c2 => first | rfl | (intro u hu; simp at hu; subst hu; rfl)
          case c3 => unfold maxLen; omega
          case c4 => omega
          case c5 => first | omega | (simp; omega)
          intro v' w4 hown4 hgrow _
          have hal : Below w6.heap.size w6 (w6.alloc (.cells #[.int .i64 y] 3)) := (Below.refl _ _).alloc (Nat.le_refl _) _
          have HC4 : Hid (Cur w4 B b ao n cap k6) := Cur.grown (Cur.below HC3.out hal) hgrow (fun g hg => by have := (hown3.lt g hg).1; have := HBW.out; omega)
          have G4 : Hid (w.grownBy w4 (some b)) := grown_row G3.out (hown3.alloc _) hgrow
          have OW4 : Hid (w4.ownsRow w.heap.size 3 1 v' (L ++ [y]).length (ints (L ++ [y]))) := by
            show w4.ownsRow w.heap.size 3 1 v' (L ++ [y]).length (ints (L ++ [y]))
            simpa [ints] using hown4
          clear hown4 hgrow hown3 hal
          go_wp2
          go_roundw
          case rel => exact ⟨m', k6, L ++ [y], by go_num, by simp; omega, by omega, HC4.out, OW4.out, G4.out⟩
          case measure => simp [intOf]
      · go_wp2_with fail
        refine (rune_any B b ao n cap k' _ (by omega) HC2.out).mono ?_
        rintro e w3 ⟨x, k3, rfl, hgx, hk3, C3, g3⟩
        have HC3 : Hid _ := C3
        have G23 := g3
        have G3 : Hid _ := grown_trans' G2.out g3
        clear C3 g3 hgx
        have hown3 := World.ownsRow.kept OW2.out G23 (own_ne_cur OW2.out hbw)
        have hsz : w.heap.size ≤ w3.heap.size := G3.out.size
        clear G23
        go_wp2_with (at_builtin; refine wpList_append_own _ rfl _ _ 28 rfl w.heap.size 3 i0 (.int .i64 0) 1 8 Tryd.underlying28 hi hz0 hz1 hz2 rfl (by decide) _ _ _ rfl (hown3.alloc _) ⟨w3.heap.size, 0, none⟩ 1 1 [.int .i64 x] rfl rfl ?c1 ?c2 ?c3 ?c4 ?c5 ?_)
        try (case c1 => exact cell_one_new _ _ _)
        case c2 => first | rfl | (intro u hu; simp at hu; subst hu; rfl)
        case c3 => unfold maxLen; omega
        case c4 => omega
        case c5 => first | omega | (simp; omega)
        intro v' w4 hown4 hgrow _
        have hal : Below w3.heap.size w3 (w3.alloc (.cells #[.int .i64 x] 3)) := (Below.refl _ _).alloc (Nat.le_refl _) _
        have HC4 : Hid (Cur w4 B b ao n cap k3) := Cur.grown (Cur.below HC3.out hal) hgrow (fun g hg => by have := (hown3.lt g hg).1; have := HBW.out; omega)
        have G4 : Hid (w.grownBy w4 (some b)) := grown_row G3.out (hown3.alloc _) hgrow
        have OW4 : Hid (w4.ownsRow w.heap.size 3 1 v' (L ++ [x]).length (ints (L ++ [x]))) := by
          show w4.ownsRow w.heap.size 3 1 v' (L ++ [x]).length (ints (L ++ [x]))
          simpa [ints] using hown4
        clear hown4 hgrow hown3 hal
        go_wp2
        go_roundw
        case rel => exact ⟨m', k3, L ++ [x], by go_num, by simp; omega, by omega, HC4.out, OW4.out, G4.out⟩
        case measure => simp [intOf]
    · clear hi hz0 hz1 hz2
      obtain rfl : m = 0 := by omega
      obtain ⟨_, la, lc, rfl, hA⟩ := ints_of_own OW2.out
      have HA : Hid _ := hA
      clear hA
      go_wp2_with fail
      refine (enc_any en L la lc _ (by omega) HA.out).mono ?_
      rintro e w5 ⟨rfl, b5⟩
      have hs0 := encA_size en L
      generalize encA en L = R at *
      obtain ⟨y, ri, rok⟩ := R
      have hs0' : y.size ≤ 1000 := hs0
      have HC5 : Hid _ := Cur.below HC2.out b5
      have G5 : Hid _ := grown_trans' G2.out (grown_of_below b5 (some b))
      clear b5 HA hs0
      go_upto_region 10 with fail
      go_cut [45] (fun sb wx => ∃ (q : Bool) (kx : Nat), sb = .bool q ∧ kx ≤ k' + 2 ∧ Cur wx B b ao n cap kx ∧ w.grownBy wx (some b))
      case first =>
        by_cases hz : y.size = 0
        · have hem := isEmpty_yes hz
          go_wp2
          go_meet
          exact ⟨true, k', rfl, by omega, HC5.out, G5.out⟩
        · have hem := isEmpty_no (s := y) (by omega)
          go_wp2_with fail
          refine (one_any 4 B b ao n cap k' _ (by omega) HC5.out).mono ?_
          rintro e w6 ⟨q, k6, rfl, hk6, C6, g6⟩
          have HC6 : Hid _ := C6
          have G6 : Hid _ := grown_trans' G5.out g6
          clear C6 g6
          go_wp2
          go_meet
          exact ⟨q, k6, rfl, by omega, HC6.out, G6.out⟩
      case rest =>
        obtain ⟨q, k6, rfl, hk6, C6, g6⟩ := hcut
        have HC6 : Hid _ := C6
        have G6 : Hid _ := g6
        clear C6 g6 HC5 G5
        go_upto_if 45 with fail
        go_cut [8] (fun sx wx => ∃ (z : ByteArray) (kx : Nat), sx = .string z ∧ z.size ≤ 1026 ∧ kx ≤ k' + 42 ∧ Cur wx B b ao n cap kx ∧ w.grownBy wx (some b))
        case first =>
          cases q
          · go_wp2
            go_meet
            exact ⟨y, k6, rfl, by omega, by omega, HC6.out, G6.out⟩
          · go_wp2_with fail
            refine (bytes_any B b ao n cap k6 _ (by omega) HC6.out).mono ?_
            rintro e w7 ⟨x, k7, rfl, hx, hk7, C7, g7⟩
            have HC7 : Hid _ := C7
            have G7 : Hid _ := grown_trans' G6.out g7
            clear C7 g7
            have hcat : ¬ 9223372036854775807 < y.size + x.size := by omega
            have hs1 := ByteArray.size_append (a := y) (b := x)
            go_wp2
            go_meet
            exact ⟨_, k7, rfl, by omega, by omega, HC7.out, G7.out⟩
        case rest =>
          clear HC6 G6 hs0'
          obtain ⟨y2, k7, rfl, hy7, hk7, C7, g7⟩ := hcut
          have HC7 : Hid _ := C7
          have G7 : Hid _ := g7
          clear C7 g7 hk6
          go_upto_region 12 with fail
          go_cut [56] (fun sb wx => ∃ (q : Bool) (kx : Nat), sb = .bool q ∧ (q = true → 0 < y2.size) ∧ kx ≤ k' + 44 ∧ Cur wx B b ao n cap kx ∧ w.grownBy wx (some b))
          case first =>
            by_cases hl : 0 < y2.size
            · have hlI : (0 : Int) < (y2.size : Int) := by omega
              go_wp2_with fail
              refine (one_any 4 B b ao n cap k7 _ (by omega) HC7.out).mono ?_
              rintro e w8 ⟨q, k8, rfl, hk8, C8, g8⟩
              have HC8 : Hid _ := C8
              have G8 : Hid _ := grown_trans' G7.out g8
              clear C8 g8
              go_wp2
              go_meet
              exact ⟨q, k8, rfl, fun _ => hl, by omega, HC8.out, G8.out⟩
            · have hlI : ¬ (0 : Int) < (y2.size : Int) := by omega
              go_wp2
              go_meet
              exact ⟨false, k7, (by first | rfl | simp [hlI]), (fun h => by cases h), by omega, HC7.out, G7.out⟩
          case rest =>
            obtain ⟨q, k8, rfl, hq, hk8, C8, g8⟩ := hcut
            have HC8 : Hid _ := C8
            have G8 : Hid _ := g8
            clear C8 g8 HC7 G7 hk7
            go_upto_if 56 with fail
            go_cut [8, 11] (fun sx sy wx => ∃ (z : ByteArray) (kx : Nat), sx = .string z ∧ z.size ≤ 1026 ∧ kx ≤ k' + 46 ∧ Cur wx B b ao n cap kx ∧ w.grownBy wx (some b))
            case first =>
              cases q
              · go_wp2
                go_meet
                exact ⟨y2, k8, rfl, by omega, by omega, HC8.out, G8.out⟩
              · have hl := hq rfl
                go_wp2_with fail
                refine (pick_any y2.size B b ao n cap k8 _ (by omega) HC8.out).mono ?_
                rintro e w9 ⟨r, k9, rfl, p0, p1, hk9, C9, g9⟩
                obtain ⟨i, rfl⟩ := Int.eq_ofNat_of_zero_le p0
                have hi' : i < y2.size := by omega
                have HC9 : Hid _ := C9
                have G9 : Hid _ := grown_trans' G8.out g9
                clear C9 g9 p0 p1
                have s1 := slice_head y2 i (by omega)
                have s2 := slice_from y2 (i + 1) ((i : Int) + 1) (by omega) (by omega)
                have z1 := head_size y2 i (by omega)
                have z2 := from_size y2 (i + 1)
                have hcat : ¬ 9223372036854775807 < (y2.extract 0 i).size + (y2.extract (i + 1) y2.size).size := by rw [z1, z2]; omega
                have hs2 : (y2.extract 0 i ++ y2.extract (i + 1) y2.size).size ≤ 1026 := by rw [ByteArray.size_append, z1, z2]; omega
                clear z1 z2
                generalize y2.extract 0 i = sa at *
                generalize y2.extract (i + 1) y2.size = sb at *
                go_wp2
                go_quiet (fail)
                go_wp2
                go_meet
                exact ⟨_, k9, rfl, hs2, by omega, Cur.below HC9.out (below_drewN (Below.refl _ _) _), grown_trans' G9.out (grown_of_below (below_drewN (Below.refl _ _) _) (some b))⟩
            case rest =>
              clear HC8 G8 hq hy7
              obtain ⟨y3, k9, rfl, hy9, hk9, C9, g9⟩ := hcut
              have HC9 : Hid _ := C9
              have G9 : Hid _ := g9
              clear C9 g9 hk8
              go_wp2_with fail
              refine (one_any 6 B b ao n cap k9 _ (by omega) HC9.out).mono ?_
              rintro e wz ⟨q, kz, rfl, hkz, Cz, gz⟩
              have HCz : Hid _ := Cz
              have Gz : Hid _ := grown_trans' G9.out gz
              clear Cz gz HC9 G9
              have bz : b < wz.heap.size := Nat.lt_of_lt_of_le hbw Gz.out.size
              have HV : Hid _ := vals_new wz b bz _ (tailL.map Value.string) rfl 9
              have HB : Hid (Below wz.heap.size wz (wz.alloc (.cells (tailL.map Value.string).toArray 9))) := (Below.refl _ _).alloc (Nat.le_refl _) _
              cases q
              · go_wp2
                go_ret
                exact ⟨_, kz, rfl, by omega, by omega, HCz.out, Gz.out⟩
              · go_wp2_with fail
                refine (of_any tailL _ _ _ _ ao n cap kz _ (by omega) (by decide) (by decide) HV.out (Cur.below HCz.out HB.out)).mono ?_
                rintro e wy ⟨t, ky, rfl, hy, hky, Cy, gy⟩
                have hy2 := tailL_size t hy
                have HCy : Hid _ := Cy
                have Gy : Hid _ := grown_trans' (grown_trans' Gz.out (grown_of_below HB.out (some b))) gy
                clear Cy gy hy
                have hcat : ¬ 9223372036854775807 < y3.size + t.size := by omega
                have hss := ByteArray.size_append (a := y3) (b := t)
                go_wp2
                go_ret
                exact ⟨_, ky, rfl, by omega, by omega, HCy.out, Gy.out⟩
end Go.Proofs.YtcclollclbegoaaDoor
namespace Go.Proofs.YtcclollclbegoaaDoor
open Go.ChangeShapes Go.WideShapes Go.ChangeAt Go.RowKit
/-- A drawn decoder is small. -/
structure SmallD (en sh lo : Int) (held : ByteArray) : Prop where
  e : 0 ≤ en ∧ en ≤ 6
  s : 0 ≤ sh ∧ sh ≤ 2
  l : -1 ≤ lo ∧ lo ≤ 1001
  h : held.size ≤ 3
theorem small_good {en sh lo : Int} {held : ByteArray} (h : goodD en sh lo held = true) : SmallD en sh lo held := by
  obtain ⟨h1, h2, h3, _, h5, _⟩ := goodD_facts h
  exact ⟨by omega, by omega, by omega, h5⟩
theorem small_zero : SmallD 0 0 0 ⟨#[]⟩ := ⟨by omega, by omega, by omega, Nat.zero_le _⟩
theorem sfeed_some (en sh lo : Int) (held s : ByteArray) (w : World) :
    Calls Tryd.prog 10 #[decV en sh lo held, .string s] w fun e w' => ∃ (e1 s1 l1 : Int) (h1 : ByteArray) (v1 v2 : Value) (ok : Bool), e = .returned (.tuple #[decV e1 s1 l1 h1, v1, v2, .bool ok]) ∧ SmallD e1 s1 l1 h1 ∧ Below w.heap.size w w' := by
  cases hg : goodD en sh lo held
  · exact (feedD_bad en sh lo held s w hg).mono fun e w' ⟨he, hb⟩ => ⟨_, _, _, _, _, _, _, he, small_zero, hb⟩
  · by_cases hs : s.size ≤ 1000
    · cases hx : goodD en (feedD en sh lo held s).sh (feedD en sh lo held s).lo (feedD en sh lo held s).held
      · exact (feedD_over en sh lo held s w hg hs _ rfl hx).mono fun e w' ⟨he, hb⟩ => ⟨_, _, _, _, _, _, _, he, small_zero, hb⟩
      · exact (feedD_yes en sh lo held s w hg hs _ rfl hx).mono fun e w' ⟨v1, v2, he, _, hb⟩ => ⟨_, _, _, _, _, _, _, he, small_good hx, hb⟩
    · exact (feedD_long en sh lo held s w hg hs).mono fun e w' ⟨he, hb⟩ => ⟨_, _, _, _, _, _, _, he, small_zero, hb⟩
theorem snew_some (en : Int) (w : World) (h : 0 ≤ en ∧ en ≤ 6) :
    Calls Tryd.prog 30 #[.int .i64 en] w fun e w' => ∃ (e1 : Int) (ok : Bool), e = .returned (.tuple #[decV e1 0 0 ⟨#[]⟩, .bool ok]) ∧ 0 ≤ e1 ∧ e1 ≤ 6 ∧ Below w.heap.size w w' := by
  cases hc : codeB en
  · exact (new_no en w hc).mono fun e w' ⟨he, hb⟩ => ⟨0, false, he, by omega, by omega, hb⟩
  · exact (new_yes en w hc).mono fun e w' ⟨he, hb⟩ => ⟨en, true, he, h.1, h.2, hb⟩
theorem cells4 {w : World} {D : Nat} {en sh lo : Int} {held : ByteArray} (h : DecAt w D en sh lo held) : w.cell? ⟨D, 0, none⟩ = some (.int .i64 en) ∧ w.cell? ⟨D, 1, none⟩ = some (.int .i64 sh) ∧ w.cell? ⟨D, 2, none⟩ = some (.int .i64 lo) ∧ w.cell? ⟨D, 3, none⟩ = some (.string held) := ⟨h.c0, h.c1, h.c2, h.c3⟩
theorem cur_put {w : World} {B b : Nat} {ao : Option Addr} {n cap k : Nat} (h : Cur w B b ao n cap k) (P : Nat) (hB : B ≤ P) (a c d e : Value) : Cur (putDec w P a c d e) B b ao n cap k := by
  have hr : ∀ g, some P = some g → B ≤ g := fun g e => by have := Option.some.inj e; omega
  exact (((h.grown (grown_set _ P _ _) hr).grown (grown_set _ P _ _) hr).grown (grown_set _ P _ _) hr).grown (grown_set _ P _ _) hr
theorem grown_high {w w1 : World} {b P i : Nat} {v : Value} (h : w.grownBy w1 (some b)) (hP : w.heap.size ≤ P) : w.grownBy (w1.setCell ⟨P, i, none⟩ v) (some b) := by
  have g := grown_set w1 P i v
  exact ⟨g.os.trans h.os, g.tape.trans h.tape, g.output.trans h.output, Nat.le_trans h.size g.size, fun j hj hn => (g.block j (Nat.lt_of_lt_of_le hj h.size) (fun e => by have := Option.some.inj e; omega)).trans (h.block j hj hn)⟩
theorem grown_put {w w1 : World} {b : Nat} (h : w.grownBy w1 (some b)) (P : Nat) (hP : w.heap.size ≤ P) (a c d e : Value) : w.grownBy (putDec w1 P a c d e) (some b) :=
  grown_high (grown_high (grown_high (grown_high h hP) hP) hP) hP
def looseL : List Int := [-1, 3, 1000, 1001]
set_option maxRecDepth 100000 in
set_option maxHeartbeats 8000000 in
theorem decoder_any (B b : Nat) (ao : Option Addr) (n cap k : Nat) (w : World) (hk : k ≤ 100) (h : Cur w B b ao n cap k) :
    Calls Tryd.prog 34 #[.pointer (some ⟨b, 0, none⟩)] w fun e w' => ∃ (en sh lo : Int) (held : ByteArray) (k' : Nat), e = .returned (decV en sh lo held) ∧ SmallD en sh lo held ∧ k' ≤ k + 110 ∧ Cur w' B b ao n cap k' ∧ w.grownBy w' (some b) := by
  have hbw : b < w.heap.size := Nat.lt_of_lt_of_le h.lt h.le
  have HC : Hid _ := h
  have R0 : Hid _ := DecAt.new w 0 0 0 ⟨#[]⟩ 25 _ rfl
  have BW0 : Hid (Below w.heap.size w (w.alloc (.cells #[.int .i64 0, .int .i64 0, .int .i64 0, .string ⟨#[]⟩] 25))) := (Below.refl _ _).alloc (Nat.le_refl _) _
  have HBR : Hid (B ≤ w.heap.size) := h.le
  clear h
  go_enter Tryd.func34, Tryd.ntmps34
  go_wp2_with fail
  refine (cen_any B b ao n cap k _ (by omega) (Cur.below HC.out BW0.out)).mono ?_
  rintro e w1 ⟨r, k1, rfl, p0, p1, hk1, C1, g1⟩
  have R1 : Hid _ := DecAt.grown R0.out g1 (fun e => by have := Option.some.inj e; omega)
  have HC1 : Hid _ := C1
  have G1 : Hid (w.grownBy w1 (some b)) := grown_trans' (grown_of_below BW0.out (some b)) g1
  clear C1 g1 R0 BW0 HC
  go_wp2_with fail
  refine (snew_some r _ ⟨p0, p1⟩).mono ?_
  rintro e w2 ⟨e0, ok0, rfl, q0, q1, b2⟩
  have f3 : DecAt (w2.alloc (.cells #[.int .i64 e0, .int .i64 0, .int .i64 0, .string ⟨#[]⟩] 25)) w2.heap.size e0 0 0 ⟨#[]⟩ ∧ DecAt (w2.alloc (.cells #[.int .i64 e0, .int .i64 0, .int .i64 0, .string ⟨#[]⟩] 25)) w.heap.size 0 0 0 ⟨#[]⟩ ∧
      Cur (w2.alloc (.cells #[.int .i64 e0, .int .i64 0, .int .i64 0, .string ⟨#[]⟩] 25)) B b ao n cap k1 ∧ w.grownBy (w2.alloc (.cells #[.int .i64 e0, .int .i64 0, .int .i64 0, .string ⟨#[]⟩] 25)) (some b) ∧ w.heap.size < w2.heap.size := by
    have b3 := b2.alloc b2.size (.cells #[.int .i64 e0, .int .i64 0, .int .i64 0, .string ⟨#[]⟩] 25)
    refine ⟨DecAt.new w2 e0 0 0 ⟨#[]⟩ 25 _ rfl, (DecAt.below R1.out b2).alloc _, Cur.below HC1.out b3, grown_trans' G1.out (grown_of_below b3 (some b)), ?_⟩
    have h1 := (DecAt.below R1.out b2).lt
    omega
  clear b2 R1 HC1 G1
  go_upto_region 2 with fail
  revert f3
  generalize (w2.alloc (.cells #[.int .i64 e0, .int .i64 0, .int .i64 0, .string ⟨#[]⟩] 25)) = w3
  generalize hDD : w2.heap.size = D at *
  clear hDD
  intro f3
  obtain ⟨d3, r3, C3, g3, hDR⟩ := f3
  have HD3 : Hid _ := d3
  have HR3 : Hid _ := r3
  have HC3 : Hid _ := C3
  have G3 : Hid _ := g3
  have HBD : Hid (B ≤ D) := by have := HBR.out; show B ≤ D; omega
  clear d3 r3 C3 g3
  go_cut [5, 6, 7, 8] (fun t5 t6 t7 t8 wx => ∃ (P : Nat) (e1 s1 l1 : Int) (h1 : ByteArray) (ok : Bool) (kx : Nat), t5 = .pointer (some ⟨P, 0, none⟩) ∧ t8 = .bool ok ∧ SmallD e1 s1 l1 h1 ∧ P ≠ D ∧ P ≠ w.heap.size ∧ P ≠ b ∧ DecAt wx P e1 s1 l1 h1 ∧ DecAt wx D e0 0 0 ⟨#[]⟩ ∧ DecAt wx w.heap.size 0 0 0 ⟨#[]⟩ ∧ kx ≤ k1 + 100 ∧ Cur wx B b ao n cap kx ∧ w.grownBy wx (some b))
  case first =>
    have BD : Hid (Below w3.heap.size w3 w3.drew) := (Below.refl _ _).drew
    have BA : Hid (Below w3.heap.size w3 (w3.drew.alloc (.cells #[.int .i64 0, .int .i64 0, .int .i64 0, .string ⟨#[]⟩] 25))) := Below.alloc ((Below.refl _ _).drew) (Nat.le_refl _) _
    have hD3 := (HD3.out).lt
    have hne : ¬ D = w3.heap.size := by omega
    have sD : (w3.drew.cell? ⟨D, 0, none⟩ = some (.int .i64 e0) ∧ w3.drew.cell? ⟨D, 1, none⟩ = some (.int .i64 0) ∧ w3.drew.cell? ⟨D, 2, none⟩ = some (.int .i64 0) ∧ w3.drew.cell? ⟨D, 3, none⟩ = some (.string ⟨#[]⟩)) := cells4 (DecAt.below HD3.out BD.out)
    have sA : ((w3.drew.alloc (.cells #[.int .i64 0, .int .i64 0, .int .i64 0, .string ⟨#[]⟩] 25)).cell? ⟨D, 0, none⟩ = some (.int .i64 e0) ∧ (w3.drew.alloc (.cells #[.int .i64 0, .int .i64 0, .int .i64 0, .string ⟨#[]⟩] 25)).cell? ⟨D, 1, none⟩ = some (.int .i64 0) ∧ (w3.drew.alloc (.cells #[.int .i64 0, .int .i64 0, .int .i64 0, .string ⟨#[]⟩] 25)).cell? ⟨D, 2, none⟩ = some (.int .i64 0) ∧ (w3.drew.alloc (.cells #[.int .i64 0, .int .i64 0, .int .i64 0, .string ⟨#[]⟩] 25)).cell? ⟨D, 3, none⟩ = some (.string ⟨#[]⟩)) := cells4 (DecAt.below HD3.out BA.out)
    have CU1 : Hid _ := Cur.below HC3.out BD.out
    have CU2 : Hid _ := Cur.below HC3.out BA.out
    have GU1 : Hid _ := grown_trans' G3.out (grown_of_below BD.out (some b))
    have GU2 : Hid _ := grown_trans' G3.out (grown_of_below BA.out (some b))
    have nb1 : some b ≠ some D := fun e => by have := Option.some.inj e; have := hbw; have := hDR; omega
    have nb2 : some b ≠ some w.heap.size := fun e => by have := Option.some.inj e; omega
    have nb3 : some b ≠ some w3.heap.size := fun e => by have := Option.some.inj e; have := hDR; omega
    have NB1 : Hid _ := nb1
    have NB2 : Hid _ := nb2
    have NB3 : Hid _ := nb3
    clear nb1 nb2 nb3
    go_region_held (fun w' => (w'.cell? ⟨D, 0, none⟩ = some (.int .i64 e0) ∧ w'.cell? ⟨D, 1, none⟩ = some (.int .i64 0) ∧ w'.cell? ⟨D, 2, none⟩ = some (.int .i64 0) ∧ w'.cell? ⟨D, 3, none⟩ = some (.string ⟨#[]⟩))) (first | assumption | exact HK7.out _ (by omega)) (first
      | (go_at_call 35; refine (coded_any e0 B b ao n cap k1 _ (by omega) (by first | exact CU1.out | exact CU2.out)).mono ?_; rintro e w6 ⟨s, k6, rfl, hs6, hk6, C6, g6⟩
         first
         | (have dd6 := DecAt.grown (DecAt.below HD3.out BD.out) g6 NB1.out; have rr6 := DecAt.grown (DecAt.below HR3.out BD.out) g6 NB2.out; have gg6 := grown_trans' GU1.out g6)
         | (have dd6 := DecAt.grown (DecAt.below HD3.out BA.out) g6 NB1.out; have rr6 := DecAt.grown (DecAt.below HR3.out BA.out) g6 NB2.out; have gg6 := grown_trans' GU2.out g6; have zz6 := DecAt.grown (DecAt.new w3.drew 0 0 0 ⟨#[]⟩ 25 w3.heap.size rfl) g6 NB3.out)
         have hlt6 := dd6.lt
         have hne6 : ¬ D = w6.heap.size := by omega
         have s6 : (w6.cell? ⟨D, 0, none⟩ = some (.int .i64 e0) ∧ w6.cell? ⟨D, 1, none⟩ = some (.int .i64 0) ∧ w6.cell? ⟨D, 2, none⟩ = some (.int .i64 0) ∧ w6.cell? ⟨D, 3, none⟩ = some (.string ⟨#[]⟩)) := cells4 dd6
         have s6a : ((w6.alloc (.cells #[.int .i64 0, .int .i64 0, .int .i64 0, .string ⟨#[]⟩] 25)).cell? ⟨D, 0, none⟩ = some (.int .i64 e0) ∧ (w6.alloc (.cells #[.int .i64 0, .int .i64 0, .int .i64 0, .string ⟨#[]⟩] 25)).cell? ⟨D, 1, none⟩ = some (.int .i64 0) ∧ (w6.alloc (.cells #[.int .i64 0, .int .i64 0, .int .i64 0, .string ⟨#[]⟩] 25)).cell? ⟨D, 2, none⟩ = some (.int .i64 0) ∧ (w6.alloc (.cells #[.int .i64 0, .int .i64 0, .int .i64 0, .string ⟨#[]⟩] 25)).cell? ⟨D, 3, none⟩ = some (.string ⟨#[]⟩)) := cells4 (dd6.alloc _)
         have DD6 : Hid _ := dd6
         have RR6 : Hid _ := rr6
         have GG6 : Hid _ := gg6
         have CC6 : Hid _ := C6
         clear dd6 rr6 gg6 C6 g6)
      | (go_at_call 10; refine (sfeed_some e0 0 0 ⟨#[]⟩ s _).mono ?_; rintro e w7 ⟨e1, s1, l1, h1, v1, v2, ok, rfl, sm, b7⟩
         first
         | (have zz7 := DecAt.below (DecAt.new w6 0 0 0 ⟨#[]⟩ 25 w6.heap.size rfl) b7; have dd7 := DecAt.below (DecAt.alloc DD6.out _) b7; have rr7 := DecAt.below (DecAt.alloc RR6.out _) b7; have bb7 := Below.trans ((Below.refl w6.heap.size w6).alloc (Nat.le_refl _) _) (b7.mono (by simp)))
         | (have zz7 := DecAt.below zz6 b7; have dd7 := DecAt.below DD6.out b7; have rr7 := DecAt.below RR6.out b7; have bb7 := b7)
         | (have zz7 := True.intro; have dd7 := DecAt.below DD6.out b7; have rr7 := DecAt.below RR6.out b7; have bb7 := b7)
         try (obtain ⟨z0, z1, z2, z3, zf, -⟩ := id zz7; have zf0 := zf 0; have zf1 := zf 1; have zf2 := zf 2; have zf3 := zf 3; clear zf)
         have s7 : (w7.cell? ⟨D, 0, none⟩ = some (.int .i64 e0) ∧ w7.cell? ⟨D, 1, none⟩ = some (.int .i64 0) ∧ w7.cell? ⟨D, 2, none⟩ = some (.int .i64 0) ∧ w7.cell? ⟨D, 3, none⟩ = some (.string ⟨#[]⟩)) := cells4 dd7
         have s7a : ((w7.alloc (.cells #[.int .i64 0, .int .i64 0, .int .i64 0, .string ⟨#[]⟩] 25)).cell? ⟨D, 0, none⟩ = some (.int .i64 e0) ∧ (w7.alloc (.cells #[.int .i64 0, .int .i64 0, .int .i64 0, .string ⟨#[]⟩] 25)).cell? ⟨D, 1, none⟩ = some (.int .i64 0) ∧ (w7.alloc (.cells #[.int .i64 0, .int .i64 0, .int .i64 0, .string ⟨#[]⟩] 25)).cell? ⟨D, 2, none⟩ = some (.int .i64 0) ∧ (w7.alloc (.cells #[.int .i64 0, .int .i64 0, .int .i64 0, .string ⟨#[]⟩] 25)).cell? ⟨D, 3, none⟩ = some (.string ⟨#[]⟩)) := cells4 (dd7.alloc _)
         have s7o : ((w7.alloc (.cells #[.int .i64 e1, .int .i64 s1, .int .i64 l1, .string h1] 25)).cell? ⟨D, 0, none⟩ = some (.int .i64 e0) ∧ (w7.alloc (.cells #[.int .i64 e1, .int .i64 s1, .int .i64 l1, .string h1] 25)).cell? ⟨D, 1, none⟩ = some (.int .i64 0) ∧ (w7.alloc (.cells #[.int .i64 e1, .int .i64 s1, .int .i64 l1, .string h1] 25)).cell? ⟨D, 2, none⟩ = some (.int .i64 0) ∧ (w7.alloc (.cells #[.int .i64 e1, .int .i64 s1, .int .i64 l1, .string h1] 25)).cell? ⟨D, 3, none⟩ = some (.string ⟨#[]⟩)) := cells4 (dd7.alloc _)
         have HK7 : Hid (∀ P : Nat, P ≠ D → (((((w7.setCell ⟨P, 0, none⟩ (.int .i64 e1)).setCell ⟨P, 1, none⟩ (.int .i64 s1)).setCell ⟨P, 2, none⟩ (.int .i64 l1)).setCell ⟨P, 3, none⟩ (.string h1)).cell? ⟨D, 0, none⟩ = some (.int .i64 e0) ∧ ((((w7.setCell ⟨P, 0, none⟩ (.int .i64 e1)).setCell ⟨P, 1, none⟩ (.int .i64 s1)).setCell ⟨P, 2, none⟩ (.int .i64 l1)).setCell ⟨P, 3, none⟩ (.string h1)).cell? ⟨D, 1, none⟩ = some (.int .i64 0) ∧ ((((w7.setCell ⟨P, 0, none⟩ (.int .i64 e1)).setCell ⟨P, 1, none⟩ (.int .i64 s1)).setCell ⟨P, 2, none⟩ (.int .i64 l1)).setCell ⟨P, 3, none⟩ (.string h1)).cell? ⟨D, 2, none⟩ = some (.int .i64 0) ∧ ((((w7.setCell ⟨P, 0, none⟩ (.int .i64 e1)).setCell ⟨P, 1, none⟩ (.int .i64 s1)).setCell ⟨P, 2, none⟩ (.int .i64 l1)).setCell ⟨P, 3, none⟩ (.string h1)).cell? ⟨D, 3, none⟩ = some (.string ⟨#[]⟩))) := fun P hP => cells4 (DecAt.putOther dd7 P hP _ _ _ _)
         have CC7 : Hid _ := Cur.below CC6.out bb7
         have GG7 : Hid _ := grown_trans' GG6.out (grown_of_below bb7 (some b))
         have S7 : Hid (w6.heap.size ≤ w7.heap.size) := bb7.size
         have DD7 : Hid _ := dd7
         have RR7 : Hid _ := rr7
         have ZZ7 : Hid _ := zz7
         have SM : Hid _ := sm
         clear dd7 rr7 zz7 sm b7 bb7))
    all_goals
      go_wp2
      go_meet
      first
      | exact ⟨w3.heap.size, e1, s1, l1, h1, ok, k6, rfl, rfl, SM.out, by omega, by omega, by omega, DecAt.putAll ZZ7.out e1 s1 l1 h1, DecAt.putOther DD7.out _ (by omega) _ _ _ _, DecAt.putOther RR7.out _ (by omega) _ _ _ _, by omega, cur_put CC7.out _ (by have := (HC3.out).le; omega) _ _ _ _, grown_put GG7.out _ (by omega) _ _ _ _⟩
      | exact ⟨w6.heap.size, e1, s1, l1, h1, ok, k6, rfl, rfl, SM.out, by omega, by omega, by omega, DecAt.putAll ZZ7.out e1 s1 l1 h1, DecAt.putOther DD7.out _ (by omega) _ _ _ _, DecAt.putOther RR7.out _ (by omega) _ _ _ _, by omega, cur_put CC7.out _ (by have := (CC6.out).le; omega) _ _ _ _, grown_put GG7.out _ (by omega) _ _ _ _⟩
      | exact ⟨w7.heap.size, e1, s1, l1, h1, ok, k6, rfl, rfl, SM.out, by have := S7.out; omega, by have := S7.out; omega, by have := S7.out; omega, DecAt.new w7 e1 s1 l1 h1 25 _ rfl, DecAt.alloc DD7.out _, DecAt.alloc RR7.out _, by omega, Cur.below CC7.out ((Below.refl _ _).alloc (Nat.le_refl _) _), grown_trans' GG7.out (grown_of_below ((Below.refl _ _).alloc (Nat.le_refl _) _) (some b))⟩
  case rest =>
    obtain ⟨P, e1, s1, l1, h1, ok, k6, rfl, rfl, sm, pD, pR, pb, z6, d6, r6, hk6, C6, g6⟩ := hcut
    have HC6 : Hid _ := C6
    have G6 : Hid _ := g6
    have SM0 : Hid _ := sm
    clear C6 g6 sm HD3 HR3 HC3 G3
    go_upto_region 3 with fail
    go_cut [29] (fun sb wx => ∃ q : Bool, sb = .bool q ∧ wc = wx)
    case first =>
      cases ok0
      all_goals
        go_wp2
        go_meet
        exact ⟨_, rfl, rfl⟩
    case rest =>
    obtain ⟨q, rfl, rfl⟩ := hcut
    go_upto_if 29 with fail
    go_cut [] (fun wx => ∃ (e2 s2 l2 : Int) (h2 : ByteArray), SmallD e2 s2 l2 h2 ∧ DecAt wx D e2 s2 l2 h2 ∧ DecAt wx w.heap.size 0 0 0 ⟨#[]⟩ ∧ Cur wx B b ao n cap k6 ∧ w.grownBy wx (some b))
    case first =>
      obtain ⟨z0, z1, z2, z3, -, -⟩ := z6
      have HD6 : Hid _ := d6
      have HR6 : Hid _ := r6
      obtain ⟨x0, x1, x2, x3, xf, -⟩ := d6
      have xf0 := xf 0
      have xf1 := xf 1
      have xf2 := xf 2
      have xf3 := xf 3
      clear xf r6
      cases q
      all_goals
        go_wp2
        go_meet
        first
        | exact ⟨e0, 0, 0, ⟨#[]⟩, ⟨by omega, by omega, by omega, Nat.zero_le _⟩, HD6.out, HR6.out, HC6.out, G6.out⟩
        | exact ⟨e1, s1, l1, h1, SM0.out, DecAt.putAll HD6.out e1 s1 l1 h1, DecAt.putOther HR6.out _ (by omega) _ _ _ _, cur_put HC6.out _ HBD.out _ _ _ _, grown_put G6.out _ (by omega) _ _ _ _⟩
    case rest =>
      obtain ⟨e2, s2, l2, h2, sm2, d7, r7, C7, g7⟩ := hcut
      have HD7 : Hid _ := d7
      have HR7 : Hid _ := r7
      have HC7 : Hid _ := C7
      have G7 : Hid _ := g7
      have SM2 : Hid _ := sm2
      clear d6 z6 r6 d7 r7 C7 g7 sm2 HC6 G6 SM0
      go_wp2_with fail
      refine (pick_any 40 B b ao n cap k6 _ (by omega) HC7.out).mono ?_
      rintro e w8 ⟨q, k8, rfl, q0', q1', hk8, C8, g8⟩
      have HD8 : Hid _ := DecAt.grown HD7.out g8 (fun e => by have := Option.some.inj e; omega)
      have HR8 : Hid _ := DecAt.grown HR7.out g8 (fun e => by have := Option.some.inj e; omega)
      have HC8 : Hid _ := C8
      have G8 : Hid _ := grown_trans' G7.out g8
      clear C8 g8 HD7 HR7 HC7 G7
      by_cases c0 : q = 0
      · subst c0
        obtain ⟨x0, x1, x2, x3, xf, -⟩ := id (DecAt.set3 HD8.out ⟨#[97]⟩)
        obtain ⟨u0, u1', u2', u3', uf, -⟩ := HD8.out
        have uf3 := uf 3
        have HRa : Hid (DecAt (w8.setCell ⟨D, 3, none⟩ (.string ⟨#[97]⟩)) w.heap.size 0 0 0 ⟨#[]⟩) := DecAt.grown HR8.out (grown_set _ _ _ _) (fun e => by have := Option.some.inj e; omega)
        obtain ⟨r0, r1, r2, r3, gz, -⟩ := HRa.out
        have g0 := gz 0
        have g1 := gz 1
        have g2 := gz 2
        have g3 := gz 3
        clear uf xf gz
        go_wp2
        exact bodyPost_ret (v := decV e2 s2 l2 ⟨#[97]⟩) (by simp [results, Tryd.results34, go_sem, r0, r1, r2, r3]) rfl ⟨_, _, _, _, k8, rfl, ⟨(SM2.out).e, (SM2.out).s, (SM2.out).l, by decide⟩, by omega, cur_put (Cur.grown HC8.out (grown_set _ _ _ _) (fun g e => by have := Option.some.inj e; have := HBD.out; omega)) _ HBR.out _ _ _ _, grown_put (grown_high G8.out (by omega)) _ (Nat.le_refl _) _ _ _ _⟩
      · have n0 : (q == 0) = false := by rw [beq_eq_false_iff_ne]; exact c0
        by_cases c1 : q = 1
        · subst c1
          clear n0 c0
          go_wp2_with fail
          refine (pick_any 3 B b ao n cap k8 _ (by omega) HC8.out).mono ?_
          rintro e w9 ⟨r, k9, rfl, p0', p1', hk9, C9, g9⟩
          have HD9 : Hid _ := DecAt.grown HD8.out g9 (fun e => by have := Option.some.inj e; omega)
          have HR9 : Hid _ := DecAt.grown HR8.out g9 (fun e => by have := Option.some.inj e; omega)
          have HC9 : Hid _ := C9
          have G9 : Hid _ := grown_trans' G8.out g9
          clear C9 g9 HD8 HR8 HC8 G8
          obtain ⟨x0, x1, x2, x3, xf, -⟩ := id (DecAt.set1 HD9.out r)
          obtain ⟨u0, u1', u2', u3', uf, -⟩ := HD9.out
          have uf3 := uf 1
          have HRa : Hid (DecAt (w9.setCell ⟨D, 1, none⟩ (.int .i64 r)) w.heap.size 0 0 0 ⟨#[]⟩) := DecAt.grown HR9.out (grown_set _ _ _ _) (fun e => by have := Option.some.inj e; omega)
          obtain ⟨r0, r1, r2, r3, gz, -⟩ := HRa.out
          have g0 := gz 0
          have g1 := gz 1
          have g2 := gz 2
          have g3 := gz 3
          clear uf xf gz
          go_wp2
          exact bodyPost_ret (v := decV e2 r l2 h2) (by simp [results, Tryd.results34, go_sem, r0, r1, r2, r3]) rfl ⟨_, _, _, _, k9, rfl, ⟨(SM2.out).e, by omega, (SM2.out).l, (SM2.out).h⟩, by omega, cur_put (Cur.grown HC9.out (grown_set _ _ _ _) (fun g e => by have := Option.some.inj e; have := HBD.out; omega)) _ HBR.out _ _ _ _, grown_put (grown_high G9.out (by omega)) _ (Nat.le_refl _) _ _ _ _⟩
        · have n1 : (q == 1) = false := by rw [beq_eq_false_iff_ne]; exact c1
          by_cases c2 : q = 2
          · subst c2
            clear n0 n1 c0 c1
            have b8 : b < w8.heap.size := Nat.lt_of_lt_of_le hbw (World.grownBy.size G8.out)
            have HV : Hid _ := vals_new w8 b b8 _ (ints looseL) rfl 3
            have HB : Hid (Below w8.heap.size w8 (w8.alloc (.cells (ints looseL).toArray 3))) := (Below.refl _ _).alloc (Nat.le_refl _) _
            go_wp2_with fail
            refine (among_any looseL _ _ _ _ ao n cap k8 _ (by omega) (by decide) (by decide) HV.out (Cur.below HC8.out HB.out)).mono ?_
            rintro e w9 ⟨r, k9, rfl, hr, hk9, C9, g9⟩
            have hr2 : -1 ≤ r ∧ r ≤ 1001 := by
              simp only [looseL, List.mem_cons, List.not_mem_nil, or_false] at hr
              omega
            have HD9 : Hid _ := DecAt.grown (DecAt.below HD8.out HB.out) g9 (fun e => by have := Option.some.inj e; omega)
            have HR9 : Hid _ := DecAt.grown (DecAt.below HR8.out HB.out) g9 (fun e => by have := Option.some.inj e; omega)
            have HC9 : Hid _ := C9
            have G9 : Hid _ := grown_trans' (grown_trans' G8.out (grown_of_below HB.out (some b))) g9
            clear C9 g9 HD8 HR8 HC8 G8 hr
            obtain ⟨x0, x1, x2, x3, xf, -⟩ := id (DecAt.set2 HD9.out r)
            obtain ⟨u0, u1', u2', u3', uf, -⟩ := HD9.out
            have uf3 := uf 2
            have HRa : Hid (DecAt (w9.setCell ⟨D, 2, none⟩ (.int .i64 r)) w.heap.size 0 0 0 ⟨#[]⟩) := DecAt.grown HR9.out (grown_set _ _ _ _) (fun e => by have := Option.some.inj e; omega)
            obtain ⟨r0, r1, r2, r3, gz, -⟩ := HRa.out
            have g0 := gz 0
            have g1 := gz 1
            have g2 := gz 2
            have g3 := gz 3
            clear uf xf gz
            go_wp2
            exact bodyPost_ret (v := decV e2 s2 r h2) (by simp [results, Tryd.results34, go_sem, r0, r1, r2, r3]) rfl ⟨_, _, _, _, k9, rfl, ⟨(SM2.out).e, (SM2.out).s, hr2, (SM2.out).h⟩, by omega, cur_put (Cur.grown HC9.out (grown_set _ _ _ _) (fun g e => by have := Option.some.inj e; have := HBD.out; omega)) _ HBR.out _ _ _ _, grown_put (grown_high G9.out (by omega)) _ (Nat.le_refl _) _ _ _ _⟩
          · have n2 : (q == 2) = false := by rw [beq_eq_false_iff_ne]; exact c2
            obtain ⟨u0, u1', u2', u3', -, -⟩ := HD8.out
            obtain ⟨r0, r1, r2, r3, gz, -⟩ := HR8.out
            have g0 := gz 0
            have g1 := gz 1
            have g2 := gz 2
            have g3 := gz 3
            clear gz
            go_wp2
            exact bodyPost_ret (v := decV e2 s2 l2 h2) (by simp [results, Tryd.results34, go_sem, r0, r1, r2, r3]) rfl ⟨_, _, _, _, k8, rfl, SM2.out, by omega, cur_put HC8.out _ HBR.out _ _ _ _, grown_put G8.out _ (Nat.le_refl _) _ _ _ _⟩
end Go.Proofs.YtcclollclbegoaaDoor
namespace Go.Proofs.YtcclollclbegoaaDoor
open Go
theorem byt_app (p q : ByteArray) (j : Nat) (h : j < p.size) : byt (p ++ q) j = byt p j := byt_app_l p q j h
theorem enc_app_up (p q : ByteArray) (r : Int) (w : Nat) (h : Enc p 0 r w) : Enc (p ++ q) 0 r w := by
  have hp := h.pos
  obtain ⟨g, h1, h2⟩ := h
  refine ⟨g, by rw [ByteArray.size_append]; omega, ?_⟩
  rcases h2 with ⟨rfl, a⟩ | ⟨rfl, a⟩ | ⟨rfl, a⟩ | ⟨rfl, a⟩
  · rw [byt_app p q 0 (by omega)]; exact .inl ⟨rfl, a⟩
  · rw [byt_app p q 0 (by omega), byt_app p q (0 + 1) (by omega)]; exact .inr (.inl ⟨rfl, a⟩)
  · rw [byt_app p q 0 (by omega), byt_app p q (0 + 1) (by omega), byt_app p q (0 + 2) (by omega)]; exact .inr (.inr (.inl ⟨rfl, a⟩))
  · rw [byt_app p q 0 (by omega), byt_app p q (0 + 1) (by omega), byt_app p q (0 + 2) (by omega), byt_app p q (0 + 3) (by omega)]; exact .inr (.inr (.inr ⟨rfl, a⟩))
theorem enc_app_down (p q : ByteArray) (r : Int) (w : Nat) (h0 : 0 < p.size) (hb : begB p = false) (h : Enc (p ++ q) 0 r w) : Enc p 0 r w := by
  have hp := h.pos
  obtain ⟨g, h1, h2⟩ := h
  have hg := goodB_true g
  have hb' : ¬ BegP p.size (byt p 0) (byt p 1) (byt p 2) := fun hh => by rw [(begB_iff p).2 hh] at hb; cases hb
  unfold BegP at hb'
  have e0 := byt_app p q 0 h0
  by_cases hw : w ≤ p.size
  · refine ⟨g, by omega, ?_⟩
    rcases h2 with ⟨rfl, a⟩ | ⟨rfl, a⟩ | ⟨rfl, a⟩ | ⟨rfl, a⟩
    · rw [byt_app p q 0 (by omega)] at a; exact .inl ⟨rfl, a⟩
    · rw [byt_app p q 0 (by omega), byt_app p q (0 + 1) (by omega)] at a; exact .inr (.inl ⟨rfl, a⟩)
    · rw [byt_app p q 0 (by omega), byt_app p q (0 + 1) (by omega), byt_app p q (0 + 2) (by omega)] at a; exact .inr (.inr (.inl ⟨rfl, a⟩))
    · rw [byt_app p q 0 (by omega), byt_app p q (0 + 1) (by omega), byt_app p q (0 + 2) (by omega), byt_app p q (0 + 3) (by omega)] at a; exact .inr (.inr (.inr ⟨rfl, a⟩))
  · exfalso
    simp only [Nat.zero_add] at h2
    rcases (by omega : p.size = 1 ∨ p.size = 2 ∨ p.size = 3) with hs | hs | hs
    · omega
    · have e1 := byt_app p q 1 (by omega)
      omega
    · have e1 := byt_app p q 1 (by omega)
      have e2 := byt_app p q 2 (by omega)
      omega
theorem beg_app (p q : ByteArray) (h0 : 0 < p.size) (hb : begB p = false) : begB (p ++ q) = false := by
  rw [Bool.eq_false_iff]
  intro h
  have hh := (begB_iff (p ++ q)).1 h
  have hb' : ¬ BegP p.size (byt p 0) (byt p 1) (byt p 2) := fun hh => by rw [(begB_iff p).2 hh] at hb; cases hb
  have hz := ByteArray.size_append (a := p) (b := q)
  have e0 := byt_app p q 0 h0
  unfold BegP at hh hb'
  rcases (by omega : p.size = 1 ∨ p.size = 2 ∨ p.size = 3) with hs | hs | hs
  · omega
  · have e1 := byt_app p q 1 (by omega)
    omega
  · have e1 := byt_app p q 1 (by omega)
    have e2 := byt_app p q 2 (by omega)
    omega
theorem dec_app (p q : ByteArray) (h0 : 0 < p.size) (hb : begB p = false) : decR (p ++ q) 0 = decR p 0 ∧ decW (p ++ q) 0 = decW p 0 := by
  have hz := ByteArray.size_append (a := p) (b := q)
  have hd : Dec (p ++ q) 0 (decR p 0) (decW p 0) := by
    rcases decode_dec p 0 h0 with h | ⟨h1, h2, h3⟩
    · exact .inl (enc_app_up p q _ _ h)
    · exact .inr ⟨h1, h2, fun r' w' h => h3 r' w' (enc_app_down p q r' w' h0 hb h)⟩
  have := dec_is (by omega) hd
  exact ⟨this.1.symm, this.2.symm⟩
theorem unit_app (en : Int) (p q : ByteArray) (j : Nat) (h : j + 1 < p.size) : unitN en (p ++ q) j = unitN en p j := by
  unfold unitN
  rw [byt_app p q j (by omega), byt_app p q (j + 1) h]
theorem oneS_app (en : Int) (p q : ByteArray) (h0 : 0 < p.size) (h : (oneS en p).2 ≠ 0) : oneS en (p ++ q) = oneS en p := by
  have hz := ByteArray.size_append (a := p) (b := q)
  unfold oneS at h ⊢
  by_cases h1 : en = 1
  · simp only [h1, if_true] at h ⊢
    cases hb : begB p
    · have hd := dec_app p q h0 hb
      simp [beg_app p q h0 hb, hd.1, hd.2]
    · simp [hb] at h
  · simp only [h1, if_false] at h ⊢
    by_cases h2 : p.size < 2
    · simp [h2] at h
    · have u0 := unit_app en p q 0 (by omega)
      have n2 : ¬ (p ++ q).size < 2 := by omega
      rw [if_neg h2] at h
      rw [if_neg h2, if_neg n2, u0]
      by_cases hl : lowB (unitN en p 0) = true
      · rw [if_pos hl, if_pos hl]
      · rw [if_neg hl] at h
        rw [if_neg hl, if_neg hl]
        by_cases hh : highB (unitN en p 0) = false
        · rw [if_pos hh, if_pos hh]
        · rw [if_neg hh] at h
          rw [if_neg hh, if_neg hh]
          by_cases h4 : p.size < 4
          · rw [if_pos h4] at h; exact absurd rfl h
          · have u2 := unit_app en p q 2 (by omega)
            rw [if_neg h4, if_neg (by omega), u2]
theorem tail_app (p q : ByteArray) (n : Nat) (h : n ≤ p.size) : (p ++ q).extract n (p ++ q).size = p.extract n p.size ++ q := by
  apply ByteArray.ext
  apply Array.ext'
  have e1 : ((p ++ q).extract n (p ++ q).size).data.toList = ((p.data.toList ++ q.data.toList).drop n).take ((p ++ q).size - n) := by rw [Lib.extract_data]; simp
  have e2 : (p.extract n p.size ++ q).data.toList = (p.data.toList.drop n).take (p.size - n) ++ q.data.toList := by rw [ByteArray.data_append, Array.toList_append, Lib.extract_data]
  have l1 : p.data.toList.length = p.size := by simp
  have l2 : q.data.toList.length = q.size := by simp
  rw [e1, e2, List.drop_append_of_le_length (by omega), List.take_of_length_le (by simp [ByteArray.size_append]; omega), List.take_of_length_le (by simp)]
theorem feedU_fuel (en : Int) : ∀ (f g : Nat) (x : ByteArray), x.size ≤ f → x.size ≤ g → feedU en f x = feedU en g x
  | 0, g, x, hf, hg => by
    have h0 : x.size = 0 := by omega
    cases g <;> simp [feedU, h0]
  | f + 1, 0, x, hf, hg => by
    have h0 : x.size = 0 := by omega
    simp [feedU, h0]
  | f + 1, g + 1, x, hf, hg => by
    by_cases h0 : x.size = 0
    · simp [feedU, h0]
    · by_cases h1 : (oneS en x).2 = 0
      · simp [feedU, h1]
      · have hle := oneS_le en x (by omega)
        have ih := feedU_fuel en f g (x.extract (oneS en x).2 x.size) (by rw [ByteArray.size_extract]; omega) (by rw [ByteArray.size_extract]; omega)
        simp only [feedU, h0, h1, if_false, ih]
/-- In two pieces. -/
theorem feedU_two (en : Int) (q : ByteArray) : ∀ (f : Nat) (p : ByteArray), p.size ≤ f → ∀ g, (p ++ q).size ≤ g →
    feedU en g (p ++ q) = feedW (feedU en f p).1 (feedU en f p).2.1 (feedU en g ((feedU en f p).2.2 ++ q))
  | 0, p, hf, g, hg => by simp [feedU, feedW]
  | f + 1, p, hf, g, hg => by
    by_cases h0 : p.size = 0
    · simp [feedU, feedW, h0]
    · by_cases h1 : (oneS en p).2 = 0
      · simp [feedU, feedW, h1]
      · have hle := oneS_le en p (by omega)
        have hz := ByteArray.size_append (a := p) (b := q)
        have ha := oneS_app en p q (by omega) h1
        obtain ⟨g, rfl⟩ : ∃ g', g = g' + 1 := ⟨g - 1, by omega⟩
        have hx : (p.extract (oneS en p).2 p.size).size = p.size - (oneS en p).2 := by rw [ByteArray.size_extract]; omega
        have hxq := ByteArray.size_append (a := p.extract (oneS en p).2 p.size) (b := q)
        have ih := feedU_two en q f (p.extract (oneS en p).2 p.size) (by omega) g (by omega)
        have hst := feedW_step [] [] en g (p ++ q) (by omega) (by rw [ha]; omega)
        rw [ha, tail_app p q _ hle, ih] at hst
        have hl : feedU en (g + 1) (p ++ q) = feedW [] [] (feedU en (g + 1) (p ++ q)) := rfl
        have hheld : ((feedU en f (p.extract (oneS en p).2 p.size)).2.2 ++ q).size ≤ g := by
          rw [ByteArray.size_append]
          have : (feedU en f (p.extract (oneS en p).2 p.size)).2.2.size ≤ (p.extract (oneS en p).2 p.size).size := by
            have gen : ∀ (f : Nat) (x : ByteArray), (feedU en f x).2.2.size ≤ x.size := by
              intro f
              induction f with
              | zero => intro x; exact Nat.le_refl _
              | succ f ih =>
                intro x
                unfold feedU
                split
                · exact Nat.le_refl _
                · split
                  · exact Nat.le_refl _
                  · have h := ih (x.extract (oneS en x).2 x.size)
                    rw [ByteArray.size_extract] at h
                    show (feedU en f (x.extract (oneS en x).2 x.size)).2.2.size ≤ x.size
                    omega
            exact gen f _
          omega
        have hf2 := feedU_fuel en g (g + 1) _ hheld (by omega)
        rw [hl, hst]
        have hp : feedU en (f + 1) p = ((oneS en p).1 :: (feedU en f (p.extract (oneS en p).2 p.size)).1, ((oneS en p).2 : Int) :: (feedU en f (p.extract (oneS en p).2 p.size)).2.1, (feedU en f (p.extract (oneS en p).2 p.size)).2.2) := by
          rw [feedU, if_neg h0, if_neg h1]
        rw [hp, hf2]
        simp [feedW]
theorem feedB_two (en : Int) : ∀ (a b : List UInt8) (sh lo : Int), feedB en (a ++ b) sh lo = feedT (feedB en a sh lo).1 (feedB en a sh lo).2.1 (feedB en b (feedB en a sh lo).2.2.1 (feedB en a sh lo).2.2.2)
  | [], b, sh, lo => rfl
  | x :: a, b, sh, lo => by
    rw [List.cons_append, feedB, feedB]
    by_cases h : en = 5 ∧ ((x.toNat : Int) = 14 ∨ (x.toNat : Int) = 15)
    · rw [if_pos h, if_pos h]
      exact feedB_two en a b _ _
    · rw [if_neg h, if_neg h, feedB_two en a b sh 0]
      rfl
end Go.Proofs.YtcclollclbegoaaDoor
namespace Go.Proofs.YtcclollclbegoaaDoor
open Go
theorem enc_self (r : Int) (hg : goodB r = true) : Enc (encS r) 0 r (encS r).size := by
  rw [enc_iff (encS r) 0 r hg (encS r).size (by omega)]
  rw [Nat.zero_add]
  congr 1
  exact (ByteArray.extract_zero_size).symm
theorem beg_enc (r : Int) (hg : goodB r = true) : begB (encS r) = false := by
  rw [Bool.eq_false_iff]
  intro h
  have hh := (begB_iff (encS r)).1 h
  obtain ⟨_, h1, h2⟩ := enc_self r hg
  have hr := goodB_true hg
  unfold BegP at hh
  simp only [Nat.zero_add] at h2
  omega
theorem put1 (r : Int) (hg : goodB r = true) (t : ByteArray) : oneS 1 (encS r ++ t) = (r, (encS r).size) := by
  have h0 : 0 < (encS r).size := by have := encN_len r; rw [encS_size]; omega
  have hz := ByteArray.size_append (a := encS r) (b := t)
  have hd := dec_is (s := encS r ++ t) (i := 0) (by omega) (.inl (enc_app_up (encS r) t r _ (enc_self r hg)))
  unfold oneS
  rw [if_pos rfl, beg_app _ _ h0 (beg_enc r hg)]
  rw [← hd.1, ← hd.2]
  rfl
theorem pair_unit (en n : Int) (h0 : 0 ≤ n) (h1 : n ≤ 65535) (t : ByteArray) : unitN en (pairS en n ++ t) 0 = n := by
  rw [unit_app en (pairS en n) t 0 (by rw [pairS_size]; omega)]
  unfold unitN pairS
  by_cases h : en = 2
  · rw [if_pos h, if_pos h, byt_nums (j := 0) (x := n / 256) rfl (by omega) (by omega), byt_nums (j := 0 + 1) (x := n % 256) rfl (by omega) (by omega)]
    omega
  · rw [if_neg h, if_neg h, byt_nums (j := 0) (x := n % 256) rfl (by omega) (by omega), byt_nums (j := 0 + 1) (x := n / 256) rfl (by omega) (by omega)]
    omega
theorem pair_unit2 (en m n : Int) (h0 : 0 ≤ n) (h1 : n ≤ 65535) (t : ByteArray) : unitN en (pairS en m ++ pairS en n ++ t) 2 = n := by
  have hz := pairS_size en m
  have hn := pairS_size en n
  have e := pair_unit en n h0 h1 t
  have hz2 := ByteArray.size_append (a := pairS en n) (b := t)
  rw [ByteArray.append_assoc]
  have a := byt_app_r (pairS en m) (pairS en n ++ t) 0 (by omega)
  have b := byt_app_r (pairS en m) (pairS en n ++ t) 1 (by omega)
  rw [hz] at a b
  unfold unitN at e ⊢
  simp only [Nat.add_zero, Nat.zero_add] at a b e ⊢
  rw [a, show (2 : Nat) + 1 = 2 + 1 from rfl, b]
  exact e
theorem put23 (en sh r : Int) (hu : unitsB en = true) (hg : goodB r = true) (t : ByteArray) : oneS en ((putS en sh r).s ++ t) = (r, (putS en sh r).s.size) := by
  have hr := goodB_true hg
  have h1 : ¬ en = 1 := by have := of_decide_eq_true (show decide (en = 2 ∨ en = 3) = true from hu); omega
  by_cases h65 : r < 65536
  · have hp : putS en sh r = ⟨pairS en r, 0, true⟩ := by simp [putS, h1, hu, h65]
    rw [hp]
    show oneS en (pairS en r ++ t) = (r, (pairS en r).size)
    have hz := ByteArray.size_append (a := pairS en r) (b := t)
    have hs := pairS_size en r
    unfold oneS
    rw [if_neg h1, if_neg (by omega), pair_unit en r hr.1 (by omega) t, hs]
    have l : lowB r = false := decide_eq_false (by omega)
    have hh : highB r = false := decide_eq_false (by omega)
    rw [l, hh]; rfl
  · have hp : putS en sh r = ⟨pairS en (55296 + (r - 65536) / 1024) ++ pairS en (56320 + (r - 65536) % 1024), 0, true⟩ := by simp [putS, h1, hu, h65]
    rw [hp]
    show oneS en (pairS en (55296 + (r - 65536) / 1024) ++ pairS en (56320 + (r - 65536) % 1024) ++ t) = (r, (pairS en (55296 + (r - 65536) / 1024) ++ pairS en (56320 + (r - 65536) % 1024)).size)
    have hz := ByteArray.size_append (a := pairS en (55296 + (r - 65536) / 1024) ++ pairS en (56320 + (r - 65536) % 1024)) (b := t)
    have hz2 := ByteArray.size_append (a := pairS en (55296 + (r - 65536) / 1024)) (b := pairS en (56320 + (r - 65536) % 1024))
    have hs := pairS_size en (55296 + (r - 65536) / 1024)
    have hs2 := pairS_size en (56320 + (r - 65536) % 1024)
    have u2 := pair_unit2 en (55296 + (r - 65536) / 1024) (56320 + (r - 65536) % 1024) (by omega) (by omega) t
    have u0 : unitN en (pairS en (55296 + (r - 65536) / 1024) ++ pairS en (56320 + (r - 65536) % 1024) ++ t) 0 = 55296 + (r - 65536) / 1024 := by
      rw [ByteArray.append_assoc]; exact pair_unit en _ (by omega) (by omega) _
    unfold oneS
    rw [if_neg h1, if_neg (by omega), u0, u2]
    have l : lowB (55296 + (r - 65536) / 1024) = false := decide_eq_false (by omega)
    have hh : highB (55296 + (r - 65536) / 1024) = true := decide_eq_true (by omega)
    have l2 : lowB (56320 + (r - 65536) % 1024) = true := decide_eq_true (by omega)
    rw [l, hh, l2, if_neg (by decide), if_neg (by decide), if_neg (by omega), if_pos rfl]
    refine Prod.ext ?_ ?_
    · show 65536 + (55296 + (r - 65536) / 1024 - 55296) * 1024 + (56320 + (r - 65536) % 1024) - 56320 = r
      omega
    · show 4 = _
      omega
/-- The lengths that are told and what is held make all bytes. -/
def sumI (l : List Int) : Int := l.foldr (· + ·) 0
theorem sumI_cons (x : Int) (l : List Int) : sumI (x :: l) = x + sumI l := rfl
theorem sumI_append (a b : List Int) : sumI (a ++ b) = sumI a + sumI b := by
  induction a with
  | nil => simp [sumI]
  | cons x a ih => rw [List.cons_append, sumI_cons, sumI_cons, ih]; omega
theorem feedU_sum (en : Int) : ∀ (f : Nat) (x : ByteArray), sumI (feedU en f x).2.1 + ((feedU en f x).2.2.size : Int) = (x.size : Int)
  | 0, x => by simp [feedU, sumI]
  | f + 1, x => by
    by_cases h0 : x.size = 0
    · simp [feedU, h0, sumI]
    · by_cases h1 : (oneS en x).2 = 0
      · simp [feedU, h1, sumI]
      · have hle := oneS_le en x (by omega)
        have ih := feedU_sum en f (x.extract (oneS en x).2 x.size)
        have hx : (x.extract (oneS en x).2 x.size).size = x.size - (oneS en x).2 := by rw [ByteArray.size_extract]; omega
        rw [feedU, if_neg h0, if_neg h1]
        show sumI (((oneS en x).2 : Int) :: (feedU en f (x.extract (oneS en x).2 x.size)).2.1) + ((feedU en f (x.extract (oneS en x).2 x.size)).2.2.size : Int) = _
        rw [sumI_cons]
        omega
theorem feedB_sum (en : Int) : ∀ (l : List UInt8) (sh lo : Int), sumI (feedB en l sh lo).2.1 + (feedB en l sh lo).2.2.2 = (l.length : Int) + lo
  | [], sh, lo => by simp [feedB, sumI]
  | b :: t, sh, lo => by
    rw [feedB]
    by_cases h : en = 5 ∧ ((b.toNat : Int) = 14 ∨ (b.toNat : Int) = 15)
    · rw [if_pos h]
      have ih := feedB_sum en t (15 - b.toNat) (lo + 1)
      rw [List.length_cons]
      omega
    · rw [if_neg h]
      have ih := feedB_sum en t sh 0
      show sumI ((lo + 1) :: (feedB en t sh 0).2.1) + (feedB en t sh 0).2.2.2 = _
      rw [sumI_cons, List.length_cons]
      omega
theorem flushN_sum (u : Bool) : ∀ (f n : Nat), n ≤ f → sumI (flushN u f n) = (n : Int)
  | 0, n, h => by
    obtain rfl : n = 0 := by omega
    rfl
  | f + 1, 0, h => rfl
  | f + 1, n + 1, h => by
    unfold flushN
    split
    · rename_i hc
      have hn : 0 < n := by simp at hc; exact hc.2
      rw [sumI_cons, flushN_sum u f (n - 1) (by omega)]
      omega
    · rw [sumI_cons, flushN_sum u f n (by omega)]
      omega
/-- All runes of a list, written one behind the other, and the shift behind. -/
def putAll (en : Int) : List Int → Int → ByteArray × Int
  | [], sh => (⟨#[]⟩, sh)
  | r :: L, sh => ((putS en sh r).s ++ (putAll en L (putS en sh r).sh).1, (putAll en L (putS en sh r).sh).2)
def okAll (en : Int) : List Int → Int → Bool
  | [], _ => true
  | r :: L, sh => (putS en sh r).ok && okAll en L (putS en sh r).sh
theorem encGo_ok (en : Int) : ∀ (L : List Int) (k : Nat) (sh : Int) (s : ByteArray), okAll en L sh = true → encGo en L k sh s = encEnd (putAll en L sh).2 (s ++ (putAll en L sh).1)
  | [], k, sh, s, _ => by
    show encEnd sh s = encEnd sh (s ++ ⟨#[]⟩)
    congr 1
    exact (ByteArray.append_empty).symm
  | r :: L, k, sh, s, h => by
    unfold okAll at h
    rw [Bool.and_eq_true] at h
    rw [encGo, if_pos h.1, encGo_ok en L (k + 1) _ _ h.2]
    show encEnd _ _ = encEnd (putAll en L (putS en sh r).sh).2 (s ++ ((putS en sh r).s ++ (putAll en L (putS en sh r).sh).1))
    rw [ByteArray.append_assoc]
theorem encGo_neg (en : Int) : ∀ (L : List Int) (k : Nat) (sh : Int) (s : ByteArray), (encGo en L k sh s).k < 0 → okAll en L sh = true
  | [], _, _, _, _ => rfl
  | r :: L, k, sh, s, h => by
    cases ho : (putS en sh r).ok
    · rw [encGo, ho] at h
      simp at h
      omega
    · rw [encGo, if_pos ho] at h
      unfold okAll
      rw [ho, encGo_neg en L (k + 1) _ _ h]; rfl
theorem oneS_put (en sh r : Int) (h : 1 ≤ en ∧ en ≤ 3) (hg : goodB r = true) (t : ByteArray) : oneS en ((putS en sh r).s ++ t) = (r, (putS en sh r).s.size) ∧ 0 < (putS en sh r).s.size ∧ (putS en sh r).sh = 0 := by
  by_cases h1 : en = 1
  · subst h1
    have hp : putS 1 sh r = ⟨encS r, 0, true⟩ := by simp [putS]
    rw [hp]
    exact ⟨put1 r hg t, by show 0 < (encS r).size; have := encN_len r; rw [encS_size]; omega, rfl⟩
  · have hu : unitsB en = true := decide_eq_true (by omega)
    refine ⟨put23 en sh r hu hg t, ?_, ?_⟩
    · by_cases h65 : r < 65536
      · have hp : putS en sh r = ⟨pairS en r, 0, true⟩ := by simp [putS, h1, hu, h65]
        rw [hp]; show 0 < (pairS en r).size; rw [pairS_size]; omega
      · have hp : putS en sh r = ⟨pairS en (55296 + (r - 65536) / 1024) ++ pairS en (56320 + (r - 65536) % 1024), 0, true⟩ := by simp [putS, h1, hu, h65]
        rw [hp]; show 0 < (pairS en _ ++ pairS en _).size; rw [ByteArray.size_append, pairS_size]; omega
    · by_cases h65 : r < 65536 <;> simp [putS, h1, hu, h65]
theorem app_tail (p q : ByteArray) : (p ++ q).extract p.size (p ++ q).size = q := by
  rw [tail_app p q p.size (Nat.le_refl _)]
  have : p.extract p.size p.size = ⟨#[]⟩ := by
    apply ByteArray.ext
    apply Array.ext'
    rw [Lib.extract_data]
    simp
  rw [this]
  exact ByteArray.empty_append
theorem feedU_put (en : Int) (h : 1 ≤ en ∧ en ≤ 3) : ∀ (L : List Int) (sh : Int) (f : Nat), (∀ r ∈ L, goodB r = true) → (putAll en L sh).1.size ≤ f → (feedU en f (putAll en L sh).1).1 = L ∧ (feedU en f (putAll en L sh).1).2.2.size = 0
  | [], sh, f, _, _ => by
    have : (putAll en [] sh).1 = ⟨#[]⟩ := rfl
    rw [this]
    have z : (⟨#[]⟩ : ByteArray).size = 0 := rfl
    cases f <;> simp [feedU, z]
  | r :: L, sh, f, hg, hf => by
    have ho := oneS_put en sh r h (hg r List.mem_cons_self) (putAll en L (putS en sh r).sh).1
    have hz := ByteArray.size_append (a := (putS en sh r).s) (b := (putAll en L (putS en sh r).sh).1)
    have e : (putAll en (r :: L) sh).1 = (putS en sh r).s ++ (putAll en L (putS en sh r).sh).1 := rfl
    rw [e] at hf ⊢
    obtain ⟨f, rfl⟩ : ∃ f', f = f' + 1 := ⟨f - 1, by omega⟩
    have ih := feedU_put en h L (putS en sh r).sh f (fun x hx => hg x (List.mem_cons_of_mem _ hx)) (by omega)
    rw [feedU, if_neg (by omega), ho.1, if_neg (by show ¬ (putS en sh r).s.size = 0; omega)]
    show (r :: (feedU en f (((putS en sh r).s ++ (putAll en L (putS en sh r).sh).1).extract (putS en sh r).s.size ((putS en sh r).s ++ (putAll en L (putS en sh r).sh).1).size)).1) = r :: L ∧ (feedU en f (((putS en sh r).s ++ (putAll en L (putS en sh r).sh).1).extract (putS en sh r).s.size ((putS en sh r).s ++ (putAll en L (putS en sh r).sh).1).size)).2.2.size = 0
    rw [app_tail, ih.1]
    exact ⟨rfl, ih.2⟩
theorem toList_app (a b : ByteArray) : (a ++ b).data.toList = a.data.toList ++ b.data.toList := by rw [ByteArray.data_append, Array.toList_append]
theorem nums_list (n : Int) (h0 : 0 ≤ n) (h1 : n ≤ 255) : ∃ b : UInt8, (strOfNums [n]).data.toList = [b] ∧ (b.toNat : Int) = n := by
  refine ⟨UInt8.ofNat n.toNat, rfl, ?_⟩
  have : n.toNat % 256 = n.toNat := Nat.mod_eq_of_lt (by omega)
  simp [this]
  omega
/-- A rune of a code of one byte a rune is read again, with the bytes ahead of it. -/
theorem feedB_put4 (sh r lo s0 : Int) (hg : goodB r = true) (hok : (putS 4 s0 r).ok = true) (t : List UInt8) : (feedB 4 ((putS 4 s0 r).s.data.toList ++ t) sh lo).1 = r :: (feedB 4 t sh 0).1 := by
  have hr := goodB_true hg
  have hu : unitsB 4 = false := by decide
  have hp : putS 4 s0 r = ⟨strOfNums [r % 256], 0, decide (r < 256)⟩ := by simp [putS, hu]
  rw [hp] at hok ⊢
  have h256 : r < 256 := of_decide_eq_true hok
  have e : r % 256 = r := by omega
  obtain ⟨b, hb, hbn⟩ := nums_list r hr.1 (by omega)
  show (feedB 4 ((strOfNums [r % 256]).data.toList ++ t) sh lo).1 = _
  rw [e, hb, List.singleton_append, feedB, if_neg (fun x => by cases x.1), if_neg (by decide), hbn]
theorem feedB_put5 (r lo s0 : Int) (hg : goodB r = true) (h01 : s0 = 0 ∨ s0 = 1) (hok : (putS 5 s0 r).ok = true) (t : List UInt8) :
    (feedB 5 ((putS 5 s0 r).s.data.toList ++ t) s0 lo).1 = r :: (feedB 5 t (putS 5 s0 r).sh 0).1 ∧ ((putS 5 s0 r).sh = 0 ∨ (putS 5 s0 r).sh = 1) := by
  have hr := goodB_true hg
  have hu : unitsB 5 = false := by decide
  by_cases h32 : r < 32
  · have hp : putS 5 s0 r = ⟨strOfNums [r], s0, decide (r ≠ 14 ∧ r ≠ 15)⟩ := by simp [putS, hu, h32]
    rw [hp] at hok ⊢
    have hne : r ≠ 14 ∧ r ≠ 15 := of_decide_eq_true hok
    obtain ⟨b, hb, hbn⟩ := nums_list r hr.1 (by omega)
    refine ⟨?_, h01⟩
    show (feedB 5 ((strOfNums [r]).data.toList ++ t) s0 lo).1 = r :: (feedB 5 t s0 0).1
    rw [hb, List.singleton_append, feedB, if_neg (by omega), if_pos rfl, hbn]
    have : shiftedN s0 r = r := by unfold shiftedN; rw [if_pos (.inl h32)]
    rw [this]
  · by_cases hk : 12352 ≤ r ∧ r ≤ 12446
    · have hp : putS 5 s0 r = ⟨if s0 = 1 then strOfNums [r - 12352 + 32] else strOfNums [14] ++ strOfNums [r - 12352 + 32], 1, true⟩ := by simp [putS, hu, h32, hk]
      rw [hp]
      obtain ⟨b, hb, hbn⟩ := nums_list (r - 12352 + 32) (by omega) (by omega)
      have sN : shiftedN 1 (r - 12352 + 32) = r := by unfold shiftedN; rw [if_neg (by omega), if_pos (by omega)]; omega
      refine ⟨?_, .inr rfl⟩
      rcases h01 with rfl | rfl
      · show (feedB 5 ((strOfNums [14] ++ strOfNums [r - 12352 + 32]).data.toList ++ t) 0 lo).1 = r :: (feedB 5 t 1 0).1
        obtain ⟨c, hc, hcn⟩ := nums_list 14 (by omega) (by omega)
        rw [toList_app, hb, hc, List.append_assoc, List.singleton_append, List.singleton_append, feedB, if_pos ⟨rfl, by omega⟩, hcn, feedB, if_neg (by omega), if_pos rfl, hbn]
        show shiftedN (15 - 14) (r - 12352 + 32) :: (feedB 5 t (15 - 14) 0).1 = _
        rw [show (15 : Int) - 14 = 1 from rfl, sN]
      · show (feedB 5 ((strOfNums [r - 12352 + 32]).data.toList ++ t) 1 lo).1 = r :: (feedB 5 t 1 0).1
        rw [hb, List.singleton_append, feedB, if_neg (by omega), if_pos rfl, hbn, sN]
    · by_cases h126 : r ≤ 126
      · have hp : putS 5 s0 r = ⟨if s0 = 0 then strOfNums [r] else strOfNums [15] ++ strOfNums [r], 0, true⟩ := by simp [putS, hu, h32, hk, h126]
        rw [hp]
        obtain ⟨b, hb, hbn⟩ := nums_list r hr.1 (by omega)
        have sN : shiftedN 0 r = r := by unfold shiftedN; rw [if_pos (.inr ⟨by omega, rfl⟩)]
        refine ⟨?_, .inl rfl⟩
        rcases h01 with rfl | rfl
        · show (feedB 5 ((strOfNums [r]).data.toList ++ t) 0 lo).1 = r :: (feedB 5 t 0 0).1
          rw [hb, List.singleton_append, feedB, if_neg (by omega), if_pos rfl, hbn, sN]
        · show (feedB 5 ((strOfNums [15] ++ strOfNums [r]).data.toList ++ t) 1 lo).1 = r :: (feedB 5 t 0 0).1
          obtain ⟨c, hc, hcn⟩ := nums_list 15 (by omega) (by omega)
          rw [toList_app, hb, hc, List.append_assoc, List.singleton_append, List.singleton_append, feedB, if_pos ⟨rfl, by omega⟩, hcn, feedB, if_neg (by omega), if_pos rfl, hbn]
          show shiftedN (15 - 15) r :: (feedB 5 t (15 - 15) 0).1 = _
          rw [show (15 : Int) - 15 = 0 from rfl, sN]
      · have hp : putS 5 s0 r = ⟨⟨#[]⟩, 0, false⟩ := by simp [putS, hu, h32, hk, h126]
        rw [hp] at hok
        cases hok
end Go.Proofs.YtcclollclbegoaaDoor
namespace Go.Proofs.YtcclollclbegoaaDoor
open Go
theorem feed4_all (sh : Int) : ∀ (L : List Int) (s0 lo : Int), (∀ r ∈ L, goodB r = true) → okAll 4 L s0 = true → (feedB 4 (putAll 4 L s0).1.data.toList sh lo).1 = L
  | [], _, _, _, _ => rfl
  | r :: L, s0, lo, hg, hok => by
    unfold okAll at hok
    rw [Bool.and_eq_true] at hok
    have e : (putAll 4 (r :: L) s0).1 = (putS 4 s0 r).s ++ (putAll 4 L (putS 4 s0 r).sh).1 := rfl
    rw [e, toList_app, feedB_put4 sh r lo s0 (hg r List.mem_cons_self) hok.1, feed4_all sh L _ 0 (fun x hx => hg x (List.mem_cons_of_mem _ hx)) hok.2]
theorem feed5_all (tail : List UInt8) (ht : ∀ sh lo, (feedB 5 tail sh lo).1 = []) : ∀ (L : List Int) (s0 lo : Int), (s0 = 0 ∨ s0 = 1) → (∀ r ∈ L, goodB r = true) → okAll 5 L s0 = true → (feedB 5 ((putAll 5 L s0).1.data.toList ++ tail) s0 lo).1 = L
  | [], s0, lo, _, _, _ => ht s0 lo
  | r :: L, s0, lo, h01, hg, hok => by
    unfold okAll at hok
    rw [Bool.and_eq_true] at hok
    have e : (putAll 5 (r :: L) s0).1 = (putS 5 s0 r).s ++ (putAll 5 L (putS 5 s0 r).sh).1 := rfl
    have hp := feedB_put5 r lo s0 (hg r List.mem_cons_self) h01 hok.1 ((putAll 5 L (putS 5 s0 r).sh).1.data.toList ++ tail)
    rw [e, toList_app, List.append_assoc, hp.1, feed5_all tail ht L _ 0 hp.2 (fun x hx => hg x (List.mem_cons_of_mem _ hx)) hok.2]
theorem putAll_sh (en : Int) (h : en ≠ 5) (hc : codeB en = true) : ∀ (L : List Int), (putAll en L 0).2 = 0
  | [] => rfl
  | r :: L => by
    have hce := of_decide_eq_true (show decide (1 ≤ en ∧ en ≤ 5) = true from hc)
    have hs : (putS en 0 r).sh = 0 := by
      by_cases h1 : en = 1
      · simp [putS, h1]
      · cases hu : unitsB en
        · have hu' := of_decide_eq_false (show decide (en = 2 ∨ en = 3) = false from hu)
          have h4 : en = 4 := by omega
          subst h4
          simp [putS, hu]
        · by_cases h65 : r < 65536 <;> simp [putS, h1, hu, h65]
    show (putAll en L (putS en 0 r).sh).2 = 0
    rw [hs]
    exact putAll_sh en h hc L
theorem encEnd_text {sh : Int} {s : ByteArray} (h : (encEnd sh s).ok = true) : (encEnd sh s).s = (if sh = 1 then s ++ strOfNums [15] else s) := by
  by_cases hc : (if sh = 1 then s ++ strOfNums [15] else s).size ≤ 1000
  · rw [encEnd, if_pos hc]
  · rw [encEnd, if_neg hc] at h
    cases h
theorem dec_enc (en : Int) (L : List Int) (hok : (encA en L).ok = true) (hk : (encA en L).k < 0) : decRs en (encA en L).s = L := by
  have hc : codeB en = true := by
    cases h : codeB en
    · simp [encA, h] at hok
    · rfl
  have hn : (allG L && decide (L.length ≤ 1000)) = true := by
    cases h : (allG L && decide (L.length ≤ 1000))
    · rw [encA, h, Bool.and_false] at hok; cases hok
    · rfl
  have hg := allG_true ((Bool.and_eq_true _ _).mp hn).1
  have hE : encA en L = encGo en L 0 0 ⟨#[]⟩ := by rw [encA, hc, hn]; rfl
  rw [hE] at hok hk ⊢
  have hall := encGo_neg en L 0 0 ⟨#[]⟩ hk
  rw [encGo_ok en L 0 0 ⟨#[]⟩ hall] at hok ⊢
  rw [encEnd_text hok]
  have hemp : (⟨#[]⟩ : ByteArray) ++ (putAll en L 0).1 = (putAll en L 0).1 := ByteArray.empty_append
  rw [hemp]
  have hce := of_decide_eq_true (show decide (1 ≤ en ∧ en ≤ 5) = true from hc)
  unfold decRs
  by_cases h5 : en = 5
  · subst h5
    have hfd : ∀ s : ByteArray, feedD 5 0 0 ⟨#[]⟩ s = ⟨(feedB 5 s.data.toList 0 0).2.2.1, (feedB 5 s.data.toList 0 0).2.2.2, ⟨#[]⟩, (feedB 5 s.data.toList 0 0).1, (feedB 5 s.data.toList 0 0).2.1⟩ := fun s => by simp [feedD]
    rw [hfd]
    show (feedB 5 _ 0 0).1 ++ bads (flushN (unitsB 5) 0 0).length = L
    have hb : bads (flushN (unitsB 5) 0 0).length = [] := rfl
    rw [hb, List.append_nil]
    by_cases hs : (putAll 5 L 0).2 = 1
    · rw [if_pos hs, toList_app]
      obtain ⟨c, hc15, hcn⟩ := nums_list 15 (by omega) (by omega)
      rw [hc15]
      refine feed5_all [c] (fun sh lo => ?_) L 0 0 (.inl rfl) hg hall
      rw [feedB, if_pos ⟨rfl, by omega⟩]
      rfl
    · rw [if_neg hs]
      have := feed5_all [] (fun _ _ => rfl) L 0 0 (.inl rfl) hg hall
      rwa [List.append_nil] at this
  · rw [putAll_sh en h5 hc L, if_neg (by decide)]
    by_cases h4 : en = 4
    · subst h4
      have hfd : ∀ s : ByteArray, feedD 4 0 0 ⟨#[]⟩ s = ⟨(feedB 4 s.data.toList 0 0).2.2.1, (feedB 4 s.data.toList 0 0).2.2.2, ⟨#[]⟩, (feedB 4 s.data.toList 0 0).1, (feedB 4 s.data.toList 0 0).2.1⟩ := fun s => by simp [feedD]
      rw [hfd]
      show (feedB 4 _ 0 0).1 ++ bads (flushN (unitsB 4) 0 0).length = L
      have hb : bads (flushN (unitsB 4) 0 0).length = [] := rfl
      rw [hb, List.append_nil]
      exact feed4_all 0 L 0 0 hg hall
    · have hf := feedU_put en (by omega) L 0 (putAll en L 0).1.size hg (Nat.le_refl _)
      have hfd : feedD en 0 0 ⟨#[]⟩ (putAll en L 0).1 = ⟨0, 0, (feedU en (putAll en L 0).1.size (putAll en L 0).1).2.2, (feedU en (putAll en L 0).1.size (putAll en L 0).1).1, (feedU en (putAll en L 0).1.size (putAll en L 0).1).2.1⟩ := by
        unfold feedD
        rw [if_neg (by omega), hemp]
      rw [hfd]
      show (feedU en (putAll en L 0).1.size (putAll en L 0).1).1 ++ bads (flushN (unitsB en) (feedU en (putAll en L 0).1.size (putAll en L 0).1).2.2.size (feedU en (putAll en L 0).1.size (putAll en L 0).1).2.2.size).length = L
      rw [hf.2, hf.1]
      exact List.append_nil _
end Go.Proofs.YtcclollclbegoaaDoor
namespace Go.Proofs.YtcclollclbegoaaDoor
open Go
theorem encEnd_neg {sh : Int} {s : ByteArray} (h : (encEnd sh s).ok = true) : (encEnd sh s).k = -1 := by
  by_cases hc : (if sh = 1 then s ++ strOfNums [15] else s).size ≤ 1000
  · rw [encEnd, if_pos hc]
  · rw [encEnd, if_neg hc] at h
    cases h
theorem encGo_at (en : Int) : ∀ (L : List Int) (k : Nat) (sh : Int) (s : ByteArray), (encGo en L k sh s).ok = true → 0 ≤ (encGo en L k sh s).k →
    ∃ j, j < L.length ∧ (encGo en L k sh s).k = ((k + j : Nat) : Int) ∧ okAll en (L.take j) sh = true ∧ ∀ (k' : Nat) (s' : ByteArray), encGo en (L.take (j + 1)) k' sh s' = ⟨⟨#[]⟩, ((k' + j : Nat) : Int), true⟩
  | [], k, sh, s, h, h0 => by
    have := encEnd_neg (sh := sh) (s := s) h
    have h0' : 0 ≤ (encEnd sh s).k := h0
    omega
  | r :: L, k, sh, s, h, h0 => by
    cases ho : (putS en sh r).ok
    · refine ⟨0, by simp, ?_, rfl, fun k' s' => ?_⟩
      · rw [encGo, ho]; rfl
      · show encGo en [r] k' sh s' = _
        rw [encGo, ho]; rfl
    · rw [encGo, if_pos ho] at h h0
      obtain ⟨j, hj, hk, ha, hb⟩ := encGo_at en L (k + 1) _ _ h h0
      refine ⟨j + 1, by simp; omega, ?_, ?_, fun k' s' => ?_⟩
      · rw [encGo, if_pos ho, hk]; congr 1; omega
      · rw [List.take_succ_cons]
        unfold okAll
        rw [ho, ha]; rfl
      · rw [List.take_succ_cons, encGo, if_pos ho, hb]
        congr 2
        omega
theorem putAll_size (en : Int) : ∀ (L : List Int) (sh : Int), (putAll en L sh).1.size ≤ 4 * L.length
  | [], _ => Nat.le_refl _
  | r :: L, sh => by
    have h1 := putS_size en sh r
    have h2 := putAll_size en L (putS en sh r).sh
    show ((putS en sh r).s ++ (putAll en L (putS en sh r).sh).1).size ≤ _
    rw [ByteArray.size_append, List.length_cons]
    omega
theorem encEnd_small (sh : Int) (s : ByteArray) (h : s.size ≤ 999) : (encEnd sh s).ok = true := by
  have hc : (if sh = 1 then s ++ strOfNums [15] else s).size ≤ 1000 := by
    split
    · rw [ByteArray.size_append, strOf_size]; show s.size + 1 ≤ 1000; omega
    · omega
  rw [encEnd, if_pos hc]
theorem allG_take {L : List Int} (h : (allG L && decide (L.length ≤ 1000)) = true) (j : Nat) : (allG (L.take j) && decide ((L.take j).length ≤ 1000)) = true := by
  rw [Bool.and_eq_true] at h ⊢
  have hl := of_decide_eq_true h.2
  refine ⟨List.all_eq_true.2 fun r hr => allG_true h.1 r (List.mem_of_mem_take hr), decide_eq_true ?_⟩
  rw [List.length_take]
  omega
/-- With a short list: the runes ahead of the first one that can't be written can be written, and with it they can't. -/
theorem enc_first (en : Int) (L : List Int) (hl : L.length ≤ 200) (hok : (encA en L).ok = true) (h0 : 0 ≤ (encA en L).k) :
    ∃ j, j < L.length ∧ (encA en L).k = (j : Int) ∧ (encA en (L.take j)).ok = true ∧ (encA en (L.take j)).k = -1 ∧ (encA en (L.take (j + 1))).ok = true ∧ (encA en (L.take (j + 1))).k = (j : Int) := by
  have hc : codeB en = true := by
    cases h : codeB en
    · simp [encA, h] at hok
    · rfl
  have hn : (allG L && decide (L.length ≤ 1000)) = true := by
    cases h : (allG L && decide (L.length ≤ 1000))
    · rw [encA, h, Bool.and_false] at hok; cases hok
    · rfl
  have hE : ∀ M : List Int, (allG M && decide (M.length ≤ 1000)) = true → encA en M = encGo en M 0 0 ⟨#[]⟩ := fun M hM => by rw [encA, hc, hM]; rfl
  rw [hE L hn] at hok h0
  obtain ⟨j, hj, hk, ha, hb⟩ := encGo_at en L 0 0 ⟨#[]⟩ hok h0
  have hE1 := hE _ (allG_take hn j)
  have hE2 := hE _ (allG_take hn (j + 1))
  have hg1 := encGo_ok en (L.take j) 0 0 ⟨#[]⟩ ha
  have hz := putAll_size en (L.take j) 0
  have hlt := List.length_take_le j L
  have hs : ((⟨#[]⟩ : ByteArray) ++ (putAll en (L.take j) 0).1).size ≤ 999 := by
    rw [ByteArray.size_append]
    show 0 + _ ≤ 999
    omega
  have hok1 := encEnd_small (putAll en (L.take j) 0).2 _ hs
  refine ⟨j, hj, ?_, ?_, ?_, ?_, ?_⟩
  · rw [hE L hn, hk]; congr 1; omega
  · rw [hE1, hg1]; exact hok1
  · rw [hE1, hg1]; exact encEnd_neg hok1
  · rw [hE2, hb]
  · rw [hE2, hb]; show ((0 + j : Nat) : Int) = _; congr 1; omega
/-- The lengths told are no more than the bytes. -/
theorem decLs_sum (en : Int) (s : ByteArray) : sumI (decLs en s) ≤ (s.size : Int) := by
  unfold decLs
  rw [sumI_append, flushN_sum _ _ _ (Nat.le_refl _)]
  unfold feedD
  by_cases h45 : en = 4 ∨ en = 5
  · rw [if_pos h45]
    have h := feedB_sum en s.data.toList 0 0
    have hl : s.data.toList.length = s.size := by simp
    have hlo : ∀ (l : List UInt8) (sh lo : Int), 0 ≤ lo → 0 ≤ (feedB en l sh lo).2.2.2 := by
      intro l
      induction l with
      | nil => intro sh lo h; exact h
      | cons b t ih =>
        intro sh lo h
        rw [feedB]
        split
        · exact ih _ _ (by omega)
        · exact ih _ 0 (Int.le_refl 0)
    have h0 := hlo s.data.toList 0 0 (Int.le_refl 0)
    show sumI (feedB en s.data.toList 0 0).2.1 + ((0 : Nat) : Int) ≤ _
    omega
  · rw [if_neg h45]
    have h := feedU_sum en ((⟨#[]⟩ : ByteArray) ++ s).size ((⟨#[]⟩ : ByteArray) ++ s)
    have hz : ((⟨#[]⟩ : ByteArray) ++ s).size = s.size := by rw [ByteArray.size_append]; show 0 + s.size = s.size; omega
    show sumI (feedU en ((⟨#[]⟩ : ByteArray) ++ s).size ((⟨#[]⟩ : ByteArray) ++ s)).2.1 + ((feedU en ((⟨#[]⟩ : ByteArray) ++ s).size ((⟨#[]⟩ : ByteArray) ++ s)).2.2.size : Int) ≤ _
    rw [h, hz]
    exact Int.le_refl _
end Go.Proofs.YtcclollclbegoaaDoor
namespace Go.Proofs.YtcclollclbegoaaDoor
open Go.ChangeShapes Go.WideShapes Go.ChangeAt Go.RowKit
theorem good5 (sh lo : Int) (h : (0 ≤ sh ∧ sh ≤ 1) ∧ 0 ≤ lo) : goodD 5 sh lo ⟨#[]⟩ = true ↔ ¬ 1000 < lo := by
  have e0 : goodD 5 sh lo ⟨#[]⟩ = (true && decide (0 ≤ sh ∧ sh ≤ 1) && decide (0 ≤ lo ∧ lo ≤ 1000) && (true || decide (sh + lo ≤ 0)) && true) := rfl
  rw [e0]
  simp only [Bool.and_eq_true, Bool.or_eq_true, decide_eq_true_eq]
  constructor
  · rintro ⟨⟨⟨⟨_, _⟩, h3⟩, _⟩, _⟩; omega
  · intro h'; exact ⟨⟨⟨⟨trivial, h.1⟩, by omega⟩, .inl trivial⟩, trivial⟩
theorem ifeedD_yes (en sh lo : Int) (held s : ByteArray) (w : World) (hT : Tabs w) (hg : goodD en sh lo held = true) (hs : s.size ≤ 1000) (R : FedR) (hR : feedD en sh lo held s = R) (hx : goodD en R.sh R.lo R.held = true) :
    Calls Tryd.prog 9 #[decV en sh lo held, .string s] w fun e w' => ∃ v1 v2, e = .returned (.tuple #[decV en R.sh R.lo R.held, v1, v2, .bool true]) ∧ Two w.heap.size w' v1 R.rs v2 R.ls ∧ Below w.heap.size w w' := by
  subst hR
  obtain ⟨h1, h2, h3, h4, h5, h6⟩ := goodD_facts hg
  rcases (by omega : en = 1 ∨ en = 2 ∨ en = 3 ∨ en = 4 ∨ en = 5) with rfl | rfl | rfl | rfl | rfl
  · obtain ⟨rfl, rfl⟩ : sh = 0 ∧ lo = 0 := by omega
    exact ifeed_1 held s w hT hg hs _ rfl
  · obtain ⟨rfl, rfl⟩ : sh = 0 ∧ lo = 0 := by omega
    exact ifeed_2 held s w hT hg hs _ rfl
  · obtain ⟨rfl, rfl⟩ : sh = 0 ∧ lo = 0 := by omega
    exact ifeed_3 held s w hT hg hs _ rfl
  · obtain ⟨rfl, rfl⟩ : sh = 0 ∧ lo = 0 := by omega
    obtain rfl := size_zero (h6 (.inl rfl))
    have h := ifeed_4 ⟨#[]⟩ s w hT hg hs _ rfl
    rw [app_empty] at h
    have hst := feedB4_state s.data.toList
    have e1 : (feedD 4 0 0 ⟨#[]⟩ s).sh = 0 := congrArg (·.1) hst
    have e2 : (feedD 4 0 0 ⟨#[]⟩ s).lo = 0 := congrArg (·.2) hst
    rw [e1, e2]
    exact h
  · obtain rfl := size_zero (h6 (.inr rfl))
    have hst := feedB5_state s.data.toList sh lo h2 h3.1
    have hov : ¬ 1000 < (feedB 5 s.data.toList sh lo).2.2.2 := (good5 _ _ hst).1 hx
    have h := ifeed_5 sh lo ⟨#[]⟩ s w hT hg hs (feedB 5 s.data.toList sh lo) (by rw [app_empty]) hov
    exact h
theorem ifeedD_over (en sh lo : Int) (held s : ByteArray) (w : World) (hT : Tabs w) (hg : goodD en sh lo held = true) (hs : s.size ≤ 1000) (R : FedR) (hR : feedD en sh lo held s = R) (hx : goodD en R.sh R.lo R.held = false) :
    Calls Tryd.prog 9 #[decV en sh lo held, .string s] w fun e w' => e = .returned (.tuple #[decV 0 0 0 ⟨#[]⟩, .slice none 0 0, .slice none 0 0, .bool false]) ∧ Below w.heap.size w w' := by
  subst hR
  obtain ⟨h1, h2, h3, h4, h5, h6⟩ := goodD_facts hg
  rcases (by omega : en = 1 ∨ en = 2 ∨ en = 3 ∨ en = 4 ∨ en = 5) with rfl | rfl | rfl | rfl | rfl
  · obtain ⟨rfl, rfl⟩ : sh = 0 ∧ lo = 0 := by omega
    have h := feedU_held 1 (held ++ s).size (held ++ s) (Nat.le_refl _) (by omega)
    exact absurd (hx.symm.trans h) (by decide)
  · obtain ⟨rfl, rfl⟩ : sh = 0 ∧ lo = 0 := by omega
    have h := feedU_held 2 (held ++ s).size (held ++ s) (Nat.le_refl _) (by omega)
    exact absurd (hx.symm.trans h) (by decide)
  · obtain ⟨rfl, rfl⟩ : sh = 0 ∧ lo = 0 := by omega
    have h := feedU_held 3 (held ++ s).size (held ++ s) (Nat.le_refl _) (by omega)
    exact absurd (hx.symm.trans h) (by decide)
  · obtain ⟨rfl, rfl⟩ : sh = 0 ∧ lo = 0 := by omega
    obtain rfl := size_zero (h6 (.inl rfl))
    have hst := feedB4_state s.data.toList
    have e1 : (feedD 4 0 0 ⟨#[]⟩ s).sh = 0 := congrArg (·.1) hst
    have e2 : (feedD 4 0 0 ⟨#[]⟩ s).lo = 0 := congrArg (·.2) hst
    rw [e1, e2, show (feedD 4 0 0 ⟨#[]⟩ s).held = ⟨#[]⟩ from rfl] at hx
    exact absurd (hx.symm.trans (show goodD 4 0 0 ⟨#[]⟩ = true from rfl)) (by decide)
  · obtain rfl := size_zero (h6 (.inr rfl))
    have hst := feedB5_state s.data.toList sh lo h2 h3.1
    have hov : 1000 < (feedB 5 s.data.toList sh lo).2.2.2 := by
      by_cases h : 1000 < (feedB 5 s.data.toList sh lo).2.2.2
      · exact h
      · have := (good5 _ _ hst).2 h
        exact absurd (hx.symm.trans this) (by decide)
    exact ifeed_5over sh lo ⟨#[]⟩ s w hT hg hs (feedB 5 s.data.toList sh lo) (by rw [app_empty]) hov
end Go.Proofs.YtcclollclbegoaaDoor
namespace Go.Proofs.YtcclollclbegoaaDoor
open Go.ChangeShapes Go.WideShapes Go.ChangeAt Go.RowKit
def badN (en : Int) : Int := if unitsB en then 2 else 1
set_option maxRecDepth 100000 in
set_option maxHeartbeats 400000 in
theorem bs_1 (w : World) : Calls Tryd.prog 48 #[codV 90] w fun e w' => e = .returned (.int .i64 (badN 1)) ∧ w' = w := by
  have asn := fun xT w => as_1 (.agg #[]) xT w
  go_enter Tryd.func48, Tryd.ntmps48
  go_wp2
  go_ret
  exact ⟨rfl, rfl⟩
set_option maxRecDepth 100000 in
set_option maxHeartbeats 400000 in
theorem bs_2 (w : World) : Calls Tryd.prog 48 #[codV 91] w fun e w' => e = .returned (.int .i64 (badN 2)) ∧ w' = w := by
  have asn := fun xT w => as_2 (.agg #[]) xT w
  go_enter Tryd.func48, Tryd.ntmps48
  go_wp2
  go_ret
  exact ⟨rfl, rfl⟩
set_option maxRecDepth 100000 in
set_option maxHeartbeats 400000 in
theorem bs_3 (w : World) : Calls Tryd.prog 48 #[codV 92] w fun e w' => e = .returned (.int .i64 (badN 3)) ∧ w' = w := by
  have asn := fun xT w => as_3 (.agg #[]) xT w
  go_enter Tryd.func48, Tryd.ntmps48
  go_wp2
  go_ret
  exact ⟨rfl, rfl⟩
set_option maxRecDepth 100000 in
set_option maxHeartbeats 400000 in
theorem bs_4 (w : World) : Calls Tryd.prog 48 #[codV 93] w fun e w' => e = .returned (.int .i64 (badN 4)) ∧ w' = w := by
  have asn := fun xT w => as_4 (.agg #[]) xT w
  go_enter Tryd.func48, Tryd.ntmps48
  go_wp2
  go_ret
  exact ⟨rfl, rfl⟩
set_option maxRecDepth 100000 in
set_option maxHeartbeats 400000 in
theorem bs_5 (b : Nat) (w : World) : Calls Tryd.prog 48 #[shV b] w fun e w' => e = .returned (.int .i64 (badN 5)) ∧ w' = w := by
  have asn := fun xT w => as_5 (.pointer (some ⟨b, 0, none⟩)) xT w
  go_enter Tryd.func48, Tryd.ntmps48
  go_wp2
  go_ret
  exact ⟨rfl, rfl⟩
theorem code_bad (en sh : Int) (w : World) (h : 1 ≤ en ∧ en ≤ 5) : Calls Tryd.prog 36 #[.int .i64 en, .int .i64 sh] w fun e w' => ∃ cv, e = .returned (.tuple #[cv, .bool true]) ∧
    (∀ w, Calls Tryd.prog 48 #[cv] w fun e w' => e = .returned (.int .i64 (badN en)) ∧ w' = w) ∧ Below w.heap.size w w' := by
  rcases (by omega : en = 1 ∨ en = 2 ∨ en = 3 ∨ en = 4 ∨ en = 5) with rfl | rfl | rfl | rfl | rfl
  · exact (codeOf_1 sh w).mono fun e w' ⟨he, hw⟩ => ⟨_, he, fun w => bs_1 w, by rw [hw]; exact Below.refl _ _⟩
  · exact (codeOf_2 sh w).mono fun e w' ⟨he, hw⟩ => ⟨_, he, fun w => bs_2 w, by rw [hw]; exact Below.refl _ _⟩
  · exact (codeOf_3 sh w).mono fun e w' ⟨he, hw⟩ => ⟨_, he, fun w => bs_3 w, by rw [hw]; exact Below.refl _ _⟩
  · exact (codeOf_4 sh w).mono fun e w' ⟨he, hw⟩ => ⟨_, he, fun w => bs_4 w, by rw [hw]; exact Below.refl _ _⟩
  · exact (codeOf_5 sh w).mono fun e w' ⟨he, hw⟩ => ⟨_, he, fun w' => bs_5 _ w', by rw [hw]; exact (Below.refl _ _).alloc (Nat.le_refl _) _⟩
set_option maxRecDepth 100000 in
set_option maxHeartbeats 1000000 in
theorem iflushD_bad (en sh lo : Int) (held : ByteArray) (w : World) (hT : Tabs w) (hg : goodD en sh lo held = false) :
    Calls Tryd.prog 17 #[decV en sh lo held] w fun e w' => e = .returned (.tuple #[decV 0 0 0 ⟨#[]⟩, .slice none 0 0, .slice none 0 0, .bool false]) ∧ Below w.heap.size w w' := by
  have HG : Hid _ := hg
  have HT : Hid _ := hT
  clear hg hT
  obtain ⟨-, hr, hb⟩ := laid_two w en sh lo held 25 25
  go_enter Tryd.func17, Tryd.ntmps17
  go_wp2_with fail
  refine (igd_any _ _ _ _ _ (HT.out.below hb)).mono ?_
  rintro e w1 ⟨rfl, b1⟩
  rw [HG.out]
  have hb1 := hb.trans (b1.mono hb.size)
  obtain ⟨r0, r1, r2, r3, gz, -⟩ := hr.below b1
  have g0 := gz 0
  have g1 := gz 1
  have g2 := gz 2
  have g3 := gz 3
  clear gz hr hb b1
  go_wp2
  exact bodyPost_ret (v := .tuple #[decV 0 0 0 ⟨#[]⟩, .slice none 0 0, .slice none 0 0, .bool false]) (by simp [results, Tryd.results17, go_sem, r0, r1, r2, r3]) rfl ⟨rfl, below_put hb1 (by omega) hb1.size _ _ _ _⟩
set_option maxRecDepth 100000 in
set_option maxHeartbeats 2000000 in
theorem iflushD_yes (en sh lo : Int) (held : ByteArray) (w : World) (hT : Tabs w) (hg : goodD en sh lo held = true) :
    Calls Tryd.prog 17 #[decV en sh lo held] w fun e w' => ∃ v1 v2, e = .returned (.tuple #[decV en sh lo ⟨#[]⟩, v1, v2, .bool true]) ∧
      Two w.heap.size w' v1 (bads (flushN (unitsB en) held.size held.size).length) v2 (flushN (unitsB en) held.size held.size) ∧ Below w.heap.size w w' := by
  obtain ⟨i0, hi, hz0, hz1, hz2⟩ := info_parts Tryd.info3
  have HN : Hid _ := flushN_len (unitsB en) held.size held.size
  obtain ⟨hen, -, -, -, hh, -⟩ := goodD_facts hg
  have HE5 : Hid _ := hen
  have HZ : Hid _ := hh
  have HG : Hid _ := hg
  have HT : Hid _ := hT
  clear hh hen hg hT
  generalize hFF : flushN (unitsB en) held.size held.size = F at *
  have HS0 : Hid _ := hFF
  clear hFF
  obtain ⟨hd, hr, hb⟩ := laid_two w en sh lo held 25 25
  go_enter Tryd.func17, Tryd.ntmps17
  go_wp2_with fail
  refine (igd_any _ _ _ _ _ (HT.out.below hb)).mono ?_
  rintro e w1 ⟨rfl, b1⟩
  rw [HG.out]
  have hb1 := hb.trans (b1.mono hb.size)
  have hd1 := hd.below b1
  have hr1 := hr.below b1
  obtain ⟨d0, d1, d2, d3, -, -⟩ := hd.below b1
  clear hd hr hb b1
  go_wp2_with fail
  refine (code_bad en sh _ HE5.out).mono ?_
  rintro e w2 ⟨cv, rfl, hB, b2⟩
  have HB : Hid _ := hB
  have hb2 := hb1.trans (b2.mono hb1.size)
  have hd2 := hd1.below b2
  have hr2 := hr1.below b2
  obtain ⟨d0', d1', d2', d3', -, -⟩ := hd1.below b2
  clear hd1 hr1 hb1 b2 d0 d1 d2 d3 hB
  go_wp2
  go_loopw [8, 9, 10] (fun v1 v2 p wr => ∃ (k f : Nat) (L2 : List Int), p = .int .i64 k ∧ k ≤ f ∧ k ≤ 3 ∧ F = L2 ++ flushN (unitsB en) f k ∧ Fed w.heap.size wr en sh lo held v1 (bads L2.length) v2 L2 ∧ Below w.heap.size w wr) (fun _ _ p _ => (intOf p).toNat)
  case atStart =>
    exact ⟨held.size, _, [], rfl, Nat.le_refl _, HZ.out, HS0.out.symm, ⟨hd2, hr2, Two.nil _ _⟩, hb2⟩
  case round =>
    clear hd2 hr2 hb2 d0' d1' d2' d3'
    obtain ⟨k, f, L2, rfl, hkf, hk3, hF, fed, hbw⟩ := hrel
    have HF : Hid _ := hF
    clear hF
    have n2 : L2.length ≤ 2000 := by
      have h1 := congrArg List.length HF.out
      have h3 := HN.out
      have h4 := HZ.out
      rw [List.length_append] at h1
      omega
    by_cases hk : 0 < k
    · have hkI : (0 : Int) < k := by omega
      obtain ⟨f, rfl⟩ : ∃ f', f = f' + 1 := ⟨f - 1, by omega⟩
      obtain ⟨n, hmin, hn0, hnk, hst⟩ : ∃ n : Nat, min (k : Int) (badN en) = n ∧ 0 < n ∧ n ≤ k ∧ flushN (unitsB en) (f + 1) k = (n : Int) :: flushN (unitsB en) f (k - n) := by
        unfold badN
        cases hu : unitsB en
        · refine ⟨1, by simp; omega, by omega, by omega, ?_⟩
          obtain ⟨m, rfl⟩ : ∃ m, k = m + 1 := ⟨k - 1, by omega⟩
          exact flushN_step1 _ f m (.inl rfl)
        · by_cases h2 : 2 ≤ k
          · refine ⟨2, by simp; omega, by omega, by omega, ?_⟩
            obtain ⟨m, rfl⟩ : ∃ m, k = m + 2 := ⟨k - 2, by omega⟩
            exact flushN_step2 f m
          · refine ⟨1, by simp; omega, by omega, by omega, ?_⟩
            obtain rfl : k = 1 := by omega
            exact flushN_step1 _ f 0 (.inr rfl)
      have HST : Hid _ := hst
      have HMIN : Hid _ := hmin
      clear hst hmin
      go_wp2_with fail
      refine (HB.out _).mono ?_
      rintro e w3 ⟨rfl, rfl⟩
      have hmin := HMIN.out
      generalize badN en = q at *
      have h3 : (k : Int) < q ∧ n = k ∨ (k : Int) = q ∧ n = k ∨ q < (k : Int) ∧ q = n := by omega
      rcases h3 with ⟨hlt, rfl⟩ | ⟨rfl, rfl⟩ | ⟨hlt, rfl⟩
      all_goals
        go_wp2_with (at_builtin; refine wpList_append_own_at _ rfl _ _ 28 rfl (w.heap.size + 2) 3 i0 (.int .i64 0) 1 8 Tryd.underlying28 hi hz0 hz1 hz2 rfl (by decide) _ _ _ rfl (fed.t.a.alloc _) ⟨_, 0, none⟩ 1 1 [.int .i64 65533] rfl rfl ?c1 ?c2 ?c3 ?c4 ?c5 ?_)
        case c1 => exact cell_one_new _ _ _
        case c2 => intro u hu; simp at hu; subst hu; rfl
        case c3 => rw [bads_len]; unfold maxLen; omega
        case c4 => rw [bads_len]; omega
        case c5 => have := fed.r.lt; simp at this ⊢; omega
        intro v1' w4 hown2 hgrow _ hat
        have fed2 := (fed.alloc _).push (M := [65533]) hown2 rfl hgrow (by simpa using hat)
        rw [bads_succ] at fed2
        have hbw2 := Below.grown_row (hbw.alloc hbw.size _) (fed.t.a.alloc _) hgrow (by have := hbw.size; simp at this ⊢; omega) (by omega)
        clear hown2 hgrow hat fed hbw
        go_wp2_with (at_builtin; refine wpList_append_own_at _ rfl _ _ 28 rfl (w.heap.size + 2) 3 i0 (.int .i64 0) 1 8 Tryd.underlying28 hi hz0 hz1 hz2 rfl (by decide) _ _ _ rfl (fed2.t.b.alloc _) ⟨_, 0, none⟩ 1 1 [.int .i64 n] rfl rfl ?c1 ?c2 ?c3 ?c4 ?c5 ?_)
        case c1 => exact cell_one_new _ _ _
        case c2 => intro u hu; simp at hu; subst hu; rfl
        case c3 => unfold maxLen; omega
        case c4 => omega
        case c5 => have := fed2.r.lt; simp at this ⊢; omega
        intro v2' w5 hown3 hgrow _ hat
        have fed3 := (fed2.alloc _).push2 (M := [(n : Int)]) hown3 rfl hgrow (by simpa using hat)
        have hbw3 := Below.grown_row (hbw2.alloc hbw2.size _) (fed2.t.b.alloc _) hgrow (by have := hbw2.size; simp at this ⊢; omega) (by omega)
        clear hown3 hgrow hat fed2 hbw2
        go_wp2
        go_roundw
        case rel => first | exact ⟨k - n, f, _, congrArg (Value.int IntKind.i64) (Int.ofNat_sub hnk).symm, by omega, by omega, (HF.out.trans (congrArg (L2 ++ ·) HST.out)).trans (List.append_assoc L2 [_] _).symm, (by rw [List.length_append]; exact fed3), hbw3⟩ | exact ⟨n - n, f, _, (by rw [Nat.sub_self]; rfl), by omega, by omega, (HF.out.trans (congrArg (L2 ++ ·) HST.out)).trans (List.append_assoc L2 [_] _).symm, (by rw [List.length_append]; exact fed3), hbw3⟩
        case measure => simp [intOf]; omega
    · obtain rfl : k = 0 := by omega
      have hend : F = L2 := by rw [HF.out, flushN_none, List.append_nil]
      have c0 := fed.d.c0
      have c1 := fed.d.c1
      have c2 := fed.d.c2
      have r0 := fed.r.c0
      have r1 := fed.r.c1
      have r2 := fed.r.c2
      have r3 := fed.r.c3
      have g0 := fed.r.fz 0
      have g1 := fed.r.fz 1
      have g2 := fed.r.fz 2
      have g3 := fed.r.fz 3
      have HO : Hid _ := fed.out hbw (.int .i64 en) (.int .i64 sh) (.int .i64 lo) (.string ⟨#[]⟩)
      clear fed hbw HF HN HS0
      subst hend
      go_wp2
      exact bodyPost_ret (v := .tuple #[decV en sh lo ⟨#[]⟩, u8, u9, .bool true]) (by simp [results, Tryd.results17, go_sem, r0, r1, r2, r3]) rfl ⟨u8, u9, rfl, HO.out.1, HO.out.2⟩
end Go.Proofs.YtcclollclbegoaaDoor
namespace Go.Proofs.YtcclollclbegoaaDoor
open Go.ChangeShapes Go.WideShapes Go.ChangeAt Go.RowKit
theorem feedD_two (en sh lo : Int) (held p q : ByteArray) :
    feedD en sh lo held (p ++ q) = ⟨(feedD en (feedD en sh lo held p).sh (feedD en sh lo held p).lo (feedD en sh lo held p).held q).sh, (feedD en (feedD en sh lo held p).sh (feedD en sh lo held p).lo (feedD en sh lo held p).held q).lo,
      (feedD en (feedD en sh lo held p).sh (feedD en sh lo held p).lo (feedD en sh lo held p).held q).held,
      (feedD en sh lo held p).rs ++ (feedD en (feedD en sh lo held p).sh (feedD en sh lo held p).lo (feedD en sh lo held p).held q).rs,
      (feedD en sh lo held p).ls ++ (feedD en (feedD en sh lo held p).sh (feedD en sh lo held p).lo (feedD en sh lo held p).held q).ls⟩ := by
  unfold feedD
  by_cases h : en = 4 ∨ en = 5
  · simp only [if_pos h]
    rw [toList_app, feedB_two]
    rfl
  · simp only [if_neg h]
    rw [← ByteArray.append_assoc]
    rw [feedU_two en q (held ++ p).size (held ++ p) (Nat.le_refl _) _ (Nat.le_refl _)]
    have hr := feedU_hsz en (held ++ p).size (held ++ p)
    have h1 := ByteArray.size_append (a := (feedU en (held ++ p).size (held ++ p)).2.2) (b := q)
    have h2 := ByteArray.size_append (a := held ++ p) (b := q)
    rw [feedU_fuel en (held ++ p ++ q).size ((feedU en (held ++ p).size (held ++ p)).2.2 ++ q).size _ (by omega) (Nat.le_refl _)]
    rfl
theorem feedB5_lo' : ∀ (t : List UInt8) (sh lo : Int), 0 ≤ lo → (feedB 5 t sh lo).2.2.2 ≤ lo + t.length
  | [], sh, lo, h => by show lo ≤ lo + ((0 : Nat) : Int); omega
  | b :: t, sh, lo, h => by
    rw [feedB, List.length_cons]
    split
    · have := feedB5_lo' t (15 - b.toNat) (lo + 1) (by omega); omega
    · have := feedB5_lo' t sh 0 (by omega)
      show (feedB 5 t sh 0).2.2.2 ≤ _
      omega
theorem feedD_sum (en sh lo : Int) (held s : ByteArray) (hg : goodD en sh lo held = true) : sumI (feedD en sh lo held s).ls + ((feedD en sh lo held s).held.size : Int) + (feedD en sh lo held s).lo = (s.size : Int) + (held.size : Int) + lo := by
  obtain ⟨h1, h2, h3, h4, h5, h6⟩ := goodD_facts hg
  unfold feedD
  by_cases h : en = 4 ∨ en = 5
  · rw [if_pos h]
    have hs := feedB_sum en s.data.toList sh lo
    have hl : s.data.toList.length = s.size := by simp
    show sumI (feedB en s.data.toList sh lo).2.1 + (held.size : Int) + (feedB en s.data.toList sh lo).2.2.2 = _
    omega
  · rw [if_neg h]
    have hs := feedU_sum en (held ++ s).size (held ++ s)
    have hz := ByteArray.size_append (a := held) (b := s)
    show sumI (feedU en (held ++ s).size (held ++ s)).2.1 + ((feedU en (held ++ s).size (held ++ s)).2.2.size : Int) + lo = _
    omega
/-- Where a good decoder is no good one behind a piece it has taken too many loose bytes. -/
theorem feedD_loose (en sh lo : Int) (held p : ByteArray) (hg : goodD en sh lo held = true) (hb : goodD en (feedD en sh lo held p).sh (feedD en sh lo held p).lo (feedD en sh lo held p).held = false) : 1000 < lo + (p.size : Int) := by
  obtain ⟨h1, h2, h3, h4, h5, h6⟩ := goodD_facts hg
  rcases (by omega : en = 1 ∨ en = 2 ∨ en = 3 ∨ en = 4 ∨ en = 5) with rfl | rfl | rfl | rfl | rfl
  · obtain ⟨rfl, rfl⟩ : sh = 0 ∧ lo = 0 := by omega
    exact absurd (hb.symm.trans (feedU_held 1 (held ++ p).size (held ++ p) (Nat.le_refl _) (by omega))) (by decide)
  · obtain ⟨rfl, rfl⟩ : sh = 0 ∧ lo = 0 := by omega
    exact absurd (hb.symm.trans (feedU_held 2 (held ++ p).size (held ++ p) (Nat.le_refl _) (by omega))) (by decide)
  · obtain ⟨rfl, rfl⟩ : sh = 0 ∧ lo = 0 := by omega
    exact absurd (hb.symm.trans (feedU_held 3 (held ++ p).size (held ++ p) (Nat.le_refl _) (by omega))) (by decide)
  · obtain ⟨rfl, rfl⟩ : sh = 0 ∧ lo = 0 := by omega
    obtain rfl := size_zero (h6 (.inl rfl))
    have hst := feedB4_state p.data.toList
    have e1 : (feedD 4 0 0 ⟨#[]⟩ p).sh = 0 := congrArg (·.1) hst
    have e2 : (feedD 4 0 0 ⟨#[]⟩ p).lo = 0 := congrArg (·.2) hst
    rw [e1, e2, show (feedD 4 0 0 ⟨#[]⟩ p).held = ⟨#[]⟩ from rfl] at hb
    exact absurd (hb.symm.trans (show goodD 4 0 0 ⟨#[]⟩ = true from rfl)) (by decide)
  · obtain rfl := size_zero (h6 (.inr rfl))
    have hst := feedB5_state p.data.toList sh lo h2 h3.1
    have hlo := feedB5_lo' p.data.toList sh lo h3.1
    have hl : p.data.toList.length = p.size := by simp
    by_cases h : 1000 < (feedB 5 p.data.toList sh lo).2.2.2
    · omega
    · exact absurd (hb.symm.trans ((good5 _ _ hst).2 h)) (by decide)
set_option maxRecDepth 100000 in
set_option maxHeartbeats 1000000 in
theorem number_any (ao : Option Addr) (n cap : Nat) (w : World) (hn : n ≤ 1048576) (h : ArgB w ao n) :
    Calls Tryd.prog 14 #[.slice ao n cap] w fun e w' => ∃ r : Int, e = .returned (.int .i64 r) ∧ 0 ≤ r ∧ r ≤ 1000002 ∧ w' = w := by
  have HA : Hid _ := h
  clear h
  go_enter Tryd.func14, Tryd.ntmps14
  go_wp2
  go_loopw [3, 8] (fun sv iv wr => ∃ (k : Nat) (y : Int), k ≤ n ∧ iv = .int .i64 k ∧ sv = .int .i64 y ∧ 0 ≤ y ∧ y ≤ 1000002 ∧ wr = w) (fun _ i _ => n - (intOf i).toNat)
  case atStart => exact ⟨0, 0, Nat.zero_le _, rfl, rfl, by omega, by omega, rfl⟩
  case round =>
    obtain ⟨k, y, hk, rfl, rfl, y0, y1, rfl⟩ := hrel
    by_cases hlt : k < n
    · have hltI : (k : Int) < (n : Int) := by omega
      obtain ⟨b1, o1, z, rfl, l1, h1, z0, z1⟩ := HA.out k hlt
      go_wp2
      go_roundw
      case rel => exact ⟨k + 1, (31 * y + z) % 1000003, by omega, by go_num, rfl, by omega, by omega, by first | rfl | trivial⟩
      case measure => simp [intOf]; omega
    · obtain rfl : k = n := by omega
      go_wp2
      go_ret
      exact ⟨y, rfl, y0, y1, rfl⟩
end Go.Proofs.YtcclollclbegoaaDoor
namespace Go.Proofs.YtcclollclbegoaaDoor
open Go.ChangeShapes Go.WideShapes Go.ChangeAt Go.RowKit
theorem below_of_grown {w0 w w' : World} {B b : Nat} (hb : Below B w0 w) (hg : w.grownBy w' (some b)) (hB : B ≤ w.heap.size) (h : B ≤ b) : Below B w0 w' := Below.grown hb hg hB (fun g e => by have := Option.some.inj e; omega)
set_option maxRecDepth 100000 in
set_option maxHeartbeats 1000000 in
theorem dgd_any (ao : Option Addr) (n cap : Nat) (w : World) (h : ArgB w ao n) :
    Calls Tryd.prog 47 #[.slice ao n cap] w fun e w' => ∃ (en sh lo : Int) (held : ByteArray), e = .returned (decV en sh lo held) ∧ SmallD en sh lo held ∧ Below w.heap.size w w' := by
  have b0 : Below w.heap.size w (w.alloc (.cells #[.int .i64 0, .int .i64 0, .int .i64 0, .string ⟨#[]⟩] 25)) := (Below.refl _ _).alloc (Nat.le_refl _) _
  have hbz : (w.alloc (.cells #[.int .i64 0, .int .i64 0, .int .i64 0, .string ⟨#[]⟩] 25)).heap.size = w.heap.size + 1 := by simp
  have hc0 := cur_new cap (h.below b0)
  rw [hbz] at hc0
  have HC : Hid _ := hc0
  have R0 : Hid _ := DecAt.alloc (DecAt.new w 0 0 0 ⟨#[]⟩ 25 _ rfl) (curObj ao n cap)
  have B0 : Hid _ := b0.alloc b0.size (curObj ao n cap)
  clear h b0 hc0 hbz
  go_enter Tryd.func47, Tryd.ntmps47
  go_wp2_with fail
  refine (decoder_any (w.heap.size + 1 + 1) (w.heap.size + 1) ao n cap 0 _ (by omega) HC.out).mono ?_
  rintro e w1 ⟨en, sh, lo, held, k1, rfl, sm, hk1, C1, g1⟩
  obtain ⟨r0, r1, r2, r3, gz, -⟩ := DecAt.grown R0.out g1 (fun e => by have := Option.some.inj e; omega)
  have g0 := gz 0
  have g1' := gz 1
  have g2 := gz 2
  have g3 := gz 3
  have B1 : Hid _ := below_of_grown B0.out g1 (Below.size B0.out) (by omega)
  have SM : Hid _ := sm
  clear gz C1 g1 sm
  go_wp2
  exact bodyPost_ret (v := decV en sh lo held) (by simp [results, Tryd.results47, go_sem, r0, r1, r2, r3]) rfl ⟨en, sh, lo, held, rfl, SM.out, below_put B1.out (Nat.le_refl _) (Below.size B1.out) _ _ _ _⟩
set_option maxRecDepth 100000 in
set_option maxHeartbeats 1000000 in
theorem dfl_any (ao : Option Addr) (n cap : Nat) (w : World) (h : ArgB w ao n) :
    Calls Tryd.prog 16 #[.slice ao n cap] w fun e w' => ∃ (en sh lo : Int) (held : ByteArray), e = .returned (decV en sh lo held) ∧ SmallD en sh lo held ∧ Below w.heap.size w w' := by
  have b0 : Below w.heap.size w (w.alloc (.cells #[.int .i64 0, .int .i64 0, .int .i64 0, .string ⟨#[]⟩] 25)) := (Below.refl _ _).alloc (Nat.le_refl _) _
  have HA : Hid _ := h.below b0
  have R0 := DecAt.new w 0 0 0 ⟨#[]⟩ 25 _ rfl
  clear h
  go_enter Tryd.func16, Tryd.ntmps16
  go_wp2_with fail
  refine (dgd_any ao n cap _ HA.out).mono ?_
  rintro e w1 ⟨en, sh, lo, held, rfl, sm, b1⟩
  obtain ⟨r0, r1, r2, r3, gz, -⟩ := R0.below b1
  have g0 := gz 0
  have g1 := gz 1
  have g2 := gz 2
  have g3 := gz 3
  replace b1 := b0.trans (b1.mono b0.size)
  have SM : Hid _ := sm
  clear gz R0 b0 sm
  go_wp2
  exact bodyPost_ret (v := decV en sh lo held) (by simp [results, Tryd.results16, go_sem, r0, r1, r2, r3]) rfl ⟨en, sh, lo, held, rfl, SM.out, below_put b1 (Nat.le_refl _) b1.size _ _ _ _⟩
set_option maxRecDepth 100000 in
set_option maxHeartbeats 4000000 in
theorem dfd_any (ao : Option Addr) (n cap : Nat) (w : World) (h : ArgB w ao n) :
    Calls Tryd.prog 8 #[.slice ao n cap] w fun e w' => ∃ (en sh lo : Int) (held s : ByteArray), e = .returned (.tuple #[decV en sh lo held, .string s]) ∧ SmallD en sh lo held ∧ s.size ≤ 1028 ∧ Below w.heap.size w w' := by
  have b0 : Below w.heap.size w (w.alloc (.cells #[.int .i64 0, .int .i64 0, .int .i64 0, .string ⟨#[]⟩] 25)) := (Below.refl _ _).alloc (Nat.le_refl _) _
  have hbz : (w.alloc (.cells #[.int .i64 0, .int .i64 0, .int .i64 0, .string ⟨#[]⟩] 25)).heap.size = w.heap.size + 1 := by simp
  have hc0 := cur_new cap (h.below b0)
  rw [hbz] at hc0
  have HC : Hid _ := hc0
  have R0 : Hid _ := DecAt.alloc (DecAt.new w 0 0 0 ⟨#[]⟩ 25 _ rfl) (curObj ao n cap)
  have B0 : Hid _ := b0.alloc b0.size (curObj ao n cap)
  clear h b0 hc0 hbz
  go_enter Tryd.func8, Tryd.ntmps8
  go_wp2_with fail
  refine (decoder_any (w.heap.size + 1 + 1) (w.heap.size + 1) ao n cap 0 _ (by omega) HC.out).mono ?_
  rintro e w1 ⟨en, sh, lo, held, k1, rfl, sm, hk1, C1, g1⟩
  have f1 : DecAt w1 w.heap.size 0 0 0 ⟨#[]⟩ := DecAt.grown R0.out g1 (fun e => by have := Option.some.inj e; omega)
  have B1 : Hid _ := below_of_grown B0.out g1 (Below.size B0.out) (by omega)
  have SM : Hid _ := sm
  have hl1 := C1.le
  have f3 : DecAt (w1.alloc (.cells #[.int .i64 en, .int .i64 sh, .int .i64 lo, .string held] 25)) w1.heap.size en sh lo held ∧ DecAt (w1.alloc (.cells #[.int .i64 en, .int .i64 sh, .int .i64 lo, .string held] 25)) w.heap.size 0 0 0 ⟨#[]⟩ ∧
      Cur (w1.alloc (.cells #[.int .i64 en, .int .i64 sh, .int .i64 lo, .string held] 25)) (w.heap.size + 1 + 1) (w.heap.size + 1) ao n cap k1 ∧ Below w.heap.size w (w1.alloc (.cells #[.int .i64 en, .int .i64 sh, .int .i64 lo, .string held] 25)) :=
    ⟨DecAt.new w1 en sh lo held 25 _ rfl, f1.alloc _, Cur.below C1 ((Below.refl _ _).alloc (Nat.le_refl _) _), Below.alloc B1.out (Below.size B1.out) _⟩
  clear sm C1 g1 f1 B1 HC R0 B0
  go_upto_region 3 with fail
  revert f3
  generalize (w1.alloc (.cells #[.int .i64 en, .int .i64 sh, .int .i64 lo, .string held] 25)) = w3
  generalize hDD : w1.heap.size = D at *
  clear hDD
  intro f3
  obtain ⟨d3, r3, C3, b3⟩ := f3
  have sD : (w3.drew.cell? ⟨D, 0, none⟩ = some (.int .i64 en) ∧ w3.drew.cell? ⟨D, 1, none⟩ = some (.int .i64 sh) ∧ w3.drew.cell? ⟨D, 2, none⟩ = some (.int .i64 lo) ∧ w3.drew.cell? ⟨D, 3, none⟩ = some (.string held)) := cells4 (d3.below ((Below.refl _ _).drew))
  have CU : Hid _ := Cur.below C3 ((Below.refl w3.heap.size w3).drew)
  have HD3 : Hid _ := d3.below ((Below.refl w3.heap.size w3).drew)
  have HR3 : Hid _ := r3.below ((Below.refl w3.heap.size w3).drew)
  have HB3 : Hid _ := b3.drew
  have NB1 : Hid (some (w.heap.size + 1) ≠ some D) := fun e => by have := Option.some.inj e; omega
  have NB2 : Hid (some (w.heap.size + 1) ≠ some w.heap.size) := fun e => by have := Option.some.inj e; omega
  have hDn : ¬ w.heap.size = D := by omega
  clear d3 r3 C3 b3
  go_region_held (fun w' => (w'.cell? ⟨D, 0, none⟩ = some (.int .i64 en) ∧ w'.cell? ⟨D, 1, none⟩ = some (.int .i64 sh) ∧ w'.cell? ⟨D, 2, none⟩ = some (.int .i64 lo) ∧ w'.cell? ⟨D, 3, none⟩ = some (.string held))) (first | assumption | exact HK6.out) (first
    | (go_at_call 35; refine (coded_any en (w.heap.size + 1 + 1) (w.heap.size + 1) ao n cap k1 _ (by omega) CU.out).mono ?_; rintro e w6 ⟨s, k6, rfl, hs6, hk6, C6, g6⟩
       have dd6 := DecAt.grown HD3.out g6 NB1.out
       have rr6 := DecAt.grown HR3.out g6 NB2.out
       have s6 : (w6.cell? ⟨D, 0, none⟩ = some (.int .i64 en) ∧ w6.cell? ⟨D, 1, none⟩ = some (.int .i64 sh) ∧ w6.cell? ⟨D, 2, none⟩ = some (.int .i64 lo) ∧ w6.cell? ⟨D, 3, none⟩ = some (.string held)) := cells4 dd6
       have HK6 : Hid _ := cells4 (DecAt.putOther dd6 w.heap.size hDn (.int .i64 en) (.int .i64 sh) (.int .i64 lo) (.string held))
       have BB6 : Hid _ := below_of_grown HB3.out g6 (Below.size HB3.out) (by omega)
       obtain ⟨r0, r1, r2, r3, gz, -⟩ := rr6
       have g0 := gz 0
       have g1 := gz 1
       have g2 := gz 2
       have g3 := gz 3
       clear gz dd6 C6 g6))
  all_goals
    go_wp2
    exact bodyPost_ret (v := .tuple #[decV en sh lo held, .string s]) (by simp [results, Tryd.results8, go_sem, r0, r1, r2, r3]) rfl ⟨en, sh, lo, held, s, rfl, SM.out, hs6, below_put BB6.out (Nat.le_refl _) (Below.size BB6.out) _ _ _ _⟩
/-- Both FeedDecoders tell the same; where they tell true it is what feeding gives. -/
def FeedSame (en sh lo : Int) (held s : ByteArray) : Prop := ∃ (ok : Bool) (e1 s1 l1 : Int) (h1 : ByteArray) (L1 L2 : List Int), L1.length ≤ 3000 ∧ L2.length ≤ 3000 ∧
    (∀ w, Calls Tryd.prog 10 #[decV en sh lo held, .string s] w fun e w' => ∃ v1 v2, e = .returned (.tuple #[decV e1 s1 l1 h1, v1, v2, .bool ok]) ∧ Two w.heap.size w' v1 L1 v2 L2 ∧ Below w.heap.size w w') ∧
    (∀ w, Tabs w → Calls Tryd.prog 9 #[decV en sh lo held, .string s] w fun e w' => ∃ v1 v2, e = .returned (.tuple #[decV e1 s1 l1 h1, v1, v2, .bool ok]) ∧ Two w.heap.size w' v1 L1 v2 L2 ∧ Below w.heap.size w w') ∧
    (ok = true → goodD en sh lo held = true ∧ s.size ≤ 1000 ∧ e1 = en ∧ feedD en sh lo held s = ⟨s1, l1, h1, L1, L2⟩ ∧ goodD en s1 l1 h1 = true) ∧
    (ok = false → s.size ≤ 1000 → goodD en sh lo held = true → goodD en (feedD en sh lo held s).sh (feedD en sh lo held s).lo (feedD en sh lo held s).held = false)
theorem feed_both (en sh lo : Int) (held s : ByteArray) : FeedSame en sh lo held s := by
  have no : ((∀ w, Calls Tryd.prog 10 #[decV en sh lo held, .string s] w fun e w' => e = .returned (.tuple #[decV 0 0 0 ⟨#[]⟩, .slice none 0 0, .slice none 0 0, .bool false]) ∧ Below w.heap.size w w') ∧
      (∀ w, Tabs w → Calls Tryd.prog 9 #[decV en sh lo held, .string s] w fun e w' => e = .returned (.tuple #[decV 0 0 0 ⟨#[]⟩, .slice none 0 0, .slice none 0 0, .bool false]) ∧ Below w.heap.size w w')) →
      (s.size ≤ 1000 → goodD en sh lo held = true → goodD en (feedD en sh lo held s).sh (feedD en sh lo held s).lo (feedD en sh lo held s).held = false) → FeedSame en sh lo held s := fun h h' =>
    ⟨false, 0, 0, 0, ⟨#[]⟩, [], [], by simp, by simp, (fun w => (h.1 w).mono fun e w' ⟨he, hw⟩ => ⟨_, _, he, Two.nil _ _, hw⟩), (fun w hT => (h.2 w hT).mono fun e w' ⟨he, hw⟩ => ⟨_, _, he, Two.nil _ _, hw⟩), (fun e => by cases e), fun _ => h'⟩
  cases hg : goodD en sh lo held
  · exact no ⟨fun w => feedD_bad en sh lo held s w hg, fun w hT => ifeedD_bad en sh lo held s w hT hg⟩ (fun _ h => by rw [hg] at h; cases h)
  · by_cases hs : s.size ≤ 1000
    · cases hx : goodD en (feedD en sh lo held s).sh (feedD en sh lo held s).lo (feedD en sh lo held s).held
      · exact no ⟨fun w => feedD_over en sh lo held s w hg hs _ rfl hx, fun w hT => ifeedD_over en sh lo held s w hT hg hs _ rfl hx⟩ (fun _ _ => hx)
      · have hn := feedD_sizes en sh lo held s hs (goodD_facts hg).2.2.2.2.1
        exact ⟨true, en, _, _, _, _, _, by omega, by omega, (fun w => feedD_yes en sh lo held s w hg hs _ rfl hx), (fun w hT => ifeedD_yes en sh lo held s w hT hg hs _ rfl hx), (fun _ => ⟨hg, hs, rfl, rfl, hx⟩), (fun e => by cases e)⟩
    · exact no ⟨fun w => feedD_long en sh lo held s w hg hs, fun w hT => ifeedD_long en sh lo held s w hT hg hs⟩ (fun h => absurd h hs)
end Go.Proofs.YtcclollclbegoaaDoor
namespace Go.Proofs.YtcclollclbegoaaDoor
open Go.ChangeShapes Go.WideShapes Go.ChangeAt Go.RowKit
theorem sumI_take (L : List Int) (k : Nat) (h : k < L.length) : sumI (L.take (k + 1)) = sumI (L.take k) + L.getD k 0 := by
  rw [take_one L k h, sumI_append]; simp [sumI]
theorem sumI_bd (L : List Int) (h : ∀ x ∈ L, 0 ≤ x ∧ x ≤ 5000) : 0 ≤ sumI L ∧ sumI L ≤ 5000 * L.length := by
  induction L with
  | nil => simp [sumI]
  | cons a t ih =>
    have h1 := ih (fun x hx => h x (List.mem_cons_of_mem _ hx))
    have h2 := h a (List.mem_cons_self ..)
    rw [sumI_cons, List.length_cons]
    omega
set_option maxRecDepth 100000 in
set_option maxHeartbeats 1000000 in
theorem sum_any (L : List Int) (ao : Option Addr) (cap : Nat) (w : World) (hl : L.length ≤ 5000) (hb : ∀ x ∈ L, 0 ≤ x ∧ x ≤ 5000) (hA : IntsAt w ao L) :
    Calls Tryd.prog 15 #[.slice ao L.length cap] w fun e w' => e = .returned (.int .i64 (sumI L)) ∧ w' = w := by
  have HA : Hid _ := hA
  have HB : Hid _ := hb
  clear hA hb
  go_enter Tryd.func15, Tryd.ntmps15
  go_wp2
  go_loopw [3, 8] (fun sv iv wr => ∃ k : Nat, k ≤ L.length ∧ iv = .int .i64 k ∧ sv = .int .i64 (sumI (L.take k)) ∧ wr = w) (fun _ i _ => L.length - (intOf i).toNat)
  case atStart => exact ⟨0, Nat.zero_le _, rfl, rfl, rfl⟩
  case round =>
    obtain ⟨k, hk, rfl, rfl, rfl⟩ := hrel
    by_cases hlt : k < L.length
    · have hltI : (k : Int) < (L.length : Int) := by omega
      obtain ⟨b1, o1, rfl, l1, h1⟩ := HA.out k hlt
      have hx := HB.out (L.getD k 0) (by simp [List.getD, hlt])
      have hs := sumI_bd (L.take k) (fun x hx => HB.out x (List.mem_of_mem_take hx))
      have hlk := List.length_take_le k L
      have HST : Hid _ := sumI_take L k hlt
      have hs2 : sumI (L.take k) ≤ 25000000 := by omega
      obtain ⟨hs1, -⟩ := hs
      obtain ⟨hx1, hx2⟩ := hx
      generalize L.getD k 0 = x at *
      generalize sumI (L.take k) = y at *
      go_wp2
      go_roundw
      case rel => exact ⟨k + 1, by omega, by go_num, by rw [HST.out], by first | rfl | trivial⟩
      case measure => simp [intOf]; omega
    · obtain rfl : k = L.length := by omega
      rw [List.take_length]
      go_wp2
      go_ret
      exact ⟨rfl, rfl⟩
theorem feedU_bd (en : Int) : ∀ (f : Nat) (x : ByteArray), ∀ y ∈ (feedU en f x).2.1, 0 ≤ y ∧ y ≤ x.size
  | 0, x => fun y hy => by cases hy
  | f + 1, x => fun y hy => by
    unfold feedU at hy
    by_cases h0 : x.size = 0
    · rw [if_pos h0] at hy; cases hy
    · rw [if_neg h0] at hy
      by_cases h1 : (oneS en x).2 = 0
      · rw [if_pos h1] at hy; cases hy
      · rw [if_neg h1] at hy
        have hle := oneS_le en x (by omega)
        rcases List.mem_cons.1 hy with rfl | hy'
        · omega
        · have := feedU_bd en f _ y hy'
          rw [ByteArray.size_extract] at this
          omega
theorem feedB_bd (en : Int) : ∀ (t : List UInt8) (sh lo : Int), 0 ≤ lo → ∀ y ∈ (feedB en t sh lo).2.1, 0 ≤ y ∧ y ≤ lo + t.length
  | [], sh, lo, h => fun y hy => by cases hy
  | b :: t, sh, lo, h => fun y hy => by
    rw [feedB] at hy
    rw [List.length_cons]
    split at hy
    · have := feedB_bd en t (15 - b.toNat) (lo + 1) (by omega) y hy; omega
    · rcases List.mem_cons.1 hy with rfl | hy'
      · omega
      · have := feedB_bd en t sh 0 (by omega) y hy'; omega
theorem flushN_bd (u : Bool) : ∀ (f n : Nat), ∀ y ∈ flushN u f n, 0 ≤ y ∧ y ≤ 2
  | 0, _ => fun y hy => by cases hy
  | f + 1, 0 => fun y hy => by cases hy
  | f + 1, n + 1 => fun y hy => by
    unfold flushN at hy
    split at hy
    · rcases List.mem_cons.1 hy with rfl | hy'
      · omega
      · exact flushN_bd u f _ y hy'
    · rcases List.mem_cons.1 hy with rfl | hy'
      · omega
      · exact flushN_bd u f _ y hy'
end Go.Proofs.YtcclollclbegoaaDoor
namespace Go.Proofs.YtcclollclbegoaaDoor
open Go.ChangeShapes Go.WideShapes Go.ChangeAt Go.RowKit
theorem wpList_append_row_w {P : Program} (w : World) {ops : Array Oper} {rest : List Oper} {o : Oper} {a : Act} {Q : Exit → Act → World → Prop} (hgd : Region.wanted o (yielded ops a.tmps) = true) (s x : Operand) (t : TypeId)
    (ho : o.op = .call { callee := .builtin .append, args := #[s, x], argTypes := #[t, t] })
    (base : Nat) (e : TypeId) (i : TypeInfo) (z : Value) (size bytes : Nat) (ht : P.underlying t = some (.slice e)) (hi : P.info? e = some i) (hz : i.zero = some z)
    (hsize : i.size = size) (hby : i.bytes = bytes) (hzs : z.cells.size = size) (hsz : 0 < size)
    (v : Value) (n : Nat) (xs : List Value) (hs : a.eval s = v) (hown : w.ownsRow base e size v n xs)
    (base' : Nat) (u : Value) (m : Nat) (news : List Value) (hx : a.eval x = u) (hu : w.ownsRow base' e size u m news) (h1 : ∀ u ∈ news, u.oneCell' = true)
    (h63 : n + m ≤ maxLen) (hbytes : (n + m) * bytes ≤ 140737488355328) (hbase : base ≤ w.heap.size)
    (h : ∀ v' w', w'.ownsRow base e size v' (n + m) (xs ++ news) → w.grownBy w' v.ownBlock → (v'.ownBlock = v.ownBlock ∨ v'.ownBlock = some w.heap.size) → wpList P ops Q rest (a.put o.dst v') w') :
    wpList P ops Q (o :: rest) a w := by
  refine wpList_step fun K hK => ?_
  rw [if_pos hgd]
  obtain ⟨v', w', hr, h2, h3, h5⟩ := run_append_row (P := P) w base t o.type e i z size bytes ht hi hz hsize hby hzs hsz v n xs hown base' u m news hu h1 h63 hbytes hbase
  unfold Oper.wp execOp
  simp only [ho, resolve, invoke, builtin, Sem.run_bind, Sem.run_pure, Result.andThen_ok, List.map_toArray, List.map_cons, List.map_nil, hs, hx, hr]
  exact hK _ _ (h v' w' h2 h3 h5)
/-- Both FlushDecoders tell the same; where they tell true it is what flushing gives. -/
def FlushSame (en sh lo : Int) (held : ByteArray) : Prop := ∃ (ok : Bool) (e1 s1 l1 : Int) (h1 : ByteArray) (L1 L2 : List Int), L1.length ≤ 3000 ∧ L2.length ≤ 3000 ∧
    (∀ w, Calls Tryd.prog 18 #[decV en sh lo held] w fun e w' => ∃ v1 v2, e = .returned (.tuple #[decV e1 s1 l1 h1, v1, v2, .bool ok]) ∧ Two w.heap.size w' v1 L1 v2 L2 ∧ Below w.heap.size w w') ∧
    (∀ w, Tabs w → Calls Tryd.prog 17 #[decV en sh lo held] w fun e w' => ∃ v1 v2, e = .returned (.tuple #[decV e1 s1 l1 h1, v1, v2, .bool ok]) ∧ Two w.heap.size w' v1 L1 v2 L2 ∧ Below w.heap.size w w') ∧
    (ok = true → h1 = ⟨#[]⟩ ∧ sumI L2 = (held.size : Int) ∧ ∀ y ∈ L2, 0 ≤ y ∧ y ≤ 5000)
theorem flush_both (en sh lo : Int) (held : ByteArray) : FlushSame en sh lo held := by
  cases hg : goodD en sh lo held
  · exact ⟨false, 0, 0, 0, ⟨#[]⟩, [], [], by simp, by simp, (fun w => (flushD_bad en sh lo held w hg).mono fun e w' ⟨he, hw⟩ => ⟨_, _, he, Two.nil _ _, hw⟩), (fun w hT => (iflushD_bad en sh lo held w hT hg).mono fun e w' ⟨he, hw⟩ => ⟨_, _, he, Two.nil _ _, hw⟩), (fun e => by cases e)⟩
  · have hl := flushN_len (unitsB en) held.size held.size
    have hh := (goodD_facts hg).2.2.2.2.1
    exact ⟨true, en, sh, lo, ⟨#[]⟩, _, _, (by rw [bads_len]; omega), (by omega), (fun w => flushD_yes en sh lo held w hg _ rfl), (fun w hT => iflushD_yes en sh lo held w hT hg),
      (fun _ => ⟨rfl, flushN_sum (unitsB en) held.size held.size (Nat.le_refl _), fun y hy => by have := flushN_bd _ _ _ y hy; omega⟩)⟩
theorem feedD_bd (en sh lo : Int) (held s : ByteArray) (hg : goodD en sh lo held = true) (hs : s.size ≤ 1000) : ∀ y ∈ (feedD en sh lo held s).ls, 0 ≤ y ∧ y ≤ 5000 := fun y hy => by
  obtain ⟨_, _, h3, _, h5, _⟩ := goodD_facts hg
  unfold feedD at hy
  split at hy
  · have := feedB_bd en s.data.toList sh lo h3.1 y hy
    have hl : s.data.toList.length = s.size := by simp
    omega
  · have := feedU_bd en _ _ y hy
    have hz := ByteArray.size_append (a := held) (b := s)
    omega
/-- Where both pieces are told they are the whole, told in two. -/
theorem chunk_two (en sh lo : Int) (held p q : ByteArray) {s1 l1 s2 l2 s3 l3 : Int} {h1 h2 h3 : ByteArray} {A B C D E F : List Int} (hw : feedD en sh lo held (p ++ q) = ⟨s3, l3, h3, E, F⟩) (ha : feedD en sh lo held p = ⟨s1, l1, h1, A, B⟩) (hb : feedD en s1 l1 h1 q = ⟨s2, l2, h2, C, D⟩) :
    s3 = s2 ∧ l3 = l2 ∧ h3 = h2 ∧ E = A ++ C ∧ F = B ++ D := by
  have h := feedD_two en sh lo held p q
  rw [hw, ha] at h
  simp only at h
  rw [hb] at h
  simp only [FedR.mk.injEq] at h
  exact h
theorem split_at (s : ByteArray) (k : Nat) : s.extract 0 k ++ s.extract k s.size = s := by
  apply ByteArray.ext
  apply Array.toList_inj.1
  rw [ByteArray.data_append, Array.toList_append]
  have h1 := Lib.extract_data s 0 k
  have h2 := Lib.extract_data s k s.size
  rw [h1, h2, List.drop_zero, Nat.sub_zero, List.take_of_length_le (l := s.data.toList.drop k) (by simp), List.take_append_drop]
end Go.Proofs.YtcclollclbegoaaDoor
namespace Go.Proofs.YtcclollclbegoaaDoor
open Go.ChangeShapes Go.WideShapes Go.ChangeAt Go.WideMaps Go.WideElems Go.RowKit
namespace LawChunks
theorem oper_append_run {P : Program} {w w' : World} {o : Oper} {a : Act} {K : Act → World → Prop} {Q : Exit → Act → World → Prop} {t : TypeId} {v' : Value} (s x : Operand)
    (ho : o.op = .call { callee := .builtin .append, args := #[s, x], argTypes := #[t, t] }) (v u : Value) (hs : a.eval s = v) (hx : a.eval x = u)
    (hr : (Builtin.append_ #[t, t] o.type #[v, u]).run P w = .ok v' w') (h : K (a.put o.dst v') w') : Oper.wp P o a w K Q := by
  unfold Oper.wp execOp
  simp only [ho, resolve, invoke, builtin, Sem.run_bind, Sem.run_pure, Result.andThen_ok, List.map_toArray, List.map_cons, List.map_nil, hs, hx, hr]
  exact h
theorem own_to {w : World} {base : Nat} {v : Value} {A B L : List Int} (h : w.ownsRow base 3 1 v (A.length + B.length) (ints A ++ ints B)) (e : L = A ++ B) : w.ownsRow base 3 1 v L.length (ints L) := by
  subst e
  rw [List.length_append, show ints (A ++ B) = ints A ++ ints B by simp [ints]]
  exact h
/-- A decoder's cells, in every world of the class. -/
theorem dec_bw {w : World} {D : Nat} {en sh lo : Int} {held : ByteArray} (h : DecAt w D en sh lo held) : (∀ y : BW w, y.x.cell? ⟨D, 0, none⟩ = some (.int .i64 en)) ∧ (∀ y : BW w, y.x.cell? ⟨D, 1, none⟩ = some (.int .i64 sh)) ∧ (∀ y : BW w, y.x.cell? ⟨D, 2, none⟩ = some (.int .i64 lo)) ∧ (∀ y : BW w, y.x.cell? ⟨D, 3, none⟩ = some (.string held)) :=
  ⟨fun y => (h.below y.h).c0, fun y => (h.below y.h).c1, fun y => (h.below y.h).c2, fun y => (h.below y.h).c3⟩
set_option maxRecDepth 100000 in
set_option maxHeartbeats 16000000 in
theorem walk_in (a0 : Option Addr) (n0 c0 : Nat) (a1 : Option Addr) (n1 c1 : Nat) (w : World) (hA : ArgB w a0 n0) (hM : ArgB w a1 n1) (hT : Tabs w) (hn0 : (n0 : Int) ≤ 1048576) (hn1 : (n1 : Int) ≤ 1048576 - n0) :
    Calls Tryd.prog 3 #[.slice a0 n0 c0, .slice a1 n1 c1] w fun e w' => e = .returned (.bool true) ∧ Below w.heap.size w w' := by
  have HT : Hid _ := hT
  have HA : Hid _ := hA
  have HM : Hid _ := hM
  have hn0' : ¬ (1048576 : Int) < (n0 : Int) := by omega
  have hn1' : ¬ (1048576 : Int) - n0 < (n1 : Int) := by omega
  clear hT hA hM
  go_enter Tryd.func3, Tryd.ntmps3
  go_wp2_with (first | (go_at_call 7; go_in) | fail)
  refine (dfd_any a0 n0 c0 _ HA.out).mono ?_
  rintro e w1 ⟨en, sh, lo, held, s, rfl, sm, hs, b1⟩
  have SM : Hid _ := sm
  have B1a : Hid _ := b1.alloc b1.size (.cells #[.int .i64 en, .int .i64 sh, .int .i64 lo, .string held] 25)
  have HD1 : Hid _ := DecAt.new w1 en sh lo held 25 _ rfl
  clear b1 sm HA
  obtain ⟨ok, e1, s1, l1, h1, L1, L2, k1, k2, SP, IM, hyes, hno⟩ := feed_both en sh lo held s
  have HSP : Hid _ := SP
  have HIM : Hid _ := IM
  have HYES : Hid _ := hyes
  clear SP IM hyes hno
  go_wp2_with fail
  refine (HIM.out _ (Tabs.below HT.out B1a.out)).mono ?_
  rintro e w2 ⟨vx1, vx2, rfl, TX, b2⟩
  obtain ⟨ax1, cx1, ax2, cx2, rfl, rfl⟩ := TX.form
  have B2 : Hid (Below w.heap.size w w2) := Below.trans B1a.out (b2.mono (Below.size B1a.out))
  have B2a : Hid _ := Below.alloc B2.out (Below.size B2.out) (.cells #[.int .i64 e1, .int .i64 s1, .int .i64 l1, .string h1] 25)
  have HD2 : Hid _ := DecAt.alloc (DecAt.below HD1.out b2) (.cells #[.int .i64 e1, .int .i64 s1, .int .i64 l1, .string h1] 25)
  have HX2 : Hid _ := DecAt.new w2 e1 s1 l1 h1 25 _ rfl
  have TX2 : Hid _ := Two.alloc TX (.cells #[.int .i64 e1, .int .i64 s1, .int .i64 l1, .string h1] 25)
  clear TX b2 HD1 B1a
  obtain ⟨d0, d1, d2, d3, -, -⟩ : DecAt (w2.alloc (.cells #[.int .i64 e1, .int .i64 s1, .int .i64 l1, .string h1] 25)) w1.heap.size en sh lo held := HD2.out
  go_wp2_with fail
  refine (HSP.out _).mono ?_
  rintro e w3 ⟨vw1, vw2, rfl, TW, b3⟩
  clear d0 d1 d2 d3
  obtain ⟨aw1, cw1, aw2, cw2, rfl, rfl⟩ := TW.form
  have B3 : Hid (Below w.heap.size w w3) := Below.trans B2a.out (b3.mono (Below.size B2a.out))
  have f4 : DecAt (w3.alloc (.cells #[.int .i64 e1, .int .i64 s1, .int .i64 l1, .string h1] 25)) w1.heap.size en sh lo held ∧ DecAt (w3.alloc (.cells #[.int .i64 e1, .int .i64 s1, .int .i64 l1, .string h1] 25)) w2.heap.size e1 s1 l1 h1 ∧ DecAt (w3.alloc (.cells #[.int .i64 e1, .int .i64 s1, .int .i64 l1, .string h1] 25)) w3.heap.size e1 s1 l1 h1 ∧ Two _ (w3.alloc (.cells #[.int .i64 e1, .int .i64 s1, .int .i64 l1, .string h1] 25)) _ L1 _ L2 ∧ Two _ (w3.alloc (.cells #[.int .i64 e1, .int .i64 s1, .int .i64 l1, .string h1] 25)) _ L1 _ L2 ∧ Below w.heap.size w (w3.alloc (.cells #[.int .i64 e1, .int .i64 s1, .int .i64 l1, .string h1] 25)) :=
    ⟨DecAt.alloc (DecAt.below HD2.out b3) _, DecAt.alloc (DecAt.below HX2.out b3) _, DecAt.new w3 e1 s1 l1 h1 25 _ rfl, Two.alloc (Two.below TX2.out b3) _, Two.alloc TW _, Below.alloc B3.out (Below.size B3.out) _⟩
  clear TW b3 TX2 HD2 HX2 B2a B2 B3
  go_upto_region 6 with fail
  revert f4
  generalize (w3.alloc (.cells #[.int .i64 e1, .int .i64 s1, .int .i64 l1, .string h1] 25)) = w4
  intro f4
  obtain ⟨d4, x4, z4, TX4, TW4, b4⟩ := f4
  have HD4 : Hid _ := d4
  have HX4 : Hid _ := x4
  have HTX4 : Hid _ := TX4
  have B4 : Hid _ := b4
  go_cut [83] (fun sb wx => sb = .bool false ∧ Below w4.heap.size w4 wx)
  case first =>
    as_aux_lemma =>
      obtain ⟨p0, p1, p2, p3⟩ := dec_bw d4
      obtain ⟨x0, x1, x2, x3⟩ := dec_bw x4
      obtain ⟨z0, z1, z2, z3⟩ := dec_bw z4
      have T4 : Hid (Tabs w4) := Tabs.below HT.out b4
      have S1 : Hid (∀ y : BW w4, Calls Tryd.prog 11 #[.slice ax1 L1.length cx1, .slice aw1 L1.length cw1] y.x fun e w'' => e = .returned (.bool true) ∧ Below y.x.heap.size y.x w'') := fun y => same_any L1 _ _ _ _ _ (by omega) (IntsAt.below (Two.i1 TX4) y.h) (IntsAt.below (Two.i1 TW4) y.h)
      have S2 : Hid (∀ y : BW w4, Calls Tryd.prog 11 #[.slice ax2 L2.length cx2, .slice aw2 L2.length cw2] y.x fun e w'' => e = .returned (.bool true) ∧ Below y.x.heap.size y.x w'') := fun y => same_any L2 _ _ _ _ _ (by omega) (IntsAt.below (Two.i2 TX4) y.h) (IntsAt.below (Two.i2 TW4) y.h)
      have GI : Hid (∀ y : BW w4, Calls Tryd.prog 12 #[decV en sh lo held] y.x fun e w'' => e = .returned (.bool (goodD en sh lo held)) ∧ Below y.x.heap.size y.x w'') := fun y => igd_any en sh lo held y.x (Tabs.below T4.out y.h)
      have GS : Hid (∀ y : BW w4, Calls Tryd.prog 13 #[decV en sh lo held] y.x fun e w'' => e = .returned (.bool (goodD en sh lo held)) ∧ Below y.x.heap.size y.x w'') := fun y => gd_any en sh lo held y.x
      generalize goodD en sh lo held = GD at *
      have bbg : (GD != GD) = false := by simp
      have hne := BW.some w4
      clear d4 x4 z4 TX4 TW4 b4 T4
      cases ok
      all_goals
        refine wp_region_below (by kernel_rfl) (by kernel_rfl) ?_
        repeat (go_big_quiet_step (first | (go_at_call 11; first | (with_reducible exact BW.call (S1.out _)) | (with_reducible exact BW.call (S2.out _))) | (go_at_call 12; exact BW.call (GI.out _)) | (go_at_call 13; exact BW.call (GS.out _))))
        refine wpQuiet_nil ?_
        rintro _ ⟨⟨wq, hbq⟩, rfl⟩
        go_wp2
        go_meet
        exact ⟨rfl, hbq⟩
  case rest =>
    obtain ⟨rfl, hb5⟩ := hcut
    have BK : Hid (Below w.heap.size w wc) := Below.trans B4.out (hb5.mono (Below.size B4.out))
    clear d4 x4 z4 TX4 TW4 b4
    cases ok
    · clear HD4 HX4 HTX4 HYES hb5
      go_wp2_with fail
      refine (dfl_any a1 n1 c1 _ (ArgB.below HM.out BK.out)).mono ?_
      rintro e y1 ⟨fe, fs, fl, fh, rfl, fsm, d1⟩
      have D1 : Hid (Below w.heap.size w y1) := Below.trans BK.out (d1.mono (Below.size BK.out))
      have D1a : Hid _ := Below.alloc D1.out (Below.size D1.out) (.cells #[.int .i64 fe, .int .i64 fs, .int .i64 fl, .string fh] 25)
      have E1 : Hid _ := DecAt.new y1 fe fs fl fh 25 _ rfl
      have hfh := fsm.h
      clear d1 fsm
      obtain ⟨fok, g1, g2, g3, g4, M1, M2, m1, m2, SP, IM, fyes⟩ := flush_both fe fs fl fh
      have HSP : Hid _ := SP
      have HIM : Hid _ := IM
      have HFY : Hid _ := fyes
      clear SP IM fyes
      go_wp2_with fail
      refine (HIM.out _ (Tabs.below HT.out D1a.out)).mono ?_
      rintro e y2 ⟨vx, vn, rfl, T2, d2⟩
      have D2 : Hid (Below w.heap.size w y2) := Below.trans D1a.out (d2.mono (Below.size D1a.out))
      have E2 : Hid _ := DecAt.below E1.out d2
      obtain ⟨ax, cx, an, cn, rfl, rfl⟩ := T2.form
      have D2a : Hid _ := Below.alloc D2.out (Below.size D2.out) (.cells #[.int .i64 g1, .int .i64 g2, .int .i64 g3, .string g4] 25)
      have E2a : Hid _ := DecAt.alloc E2.out (.cells #[.int .i64 g1, .int .i64 g2, .int .i64 g3, .string g4] 25)
      have TX2a : Hid _ := Two.alloc T2 (.cells #[.int .i64 g1, .int .i64 g2, .int .i64 g3, .string g4] 25)
      have G2a : Hid _ := DecAt.new y2 g1 g2 g3 g4 25 _ rfl
      clear T2 d2 E1 E2
      obtain ⟨c0, c1', c2, c3, -, -⟩ : DecAt (y2.alloc (.cells #[.int .i64 g1, .int .i64 g2, .int .i64 g3, .string g4] 25)) y1.heap.size fe fs fl fh := E2a.out
      go_wp2_with fail
      refine (HSP.out _).mono ?_
      rintro e y3 ⟨vr, vl, rfl, T3, d3⟩
      clear c0 c1' c2 c3
      have D3 : Hid (Below w.heap.size w y3) := Below.trans D2a.out (d3.mono (Below.size D2a.out))
      obtain ⟨ar, cr, al, cl, rfl, rfl⟩ := T3.form
      have f3 : DecAt (y3.alloc (.cells #[.int .i64 g1, .int .i64 g2, .int .i64 g3, .string g4] 25)) y1.heap.size fe fs fl fh ∧ DecAt (y3.alloc (.cells #[.int .i64 g1, .int .i64 g2, .int .i64 g3, .string g4] 25)) y2.heap.size g1 g2 g3 g4 ∧ DecAt (y3.alloc (.cells #[.int .i64 g1, .int .i64 g2, .int .i64 g3, .string g4] 25)) y3.heap.size g1 g2 g3 g4 ∧ Two _ (y3.alloc (.cells #[.int .i64 g1, .int .i64 g2, .int .i64 g3, .string g4] 25)) _ M1 _ M2 ∧ Two _ (y3.alloc (.cells #[.int .i64 g1, .int .i64 g2, .int .i64 g3, .string g4] 25)) _ M1 _ M2 ∧ Below w.heap.size w (y3.alloc (.cells #[.int .i64 g1, .int .i64 g2, .int .i64 g3, .string g4] 25)) :=
        ⟨DecAt.alloc (DecAt.below E2a.out d3) _, DecAt.alloc (DecAt.below G2a.out d3) _, DecAt.new y3 g1 g2 g3 g4 25 _ rfl, Two.alloc (Two.below TX2a.out d3) _, Two.alloc T3 _, Below.alloc D3.out (Below.size D3.out) _⟩
      clear T3 d3 TX2a E2a G2a
      go_upto_region 19 with fail
      revert f3
      generalize (y3.alloc (.cells #[.int .i64 g1, .int .i64 g2, .int .i64 g3, .string g4] 25)) = y4
      intro f3
      obtain ⟨e4, x4, z4, TX4, TR4, b4⟩ := f3
      have HE4 : Hid _ := e4
      have HX4 : Hid _ := x4
      have HTX : Hid _ := TX4
      have HTR : Hid _ := TR4
      have BB4 : Hid _ := b4
      obtain ⟨p0, p1, p2, p3, -, -⟩ := x4
      obtain ⟨q0, q1, q2, q3, -, -⟩ := z4
      clear e4 TX4 TR4 b4
      have bb : (fok != fok) = false := by simp
      have hM1 : M1.length ≤ 1048576 := by omega
      have hM2 : M2.length ≤ 1048576 := by omega
      go_wp2_with fail
      refine (same_any M1 _ _ _ _ _ hM1 (Two.i1 HTX.out) (Two.i1 HTR.out)).mono ?_
      rintro e z1 ⟨rfl, k1⟩
      have BB5 : Hid (Below w.heap.size w z1) := Below.trans BB4.out (k1.mono (Below.size BB4.out))
      have HTX5 : Hid _ := Two.below HTX.out k1
      have HTR5 : Hid _ := Two.below HTR.out k1
      have HE5 : Hid _ := DecAt.below HE4.out k1
      have HX5 : Hid _ := DecAt.below HX4.out k1
      clear k1 p0 p1 p2 p3 q0 q1 q2 q3 HTX HTR HE4 HX4
      go_wp2_with fail
      refine (same_any M2 _ _ _ _ _ hM2 (Two.i2 HTX5.out) (Two.i2 HTR5.out)).mono ?_
      rintro e z2 ⟨rfl, k2⟩
      have BB6 : Hid (Below w.heap.size w z2) := Below.trans BB5.out (k2.mono (Below.size BB5.out))
      have HTX6 : Hid _ := Two.below HTX5.out k2
      obtain ⟨u0, v0, u2', u3⟩ := dec_bw (DecAt.below HE5.out k2)
      obtain ⟨t0, t1, t2, t3⟩ := dec_bw (DecAt.below HX5.out k2)
      clear k2 HTX5 HTR5 HE5 HX5
      cases fok
      · go_upto_region 21 with fail
        have hne := BW.some z2
        refine wp_region_below (by kernel_rfl) (by kernel_rfl) ?_
        repeat (go_big_quiet_step (fail))
        refine wpQuiet_nil ?_
        rintro _ ⟨⟨wq, hbq⟩, rfl⟩
        go_wp2
        go_ret
        exact ⟨rfl, Below.trans BB6.out (hbq.mono (Below.size BB6.out))⟩
      · obtain ⟨rfl, hsum, hbd⟩ := HFY.out rfl
        have HSUM : Hid (∀ y : BW z2, Calls Tryd.prog 15 #[.slice an M2.length cn] y.x fun e w'' => e = .returned (.int .i64 (fh.size : Int)) ∧ w'' = y.x) := fun y => by
          have h := sum_any M2 an cn y.x (by omega) hbd (IntsAt.below (Two.i2 HTX6.out) y.h)
          rwa [hsum] at h
        clear hsum hbd HFY
        go_upto_region 21 with fail
        have hne := BW.some z2
        refine wp_region_below (by kernel_rfl) (by kernel_rfl) ?_
        repeat (go_big_quiet_step (first | (go_at_call 15; exact BW.same (HSUM.out _))))
        refine wpQuiet_nil ?_
        rintro _ ⟨⟨wq, hbq⟩, rfl⟩
        go_wp2
        go_ret
        exact ⟨rfl, Below.trans BB6.out (hbq.mono (Below.size BB6.out))⟩
    · skip
      obtain ⟨hg, hs1000, he, hfd, hgx⟩ := HYES.out rfl
      obtain rfl : en = e1 := he.symm
      have HG : Hid _ := hg
      have HFD : Hid _ := hfd
      have HGX : Hid _ := hgx
      have HD5 : Hid _ := DecAt.below HD4.out hb5
      have HX5 : Hid _ := DecAt.below HX4.out hb5
      have HTX5 : Hid _ := Two.below HTX4.out hb5
      clear hb5 HD4 HX4 HTX4 HYES hg hfd hgx
      go_upto_region 9 with fail
      go_cut [15] (fun s15 wx => ∃ k : Nat, s15 = .int .i64 k ∧ k ≤ s.size ∧ wc = wx)
      case first =>
        as_aux_lemma =>
          go_wp2_with fail
          refine (number_any a1 n1 c1 _ (by omega) (ArgB.below HM.out BK.out)).mono ?_
          rintro e q ⟨r, rfl, r0, r1, rfl⟩
          have m0 := Int.emod_nonneg r (by omega : (s.size : Int) + 1 ≠ 0)
          have m1 := Int.emod_lt_of_pos r (by omega : 0 < (s.size : Int) + 1)
          go_wp2
          go_meet
          exact ⟨(r % ((s.size : Int) + 1)).toNat, congrArg (Value.int .i64) (by omega), by omega, rfl⟩
      case rest =>
        obtain ⟨k, rfl, hk, rfl⟩ := hcut
        have sl := slice_head s k hk
        have hpz : (s.extract 0 k).size = k := head_size s k hk
        obtain ⟨okA, eA, sA, lA, hA, LA, LB, ka, kb, -, IMA, yesA, noA⟩ := feed_both en sh lo held (s.extract 0 k)
        have HIMA : Hid _ := IMA
        have HYA : Hid _ := yesA
        have HNA : Hid _ := noA
        clear IMA yesA noA
        have HSL : Hid _ := sl
        clear sl
        go_upto_region 10 with fail
        go_cut [16, 17, 18, 19] (fun t16 t17 t18 t19 wx => ∃ (P : Nat) (v1 v2 : Value), t16 = .pointer (some ⟨P, 0, none⟩) ∧ t17 = v1 ∧ t18 = v2 ∧ t19 = .bool okA ∧ DecAt wx P eA sA lA hA ∧ wc.heap.size ≤ P ∧ Two wc.heap.size wx v1 LA v2 LB ∧ Below wc.heap.size wc wx)
        case first =>
          as_aux_lemma =>
            have sl := HSL.out
            generalize s.extract 0 k = p at *
            have BD : Hid (Below wc.heap.size wc wc.drew) := (Below.refl _ _).drew
            have BA : Hid (Below wc.heap.size wc (wc.drew.alloc (.cells #[.int .i64 0, .int .i64 0, .int .i64 0, .string ⟨#[]⟩] 25))) := Below.alloc ((Below.refl _ _).drew) (Nat.le_refl _) _
            have TB1 : Hid _ := Tabs.below HT.out (Below.trans BK.out (Below.mono BD.out (Below.size BK.out)))
            have TB2 : Hid _ := Tabs.below HT.out (Below.trans BK.out (Below.mono BA.out (Below.size BK.out)))
            have hlt := (HD5.out).lt
            have hDP : wc.heap.size ≠ w1.heap.size := by omega
            have sD : (wc.drew.cell? ⟨w1.heap.size, 0, none⟩ = some (.int .i64 en) ∧ wc.drew.cell? ⟨w1.heap.size, 1, none⟩ = some (.int .i64 sh) ∧ wc.drew.cell? ⟨w1.heap.size, 2, none⟩ = some (.int .i64 lo) ∧ wc.drew.cell? ⟨w1.heap.size, 3, none⟩ = some (.string held)) := cells4 (DecAt.below HD5.out BD.out)
            have sA' : ((wc.drew.alloc (.cells #[.int .i64 0, .int .i64 0, .int .i64 0, .string ⟨#[]⟩] 25)).cell? ⟨w1.heap.size, 0, none⟩ = some (.int .i64 en) ∧ (wc.drew.alloc (.cells #[.int .i64 0, .int .i64 0, .int .i64 0, .string ⟨#[]⟩] 25)).cell? ⟨w1.heap.size, 1, none⟩ = some (.int .i64 sh) ∧ (wc.drew.alloc (.cells #[.int .i64 0, .int .i64 0, .int .i64 0, .string ⟨#[]⟩] 25)).cell? ⟨w1.heap.size, 2, none⟩ = some (.int .i64 lo) ∧ (wc.drew.alloc (.cells #[.int .i64 0, .int .i64 0, .int .i64 0, .string ⟨#[]⟩] 25)).cell? ⟨w1.heap.size, 3, none⟩ = some (.string held)) := cells4 (DecAt.below HD5.out BA.out)
            go_region_held (fun w' => (w'.cell? ⟨w1.heap.size, 0, none⟩ = some (.int .i64 en) ∧ w'.cell? ⟨w1.heap.size, 1, none⟩ = some (.int .i64 sh) ∧ w'.cell? ⟨w1.heap.size, 2, none⟩ = some (.int .i64 lo) ∧ w'.cell? ⟨w1.heap.size, 3, none⟩ = some (.string held))) (first | assumption | exact HK7.out) (first
              | (go_at_call 9; refine (HIMA.out _ (by first | exact TB1.out | exact TB2.out)).mono ?_; rintro e w6 ⟨v1', v2', rfl, T6, b6⟩
                 first
                 | (have zz6 := DecAt.below (DecAt.new wc.drew 0 0 0 ⟨#[]⟩ 25 wc.heap.size rfl) b6; have dd6 := DecAt.below (DecAt.below HD5.out BA.out) b6; have bb6 := Below.trans BA.out (b6.mono (Below.size BA.out)); have TT6 : Hid _ := T6; obtain ⟨z0, z1, z2, z3, zf, -⟩ := id zz6; have zf0 := zf 0; have zf1 := zf 1; have zf2 := zf 2; have zf3 := zf 3; have ZZ6 : Hid _ := zz6; clear zf zz6)
                 | (have dd6 := DecAt.below (DecAt.below HD5.out BD.out) b6; have bb6 := Below.trans BD.out (b6.mono (Below.size BD.out)); have TT6 : Hid _ := T6)
                 have s6 : (w6.cell? ⟨w1.heap.size, 0, none⟩ = some (.int .i64 en) ∧ w6.cell? ⟨w1.heap.size, 1, none⟩ = some (.int .i64 sh) ∧ w6.cell? ⟨w1.heap.size, 2, none⟩ = some (.int .i64 lo) ∧ w6.cell? ⟨w1.heap.size, 3, none⟩ = some (.string held)) := cells4 dd6
                 have s6a : ((w6.alloc (.cells #[.int .i64 0, .int .i64 0, .int .i64 0, .string ⟨#[]⟩] 25)).cell? ⟨w1.heap.size, 0, none⟩ = some (.int .i64 en) ∧ (w6.alloc (.cells #[.int .i64 0, .int .i64 0, .int .i64 0, .string ⟨#[]⟩] 25)).cell? ⟨w1.heap.size, 1, none⟩ = some (.int .i64 sh) ∧ (w6.alloc (.cells #[.int .i64 0, .int .i64 0, .int .i64 0, .string ⟨#[]⟩] 25)).cell? ⟨w1.heap.size, 2, none⟩ = some (.int .i64 lo) ∧ (w6.alloc (.cells #[.int .i64 0, .int .i64 0, .int .i64 0, .string ⟨#[]⟩] 25)).cell? ⟨w1.heap.size, 3, none⟩ = some (.string held)) := cells4 (dd6.alloc _)
                 have s6o : ((w6.alloc (.cells #[.int .i64 eA, .int .i64 sA, .int .i64 lA, .string hA] 25)).cell? ⟨w1.heap.size, 0, none⟩ = some (.int .i64 en) ∧ (w6.alloc (.cells #[.int .i64 eA, .int .i64 sA, .int .i64 lA, .string hA] 25)).cell? ⟨w1.heap.size, 1, none⟩ = some (.int .i64 sh) ∧ (w6.alloc (.cells #[.int .i64 eA, .int .i64 sA, .int .i64 lA, .string hA] 25)).cell? ⟨w1.heap.size, 2, none⟩ = some (.int .i64 lo) ∧ (w6.alloc (.cells #[.int .i64 eA, .int .i64 sA, .int .i64 lA, .string hA] 25)).cell? ⟨w1.heap.size, 3, none⟩ = some (.string held)) := cells4 (dd6.alloc _)
                 have HK7 : Hid (((((w6.setCell ⟨wc.heap.size, 0, none⟩ (.int .i64 eA)).setCell ⟨wc.heap.size, 1, none⟩ (.int .i64 sA)).setCell ⟨wc.heap.size, 2, none⟩ (.int .i64 lA)).setCell ⟨wc.heap.size, 3, none⟩ (.string hA)).cell? ⟨w1.heap.size, 0, none⟩ = some (.int .i64 en) ∧ ((((w6.setCell ⟨wc.heap.size, 0, none⟩ (.int .i64 eA)).setCell ⟨wc.heap.size, 1, none⟩ (.int .i64 sA)).setCell ⟨wc.heap.size, 2, none⟩ (.int .i64 lA)).setCell ⟨wc.heap.size, 3, none⟩ (.string hA)).cell? ⟨w1.heap.size, 1, none⟩ = some (.int .i64 sh) ∧ ((((w6.setCell ⟨wc.heap.size, 0, none⟩ (.int .i64 eA)).setCell ⟨wc.heap.size, 1, none⟩ (.int .i64 sA)).setCell ⟨wc.heap.size, 2, none⟩ (.int .i64 lA)).setCell ⟨wc.heap.size, 3, none⟩ (.string hA)).cell? ⟨w1.heap.size, 2, none⟩ = some (.int .i64 lo) ∧ ((((w6.setCell ⟨wc.heap.size, 0, none⟩ (.int .i64 eA)).setCell ⟨wc.heap.size, 1, none⟩ (.int .i64 sA)).setCell ⟨wc.heap.size, 2, none⟩ (.int .i64 lA)).setCell ⟨wc.heap.size, 3, none⟩ (.string hA)).cell? ⟨w1.heap.size, 3, none⟩ = some (.string held)) := cells4 (DecAt.putOther dd6 wc.heap.size hDP _ _ _ _)
                 have BB6 : Hid _ := bb6
                 clear T6 b6 dd6 bb6))
            all_goals
              go_wp2
              go_meet
              first
              | exact ⟨wc.heap.size, v1', v2', rfl, rfl, rfl, rfl, DecAt.putAll ZZ6.out eA sA lA hA, Nat.le_refl _, (Two.put TT6.out wc.heap.size (by simp) _ _ _ _).lower (by simp), below_put BB6.out (Nat.le_refl _) (Below.size BB6.out) _ _ _ _⟩
              | exact ⟨w6.heap.size, v1', v2', rfl, rfl, rfl, rfl, DecAt.new w6 eA sA lA hA 25 _ rfl, Below.size BB6.out, (Two.alloc TT6.out _).lower (Nat.le_refl _), Below.alloc BB6.out (Below.size BB6.out) _⟩
        case rest =>
          obtain ⟨P, v1, v2, rfl, rfl, rfl, rfl, yA, hPA, TA, bA⟩ := hcut
          obtain ⟨aa1, ca1, aa2, ca2, rfl, rfl⟩ := TA.form
          have HD6 : Hid (DecAt wc w1.heap.size en sh lo held) := DecAt.below HD5.out bA
          have HX6 : Hid (DecAt wc w2.heap.size en s1 l1 h1) := DecAt.below HX5.out bA
          have LTX : Hid _ := Two.lies HTX5.out
          have HLD : Hid _ := (HD5.out).lt
          have HWB : Hid _ := Below.size BK.out
          have HLX : Hid _ := (HX5.out).lt
          have HTX6 : Hid _ := Two.below HTX5.out bA
          have BK6 : Hid (Below w.heap.size w wc) := Below.trans BK.out (bA.mono (Below.size BK.out))
          have HY6 : Hid (DecAt wc P eA sA lA hA) := yA
          have HTA6 : Hid _ := TA
          have LTA : Hid _ := Two.lies TA
          have SZA : Hid _ := Below.size bA
          clear yA TA bA HD5 HX5 HTX5 BK HSL HIMA
          have sl := slice_from s k (k : Int) rfl hk
          have HSL : Hid _ := sl
          clear sl
          obtain ⟨okB, eB, sB, lB, hB, LC, LD, kc, kd, -, IMB, yesB, noB⟩ := feed_both eA sA lA hA (s.extract k s.size)
          have HIMB : Hid _ := IMB
          have HYB : Hid _ := yesB
          clear IMB yesB noB
          go_upto_region 11 with fail
          go_cut [20, 21, 22, 23] (fun t16 t17 t18 t19 wx => ∃ (P : Nat) (v1 v2 : Value), t16 = .pointer (some ⟨P, 0, none⟩) ∧ t17 = v1 ∧ t18 = v2 ∧ t19 = .bool okB ∧ DecAt wx P eB sB lB hB ∧ wc.heap.size ≤ P ∧ Two wc.heap.size wx v1 LC v2 LD ∧ Below wc.heap.size wc wx)
          case first =>
            as_aux_lemma =>
              have sl := HSL.out
              generalize s.extract k s.size = p at *
              have BD : Hid (Below wc.heap.size wc wc.drew) := (Below.refl _ _).drew
              have BA : Hid (Below wc.heap.size wc (wc.drew.alloc (.cells #[.int .i64 0, .int .i64 0, .int .i64 0, .string ⟨#[]⟩] 25))) := Below.alloc ((Below.refl _ _).drew) (Nat.le_refl _) _
              have TB1 : Hid _ := Tabs.below HT.out (Below.trans BK6.out (Below.mono BD.out (Below.size BK6.out)))
              have TB2 : Hid _ := Tabs.below HT.out (Below.trans BK6.out (Below.mono BA.out (Below.size BK6.out)))
              have hlt := (HY6.out).lt
              have hDP : wc.heap.size ≠ P := by omega
              have sD : (wc.drew.cell? ⟨P, 0, none⟩ = some (.int .i64 eA) ∧ wc.drew.cell? ⟨P, 1, none⟩ = some (.int .i64 sA) ∧ wc.drew.cell? ⟨P, 2, none⟩ = some (.int .i64 lA) ∧ wc.drew.cell? ⟨P, 3, none⟩ = some (.string hA)) := cells4 (DecAt.below HY6.out BD.out)
              have sA' : ((wc.drew.alloc (.cells #[.int .i64 0, .int .i64 0, .int .i64 0, .string ⟨#[]⟩] 25)).cell? ⟨P, 0, none⟩ = some (.int .i64 eA) ∧ (wc.drew.alloc (.cells #[.int .i64 0, .int .i64 0, .int .i64 0, .string ⟨#[]⟩] 25)).cell? ⟨P, 1, none⟩ = some (.int .i64 sA) ∧ (wc.drew.alloc (.cells #[.int .i64 0, .int .i64 0, .int .i64 0, .string ⟨#[]⟩] 25)).cell? ⟨P, 2, none⟩ = some (.int .i64 lA) ∧ (wc.drew.alloc (.cells #[.int .i64 0, .int .i64 0, .int .i64 0, .string ⟨#[]⟩] 25)).cell? ⟨P, 3, none⟩ = some (.string hA)) := cells4 (DecAt.below HY6.out BA.out)
              go_region_held (fun w' => (w'.cell? ⟨P, 0, none⟩ = some (.int .i64 eA) ∧ w'.cell? ⟨P, 1, none⟩ = some (.int .i64 sA) ∧ w'.cell? ⟨P, 2, none⟩ = some (.int .i64 lA) ∧ w'.cell? ⟨P, 3, none⟩ = some (.string hA))) (first | assumption | exact HK7.out) (first
                | (go_at_call 9; refine (HIMB.out _ (by first | exact TB1.out | exact TB2.out)).mono ?_; rintro e w6 ⟨v1', v2', rfl, T6, b6⟩
                   first
                   | (have zz6 := DecAt.below (DecAt.new wc.drew 0 0 0 ⟨#[]⟩ 25 wc.heap.size rfl) b6; have dd6 := DecAt.below (DecAt.below HY6.out BA.out) b6; have bb6 := Below.trans BA.out (b6.mono (Below.size BA.out)); have TT6 : Hid _ := T6; obtain ⟨z0, z1, z2, z3, zf, -⟩ := id zz6; have zf0 := zf 0; have zf1 := zf 1; have zf2 := zf 2; have zf3 := zf 3; have ZZ6 : Hid _ := zz6; clear zf zz6)
                   | (have dd6 := DecAt.below (DecAt.below HY6.out BD.out) b6; have bb6 := Below.trans BD.out (b6.mono (Below.size BD.out)); have TT6 : Hid _ := T6)
                   have s6 : (w6.cell? ⟨P, 0, none⟩ = some (.int .i64 eA) ∧ w6.cell? ⟨P, 1, none⟩ = some (.int .i64 sA) ∧ w6.cell? ⟨P, 2, none⟩ = some (.int .i64 lA) ∧ w6.cell? ⟨P, 3, none⟩ = some (.string hA)) := cells4 dd6
                   have s6a : ((w6.alloc (.cells #[.int .i64 0, .int .i64 0, .int .i64 0, .string ⟨#[]⟩] 25)).cell? ⟨P, 0, none⟩ = some (.int .i64 eA) ∧ (w6.alloc (.cells #[.int .i64 0, .int .i64 0, .int .i64 0, .string ⟨#[]⟩] 25)).cell? ⟨P, 1, none⟩ = some (.int .i64 sA) ∧ (w6.alloc (.cells #[.int .i64 0, .int .i64 0, .int .i64 0, .string ⟨#[]⟩] 25)).cell? ⟨P, 2, none⟩ = some (.int .i64 lA) ∧ (w6.alloc (.cells #[.int .i64 0, .int .i64 0, .int .i64 0, .string ⟨#[]⟩] 25)).cell? ⟨P, 3, none⟩ = some (.string hA)) := cells4 (dd6.alloc _)
                   have s6o : ((w6.alloc (.cells #[.int .i64 eB, .int .i64 sB, .int .i64 lB, .string hB] 25)).cell? ⟨P, 0, none⟩ = some (.int .i64 eA) ∧ (w6.alloc (.cells #[.int .i64 eB, .int .i64 sB, .int .i64 lB, .string hB] 25)).cell? ⟨P, 1, none⟩ = some (.int .i64 sA) ∧ (w6.alloc (.cells #[.int .i64 eB, .int .i64 sB, .int .i64 lB, .string hB] 25)).cell? ⟨P, 2, none⟩ = some (.int .i64 lA) ∧ (w6.alloc (.cells #[.int .i64 eB, .int .i64 sB, .int .i64 lB, .string hB] 25)).cell? ⟨P, 3, none⟩ = some (.string hA)) := cells4 (dd6.alloc _)
                   have HK7 : Hid (((((w6.setCell ⟨wc.heap.size, 0, none⟩ (.int .i64 eB)).setCell ⟨wc.heap.size, 1, none⟩ (.int .i64 sB)).setCell ⟨wc.heap.size, 2, none⟩ (.int .i64 lB)).setCell ⟨wc.heap.size, 3, none⟩ (.string hB)).cell? ⟨P, 0, none⟩ = some (.int .i64 eA) ∧ ((((w6.setCell ⟨wc.heap.size, 0, none⟩ (.int .i64 eB)).setCell ⟨wc.heap.size, 1, none⟩ (.int .i64 sB)).setCell ⟨wc.heap.size, 2, none⟩ (.int .i64 lB)).setCell ⟨wc.heap.size, 3, none⟩ (.string hB)).cell? ⟨P, 1, none⟩ = some (.int .i64 sA) ∧ ((((w6.setCell ⟨wc.heap.size, 0, none⟩ (.int .i64 eB)).setCell ⟨wc.heap.size, 1, none⟩ (.int .i64 sB)).setCell ⟨wc.heap.size, 2, none⟩ (.int .i64 lB)).setCell ⟨wc.heap.size, 3, none⟩ (.string hB)).cell? ⟨P, 2, none⟩ = some (.int .i64 lA) ∧ ((((w6.setCell ⟨wc.heap.size, 0, none⟩ (.int .i64 eB)).setCell ⟨wc.heap.size, 1, none⟩ (.int .i64 sB)).setCell ⟨wc.heap.size, 2, none⟩ (.int .i64 lB)).setCell ⟨wc.heap.size, 3, none⟩ (.string hB)).cell? ⟨P, 3, none⟩ = some (.string hA)) := cells4 (DecAt.putOther dd6 wc.heap.size hDP _ _ _ _)
                   have BB6 : Hid _ := bb6
                   clear T6 b6 dd6 bb6))
              all_goals
                go_wp2
                go_meet
                first
                | exact ⟨wc.heap.size, v1', v2', rfl, rfl, rfl, rfl, DecAt.putAll ZZ6.out eB sB lB hB, Nat.le_refl _, (Two.put TT6.out wc.heap.size (by simp) _ _ _ _).lower (by simp), below_put BB6.out (Nat.le_refl _) (Below.size BB6.out) _ _ _ _⟩
                | exact ⟨w6.heap.size, v1', v2', rfl, rfl, rfl, rfl, DecAt.new w6 eB sB lB hB 25 _ rfl, Below.size BB6.out, (Two.alloc TT6.out _).lower (Nat.le_refl _), Below.alloc BB6.out (Below.size BB6.out) _⟩
          case rest =>
            obtain ⟨Q, v1, v2, rfl, rfl, rfl, rfl, yB, hPB, TB, bB⟩ := hcut
            obtain ⟨ab1, cb1, ab2, cb2, rfl, rfl⟩ := TB.form
            have HD7 : Hid (DecAt wc w1.heap.size en sh lo held) := DecAt.below HD6.out bB
            have HX7 : Hid (DecAt wc w2.heap.size en s1 l1 h1) := DecAt.below HX6.out bB
            have HTX7 : Hid _ := Two.below HTX6.out bB
            have HTA7 : Hid _ := Two.below HTA6.out bB
            have HY7 : Hid (DecAt wc Q eB sB lB hB) := yB
            have HTB7 : Hid _ := TB
            have BK7 : Hid (Below w.heap.size w wc) := Below.trans BK6.out (bB.mono (Below.size BK6.out))
            have LTB : Hid _ := Two.lies TB
            have SZB : Hid _ := Below.size bB
            clear yB TB bB HD6 HX6 HTX6 HTA6 HY6 BK6 HSL HIMB
            go_upto_region 12 with fail
            go_cut [135] (fun sb wx => sb = .bool false ∧ DecAt wx w1.heap.size en sh lo held ∧ DecAt wx w2.heap.size en s1 l1 h1 ∧ IntsAt wx ax2 L2 ∧ Below w.heap.size w wx)
            case first =>
              as_aux_lemma =>
                cases okA
                · go_wp2
                  go_meet
                  exact ⟨rfl, HD7.out, HX7.out, Two.i2 HTX7.out, BK7.out⟩
                · cases okB
                  · go_wp2
                    go_meet
                    exact ⟨rfl, HD7.out, HX7.out, Two.i2 HTX7.out, BK7.out⟩
                  · obtain ⟨gA, sA1000, eA', fA, gxA⟩ := HYA.out rfl
                    obtain ⟨gB, sB1000, eB', fB, gxB⟩ := HYB.out rfl
                    obtain rfl : eB = eA := eB'
                    obtain rfl : eB = en := eA'
                    obtain ⟨q1, q2, q3, q4, q5⟩ := chunk_two eB sh lo held (s.extract 0 k) (s.extract k s.size) (show feedD eB sh lo held (s.extract 0 k ++ s.extract k s.size) = ⟨s1, l1, h1, L1, L2⟩ by rw [split_at]; exact HFD.out) fA fB
                    subst q1 q2 q3
                    have HQ4 : Hid _ := q4
                    have HQ5 : Hid _ := q5
                    clear q4 q5
                    clear gA sA1000 fA gxA gB sB1000 fB gxB
                    obtain ⟨i0, hi, hz0, hz1, hz2⟩ := info_parts Tryd.info3
                    obtain ⟨y0, y1, y2, y3, -, -⟩ := HY7.out
                    obtain ⟨x0, x1, x2, x3, -, -⟩ := HX7.out
                    obtain ⟨v8, w8, hap1, own8, gr8, -⟩ := run_append_row (P := Tryd.prog) wc _ 28 28 3 i0 (.int .i64 0) 1 8 Tryd.underlying28 hi hz0 hz1 hz2 rfl (by decide) _ LA.length (ints LA) (Two.a HTA7.out) _ _ LC.length (ints LC) (Two.a HTB7.out) (ints_one _) (by unfold maxLen; omega) (by omega) (Nat.le_trans SZA.out SZB.out)
                    have own8' := own_to own8 HQ4.out
                    obtain ⟨-, a8, c8, rfl, i8⟩ := ints_of_own own8'
                    clear own8'
                    have hr8 : ∀ g, Value.ownBlock (.slice aa1 LA.length ca1) = some g → _ ≤ g ∧ g < _ := fun g h => LTA.out.a g h
                    have HR8 : Hid _ := hr8
                    have I8 : Hid (IntsAt w8 a8 L1) := i8
                    have HTX8 : Hid _ := Two.keep HTX7.out gr8 LTX.out (fun g h => (HR8.out g h).1)
                    have AB8 : Hid _ := World.ownsRow.kept (Two.b HTA7.out) gr8 (by
                      by_cases e : Value.ownBlock (.slice aa2 LB.length ca2) = Value.ownBlock (.slice aa1 LA.length ca1)
                      · exact .inl (e.trans (Two.far HTA7.out e.symm))
                      · exact .inr e)
                    have BB8 : Hid _ := World.ownsRow.kept (Two.b HTB7.out) gr8 (by
                      cases hb : Value.ownBlock (.slice ab2 LD.length cb2) with
                      | none => exact .inl rfl
                      | some g => exact .inr fun e => by have h1 := (LTB.out.b g hb).1; have h2 := (HR8.out g e.symm).2; omega)
                    have HD8 : Hid _ := DecAt.grown HD7.out gr8 (fun e => by have h1 := (HR8.out _ e).1; have h2 := HLD.out; omega)
                    have HX8 : Hid _ := DecAt.grown HX7.out gr8 (fun e => by have h1 := (HR8.out _ e).1; have h2 := HLX.out; omega)
                    have BK8 : Hid (Below w.heap.size w w8) := Below.grown BK7.out gr8 (Below.size BK7.out) (fun g h => by have h1 := (HR8.out g h).1; have h2 := HWB.out; omega)
                    have SZ8 : Hid (wc.heap.size ≤ w8.heap.size) := gr8.size
                    have hsm := same_any L1 a8 ax1 c8 cx1 w8 (by omega) I8.out (Two.i1 HTX8.out)
                    have HSM : Hid _ := hsm
                    clear own8 gr8 i8 hr8 hsm
                    have HAP1 : Hid _ := hap1
                    clear hap1
                    go_wp2_with (at_builtin; go_guarded; refine oper_append_run (t := 28) _ _ rfl _ _ rfl rfl HAP1.out ?_)
                    refine Calls.mono HSM.out ?_
                    rintro e z1 ⟨rfl, k1⟩
                    have BZ1 : Hid (Below w.heap.size w z1) := Below.trans BK8.out (k1.mono (Below.size BK8.out))
                    have HTX9 : Hid _ := Two.below HTX8.out k1
                    have HD9 : Hid _ := DecAt.below HD8.out k1
                    have HX9 : Hid _ := DecAt.below HX8.out k1
                    have AB9 : Hid _ := ownsRow_below AB8.out k1
                    have BB9 : Hid _ := ownsRow_below BB8.out k1
                    have SZ9 : Hid _ := Below.size k1
                    clear y0 y1 y2 y3 x0 x1 x2 x3
                    obtain ⟨v9, w9, hap2, own9, gr9, -⟩ := run_append_row (P := Tryd.prog) z1 _ 28 28 3 i0 (.int .i64 0) 1 8 Tryd.underlying28 hi hz0 hz1 hz2 rfl (by decide) _ LB.length (ints LB) AB9.out _ _ LD.length (ints LD) BB9.out (ints_one _) (by unfold maxLen; omega) (by omega) (by have h1 := SZA.out; have h2 := SZB.out; have h3 := SZ8.out; have h4 := SZ9.out; omega)
                    have own9' := own_to own9 HQ5.out
                    obtain ⟨-, a9, c9, rfl, i9⟩ := ints_of_own own9'
                    clear own9'
                    have HR9 : Hid (∀ g, Value.ownBlock (.slice aa2 LB.length ca2) = some g → _ ≤ g ∧ g < _) := fun g h => LTA.out.b g h
                    have HTX10 : Hid _ := Two.keep HTX9.out gr9 LTX.out (fun g h => (HR9.out g h).1)
                    have HD10 : Hid _ := DecAt.grown HD9.out gr9 (fun e => by have h1 := (HR9.out _ e).1; have h2 := HLD.out; omega)
                    have HX10 : Hid _ := DecAt.grown HX9.out gr9 (fun e => by have h1 := (HR9.out _ e).1; have h2 := HLX.out; omega)
                    have BZ2 : Hid (Below w.heap.size w w9) := Below.grown BZ1.out gr9 (Below.size BZ1.out) (fun g h => by have h1 := (HR9.out g h).1; have h2 := HWB.out; omega)
                    have hsm2 := same_any L2 a9 ax2 c9 cx2 w9 (by omega) i9 (Two.i2 HTX10.out)
                    have HSM2 : Hid _ := hsm2
                    clear own9 gr9 i9 hsm2 k1
                    have HAP2 : Hid _ := hap2
                    clear hap2
                    go_wp2_with (at_builtin; go_guarded; refine oper_append_run (t := 28) _ _ rfl _ _ rfl rfl HAP2.out ?_)
                    refine Calls.mono HSM2.out ?_
                    rintro e z2 ⟨rfl, k2⟩
                    go_wp2
                    go_meet
                    exact ⟨rfl, DecAt.below HD10.out k2, DecAt.below HX10.out k2, IntsAt.below (Two.i2 HTX10.out) k2, Below.trans BZ2.out (k2.mono (Below.size BZ2.out))⟩
            case rest =>
              obtain ⟨rfl, hd8, hx8, ht8, hb8⟩ := hcut
              have BK8 : Hid _ := hb8
              clear HD7 HX7 HTX7 HTA7 HTB7 HY7 BK7 LTX LTA LTB SZA SZB HLD HLX HWB HYB hb8
              go_upto_region 14 with fail
              go_cut [165] (fun sb wx => sb = .bool false ∧ Below w.heap.size w wx)
              case first =>
                as_aux_lemma =>
                  obtain ⟨d0, d1, d2, d3⟩ := dec_bw hd8
                  obtain ⟨x0, x1, x2, x3⟩ := dec_bw hx8
                  have hsum := feedD_sum en sh lo held s HG.out
                  have hbd := feedD_bd en sh lo held s HG.out hs1000
                  rw [HFD.out] at hsum hbd
                  simp only at hsum hbd
                  have HSUM : Hid (∀ y : BW wc, Calls Tryd.prog 15 #[.slice ax2 L2.length cx2] y.x fun e w'' => e = .returned (.int .i64 (sumI L2)) ∧ w'' = y.x) := fun y => sum_any L2 ax2 cx2 y.x (by omega) hbd (IntsAt.below ht8 y.h)
                  obtain ⟨-, -, gl1, -, gh1, -⟩ := goodD_facts HG.out
                  obtain ⟨-, -, gl2, -, gh2, -⟩ := goodD_facts HGX.out
                  have hlo : okA = false → ¬ (lo + (k : Int) ≤ 1000) := fun h => by
                    have := feedD_loose en sh lo held (s.extract 0 k) HG.out (HNA.out h (by rw [hpz]; omega) HG.out)
                    rw [hpz] at this
                    omega
                  clear hbd hd8 hx8 ht8 HNA HYA
                  generalize sumI L2 = S at *
                  cases okA
                  · have hlo' := hlo rfl
                    clear hlo
                    have hne := BW.some wc
                    refine wp_region_below (by kernel_rfl) (by kernel_rfl) ?_
                    repeat (go_big_quiet_step (first | (go_at_call 15; exact BW.same (HSUM.out _))))
                    refine wpQuiet_nil ?_
                    rintro _ ⟨⟨wq, hbq⟩, rfl⟩
                    go_wp2
                    go_meet
                    exact ⟨rfl, Below.trans BK8.out (hbq.mono (Below.size BK8.out))⟩
                  · clear hlo
                    have hne := BW.some wc
                    refine wp_region_below (by kernel_rfl) (by kernel_rfl) ?_
                    repeat (go_big_quiet_step (first | (go_at_call 15; exact BW.same (HSUM.out _))))
                    refine wpQuiet_nil ?_
                    rintro _ ⟨⟨wq, hbq⟩, rfl⟩
                    go_wp2
                    go_meet
                    exact ⟨rfl, Below.trans BK8.out (hbq.mono (Below.size BK8.out))⟩
              case rest =>
                obtain ⟨rfl, hb9⟩ := hcut
                have BK : Hid (Below w.heap.size w wc) := hb9
                clear hd8 hx8 ht8 hb9 BK8 HNA HYA
                go_wp2_with fail
                refine (dfl_any a1 n1 c1 _ (ArgB.below HM.out BK.out)).mono ?_
                rintro e y1 ⟨fe, fs, fl, fh, rfl, fsm, d1⟩
                have D1 : Hid (Below w.heap.size w y1) := Below.trans BK.out (d1.mono (Below.size BK.out))
                have D1a : Hid _ := Below.alloc D1.out (Below.size D1.out) (.cells #[.int .i64 fe, .int .i64 fs, .int .i64 fl, .string fh] 25)
                have E1 : Hid _ := DecAt.new y1 fe fs fl fh 25 _ rfl
                have hfh := fsm.h
                clear d1 fsm
                obtain ⟨fok, g1, g2, g3, g4, M1, M2, m1, m2, SP, IM, fyes⟩ := flush_both fe fs fl fh
                have HSP : Hid _ := SP
                have HIM : Hid _ := IM
                have HFY : Hid _ := fyes
                clear SP IM fyes
                go_wp2_with fail
                refine (HIM.out _ (Tabs.below HT.out D1a.out)).mono ?_
                rintro e y2 ⟨vx, vn, rfl, T2, d2⟩
                have D2 : Hid (Below w.heap.size w y2) := Below.trans D1a.out (d2.mono (Below.size D1a.out))
                have E2 : Hid _ := DecAt.below E1.out d2
                obtain ⟨ax, cx, an, cn, rfl, rfl⟩ := T2.form
                have D2a : Hid _ := Below.alloc D2.out (Below.size D2.out) (.cells #[.int .i64 g1, .int .i64 g2, .int .i64 g3, .string g4] 25)
                have E2a : Hid _ := DecAt.alloc E2.out (.cells #[.int .i64 g1, .int .i64 g2, .int .i64 g3, .string g4] 25)
                have TX2a : Hid _ := Two.alloc T2 (.cells #[.int .i64 g1, .int .i64 g2, .int .i64 g3, .string g4] 25)
                have G2a : Hid _ := DecAt.new y2 g1 g2 g3 g4 25 _ rfl
                clear T2 d2 E1 E2
                obtain ⟨c0, c1', c2, c3, -, -⟩ : DecAt (y2.alloc (.cells #[.int .i64 g1, .int .i64 g2, .int .i64 g3, .string g4] 25)) y1.heap.size fe fs fl fh := E2a.out
                go_wp2_with fail
                refine (HSP.out _).mono ?_
                rintro e y3 ⟨vr, vl, rfl, T3, d3⟩
                clear c0 c1' c2 c3
                have D3 : Hid (Below w.heap.size w y3) := Below.trans D2a.out (d3.mono (Below.size D2a.out))
                obtain ⟨ar, cr, al, cl, rfl, rfl⟩ := T3.form
                have f3 : DecAt (y3.alloc (.cells #[.int .i64 g1, .int .i64 g2, .int .i64 g3, .string g4] 25)) y1.heap.size fe fs fl fh ∧ DecAt (y3.alloc (.cells #[.int .i64 g1, .int .i64 g2, .int .i64 g3, .string g4] 25)) y2.heap.size g1 g2 g3 g4 ∧ DecAt (y3.alloc (.cells #[.int .i64 g1, .int .i64 g2, .int .i64 g3, .string g4] 25)) y3.heap.size g1 g2 g3 g4 ∧ Two _ (y3.alloc (.cells #[.int .i64 g1, .int .i64 g2, .int .i64 g3, .string g4] 25)) _ M1 _ M2 ∧ Two _ (y3.alloc (.cells #[.int .i64 g1, .int .i64 g2, .int .i64 g3, .string g4] 25)) _ M1 _ M2 ∧ Below w.heap.size w (y3.alloc (.cells #[.int .i64 g1, .int .i64 g2, .int .i64 g3, .string g4] 25)) :=
                  ⟨DecAt.alloc (DecAt.below E2a.out d3) _, DecAt.alloc (DecAt.below G2a.out d3) _, DecAt.new y3 g1 g2 g3 g4 25 _ rfl, Two.alloc (Two.below TX2a.out d3) _, Two.alloc T3 _, Below.alloc D3.out (Below.size D3.out) _⟩
                clear T3 d3 TX2a E2a G2a
                go_upto_region 19 with fail
                revert f3
                generalize (y3.alloc (.cells #[.int .i64 g1, .int .i64 g2, .int .i64 g3, .string g4] 25)) = y4
                intro f3
                obtain ⟨e4, x4, z4, TX4, TR4, b4⟩ := f3
                have HE4 : Hid _ := e4
                have HX4 : Hid _ := x4
                have HTX : Hid _ := TX4
                have HTR : Hid _ := TR4
                have BB4 : Hid _ := b4
                obtain ⟨p0, p1, p2, p3, -, -⟩ := x4
                obtain ⟨q0, q1, q2, q3, -, -⟩ := z4
                clear e4 TX4 TR4 b4
                have bb : (fok != fok) = false := by simp
                have hM1 : M1.length ≤ 1048576 := by omega
                have hM2 : M2.length ≤ 1048576 := by omega
                go_wp2_with fail
                refine (same_any M1 _ _ _ _ _ hM1 (Two.i1 HTX.out) (Two.i1 HTR.out)).mono ?_
                rintro e z1 ⟨rfl, k1⟩
                have BB5 : Hid (Below w.heap.size w z1) := Below.trans BB4.out (k1.mono (Below.size BB4.out))
                have HTX5 : Hid _ := Two.below HTX.out k1
                have HTR5 : Hid _ := Two.below HTR.out k1
                have HE5 : Hid _ := DecAt.below HE4.out k1
                have HX5 : Hid _ := DecAt.below HX4.out k1
                clear k1 p0 p1 p2 p3 q0 q1 q2 q3 HTX HTR HE4 HX4
                go_wp2_with fail
                refine (same_any M2 _ _ _ _ _ hM2 (Two.i2 HTX5.out) (Two.i2 HTR5.out)).mono ?_
                rintro e z2 ⟨rfl, k2⟩
                have BB6 : Hid (Below w.heap.size w z2) := Below.trans BB5.out (k2.mono (Below.size BB5.out))
                have HTX6 : Hid _ := Two.below HTX5.out k2
                obtain ⟨u0, v0, u2', u3⟩ := dec_bw (DecAt.below HE5.out k2)
                obtain ⟨t0, t1, t2, t3⟩ := dec_bw (DecAt.below HX5.out k2)
                clear k2 HTX5 HTR5 HE5 HX5
                cases fok
                · go_upto_region 21 with fail
                  have hne := BW.some z2
                  refine wp_region_below (by kernel_rfl) (by kernel_rfl) ?_
                  repeat (go_big_quiet_step (fail))
                  refine wpQuiet_nil ?_
                  rintro _ ⟨⟨wq, hbq⟩, rfl⟩
                  go_wp2
                  go_ret
                  exact ⟨rfl, Below.trans BB6.out (hbq.mono (Below.size BB6.out))⟩
                · obtain ⟨rfl, hsum, hbd⟩ := HFY.out rfl
                  have HSUM : Hid (∀ y : BW z2, Calls Tryd.prog 15 #[.slice an M2.length cn] y.x fun e w'' => e = .returned (.int .i64 (fh.size : Int)) ∧ w'' = y.x) := fun y => by
                    have h := sum_any M2 an cn y.x (by omega) hbd (IntsAt.below (Two.i2 HTX6.out) y.h)
                    rwa [hsum] at h
                  clear hsum hbd HFY
                  go_upto_region 21 with fail
                  have hne := BW.some z2
                  refine wp_region_below (by kernel_rfl) (by kernel_rfl) ?_
                  repeat (go_big_quiet_step (first | (go_at_call 15; exact BW.same (HSUM.out _))))
                  refine wpQuiet_nil ?_
                  rintro _ ⟨⟨wq, hbq⟩, rfl⟩
                  go_wp2
                  go_ret
                  exact ⟨rfl, Below.trans BB6.out (hbq.mono (Below.size BB6.out))⟩

set_option maxRecDepth 100000 in
set_option maxHeartbeats 1000000 in
theorem walk_big (a0 : Option Addr) (n0 c0 : Nat) (a1 : Option Addr) (n1 c1 : Nat) (w : World) (h : (1048576 : Int) < n0 ∨ ((n0 : Int) ≤ 1048576 ∧ (1048576 : Int) - n0 < n1)) :
    Calls Tryd.prog 3 #[.slice a0 n0 c0, .slice a1 n1 c1] w fun e w' => e = .returned (.bool true) ∧ Below w.heap.size w w' := by
  rcases h with h | ⟨h1, h2⟩
  · go_enter Tryd.func3, Tryd.ntmps3
    go_wp2_with (first | (go_at_call 7; go_in) | fail)
    go_ret
    exact ⟨rfl, Below.refl _ _⟩
  · have h1' : ¬ (1048576 : Int) < (n0 : Int) := by omega
    go_enter Tryd.func3, Tryd.ntmps3
    go_wp2_with (first | (go_at_call 7; go_in) | fail)
    go_ret
    exact ⟨rfl, Below.refl _ _⟩
theorem walk (a0 : Option Addr) (n0 c0 : Nat) (a1 : Option Addr) (n1 c1 : Nat) (w : World) (hA : ArgB w a0 n0) (hM : ArgB w a1 n1) (hT : Tabs w) :
    Calls Tryd.prog 3 #[.slice a0 n0 c0, .slice a1 n1 c1] w fun e w' => e = .returned (.bool true) ∧ Below w.heap.size w w' := by
  by_cases h : (1048576 : Int) < n0 ∨ ((n0 : Int) ≤ 1048576 ∧ (1048576 : Int) - n0 < n1)
  · exact walk_big a0 n0 c0 a1 n1 c1 w h
  · exact walk_in a0 n0 c0 a1 n1 c1 w hA hM hT (by omega) (by omega)
theorem arg_of {H : Type} {enc : TypeId × Value → H} {W : World} {a : Option Addr} {len cap : Nat} {x : DataW H × List MemPlace} {base : Nat} {held : Bool} {fuel : Nat}
    (hf : DataW.trod enc Tryd.prog W base (fun _ => true) held fuel 22 (Value.cells (.slice a len cap)).toList = some x) : ArgB W a len := by
  rcases open_ints Tryd.underlying22 Tryd.underlying5 (by kernel_rfl) hf with ⟨hcs, _⟩ | ⟨y, l, c, zs, hcs, _, hl, hm, hz, _, hcell, hwz⟩
  · simp [Value.cells] at hcs
    obtain ⟨rfl, rfl, rfl⟩ := hcs
    exact fun j hj => absurd hj (by omega)
  · simp [Value.cells] at hcs
    obtain ⟨rfl, rfl, rfl⟩ := hcs
    have hz' : zs.length = cap := by simpa using hz
    intro j hj
    obtain ⟨b, off, rfl, hc⟩ := ints_at hcell (by omega)
    have hcj := hc j (by omega)
    have hw := bounds_u8 (hwz (zs.getD j 0) (by simp [List.getD, show j < zs.length by omega]))
    exact ⟨b, off, zs.getD j 0, rfl, World.block_lt_of_cell? W _ hcj, hcj, by omega, by omega⟩
set_option maxRecDepth 100000 in
theorem lifted (os : Os) (started : os.Started) (H : Type) (enc : TypeId × Value → H) :
    ReturnsInHanded {} Tryd.checked os 3 .any (fun w args => (Rows.fnChunksSpec.pre enc Tryd.prog Tryd.f3 [] false w args ∧ laidMetH Tryd.prog laid2 w) ∧ sizedMet enc Tryd.prog Tryd.f3 (OpenSpec.ofChange Rows.fnChunksSpec) false w args)
      (Rows.fnChunksSpec.post enc Tryd.prog Tryd.f3 false true false false) := by
  refine returnsInHanded_of_change_and (C := Tryd.checked) (X := fun w _ => laidMetH Tryd.prog laid2 w) (fun _ _ _ hh h => h.of_heap hh) own started (by kernel_rfl) Tryd.func3
    (ChangeSpec.witness_shaped (enc := enc) (C := Tryd.checked) (os := os) (X := fun w _ => laidMetH Tryd.prog laid2 w) false (World.doorLaid Tryd.prog 400 os) #[.slice none 0 0, .slice none 0 0] 8 rfl (World.shaped_of_RefB (by kernel_rfl) (by kernel_rfl)) (by kernel_rfl) (by kernel_rfl) (by kernel_rfl) (door_met os _)) ?_
  intro W base args ds gs before hval0 hW _ _ hL _
  have hval : ∀ (j : Nat) t v, Tryd.f3.params[j]? = some t → args[j]? = some v → Value.okWide Tryd.prog W .any base t v := hval0
  have hW' := hW
  obtain ⟨p, q, hA0, hV0, rfl, hfz, hnd⟩ := hW
  have hA : DataW.TrodAll enc Tryd.prog W 0 (fun _ => true) true Tryd.f3.params.toList args.toList ds p := hA0
  have hV : DataW.TrodVars enc Tryd.prog W (fun _ => true) vars2 gs q := hV0
  rw [Tryd.params3] at hA hval
  obtain ⟨v0, vs0, d0, ds0, p0, q0, hargs, rfl, rfl, h0, r0⟩ := trodAll_cons hA
  obtain ⟨v1, vs1, d1, ds1, p1, q1, rfl, rfl, rfl, h1, r1⟩ := trodAll_cons r0
  obtain ⟨rfl, rfl, rfl⟩ := trodAll_nil r1
  obtain rfl : args = #[v0, v1] := by cases args; simp_all
  obtain ⟨g, t, cs, fuel, d, q1, g', t', cs', fuel', d', q2, rfl, _⟩ := trodVars_two hV
  obtain ⟨a0, len0, cap0, rfl⟩ := okWide_slice Tryd.underlying22 (hval 0 22 v0 rfl rfl)
  have k0 := h0
  have lt0 : ∀ x ∈ p0, x.block < W.heap.size := by obtain ⟨m, hm⟩ := k0; exact DataW.trod_lt m _ _ _ hm
  have i0 : ArgB W a0 len0 := by obtain ⟨fuel, hf⟩ := h0; exact arg_of hf
  obtain ⟨a1, len1, cap1, rfl⟩ := okWide_slice Tryd.underlying22 (hval 1 22 v1 rfl rfl)
  have k1 := h1
  have lt1 : ∀ x ∈ p1, x.block < W.heap.size := by obtain ⟨m, hm⟩ := k1; exact DataW.trod_lt m _ _ _ hm
  have i1 : ArgB W a1 len1 := by obtain ⟨fuel, hf⟩ := h1; exact arg_of hf
  clear hA0 hval0
  refine (walk a0 len0 cap0 a1 len1 cap1 W i0 i1 (tabs_of_laid hL)).mono fun e W' ⟨he, bel⟩ => ?_
  subst he
  exact ⟨_, rfl, _, _, _, [], _, q, hW', trodAll_mk1 (shut_bool Tryd.underlying4 _), (trodAll_cons_mk (Below.trod laidOut (by kernel_rfl) (of_decide_eq_true (by kernel_rfl)) k0 bel lt0) (trodAll_cons_mk (Below.trod laidOut (by kernel_rfl) (of_decide_eq_true (by kernel_rfl)) k1 bel lt1) trodAll_mk0)), bel.trodVars laidOut (by kernel_rfl) hV, bel.frame _, fun h => by cases h⟩
theorem row : Rows.FnChunksSaid :=
  OpenClaim.holds_of_wide 3 Tryd.f3 rfl rfl rfl rfl rfl rfl rfl ⟨rfl, rfl, rfl, rfl, rfl⟩ rfl rfl rfl rfl rfl (by kernel_rfl) Tryd.func3 (by kernel_rfl)
    (of_decide_eq_true (by kernel_rfl)) (by unfold Func.isWrapper; first | (rw [if_pos (by decide +kernel)]; kernel_rfl) | (rw [if_neg (by decide +kernel)]; exact ⟨rfl, rfl⟩))
    (fun os started H enc _ => lifted os started H enc)
end LawChunks
theorem chunks_card : Rows.FnChunksCardSaid :=
  Claim7.holds_tied_plain_at .later [] [.data, .data] true Rows.fnChunksCard.stood.harness Rows.fnChunksCard.stood.looks
    LawChunks.row (fun _ h => by cases h) (by kernel_rfl) (fun _ h => by cases h) fnChunks_row_tie rfl ⟨rfl, rfl⟩ (by kernel_rfl) rfl
    (fun f fn hf hfn => by
      obtain rfl : f = 3 := Option.some.inj ((show Tryd.prog.funcNamed "loop.example/g00692/laws.FnChunks" = some 3 by kernel_rfl).symm.trans hf) |>.symm
      obtain rfl : fn = Tryd.f3 := (Option.some.inj (Tryd.func3.symm.trans hfn)).symm
      exact ⟨by kernel_rfl, fun j t ht => by
        rw [Tryd.params3] at ht
        have hm : t ∈ [22, 22] := by simpa using Array.mem_of_getElem? ht
        have hall : ([22, 22].all fun u => !Tryd.prog.wantsStandIn u) = true := by kernel_rfl
        exact (show Tryd.prog.wantsStandIn t = false by simpa using List.all_eq_true.1 hall t hm)⟩)
    (by kernel_rfl)
#print axioms chunks_card
end Go.Proofs.YtcclollclbegoaaDoor

/-
  For every machine of places and every list of ints, laws.FnExactRunNfa returns true: impl.RunNfa answers as the specification's RunNfa, and leaves both as they were. No conditions.
-/
import Derived.Test.YthhmijobfbjkiaaN6O
import Derived.Test.YthhmijobfbjkiaaN6B
import Derived.Lib.SmallJoins
import Derived.Deep.RegionHeld
namespace Go.Proofs.Ythhmijobfbjkiaa
open Go.ChangeShapes Go.WideShapes Go.ChangeAt Go.WideMaps Go.WideElems Go.RowKit
namespace LawRunNfa
theorem own : ownKnob Try.prog.godebug = none := by kernel_rfl
theorem laidOut : laidOutB Try.prog = true := by kernel_rfl
set_option maxRecDepth 100000 in
set_option maxHeartbeats 4000000 in
theorem walk (E : Bool) (S G : Rw) (F L : List Int) (s a b g : Option Addr) (cs ca cb cg : Nat) (X : List Int) (al : Option Addr) (cl : Nat) (w : World) (iS : RowsAt w s S) (iF : IntsAt w a F) (iL : IntsAt w b L) (iG : RowsAt w g G) (iX : IntsAt w al X) (h1S : S.length ≤ maxLen) (hxS : ∀ y ∈ S, y.length ≤ maxLen) (hF : F.length ≤ maxLen) (hL : L.length ≤ maxLen) (h1G : G.length ≤ maxLen) (hxG : ∀ y ∈ G, y.length ≤ maxLen) :
    Calls Try.prog 5 #[nfaV E s a b g S.length F.length L.length G.length cs ca cb cg, .slice al X.length cl] w fun r w' => r = .returned (.bool true) ∧ Below w.heap.size w w' := by
  have HS : Hid _ := iS
  have HF : Hid _ := iF
  have HL : Hid _ := iL
  have HG : Hid _ := iG
  have HX : Hid (IntsAt w al X) := iX
  have A1 : ∀ o, Below w.heap.size w (w.alloc o) := fun o => (Below.refl _ _).alloc (Nat.le_refl _) o
  have HSZ : Hid _ := fun o => szNfa_any E S G F L s a b g cs ca cb cg (w.alloc o) h1S hxS hF hL h1G hxG (RowsAt.keepB iS (A1 o)) (RowsAt.keepB iG (A1 o))
  clear iS iF iL iG iX h1S hxS hF hL h1G hxG
  unfold nfaV
  by_cases hl : X.length ≤ 1048576
  case neg =>
    have hl' : (1048576 : Int) < (X.length : Int) := by omega
    go_enter Try.func5, Try.ntmps5
    go_wp2
    go_ret
    exact ⟨rfl, A1 _⟩
  have hl' : ¬ (1048576 : Int) < (X.length : Int) := by omega
  go_enter Try.func5, Try.ntmps5
  go_wp2_with fail
  refine Calls.mono (HSZ.out _) ?_
  rintro r w1 ⟨hs, b1⟩
  have hbl1 : w1.heap[w.heap.size]? = some (.cells #[.bool E, .slice s S.length cs, .slice a F.length ca, .slice b L.length cb, .slice g G.length cg] 35) := (b1.block w.heap.size (by simp)).trans (heap_last2 _ _ _ rfl)
  have hs1 : w.heap.size < w1.heap.size := Nat.lt_of_lt_of_le (by simp) b1.size
  have B1 : Hid (Below w.heap.size w w1) := (A1 _).trans (b1.mono (by simp))
  clear b1
  rcases hs with ⟨hs, rfl⟩ | ⟨hs, rfl⟩
  case inr =>
    go_wp2
    go_ret
    exact ⟨rfl, B1.out⟩
  have HSz : Hid (szN S F L G ≤ 1048576) := hs
  have hz : ¬ (1048576 : Int) - (szN S F L G : Int) < 0 := by omega
  clear hs
  generalize szN S F L G = z at hz
  have g10 : w1.cell? ⟨w.heap.size, 0, none⟩ = some (.bool E) := cell_of hbl1 0
  have g11 : w1.cell? ⟨w.heap.size, 1, none⟩ = some (.slice s S.length cs) := cell_of hbl1 1
  have g12 : w1.cell? ⟨w.heap.size, 2, none⟩ = some (.slice a F.length ca) := cell_of hbl1 2
  have g13 : w1.cell? ⟨w.heap.size, 3, none⟩ = some (.slice b L.length cb) := cell_of hbl1 3
  have g14 : w1.cell? ⟨w.heap.size, 4, none⟩ = some (.slice g G.length cg) := cell_of hbl1 4
  go_wp2_with fail
  refine (toNfa_any E S G F L s a b g cs ca cb cg _ HSz.out (RowsAt.keepB HS.out B1.out) (IntsAt.keepB HF.out B1.out) (IntsAt.keepB HL.out B1.out) (RowsAt.keepB HG.out B1.out)).mono ?_
  rintro r w2 ⟨x02, x12, x22, x32, y02, y12, y22, y32, rfl, IS2, IF2, IL2, IG2, b2⟩
  have JS2 : Hid _ := IS2
  have JF2 : Hid _ := IF2
  have JL2 : Hid _ := IL2
  have JG2 : Hid _ := IG2
  have hbl2 := (b2.block w.heap.size hs1).trans hbl1
  have hs2 : w.heap.size < w2.heap.size := Nat.lt_of_lt_of_le hs1 b2.size
  have B2 : Hid (Below w.heap.size w w2) := B1.out.trans (b2.mono B1.out.size)
  clear b2 IS2 IF2 IL2 IG2 g10 g11 g12 g13 g14 hbl1 B1
  go_wp2_with fail
  refine (toI_any X al cl _ hl (IntsAt.keepB HX.out B2.out)).mono ?_
  rintro r w3 ⟨v3, rfl, o3, b3⟩
  obtain ⟨-, a3, c3, rfl, -⟩ := ints_of_own o3
  have OX3 : Hid _ := o3
  have JS3 : Hid _ := RowsAt.keepB JS2.out b3
  have JF3 : Hid _ := IntsAt.keepB JF2.out b3
  have JL3 : Hid _ := IntsAt.keepB JL2.out b3
  have JG3 : Hid _ := RowsAt.keepB JG2.out b3
  have hbl3 := (b3.block w.heap.size hs2).trans hbl2
  have hs3 : w.heap.size < w3.heap.size := Nat.lt_of_lt_of_le hs2 b3.size
  have B3 : Hid (Below w.heap.size w w3) := B2.out.trans (b3.mono B2.out.size)
  clear b3 o3 hbl2 JS2 JF2 JL2 JG2 B2
  go_wp2_with fail
  refine (srunN_any E S G F L _ _ _ _ _ _ _ _ X _ _ _ _ HSz.out hl JS3.out JF3.out JL3.out JG3.out OX3.out).mono ?_
  rintro r w4 ⟨rfl, b4⟩
  have hbl4 := (b4.block w.heap.size hs3).trans hbl3
  have hs4 : w.heap.size < w4.heap.size := Nat.lt_of_lt_of_le hs3 b4.size
  have B4 : Hid (Below w.heap.size w w4) := B3.out.trans (b4.mono B3.out.size)
  have g40 : w4.cell? ⟨w.heap.size, 0, none⟩ = some (.bool E) := cell_of hbl4 0
  have g41 : w4.cell? ⟨w.heap.size, 1, none⟩ = some (.slice s S.length cs) := cell_of hbl4 1
  have g42 : w4.cell? ⟨w.heap.size, 2, none⟩ = some (.slice a F.length ca) := cell_of hbl4 2
  have g43 : w4.cell? ⟨w.heap.size, 3, none⟩ = some (.slice b L.length cb) := cell_of hbl4 3
  have g44 : w4.cell? ⟨w.heap.size, 4, none⟩ = some (.slice g G.length cg) := cell_of hbl4 4
  clear b4 hbl3 JS3 JF3 JL3 JG3 OX3 B3
  generalize hf0 : (gN S G F L X && rN E S G F L X) = f0
  generalize hf1 : gN S G F L X = f1
  have HF0 : Hid _ := hf0
  have HF1 : Hid _ := hf1
  clear hf0 hf1
  go_wp2_with fail
  refine (toNfa_any E S G F L s a b g cs ca cb cg _ HSz.out (RowsAt.keepB HS.out B4.out) (IntsAt.keepB HF.out B4.out) (IntsAt.keepB HL.out B4.out) (RowsAt.keepB HG.out B4.out)).mono ?_
  rintro r w5 ⟨x05, x15, x25, x35, y05, y15, y25, y35, rfl, IS5, IF5, IL5, IG5, b5⟩
  have hbl5 := (b5.block w.heap.size hs4).trans hbl4
  have hs5 : w.heap.size < w5.heap.size := Nat.lt_of_lt_of_le hs4 b5.size
  have B5 : Hid (Below w.heap.size w w5) := B4.out.trans (b5.mono B4.out.size)
  have A5 : ∀ o, Below w5.heap.size w5 (w5.alloc o) := fun o => (Below.refl _ _).alloc (Nat.le_refl _) o
  have JS5 : Hid (∀ o, RowsAt (w5.alloc o) x05 S) := fun o => RowsAt.keepB IS5 (A5 o)
  have JF5 : Hid (∀ o, IntsAt (w5.alloc o) x15 F) := fun o => IntsAt.keepB IF5 (A5 o)
  have JL5 : Hid (∀ o, IntsAt (w5.alloc o) x25 L) := fun o => IntsAt.keepB IL5 (A5 o)
  have JG5 : Hid (∀ o, RowsAt (w5.alloc o) x35 G) := fun o => RowsAt.keepB IG5 (A5 o)
  have B5a : Hid (∀ o, Below w.heap.size w (w5.alloc o)) := fun o => B5.out.trans ((A5 o).mono B5.out.size)
  clear b5 IS5 IF5 IL5 IG5 g40 g41 g42 g43 g44 hbl4 B4
  go_wp2_with fail
  refine (toI_any X al cl _ hl (IntsAt.keepB HX.out (B5a.out _))).mono ?_
  rintro r w6 ⟨v6, rfl, o6, b6⟩
  obtain ⟨-, a6, c6, rfl, IX6⟩ := ints_of_own o6
  have JX6 : Hid _ := IX6
  have JS6 : Hid _ := RowsAt.keepB (JS5.out _) b6
  have JF6 : Hid _ := IntsAt.keepB (JF5.out _) b6
  have JL6 : Hid _ := IntsAt.keepB (JL5.out _) b6
  have JG6 : Hid _ := RowsAt.keepB (JG5.out _) b6
  have hbl6 := (b6.block w.heap.size (by simp; omega)).trans ((A5 _).block w.heap.size hs5 |>.trans hbl5)
  have hbx6 : w6.heap[w5.heap.size]? = some (.cells #[.bool E, .slice x05 S.length y05, .slice x15 F.length y15, .slice x25 L.length y25, .slice x35 G.length y35] 38) := (b6.block w5.heap.size (by simp)).trans (heap_last2 _ _ _ rfl)
  have hs6 : w5.heap.size < w6.heap.size := Nat.lt_of_lt_of_le (by simp) b6.size
  have B6 : Hid (Below w.heap.size w w6) := (B5a.out _).trans (b6.mono (B5a.out _).size)
  clear b6 o6 IX6 hbl5 JS5 JF5 JL5 JG5 B5 B5a A5
  have g60 : w6.cell? ⟨w5.heap.size, 0, none⟩ = some (.bool E) := cell_of hbx6 0
  have g61 : w6.cell? ⟨w5.heap.size, 1, none⟩ = some (.slice x05 S.length y05) := cell_of hbx6 1
  have g62 : w6.cell? ⟨w5.heap.size, 2, none⟩ = some (.slice x15 F.length y15) := cell_of hbx6 2
  have g63 : w6.cell? ⟨w5.heap.size, 3, none⟩ = some (.slice x25 L.length y25) := cell_of hbx6 3
  have g64 : w6.cell? ⟨w5.heap.size, 4, none⟩ = some (.slice x35 G.length y35) := cell_of hbx6 4
  go_wp2_with fail
  refine (irunN_any E S G F L X _ _ _ _ _ _ _ _ _ _ _ HSz.out hl JS6.out JF6.out JL6.out JG6.out JX6.out).mono ?_
  rintro r w7 ⟨rfl, b7⟩
  have JX7 : Hid _ := IntsAt.keepB JX6.out b7
  have JS7 : Hid _ := RowsAt.keepB JS6.out b7
  have JF7 : Hid _ := IntsAt.keepB JF6.out b7
  have JL7 : Hid _ := IntsAt.keepB JL6.out b7
  have JG7 : Hid _ := RowsAt.keepB JG6.out b7
  have hbl7 := (b7.block w.heap.size (by omega)).trans hbl6
  have hbx7 := (b7.block w5.heap.size hs6).trans hbx6
  have hs7 : w5.heap.size < w7.heap.size := Nat.lt_of_lt_of_le hs6 b7.size
  have B7 : Hid (Below w.heap.size w w7) := B6.out.trans (b7.mono B6.out.size)
  clear b7 hbl6 hbx6 JX6 JS6 JF6 JL6 JG6 B6 g60 g61 g62 g63 g64
  rw [HF0.out, HF1.out]
  have bb0 : (f0 == f0) = true := by simp
  have bb1 : (f1 == f1) = true := by simp
  have sD : (w7.drew.cell? ⟨w.heap.size, 0, none⟩ = some (.bool E) ∧ w7.drew.cell? ⟨w.heap.size, 1, none⟩ = some (.slice s S.length cs) ∧ w7.drew.cell? ⟨w.heap.size, 2, none⟩ = some (.slice a F.length ca) ∧ w7.drew.cell? ⟨w.heap.size, 3, none⟩ = some (.slice b L.length cb) ∧ w7.drew.cell? ⟨w.heap.size, 4, none⟩ = some (.slice g G.length cg) ∧ w7.drew.cell? ⟨w5.heap.size, 0, none⟩ = some (.bool E) ∧ w7.drew.cell? ⟨w5.heap.size, 1, none⟩ = some (.slice x05 S.length y05) ∧ w7.drew.cell? ⟨w5.heap.size, 2, none⟩ = some (.slice x15 F.length y15) ∧ w7.drew.cell? ⟨w5.heap.size, 3, none⟩ = some (.slice x25 L.length y25) ∧ w7.drew.cell? ⟨w5.heap.size, 4, none⟩ = some (.slice x35 G.length y35)) := ⟨cell_of hbl7 0, cell_of hbl7 1, cell_of hbl7 2, cell_of hbl7 3, cell_of hbl7 4, cell_of hbx7 0, cell_of hbx7 1, cell_of hbx7 2, cell_of hbx7 3, cell_of hbx7 4⟩
  have DR7 : Hid (Below w7.heap.size w7 w7.drew) := (Below.refl _ _).drew
  have B7d : Hid (Below w.heap.size w w7.drew) := B7.out.drew
  have HBL7 : Hid _ := hbl7
  have HBX7 : Hid _ := hbx7
  clear hbl7 hbx7
  go_wp2
  go_region_held (fun w' => (w'.cell? ⟨w.heap.size, 0, none⟩ = some (.bool E) ∧ w'.cell? ⟨w.heap.size, 1, none⟩ = some (.slice s S.length cs) ∧ w'.cell? ⟨w.heap.size, 2, none⟩ = some (.slice a F.length ca) ∧ w'.cell? ⟨w.heap.size, 3, none⟩ = some (.slice b L.length cb) ∧ w'.cell? ⟨w.heap.size, 4, none⟩ = some (.slice g G.length cg) ∧ w'.cell? ⟨w5.heap.size, 0, none⟩ = some (.bool E) ∧ w'.cell? ⟨w5.heap.size, 1, none⟩ = some (.slice x05 S.length y05) ∧ w'.cell? ⟨w5.heap.size, 2, none⟩ = some (.slice x15 F.length y15) ∧ w'.cell? ⟨w5.heap.size, 3, none⟩ = some (.slice x25 L.length y25) ∧ w'.cell? ⟨w5.heap.size, 4, none⟩ = some (.slice x35 G.length y35))) (first | assumption) (first
      | (go_at_call 16; refine (toNfa_any E S G F L s a b g cs ca cb cg _ HSz.out (RowsAt.keepB HS.out B7d.out) (IntsAt.keepB HF.out B7d.out) (IntsAt.keepB HL.out B7d.out) (RowsAt.keepB HG.out B7d.out)).mono ?_
         rintro r w8 ⟨x08, x18, x28, x38, y08, y18, y28, y38, rfl, IS8, IF8, IL8, IG8, b8⟩
         have s8 : (w8.cell? ⟨w.heap.size, 0, none⟩ = some (.bool E) ∧ w8.cell? ⟨w.heap.size, 1, none⟩ = some (.slice s S.length cs) ∧ w8.cell? ⟨w.heap.size, 2, none⟩ = some (.slice a F.length ca) ∧ w8.cell? ⟨w.heap.size, 3, none⟩ = some (.slice b L.length cb) ∧ w8.cell? ⟨w.heap.size, 4, none⟩ = some (.slice g G.length cg) ∧ w8.cell? ⟨w5.heap.size, 0, none⟩ = some (.bool E) ∧ w8.cell? ⟨w5.heap.size, 1, none⟩ = some (.slice x05 S.length y05) ∧ w8.cell? ⟨w5.heap.size, 2, none⟩ = some (.slice x15 F.length y15) ∧ w8.cell? ⟨w5.heap.size, 3, none⟩ = some (.slice x25 L.length y25) ∧ w8.cell? ⟨w5.heap.size, 4, none⟩ = some (.slice x35 G.length y35)) := ⟨cell_of ((b8.block w.heap.size (by show w.heap.size < w7.heap.size; omega)).trans HBL7.out) 0, cell_of ((b8.block w.heap.size (by show w.heap.size < w7.heap.size; omega)).trans HBL7.out) 1, cell_of ((b8.block w.heap.size (by show w.heap.size < w7.heap.size; omega)).trans HBL7.out) 2, cell_of ((b8.block w.heap.size (by show w.heap.size < w7.heap.size; omega)).trans HBL7.out) 3, cell_of ((b8.block w.heap.size (by show w.heap.size < w7.heap.size; omega)).trans HBL7.out) 4, cell_of ((b8.block w5.heap.size hs7).trans HBX7.out) 0, cell_of ((b8.block w5.heap.size hs7).trans HBX7.out) 1, cell_of ((b8.block w5.heap.size hs7).trans HBX7.out) 2, cell_of ((b8.block w5.heap.size hs7).trans HBX7.out) 3, cell_of ((b8.block w5.heap.size hs7).trans HBX7.out) 4⟩
         have JS8 : Hid _ := IS8
         have JF8 : Hid _ := IF8
         have JL8 : Hid _ := IL8
         have JG8 : Hid _ := IG8
         have KS8 : Hid _ := RowsAt.keepB (RowsAt.keepB JS7.out DR7.out) b8
         have KF8 : Hid _ := IntsAt.keepB (IntsAt.keepB JF7.out DR7.out) b8
         have KL8 : Hid _ := IntsAt.keepB (IntsAt.keepB JL7.out DR7.out) b8
         have KG8 : Hid _ := RowsAt.keepB (RowsAt.keepB JG7.out DR7.out) b8
         have KX8 : Hid _ := IntsAt.keepB (IntsAt.keepB JX7.out DR7.out) b8
         have B8 : Hid (Below w.heap.size w w8) := B7d.out.trans (b8.mono B7d.out.size)
         clear b8 IS8 IF8 IL8 IG8)
      | (go_at_call 18; refine (eqNfa_any E S G F L _ _ _ _ _ _ _ _ _ _ _ _ _ _ _ _ _ HSz.out KS8.out KF8.out KL8.out KG8.out JS8.out JF8.out JL8.out JG8.out).mono ?_
         rintro r w9 ⟨rfl, b9⟩
         have s9 : (w9.cell? ⟨w.heap.size, 0, none⟩ = some (.bool E) ∧ w9.cell? ⟨w.heap.size, 1, none⟩ = some (.slice s S.length cs) ∧ w9.cell? ⟨w.heap.size, 2, none⟩ = some (.slice a F.length ca) ∧ w9.cell? ⟨w.heap.size, 3, none⟩ = some (.slice b L.length cb) ∧ w9.cell? ⟨w.heap.size, 4, none⟩ = some (.slice g G.length cg) ∧ w9.cell? ⟨w5.heap.size, 0, none⟩ = some (.bool E) ∧ w9.cell? ⟨w5.heap.size, 1, none⟩ = some (.slice x05 S.length y05) ∧ w9.cell? ⟨w5.heap.size, 2, none⟩ = some (.slice x15 F.length y15) ∧ w9.cell? ⟨w5.heap.size, 3, none⟩ = some (.slice x25 L.length y25) ∧ w9.cell? ⟨w5.heap.size, 4, none⟩ = some (.slice x35 G.length y35)) := ⟨(b9.cell (p := ⟨w.heap.size, 0, none⟩) (World.block_lt_of_cell? _ _ s8.1)).trans s8.1, (b9.cell (p := ⟨w.heap.size, 1, none⟩) (World.block_lt_of_cell? _ _ s8.2.1)).trans s8.2.1, (b9.cell (p := ⟨w.heap.size, 2, none⟩) (World.block_lt_of_cell? _ _ s8.2.2.1)).trans s8.2.2.1, (b9.cell (p := ⟨w.heap.size, 3, none⟩) (World.block_lt_of_cell? _ _ s8.2.2.2.1)).trans s8.2.2.2.1, (b9.cell (p := ⟨w.heap.size, 4, none⟩) (World.block_lt_of_cell? _ _ s8.2.2.2.2.1)).trans s8.2.2.2.2.1, (b9.cell (p := ⟨w5.heap.size, 0, none⟩) (World.block_lt_of_cell? _ _ s8.2.2.2.2.2.1)).trans s8.2.2.2.2.2.1, (b9.cell (p := ⟨w5.heap.size, 1, none⟩) (World.block_lt_of_cell? _ _ s8.2.2.2.2.2.2.1)).trans s8.2.2.2.2.2.2.1, (b9.cell (p := ⟨w5.heap.size, 2, none⟩) (World.block_lt_of_cell? _ _ s8.2.2.2.2.2.2.2.1)).trans s8.2.2.2.2.2.2.2.1, (b9.cell (p := ⟨w5.heap.size, 3, none⟩) (World.block_lt_of_cell? _ _ s8.2.2.2.2.2.2.2.2.1)).trans s8.2.2.2.2.2.2.2.2.1, (b9.cell (p := ⟨w5.heap.size, 4, none⟩) (World.block_lt_of_cell? _ _ s8.2.2.2.2.2.2.2.2.2)).trans s8.2.2.2.2.2.2.2.2.2⟩
         have KX9 : Hid _ := IntsAt.keepB KX8.out b9
         have B9 : Hid (Below w.heap.size w w9) := B8.out.trans (b9.mono B8.out.size)
         clear b9))
  all_goals
    go_wp2_with fail
    refine (toI_any X al cl _ hl (IntsAt.keepB HX.out B9.out)).mono ?_
    rintro r w10 ⟨v10, rfl, o10, b10⟩
    obtain ⟨-, a10, c10, rfl, IX10⟩ := ints_of_own o10
    have JX10 : Hid _ := IX10
    have KX10 : Hid _ := IntsAt.keepB KX9.out b10
    have B10 : Hid (Below w.heap.size w w10) := B9.out.trans (b10.mono B9.out.size)
    clear b10 o10 IX10
    go_wp2_with fail
    refine (eq_any X _ _ _ _ _ hl KX10.out JX10.out).mono ?_
    rintro r w11 ⟨rfl, b11⟩
    have B11 : Hid (Below w.heap.size w w11) := B10.out.trans (b11.mono B10.out.size)
    clear b11
    go_wp2
    go_ret
    exact ⟨rfl, B11.out⟩
set_option maxRecDepth 100000 in
theorem lifted (os : Os) (started : os.Started) (H : Type) (enc : TypeId × Value → H) :
    ReturnsInHanded {} Try.checked os 5 .any (Rows.fnExactRunNfaSpec.pre6 enc Try.prog Try.f5 Rows.fnExactRunNfaRow.domain false) (Rows.fnExactRunNfaSpec.post enc Try.prog Try.f5 false true false false) := by
  refine returnsInHanded_of_change (C := Try.checked) own started (by kernel_rfl) Try.func5
    (ChangeSpec.witness6 (enc := enc) (C := Try.checked) false ⟨#[], #[.agg #[.bool false, .slice none 0 0, .slice none 0 0, .slice none 0 0, .slice none 0 0], .slice none 0 0], []⟩ 8 (by kernel_rfl) (by kernel_rfl) (by kernel_rfl) (by kernel_rfl)) ?_
  intro W base args ds gs before hval0 hW hcnd _
  have hval : ∀ (j : Nat) t v, Try.f5.params[j]? = some t → args[j]? = some v → Value.okWide Try.prog W .any base t v := hval0
  have hW' := hW
  obtain ⟨p, q, hA0, hV, rfl, hfz, hnd⟩ := hW
  have hA : DataW.TrodAll enc Try.prog W 0 (fun _ => true) true Try.f5.params.toList args.toList ds p := hA0
  rw [Try.params5] at hA hval
  obtain ⟨v0, vs0, d0, ds0, p0, q0, hargs, rfl, rfl, h0, r0⟩ := trodAll_cons hA
  obtain ⟨v1, vs1, d1, ds1, p1, q1, hargs1, rfl, rfl, h1, r1⟩ := trodAll_cons r0
  obtain ⟨rfl, rfl, rfl⟩ := trodAll_nil r1
  obtain rfl : args = #[v0, v1] := by cases args; simp_all
  obtain ⟨rfl, rfl⟩ := trodVars_none hV
  obtain ⟨a1, len1, cap1, rfl⟩ := okWide_slice Try.underlying23 (hval 1 23 v1 rfl rfl)
  have k0 := h0
  have k1 := h1
  have lt0 : ∀ x ∈ p0, x.block < W.heap.size := by obtain ⟨m, hm⟩ := k0; exact DataW.trod_lt m _ _ _ hm
  have lt1 : ∀ x ∈ p1, x.block < W.heap.size := by obtain ⟨m, hm⟩ := k1; exact DataW.trod_lt m _ _ _ hm
  obtain ⟨E, S, G, F, L, s, a, b, g, cs, ca, cb, cg, rfl, iS, iF, iL, iG, ⟨h1S, hxS⟩, hF, hL, h1G, hxG⟩ := open_nfa (hval 0 35 v0 rfl rfl) h0
  obtain ⟨X, hX, i1⟩ : ∃ X : List Int, X.length = len1 ∧ IntsAt W a1 X := by obtain ⟨fuel, hf⟩ := h1; exact argI_of hf
  clear hA0 hval0
  subst hX
  refine (walk E S G F L s a b g cs ca cb cg X a1 cap1 W iS iF iL iG i1 h1S hxS hF hL h1G hxG).mono fun e W' ⟨he, bel⟩ => ?_
  subst he
  exact ⟨_, rfl, _, _, _, [], _, [], hW', trodAll_mk1 (shut_bool Try.underlying4 _), trodAll_cons_mk (Below.trod laidOut (by kernel_rfl) (of_decide_eq_true (by kernel_rfl)) k0 bel lt0) (trodAll_cons_mk (Below.trod laidOut (by kernel_rfl) (of_decide_eq_true (by kernel_rfl)) k1 bel lt1) trodAll_mk0), rfl, bel.frame _, fun h => by cases h⟩
theorem row : Rows.FnExactRunNfaSaid :=
  OpenClaim.holds_of_wide 5 Try.f5 rfl rfl rfl rfl rfl rfl rfl ⟨rfl, rfl, rfl, rfl, rfl⟩ rfl rfl rfl rfl rfl (by kernel_rfl) Try.func5 (by kernel_rfl)
    (of_decide_eq_true (by kernel_rfl)) (by unfold Func.isWrapper; first | (rw [if_pos (by decide +kernel)]; kernel_rfl) | (rw [if_neg (by decide +kernel)]; exact ⟨rfl, rfl⟩))
    (fun os started H enc _ => lifted os started H enc)
end LawRunNfa
theorem runNfa_holds : Rows.FnExactRunNfaSaid := LawRunNfa.row
#print axioms runNfa_holds
end Go.Proofs.Ythhmijobfbjkiaa

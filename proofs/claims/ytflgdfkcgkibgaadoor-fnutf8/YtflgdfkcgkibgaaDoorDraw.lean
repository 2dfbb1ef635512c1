/-
  Contracts of the specification's draws for chapter 1: each returns some value within bounds and leaves all old memory as it was.
-/
import Derived.Test.YtflgdfkcgkibgaaDoorCur4
namespace Go.Proofs.YtflgdfkcgkibgaaDoor
open Go.ChangeShapes Go.WideShapes Go.ChangeAt Go.RowKit
/-- Bytes lie where a slice of that length begins. -/
def ArgB (w : World) (ao : Option Addr) (n : Nat) : Prop :=
  ∀ j, j < n → ∃ b' off z, ao = some ⟨b', off, none⟩ ∧ b' < w.heap.size ∧ w.cell? ⟨b', off + j, none⟩ = some (.int .u8 z) ∧ 0 ≤ z ∧ z ≤ 255
theorem ArgB.below {w w' : World} {ao : Option Addr} {n : Nat} (h : ArgB w ao n) (hb : Below w.heap.size w w') : ArgB w' ao n := fun j hj => by
  obtain ⟨b', off, z, h1, h2, h3, h4⟩ := h j hj
  exact ⟨b', off, z, h1, by have := hb.size; omega, (hb.cell (p := ⟨b', off + j, none⟩) h2).trans h3, h4⟩
abbrev curObj (ao : Option Addr) (n cap : Nat) : Obj := .cells #[.slice ao n cap, .int .i64 0, .int .u64 0] 54
theorem cur_new {w : World} {ao : Option Addr} {n : Nat} (cap : Nat) (h : ArgB w ao n) : Cur (w.alloc (curObj ao n cap)) (w.heap.size + 1) w.heap.size ao n cap 0 := by
  refine ⟨by rw [World.cell?_alloc_new]; rfl, by rw [World.cell?_alloc_new]; rfl, ⟨0, by rw [World.cell?_alloc_new]; rfl⟩, fun j => ?_, fun j hj => ?_, by omega, by simp⟩
  · apply World.frozen?_alloc_at
    rfl
  · obtain ⟨b', off, z, h1, h2, h3, h4⟩ := h j hj
    exact ⟨b', off, z, h1, by omega, by omega, (World.cell?_alloc_lt w _ ⟨b', off + j, none⟩ h2).trans h3, h4⟩
theorem below_of_cur {w w' : World} {ao : Option Addr} {n cap : Nat} (hg : (w.alloc (curObj ao n cap)).grownBy w' (some w.heap.size)) : Below w.heap.size w w' :=
  Below.grown ((Below.refl w.heap.size w).alloc (Nat.le_refl _) _) hg (by simp) (fun k hk => by cases hk; exact Nat.le_refl _)
def badL : List Int := [-1, 55296, 57343, 1114112]
set_option maxRecDepth 100000 in
set_option maxHeartbeats 1000000 in
theorem dgood_any (ao : Option Addr) (n cap : Nat) (w : World) (h : ArgB w ao n) :
    Calls Tryd.prog 32 #[.slice ao n cap] w fun e w' => ∃ r : Int, e = .returned (.int .i64 r) ∧ Below w.heap.size w w' := by
  have HC : Hid _ := cur_new cap h
  clear h
  go_enter Tryd.func32, Tryd.ntmps32
  go_wp2_with fail
  refine (one_any 4 _ _ ao n cap 0 _ (by omega) HC.out).mono ?_
  rintro e w1 ⟨r, k1, rfl, hk1, C1, g1⟩
  have HC1 : Hid _ := C1
  have G1 : Hid _ := g1
  have hb : w.heap.size < w1.heap.size := by have := g1.size; simp at this; omega
  clear C1 g1
  cases r
  · go_wp2_with fail
    refine (rune_any _ _ ao n cap k1 _ (by omega) HC1.out).mono ?_
    rintro e w2 ⟨r, k2, rfl, hgr, hk2, C2, g2⟩
    have G2 : Hid _ := grown_trans' G1.out g2
    clear C2 g2 hgr
    go_wp2
    go_ret
    exact ⟨r, rfl, below_of_cur G2.out⟩
  · have HV : Hid _ := vals_new w1 w.heap.size hb _ (ints badL) rfl 3
    have HB : Hid (Below w1.heap.size w1 (w1.alloc (.cells (ints badL).toArray 3))) := (Below.refl _ _).alloc (Nat.le_refl _) _
    go_wp2_with fail
    refine (among_any badL _ _ _ _ ao n cap k1 _ (by omega) (by decide) (by decide) HV.out (Cur.below HC1.out HB.out)).mono ?_
    rintro e w2 ⟨r, k2, rfl, hgr, hk2, C2, g2⟩
    have G2 : Hid _ := grown_trans' (grown_trans' G1.out (grown_of_below HB.out _)) g2
    clear C2 g2 hgr
    go_wp2
    go_ret
    exact ⟨r, rfl, below_of_cur G2.out⟩
set_option maxRecDepth 100000 in
set_option maxHeartbeats 1000000 in
theorem dutf_any (ao : Option Addr) (n cap : Nat) (w : World) (h : ArgB w ao n) :
    Calls Tryd.prog 10 #[.slice ao n cap] w fun e w' => ∃ r : Int, e = .returned (.int .i64 r) ∧ Below w.heap.size w w' := by
  have HA : Hid _ := h
  clear h
  go_enter Tryd.func10, Tryd.ntmps10
  go_wp2_with fail
  refine (dgood_any ao n cap _ HA.out).mono ?_
  rintro e w1 ⟨r, rfl, b1⟩
  go_wp2
  go_ret
  exact ⟨r, rfl, b1⟩
set_option maxRecDepth 100000 in
set_option maxHeartbeats 1000000 in
theorem drunes_any (ao : Option Addr) (n cap : Nat) (w : World) (h : ArgB w ao n) :
    Calls Tryd.prog 18 #[.slice ao n cap] w fun e w' => ∃ s : ByteArray, e = .returned (.string s) ∧ s.size ≤ 26 ∧ Below w.heap.size w w' := by
  have HC : Hid _ := cur_new cap h
  clear h
  go_enter Tryd.func18, Tryd.ntmps18
  go_wp2_with fail
  refine (bytes_any _ _ ao n cap 0 _ (by omega) HC.out).mono ?_
  rintro e w1 ⟨s, k1, rfl, hs, hk1, C1, g1⟩
  have G1 : Hid _ := g1
  clear C1 g1
  go_wp2
  go_ret
  exact ⟨s, rfl, hs, below_of_cur G1.out⟩
set_option maxRecDepth 100000 in
set_option maxHeartbeats 1000000 in
theorem drat_any (ao : Option Addr) (n cap : Nat) (w : World) (h : ArgB w ao n) :
    Calls Tryd.prog 25 #[.slice ao n cap] w fun e w' => ∃ (s : ByteArray) (p : Int), e = .returned (.tuple #[.string s, .int .i64 p]) ∧ s.size ≤ 26 ∧ Below w.heap.size w w' := by
  have HC : Hid _ := cur_new cap h
  clear h
  go_enter Tryd.func25, Tryd.ntmps25
  go_wp2_with fail
  refine (bytes_any _ _ ao n cap 0 _ (by omega) HC.out).mono ?_
  rintro e w1 ⟨s, k1, rfl, hs, hk1, C1, g1⟩
  have HC1 : Hid _ := C1
  have G1 : Hid _ := g1
  clear C1 g1
  go_wp2_with fail
  refine (pick_any ((s.size : Int) + 1) _ _ ao n cap k1 _ (by omega) HC1.out).mono ?_
  rintro e w2 ⟨r, k2, rfl, p0, p1, hk2, C2, g2⟩
  have HC2 : Hid _ := C2
  have G2 : Hid _ := grown_trans' G1.out g2
  have hr : r ≤ 26 := by omega
  clear C2 g2 p1
  go_wp2_with fail
  refine (pick_any 12 _ _ ao n cap k2 _ (by omega) HC2.out).mono ?_
  rintro e w3 ⟨r2, k3, rfl, q0, q1, hk3, C3, g3⟩
  have G3 : Hid _ := grown_trans' G2.out g3
  have hr2 : r2 ≤ 11 := by omega
  clear C3 g3 q1
  go_wp2
  go_ret2
  exact ⟨s, _, rfl, hs, below_of_cur G3.out⟩
def begL : List ByteArray := [⟨#[224, 128]⟩, ⟨#[224, 160]⟩, ⟨#[237, 160]⟩, ⟨#[244, 144]⟩, ⟨#[240, 143]⟩, ⟨#[240, 144]⟩, ⟨#[193]⟩, ⟨#[245]⟩, ⟨#[128]⟩, ⟨#[244, 143, 191]⟩, ⟨#[227, 129, 130, 227]⟩]
set_option maxRecDepth 100000 in
set_option maxHeartbeats 1000000 in
theorem dbeg_any (ao : Option Addr) (n cap : Nat) (w : World) (h : ArgB w ao n) :
    Calls Tryd.prog 24 #[.slice ao n cap] w fun e w' => ∃ s : ByteArray, e = .returned (.string s) ∧ Below w.heap.size w w' := by
  have HC : Hid _ := cur_new cap h
  clear h
  go_enter Tryd.func24, Tryd.ntmps24
  go_wp2_with fail
  refine (rune_any _ _ ao n cap 0 _ (by omega) HC.out).mono ?_
  rintro e w1 ⟨r, k1, rfl, hgr, hk1, C1, g1⟩
  have HC1 : Hid _ := C1
  have G1 : Hid _ := g1
  have HG : Hid _ := goodB_true hgr
  clear C1 g1 hgr
  go_wp2_with fail
  refine (utf8_any r _ HG.out.1 HG.out.2.1).mono ?_
  rintro e w2 ⟨rfl, b2⟩
  have HC2 : Hid _ := Cur.below HC1.out b2
  have G2 : Hid _ := grown_trans' G1.out (grown_of_below b2 _)
  have hes : (encS r).size ≤ 4 := by have := encN_len r; rw [encS_size]; omega
  clear b2
  generalize encS r = t at *
  go_wp2_with fail
  refine (pick_any ((t.size : Int) + 1) _ _ ao n cap k1 _ (by omega) HC2.out).mono ?_
  rintro e w3 ⟨r3, k3, rfl, p0, p1, hk3, C3, g3⟩
  obtain ⟨i, rfl⟩ := Int.eq_ofNat_of_zero_le p0
  have hi : i ≤ t.size := by omega
  have sl := slice_head t i hi
  have HC3 : Hid _ := C3
  have G3 : Hid _ := grown_trans' G2.out g3
  clear C3 g3 p1 p0
  generalize t.extract 0 i = u at *
  go_wp2_with fail
  refine (one_any 3 _ _ ao n cap k3 _ (by omega) HC3.out).mono ?_
  rintro e w4 ⟨q, k4, rfl, hk4, C4, g4⟩
  have HC4 : Hid _ := C4
  have G4 : Hid _ := grown_trans' G3.out g4
  have hb : w.heap.size < w4.heap.size := by have := G4.out.size; simp at this; omega
  clear C4 g4 sl
  cases q
  · go_wp2
    go_ret
    exact ⟨u, rfl, below_of_cur G4.out⟩
  · have HV : Hid _ := vals_new w4 w.heap.size hb _ (begL.map Value.string) rfl 9
    have HB : Hid (Below w4.heap.size w4 (w4.alloc (.cells (begL.map Value.string).toArray 9))) := (Below.refl _ _).alloc (Nat.le_refl _) _
    go_wp2_with fail
    refine (of_any begL _ _ _ _ ao n cap k4 _ (by omega) (by decide) (by decide) HV.out (Cur.below HC4.out HB.out)).mono ?_
    rintro e w5 ⟨s, k5, rfl, hm, hk5, C5, g5⟩
    have G5 : Hid _ := grown_trans' (grown_trans' G4.out (grown_of_below HB.out _)) g5
    clear C5 g5 hm
    go_wp2
    go_ret
    exact ⟨s, rfl, below_of_cur G5.out⟩
def bad3 : List Int := [-1, 55296, 1114112]
set_option maxRecDepth 100000 in
set_option maxHeartbeats 1000000 in
theorem dtext_any (ao : Option Addr) (n cap : Nat) (w : World) (h : ArgB w ao n) :
    Calls Tryd.prog 27 #[.slice ao n cap] w fun e w' => ∃ (v : Value) (L : List Int), e = .returned v ∧ L.length ≤ 8 ∧ w'.ownsRow (w.heap.size + 1) 3 1 v L.length (ints L) ∧ Below w.heap.size w w' := by
  have HC : Hid _ := cur_new cap h
  clear h
  go_enter Tryd.func27, Tryd.ntmps27
  go_wp2_with fail
  refine (cruns_any 8 _ _ ao n cap 0 _ (by omega) (by omega) HC.out).mono ?_
  rintro e w1 ⟨v, L, k1, rfl, hg, hl, hk1, C1, own1, g1⟩
  have own1' : w1.ownsRow (w.heap.size + 1) 3 1 v L.length (ints L) := by simpa using own1
  obtain ⟨_, la, lc, rfl, _⟩ := ints_of_own own1'
  have HC1 : Hid _ := C1
  have G1 : Hid _ := g1
  have OW1 : Hid _ := own1'
  clear C1 g1 own1 own1' hg
  by_cases h0 : 0 < L.length
  · have h0I : (0 : Int) < (L.length : Int) := by omega
    go_wp2_with fail
    refine (one_any 12 _ _ ao n cap k1 _ (by omega) HC1.out).mono ?_
    rintro e w2 ⟨q, k2, rfl, hk2, C2, g2⟩
    have HC2 : Hid _ := C2
    have OW2 : Hid _ := World.ownsRow.kept OW1.out g2 (own_ne_cur OW1.out (by omega))
    have G2 : Hid _ := grown_trans' G1.out g2
    have hb : w.heap.size < w2.heap.size := by have := G2.out.size; simp at this; omega
    clear C2 g2
    cases q
    · go_wp2
      go_ret
      exact ⟨_, L, rfl, hl, OW2.out, below_of_cur G2.out⟩
    · have HV : Hid _ := vals_new w2 w.heap.size hb _ (ints bad3) rfl 3
      have HB : Hid (Below w2.heap.size w2 (w2.alloc (.cells (ints bad3).toArray 3))) := (Below.refl _ _).alloc (Nat.le_refl _) _
      go_wp2_with fail
      refine (among_any bad3 _ _ _ _ ao n cap k2 _ (by omega) (by decide) (by decide) HV.out (Cur.below HC2.out HB.out)).mono ?_
      rintro e w3 ⟨x, k3, rfl, hm, hk3, C3, g3⟩
      have ow3 := World.ownsRow.kept (ownsRow_below OW2.out HB.out) g3 (own_ne_cur (ownsRow_below OW2.out HB.out) (by omega))
      have G3 : Hid _ := grown_trans' (grown_trans' G2.out (grown_of_below HB.out _)) g3
      obtain ⟨g, cap', cur, hv, hbg, hrest⟩ : ∃ g cap' cur, Value.slice la L.length lc = .slice (some ⟨g, 0, none⟩) L.length cap' ∧ w.heap.size + 1 ≤ g ∧ w3.heap[g]? = some (.cells cur 3 (0, 0)) := by
        rcases ow3.2 with ⟨h1, h2⟩ | ⟨g, cap', cur, h1, h2, h3, _⟩
        · omega
        · exact ⟨g, cap', cur, h1, h2, h3⟩
      simp only [Value.slice.injEq, true_and] at hv
      obtain ⟨rfl, rfl⟩ := hv
      have hfz := ow3.frozenAt 0
      have hcell := ow3.cellAt 0 (by omega)
      have hget : (ints L)[0]? = some (.int .i64 (L.getD 0 0)) := by simp [ints, List.getD, h0]
      rw [hget] at hcell
      have hst := (ow3.stored 0 (.int .i64 x)).1
      have e2 : (ints L).set 0 (.int .i64 x) = ints (L.set 0 x) := by simp [ints, List.map_set]
      rw [e2] at hst
      have HST : Hid (World.ownsRow (w3.setCell ⟨g, 0, none⟩ (.int .i64 x)) (w.heap.size + 1) 3 1 (.slice (some ⟨g, 0, none⟩) L.length lc) (L.set 0 x).length (ints (L.set 0 x))) := by
        show World.ownsRow _ _ _ _ _ _ _
        rw [List.length_set]; exact hst
      have HB3 : Hid (Below w.heap.size w (w3.setCell ⟨g, 0, none⟩ (.int .i64 x))) := (below_of_cur G3.out).setCell (by show w.heap.size ≤ g; omega) _
      clear hst ow3 hrest hget C3 g3 hm e2
      generalize L.getD 0 0 = y at *
      go_wp2
      go_ret
      exact ⟨_, L.set 0 x, rfl, by rw [List.length_set]; exact hl, HST.out, HB3.out⟩
  · have h0I : ¬ (0 : Int) < (L.length : Int) := by omega
    go_wp2
    go_ret
    exact ⟨_, L, rfl, hl, OW1.out, below_of_cur G1.out⟩
set_option maxRecDepth 100000 in
set_option maxHeartbeats 1000000 in
theorem same_any (L : List Int) (a b : Option Addr) (ca cb : Nat) (w : World) (hl : L.length ≤ 1048576) (ha : IntsAt w a L) (hb : IntsAt w b L) :
    Calls Tryd.prog 21 #[.slice a L.length ca, .slice b L.length cb] w fun e w' => e = .returned (.bool true) ∧ Below w.heap.size w w' := by
  have HA : Hid _ := ha
  have HB : Hid _ := hb
  clear ha hb
  go_enter Tryd.func21, Tryd.ntmps21
  go_wp2
  go_loopw [13] (fun i wr => ∃ k : Nat, k ≤ L.length ∧ i = .int .i64 k ∧ Below w.heap.size w wr) (fun i _ => L.length - (intOf i).toNat)
  case atStart => exact ⟨0, Nat.zero_le _, rfl, Below.refl _ _⟩
  case round =>
    obtain ⟨k, hk, rfl, hbw⟩ := hrel
    by_cases hlt : k < L.length
    · obtain ⟨b1, o1, rfl, l1, h1⟩ := HA.out k hlt
      obtain ⟨b2, o2, rfl, l2, h2⟩ := HB.out k hlt
      have g1 : wr.cell? ⟨b1, o1 + k, none⟩ = some (.int .i64 (L.getD k 0)) := (hbw.cell (p := ⟨b1, o1 + k, none⟩) l1).trans h1
      have g2 : wr.cell? ⟨b2, o2 + k, none⟩ = some (.int .i64 (L.getD k 0)) := (hbw.cell (p := ⟨b2, o2 + k, none⟩) l2).trans h2
      have hltI : (k : Int) < (L.length : Int) := by omega
      clear h1 h2
      generalize L.getD k 0 = x at *
      go_wp2
      go_quiet (fail)
      go_wp2
      go_roundw
      case rel => exact ⟨k + 1, by omega, by go_num, below_drewN hbw _⟩
      case measure => simp [intOf]; omega
    · go_wp2
      go_ret
      exact ⟨rfl, hbw⟩
end Go.Proofs.YtflgdfkcgkibgaaDoor

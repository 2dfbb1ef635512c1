/-
  The draw (*l1Cur).set: some list of at most thirty ints.
-/
import Derived.Test.YtpkhmihkchiheaaC4V
import Derived.Test.YtpkhmihkchiheaaCur3
namespace Go.Proofs.Ytpkhmihkchiheaa
open Go.ChangeShapes Go.WideShapes Go.ChangeAt Go.RowKit
def loL : List Int := [0, 48, 65, 70, 90, 97, 98, 110, 122, 200, 12354, 1114111]
def wiL : List Int := [0, 0, 1, 2, 9, 25, 300]
def spL : List Int := [-1, 1114112, 64]
theorem loL_bd : ∀ r ∈ loL, 0 ≤ r ∧ r ≤ 1114111 := by decide
theorem wiL_bd : ∀ r ∈ wiL, 0 ≤ r ∧ r ≤ 300 := by decide
/-- What is drawn: a row of one's own, the cursor further on. -/
def Drew (w w' : World) (B b : Nat) (ao : Option Addr) (n cap k : Nat) (v : Value) (L : List Int) : Prop := Cur w' B b ao n cap k ∧ w'.ownsRow w.heap.size 3 1 v L.length (ints L) ∧ w.grownBy w' (some b)
set_option maxRecDepth 100000 in
set_option maxHeartbeats 4000000 in
theorem cset_any (B b : Nat) (ao : Option Addr) (n cap k : Nat) (w : World) (hk : k ≤ 500) (h : Cur w B b ao n cap k) :
    Calls Try.prog 41 #[.pointer (some ⟨b, 0, none⟩)] w fun e w' => ∃ (v : Value) (L : List Int) (k' : Nat), e = .returned v ∧ L.length ≤ 30 ∧ k' ≤ k + 40 ∧ Drew w w' B b ao n cap k' v L := by
  have hbw : b < w.heap.size := Nat.lt_of_lt_of_le h.lt h.le
  have HC : Hid _ := h
  clear h
  go_enter Try.func41, Try.ntmps41
  go_wp2_with fail
  refine (pick_any 4 B b ao n cap k _ (by omega) HC.out).mono ?_
  rintro e w1 ⟨r, k1, rfl, p0, p1, hk1, C1, g1⟩
  obtain ⟨m0, rfl⟩ := Int.eq_ofNat_of_zero_le p0
  have hm0 : m0 ≤ 4 := by omega
  have HC1 : Hid _ := C1
  have G1 : Hid _ := g1
  clear C1 g1 p0 p1
  go_wp2
  go_loopw [3, 4] (fun v i wr => ∃ (m k' : Nat) (C : List (Int × Int)), i = .int .i64 m ∧ CT C ∧ C.length + m ≤ 4 ∧ k' + 4 * m ≤ k + 20 ∧ Cur wr B b ao n cap k' ∧ wr.ownsRow w.heap.size 3 1 v (flS C).length (ints (flS C)) ∧ w.grownBy wr (some b)) (fun _ i _ => (intOf i).toNat)
  case atStart => exact ⟨m0, k1, [], rfl, ⟨trivial, fun p hp => by cases hp⟩, by simpa using hm0, by omega, HC1.out, World.ownsRow_nil _ _ _ _, G1.out⟩
  case round =>
    obtain ⟨m, k', C, rfl, hct, hlm, hk', C2, own2, g2⟩ := hrel
    have HCT : Hid _ := hct
    have HC2 : Hid _ := C2
    have OW2 : Hid _ := own2
    have G2 : Hid _ := g2
    have hb2 : b < wr.heap.size := Nat.lt_of_lt_of_le hbw g2.size
    clear hct C2 own2 g2
    by_cases hlt : 0 < m
    · have hltI : (0 : Int) < (m : Int) := by omega
      obtain ⟨m', rfl⟩ : ∃ m', m = m' + 1 := ⟨m - 1, by omega⟩
      have HV : Hid _ := vals_new wr b hb2 _ (ints loL) rfl 3
      have HB : Hid (Below wr.heap.size wr (wr.alloc (.cells (ints loL).toArray 3))) := (Below.refl _ _).alloc (Nat.le_refl _) _
      go_wp2_with fail
      refine (among_any loL _ _ B b ao n cap k' _ (by omega) (by decide) (by decide) HV.out (Cur.below HC2.out HB.out)).mono ?_
      rintro e w3 ⟨lo, k3, rfl, hlo, hk3, C3, g3⟩
      obtain ⟨lo1, lo2⟩ := loL_bd lo hlo
      have GA : Hid (wr.grownBy w3 (some b)) := grown_trans' (grown_of_below HB.out (some b)) g3
      have HC3 : Hid _ := C3
      have OW3 : Hid _ := World.ownsRow.kept OW2.out GA.out (own_ne_cur OW2.out hbw)
      have G3 : Hid _ := grown_trans' G2.out GA.out
      have hb3 : b < w3.heap.size := Nat.lt_of_lt_of_le hbw G3.out.size
      clear C3 g3 hlo HV HB
      have HV2 : Hid _ := vals_new w3 b hb3 _ (ints wiL) rfl 3
      have HB2 : Hid (Below w3.heap.size w3 (w3.alloc (.cells (ints wiL).toArray 3))) := (Below.refl _ _).alloc (Nat.le_refl _) _
      go_wp2_with fail
      refine (among_any wiL _ _ B b ao n cap k3 _ (by omega) (by decide) (by decide) HV2.out (Cur.below HC3.out HB2.out)).mono ?_
      rintro e w4 ⟨wi, k4, rfl, hwi, hk4, C4, g4⟩
      obtain ⟨wi1, wi2⟩ := wiL_bd wi hwi
      have GB : Hid (w3.grownBy w4 (some b)) := grown_trans' (grown_of_below HB2.out (some b)) g4
      have HC4 : Hid _ := C4
      have OW4 : Hid _ := World.ownsRow.kept OW3.out GB.out (own_ne_cur OW3.out hbw)
      have G4 : Hid _ := grown_trans' G3.out GB.out
      clear C4 g4 hwi HV2 HB2
      go_wp2_with fail
      refine (least_any 1114111 (lo + wi) _).mono ?_
      rintro e w5 ⟨rfl, rfl⟩
      obtain ⟨-, a7, c7, rfl, i7⟩ := ints_of_own OW4.out
      have I7 : Hid _ := i7
      obtain ⟨t1, -⟩ := addS_ct HCT.out (lo := lo) (hi := min 1114111 (lo + wi)) lo1 (by omega) (by omega)
      have t2 := addS_len HCT.out (lo := lo) (hi := min 1114111 (lo + wi) + 1) (by omega) (by omega)
      have T1 : Hid _ := t1
      clear i7 t1
      go_wp2_with fail
      refine (sadd_any C lo (min 1114111 (lo + wi)) a7 c7 _ _ rfl (by omega) HCT.out.bd (by omega) (by omega) I7.out).mono ?_
      rintro e w6 ⟨v6, rfl, o6, b6⟩
      have O6 : Hid (w6.ownsRow w.heap.size 3 1 v6 _ _) := own_mono o6 G4.out.size
      have HC6 : Hid _ := Cur.below HC4.out b6
      have G6 : Hid (w.grownBy w6 (some b)) := grown_trans' G4.out (grown_of_below b6 (some b))
      clear o6 b6
      go_wp2
      go_roundw
      case rel => exact ⟨m', k4, addS C lo (min 1114111 (lo + wi) + 1), by go_num, T1.out, by omega, by omega, HC6.out, O6.out, G6.out⟩
      case measure => simp [intOf]
    · obtain rfl : m = 0 := by omega
      have hfl : (flS C).length ≤ 8 := by rw [flS_len]; omega
      go_wp2_with fail
      refine (one_any 12 B b ao n cap k' _ (by omega) HC2.out).mono ?_
      rintro e w3 ⟨r3, k3, rfl, hk3, C3, g3⟩
      have HC3 : Hid _ := C3
      have OW3 : Hid _ := World.ownsRow.kept OW2.out g3 (own_ne_cur OW2.out hbw)
      have G3 : Hid _ := grown_trans' G2.out g3
      clear C3 g3
      cases r3
      · obtain ⟨-, a8, c8, rfl, i8⟩ := ints_of_own OW3.out
        clear i8
        by_cases hz : (flS (C)).length = 0
        · have hz0 : decide (0 < (flS (C)).length) = false := decide_eq_false (by omega)
          have hz1 : decide ((0 : Int) < ((flS (C)).length : Int)) = false := decide_eq_false (by omega)
          clear hz
          go_wp2
          go_ret
          exact ⟨_, flS (C), k3, rfl, by omega, by omega, HC3.out, OW3.out, G3.out⟩
        · have hz0 : decide (0 < (flS (C)).length) = true := decide_eq_true (by omega)
          have hz1 : (0 : Int) < ((flS (C)).length : Int) := by omega
          have hzn : 0 < (flS (C)).length := by omega
          clear hz
          go_wp2_with fail
          refine (one_any 30 B b ao n cap k3 _ (by omega) HC3.out).mono ?_
          rintro e w9 ⟨r9, k9, rfl, hk9, C9, g9⟩
          have HC9 : Hid _ := C9
          have OW9 : Hid _ := World.ownsRow.kept OW3.out g9 (own_ne_cur OW3.out hbw)
          have G9 : Hid _ := grown_trans' G3.out g9
          have hb9 : b < w9.heap.size := Nat.lt_of_lt_of_le hbw G9.out.size
          clear C9 g9
          cases r9
          · go_wp2
            go_ret
            exact ⟨_, flS (C), k9, rfl, by omega, by omega, HC9.out, OW9.out, G9.out⟩
          · have HV9 : Hid _ := vals_new w9 b hb9 _ (ints spL) rfl 3
            have HB9 : Hid (Below w9.heap.size w9 (w9.alloc (.cells (ints spL).toArray 3))) := (Below.refl _ _).alloc (Nat.le_refl _) _
            go_wp2_with fail
            refine (among_any spL _ _ B b ao n cap k9 _ (by omega) (by decide) (by decide) HV9.out (Cur.below HC9.out HB9.out)).mono ?_
            rintro e w10 ⟨x, k10, rfl, -, hk10, C10, g10⟩
            have GB : Hid (w9.grownBy w10 (some b)) := grown_trans' (grown_of_below HB9.out (some b)) g10
            have HC10 : Hid _ := C10
            have OW10 : Hid _ := World.ownsRow.kept OW9.out GB.out (own_ne_cur OW9.out hbw)
            have G10 : Hid _ := grown_trans' G9.out GB.out
            clear C10 g10 HV9 HB9
            obtain ⟨g, rfl⟩ : ∃ g, a8 = some ⟨g, 0, none⟩ := by
              rcases OW10.out.2 with ⟨h1, h2⟩ | ⟨g, cap', cur, h1, _⟩
              · simp only [Value.slice.injEq] at h1; omega
              · simp only [Value.slice.injEq, true_and] at h1; exact ⟨g, h1.1⟩
            have hfz := World.ownsRow.frozenAt OW10.out 0
            have hce := World.ownsRow.cellAt OW10.out 0 (by omega)
            obtain ⟨q, hq⟩ : ∃ q, (ints (flS (C)))[0]? = some q := ⟨_, List.getElem?_eq_getElem (by rw [ints_len]; exact hzn)⟩
            rw [hq] at hce
            have hst := World.ownsRow.stored OW10.out 0 (.int .i64 x)
            rw [ints_set] at hst
            have HST : Hid _ := hst
            have hgb : w.heap.size ≤ g := (World.ownsRow.lt OW10.out g rfl).1
            clear hst hq
            go_wp2
            go_ret
            refine ⟨_, (flS (C)).set 0 x, k10, rfl, by simp; omega, by omega, Cur.grown HC10.out HST.out.2 (fun g' hg' => by have := Option.some.inj hg'; have := HC10.out.lt; have := HC.out.le; omega), by simpa using HST.out.1, ?_⟩
            exact ⟨HST.out.2.os.trans G10.out.os, HST.out.2.tape.trans G10.out.tape, HST.out.2.output.trans G10.out.output, Nat.le_trans G10.out.size HST.out.2.size, fun i hi hn => (HST.out.2.block i (Nat.lt_of_lt_of_le hi G10.out.size) (fun e => by have := Option.some.inj e; omega)).trans (G10.out.block i hi hn)⟩
      · have hnl := notF_len C 0
        have hfl2 : (flS (notF C 0)).length ≤ 10 := by rw [flS_len]; omega
        obtain ⟨-, a7, c7, rfl, i7⟩ := ints_of_own OW3.out
        have I7 : Hid _ := i7
        clear i7
        go_wp2_with fail
        refine (snot_any C a7 c7 _ _ rfl (by omega) HCT.out.can HCT.out.top I7.out).mono ?_
        rintro e w6 ⟨v6, rfl, o6, b6⟩
        have OW6 : Hid (w6.ownsRow w.heap.size 3 1 v6 (flS (notF C 0)).length (ints (flS (notF C 0)))) := own_mono o6 G3.out.size
        have HC6 : Hid _ := Cur.below HC3.out b6
        have G6 : Hid (w.grownBy w6 (some b)) := grown_trans' G3.out (grown_of_below b6 (some b))
        clear o6 b6
        obtain ⟨-, a8, c8, rfl, i8⟩ := ints_of_own OW6.out
        clear i8
        by_cases hz : (flS (notF C 0)).length = 0
        · have hz0 : decide (0 < (flS (notF C 0)).length) = false := decide_eq_false (by omega)
          have hz1 : decide ((0 : Int) < ((flS (notF C 0)).length : Int)) = false := decide_eq_false (by omega)
          clear hz
          go_wp2
          go_ret
          exact ⟨_, flS (notF C 0), k3, rfl, by omega, by omega, HC6.out, OW6.out, G6.out⟩
        · have hz0 : decide (0 < (flS (notF C 0)).length) = true := decide_eq_true (by omega)
          have hz1 : (0 : Int) < ((flS (notF C 0)).length : Int) := by omega
          have hzn : 0 < (flS (notF C 0)).length := by omega
          clear hz
          go_wp2_with fail
          refine (one_any 30 B b ao n cap k3 _ (by omega) HC6.out).mono ?_
          rintro e w9 ⟨r9, k9, rfl, hk9, C9, g9⟩
          have HC9 : Hid _ := C9
          have OW9 : Hid _ := World.ownsRow.kept OW6.out g9 (own_ne_cur OW6.out hbw)
          have G9 : Hid _ := grown_trans' G6.out g9
          have hb9 : b < w9.heap.size := Nat.lt_of_lt_of_le hbw G9.out.size
          clear C9 g9
          cases r9
          · go_wp2
            go_ret
            exact ⟨_, flS (notF C 0), k9, rfl, by omega, by omega, HC9.out, OW9.out, G9.out⟩
          · have HV9 : Hid _ := vals_new w9 b hb9 _ (ints spL) rfl 3
            have HB9 : Hid (Below w9.heap.size w9 (w9.alloc (.cells (ints spL).toArray 3))) := (Below.refl _ _).alloc (Nat.le_refl _) _
            go_wp2_with fail
            refine (among_any spL _ _ B b ao n cap k9 _ (by omega) (by decide) (by decide) HV9.out (Cur.below HC9.out HB9.out)).mono ?_
            rintro e w10 ⟨x, k10, rfl, -, hk10, C10, g10⟩
            have GB : Hid (w9.grownBy w10 (some b)) := grown_trans' (grown_of_below HB9.out (some b)) g10
            have HC10 : Hid _ := C10
            have OW10 : Hid _ := World.ownsRow.kept OW9.out GB.out (own_ne_cur OW9.out hbw)
            have G10 : Hid _ := grown_trans' G9.out GB.out
            clear C10 g10 HV9 HB9
            obtain ⟨g, rfl⟩ : ∃ g, a8 = some ⟨g, 0, none⟩ := by
              rcases OW10.out.2 with ⟨h1, h2⟩ | ⟨g, cap', cur, h1, _⟩
              · simp only [Value.slice.injEq] at h1; omega
              · simp only [Value.slice.injEq, true_and] at h1; exact ⟨g, h1.1⟩
            have hfz := World.ownsRow.frozenAt OW10.out 0
            have hce := World.ownsRow.cellAt OW10.out 0 (by omega)
            obtain ⟨q, hq⟩ : ∃ q, (ints (flS (notF C 0)))[0]? = some q := ⟨_, List.getElem?_eq_getElem (by rw [ints_len]; exact hzn)⟩
            rw [hq] at hce
            have hst := World.ownsRow.stored OW10.out 0 (.int .i64 x)
            rw [ints_set] at hst
            have HST : Hid _ := hst
            have hgb : w.heap.size ≤ g := (World.ownsRow.lt OW10.out g rfl).1
            clear hst hq
            go_wp2
            go_ret
            refine ⟨_, (flS (notF C 0)).set 0 x, k10, rfl, by simp; omega, by omega, Cur.grown HC10.out HST.out.2 (fun g' hg' => by have := Option.some.inj hg'; have := HC10.out.lt; have := HC.out.le; omega), by simpa using HST.out.1, ?_⟩
            exact ⟨HST.out.2.os.trans G10.out.os, HST.out.2.tape.trans G10.out.tape, HST.out.2.output.trans G10.out.output, Nat.le_trans G10.out.size HST.out.2.size, fun i hi hn => (HST.out.2.block i (Nat.lt_of_lt_of_le hi G10.out.size) (fun e => by have := Option.some.inj e; omega)).trans (G10.out.block i hi hn)⟩
end Go.Proofs.Ytpkhmihkchiheaa

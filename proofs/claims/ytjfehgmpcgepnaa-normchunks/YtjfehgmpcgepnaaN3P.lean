/-
  The draw (*l1Cur).formed: some list of at most as many ints as are asked for.
-/
import Derived.Test.YtjfehgmpcgepnaaN3O
import Derived.Test.YtjfehgmpcgepnaaCur3
namespace Go.Proofs.Ytjfehgmpcgepnaa
open Go.ChangeShapes Go.WideShapes Go.ChangeAt Go.RowKit
def foL : List Int := [97, 122, 66, 768, 769, 770, 772, 775, 776, 879, 4352, 4353, 4449, 4469, 4519, 4520, 4546, 44032, 44033, 44060, 55203, 57344, 57352, 57759, 57760, 32]
def foN : List Int := [-1, 55296]
theorem set_zero (L : List Int) (x : Int) : (ints L).set 0 (.int .i64 x) = ints (L.set 0 x) := by simp [ints, List.map_set]
theorem grown_hi {w a c : World} {row r : Option Nat} (h : w.grownBy a r) (k : a.grownBy c row) (hr : ∀ g, row = some g → w.heap.size ≤ g) : w.grownBy c r :=
  ⟨k.os.trans h.os, k.tape.trans h.tape, k.output.trans h.output, Nat.le_trans h.size k.size, fun i hi hn => (k.block i (Nat.lt_of_lt_of_le hi h.size) (fun e => by have := hr i e.symm; omega)).trans (h.block i hi hn)⟩
set_option maxRecDepth 100000 in
set_option maxHeartbeats 4000000 in
theorem formed_any (mo : Nat) (hmo : mo ≤ 8) (B b : Nat) (ao : Option Addr) (n cap k : Nat) (w : World) (hk : k ≤ 500) (h : Cur w B b ao n cap k) :
    Calls Try.prog 14 #[.pointer (some ⟨b, 0, none⟩), .int .i64 mo] w fun e w' => ∃ (v : Value) (L : List Int) (k' : Nat), e = .returned v ∧ L.length ≤ mo ∧ k' ≤ k + 30 ∧ Cur w' B b ao n cap k' ∧ w'.ownsRow w.heap.size 3 1 v L.length (ints L) ∧ w.grownBy w' (some b) := by
  have hbw : b < w.heap.size := Nat.lt_of_lt_of_le h.lt h.le
  have HC : Hid _ := h
  clear h
  go_enter Try.func14, Try.ntmps14
  go_wp2_with fail
  refine (pick_any ((mo : Int) + 1) B b ao n cap k _ (by omega) HC.out).mono ?_
  rintro e w1 ⟨r, k1, rfl, p0, p1, hk1, C1, g1⟩
  obtain ⟨m0, rfl⟩ := Int.eq_ofNat_of_zero_le p0
  have hm0 : m0 ≤ mo := by omega
  have HC1 : Hid _ := C1
  have G1 : Hid _ := g1
  clear C1 g1 p0 p1
  go_wp2
  go_loopw [5, 6] (fun v i wr => ∃ (m k' : Nat) (L : List Int), i = .int .i64 m ∧ L.length + m ≤ mo ∧ k' + 2 * m ≤ k + 2 + 2 * mo ∧ Cur wr B b ao n cap k' ∧ wr.ownsRow w.heap.size 3 1 v L.length (ints L) ∧ w.grownBy wr (some b)) (fun _ i _ => (intOf i).toNat)
  case atStart => exact ⟨m0, k1, [], rfl, by simpa using hm0, by omega, HC1.out, World.ownsRow_nil _ _ _ _, G1.out⟩
  case round =>
    obtain ⟨m, k', L, rfl, hlm, hk', C2, own2, g2⟩ := hrel
    have HC2 : Hid _ := C2
    have OW2 : Hid (wr.ownsRow w.heap.size 3 1 u5 L.length (ints L)) := own2
    have G2 : Hid _ := g2
    have hb2 : b < wr.heap.size := Nat.lt_of_lt_of_le hbw g2.size
    have hw2 : w.heap.size ≤ wr.heap.size := g2.size
    clear C2 g2
    by_cases hlt : 0 < m
    · have hltI : (0 : Int) < (m : Int) := by omega
      obtain ⟨m', rfl⟩ : ∃ m', m = m' + 1 := ⟨m - 1, by omega⟩
      have HV : Hid _ := vals_new wr b hb2 _ (ints foL) rfl 3
      have HB : Hid (Below wr.heap.size wr (wr.alloc (.cells (ints foL).toArray 3))) := (Below.refl _ _).alloc (Nat.le_refl _) _
      clear own2
      go_wp2_with fail
      refine (among_any foL _ _ B b ao n cap k' _ (by omega) (by decide) (by decide) HV.out (Cur.below HC2.out HB.out)).mono ?_
      rintro e w3 ⟨x, k3, rfl, -, hk3, C3, g3⟩
      have GA : Hid (wr.grownBy w3 (some b)) := grown_trans' (grown_of_below HB.out (some b)) g3
      have HC3 : Hid _ := C3
      have OW3 : Hid (w3.ownsRow w.heap.size 3 1 u5 L.length (ints L)) := World.ownsRow.kept OW2.out GA.out (own_ne_cur OW2.out hbw)
      have G3 : Hid _ := grown_trans' G2.out GA.out
      have hw3 : w.heap.size ≤ w3.heap.size := G3.out.size
      have A3 : ∀ o, Below w3.heap.size w3 (w3.alloc o) := fun o => (Below.refl _ _).alloc (Nat.le_refl _) o
      clear C3 g3 HV HB
      go_wp2_with (at_builtin; refine wpA _ rfl _ _ rfl w.heap.size _ _ _ rfl (ownsRow_below OW3.out (A3 _)) (some ⟨w3.heap.size, 0, none⟩) [x] 1 1 rfl rfl (ints_new w3 x 3 w3.heap.size rfl) ?c1 ?c2 ?_)
      case c1 => omega
      case c2 => simp; omega
      intro v4 w4 o4 g4 _
      have O4 : Hid (w4.ownsRow w.heap.size 3 1 v4 (L ++ [x]).length (ints (L ++ [x]))) := (by simpa [ints] using o4 : w4.ownsRow w.heap.size 3 1 v4 (L ++ [x]).length (ints (L ++ [x])))
      have HC4 : Hid (Cur w4 B b ao n cap k3) := Cur.grown (Cur.below HC3.out (A3 _)) g4 (fun g e => by have h1 := (World.ownsRow.lt OW3.out g e).1; have h2 := HC.out.le; omega)
      have G4 : Hid (w.grownBy w4 (some b)) := grown_hi (grown_trans' G3.out (grown_of_below (A3 _) (some b))) g4 (fun g e => (World.ownsRow.lt OW3.out g e).1)
      clear o4 g4
      go_wp2
      go_roundw
      case rel => exact ⟨m', k3, L ++ [x], by go_num, by simp; omega, by omega, HC4.out, O4.out, G4.out⟩
      case measure => simp [intOf]
    · obtain rfl : m = 0 := by omega
      obtain ⟨-, a8, c8, hv8, -⟩ := ints_of_own own2
      subst hv8
      clear own2
      by_cases hz : L.length = 0
      · have hz0 : decide (0 < L.length) = false := decide_eq_false (by omega)
        have hz1 : ¬ (0 : Int) < (L.length : Int) := by omega
        clear hz
        go_wp2
        go_ret
        first | exact ⟨.slice a8 L.length c8, rfl, L, by omega, k', by omega, HC2.out, OW2.out, G2.out⟩ | exact ⟨.slice a8 L.length c8, L, k', rfl, by omega, by omega, HC2.out, OW2.out, G2.out⟩
      · have hz0 : decide (0 < L.length) = true := decide_eq_true (by omega)
        have hz1 : (0 : Int) < (L.length : Int) := by omega
        have hzn : 0 < L.length := by omega
        clear hz
        go_wp2_with fail
        refine (one_any 40 B b ao n cap k' _ (by omega) HC2.out).mono ?_
        rintro e w9 ⟨r9, k9, rfl, hk9, C9, g9⟩
        have HC9 : Hid _ := C9
        have OW9 : Hid (w9.ownsRow w.heap.size 3 1 (.slice a8 L.length c8) L.length (ints L)) := World.ownsRow.kept OW2.out g9 (own_ne_cur OW2.out hbw)
        have G9 : Hid _ := grown_trans' G2.out g9
        have hb9 : b < w9.heap.size := Nat.lt_of_lt_of_le hbw G9.out.size
        clear C9 g9
        cases r9
        · go_wp2
          go_ret
          exact ⟨_, L, k9, rfl, by omega, by omega, HC9.out, OW9.out, G9.out⟩
        · have HV9 : Hid _ := vals_new w9 b hb9 _ (ints foN) rfl 3
          have HB9 : Hid (Below w9.heap.size w9 (w9.alloc (.cells (ints foN).toArray 3))) := (Below.refl _ _).alloc (Nat.le_refl _) _
          go_wp2_with fail
          refine (among_any foN _ _ B b ao n cap k9 _ (by omega) (by decide) (by decide) HV9.out (Cur.below HC9.out HB9.out)).mono ?_
          rintro e w10 ⟨x, k10, rfl, -, hk10, C10, g10⟩
          have GB : Hid (w9.grownBy w10 (some b)) := grown_trans' (grown_of_below HB9.out (some b)) g10
          have HC10 : Hid _ := C10
          have OW10 : Hid (w10.ownsRow w.heap.size 3 1 (.slice a8 L.length c8) L.length (ints L)) := World.ownsRow.kept OW9.out GB.out (own_ne_cur OW9.out hbw)
          have G10 : Hid _ := grown_trans' G9.out GB.out
          clear C10 g10 HV9 HB9
          obtain ⟨g, rfl⟩ : ∃ g, a8 = some ⟨g, 0, none⟩ := by
            rcases OW10.out.2 with ⟨h1, h2⟩ | ⟨g, cap', cur, h1, _⟩
            · simp only [Value.slice.injEq] at h1; omega
            · simp only [Value.slice.injEq, true_and] at h1; exact ⟨g, h1.1⟩
          have hfz := World.ownsRow.frozenAt OW10.out 0
          have hce := World.ownsRow.cellAt OW10.out 0 (by omega)
          obtain ⟨q, hq⟩ : ∃ q, (ints L)[0]? = some q := ⟨_, List.getElem?_eq_getElem (by simpa [ints] using hzn)⟩
          rw [hq] at hce
          have hst := World.ownsRow.stored OW10.out 0 (.int .i64 x)
          rw [set_zero] at hst
          have HST : Hid _ := hst
          have hgb : w.heap.size ≤ g := (World.ownsRow.lt OW10.out g rfl).1
          clear hst hq
          go_wp2
          go_ret
          exact ⟨_, L.set 0 x, k10, rfl, by simp; omega, by omega, Cur.grown HC10.out HST.out.2 (fun g' hg' => by have := Option.some.inj hg'; have := HC.out.le; omega), by simpa using HST.out.1, grown_hi G10.out HST.out.2 (fun g' hg' => by have := Option.some.inj hg'; omega)⟩
end Go.Proofs.Ytjfehgmpcgepnaa

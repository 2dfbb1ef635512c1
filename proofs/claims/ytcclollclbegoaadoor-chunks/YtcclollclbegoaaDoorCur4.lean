/-
  Contract of (*l1Cur).bytes: some text of at most 26 bytes.
-/
import Derived.Test.YtcclollclbegoaaDoorCur3
import Derived.Deep.RegionHeld
namespace Go.Proofs.YtcclollclbegoaaDoor
open Go.ChangeShapes Go.WideShapes Go.ChangeAt Go.RowKit
theorem slice_head (s : ByteArray) (i : Nat) (h2 : i ≤ s.size) (w : World) : (Instr.slice 9 (.string s) none (some (.int .i64 i)) none).run Tryd.prog w = .ok (.string (s.extract 0 i)) w := by
  have h' : (i : Int) ≤ s.size := by omega
  go_simp
theorem slice_from (s : ByteArray) (i : Nat) (I : Int) (hI : I = i) (h2 : i ≤ s.size) (w : World) : (Instr.slice 9 (.string s) (some (.int .i64 I)) none none).run Tryd.prog w = .ok (.string (s.extract i s.size)) w := by
  subst hI
  have h' : (i : Int) ≤ s.size := by omega
  go_simp
theorem head_size (s : ByteArray) (i : Nat) (h : i ≤ s.size) : (s.extract 0 i).size = i := by rw [ByteArray.size_extract]; omega
theorem from_size (s : ByteArray) (i : Nat) : (s.extract i s.size).size = s.size - i := by rw [ByteArray.size_extract]; omega
set_option maxRecDepth 100000 in
set_option maxHeartbeats 2000000 in
theorem bytes_any (B b : Nat) (ao : Option Addr) (n cap k : Nat) (w : World) (hk : k ≤ 500) (h : Cur w B b ao n cap k) :
    Calls Tryd.prog 60 #[.pointer (some ⟨b, 0, none⟩)] w fun e w' => ∃ (s : ByteArray) (k' : Nat), e = .returned (.string s) ∧ s.size ≤ 26 ∧ k' ≤ k + 40 ∧ Cur w' B b ao n cap k' ∧ w.grownBy w' (some b) := by
  have HC : Hid _ := h
  clear h
  have cv := conv_1
  go_enter Tryd.func60, Tryd.ntmps60
  go_wp2_with fail
  refine (cruns_any 6 B b ao n cap k _ (by omega) (by omega) HC.out).mono ?_
  rintro e w1 ⟨v, L, k1, rfl, hg, hl, hk1, C1, own1, g1⟩
  obtain ⟨_, la, lc, rfl, hA⟩ := ints_of_own own1
  have HA : Hid _ := hA
  have HG : Hid _ := hg
  have HC1 : Hid _ := C1
  have G1 : Hid _ := g1
  clear hA hg C1 g1 own1
  go_wp2_with fail
  refine (text_of_any L _ _ _ (by omega) HG.out HA.out).mono ?_
  rintro e w2 ⟨rfl, b2⟩
  have hts : (textS L).size ≤ 24 := by have := (textB_len L).2; rw [textS_size]; omega
  have HC2 : Hid _ := Cur.below HC1.out b2
  have G2 : Hid _ := grown_trans' G1.out (grown_of_below b2 (some b))
  clear b2
  generalize textS L = s0 at *
  go_wp2_with fail
  refine (pick_any 3 B b ao n cap k1 _ (by omega) HC2.out).mono ?_
  rintro e w3 ⟨r, k3, rfl, p0, p1, hk3, C3, g3⟩
  obtain ⟨m0, rfl⟩ := Int.eq_ofNat_of_zero_le p0
  have hm0 : m0 ≤ 2 := by omega
  have HC3 : Hid _ := C3
  have G3 : Hid _ := grown_trans' G2.out g3
  clear C3 g3 p0 p1
  go_wp2
  go_loopw [3, 4] (fun v i wr => ∃ (m k' : Nat) (s : ByteArray), i = .int .i64 m ∧ v = .string s ∧ s.size + m ≤ 26 ∧ m ≤ 2 ∧ k' + 6 * m ≤ k + 40 ∧ Cur wr B b ao n cap k' ∧ w.grownBy wr (some b)) (fun _ i _ => (intOf i).toNat)
  case atStart => exact ⟨m0, k3, s0, rfl, rfl, by omega, hm0, by omega, HC3.out, G3.out⟩
  case round =>
    obtain ⟨m, k', s, rfl, rfl, hsm, hm2, hk', C4, g4⟩ := hrel
    have HC4 : Hid _ := C4
    have G4 : Hid _ := g4
    clear C4 g4
    by_cases hlt : 0 < m ∧ 0 < s.size
    · obtain ⟨h1, h2⟩ := hlt
      have hltI : (0 : Int) < (m : Int) := by omega
      have hszI : (0 : Int) < (s.size : Int) := by omega
      obtain ⟨m', rfl⟩ : ∃ m', m = m' + 1 := ⟨m - 1, by omega⟩
      go_wp2_with fail
      refine (pick_any s.size B b ao n cap k' _ (by omega) HC4.out).mono ?_
      rintro e w5 ⟨r, k5, rfl, p0, p1, hk5, C5, g5⟩
      obtain ⟨i, rfl⟩ := Int.eq_ofNat_of_zero_le p0
      have hi : i < s.size := by omega
      have HC5 : Hid _ := C5
      have G5 : Hid _ := grown_trans' G4.out g5
      clear C5 g5 p0 p1
      go_wp2_with fail
      refine (pick_any 4 B b ao n cap k5 _ (by omega) HC5.out).mono ?_
      rintro e w6 ⟨r, k6, rfl, p0, p1, hk6, C6, g6⟩
      have HC6 : Hid _ := C6
      have G6 : Hid _ := grown_trans' G5.out g6
      clear C6 g6
      have s1 := slice_head s i (by omega)
      have s2 := slice_from s (i + 1) ((i : Int) + 1) (by omega) (by omega)
      have s3 := slice_from s i (i : Int) rfl (by omega)
      have z1 := head_size s i (by omega)
      have z2 := from_size s (i + 1)
      have z3 := from_size s i
      by_cases h0 : r = 0
      · subst h0
        clear s3 z3
        have ha : (s.extract 0 i ++ s.extract (i + 1) s.size).size = s.size - 1 := by rw [ByteArray.size_append, z1, z2]; omega
        have HA2 : Hid _ := ha
        have hno : (s.extract 0 i).size + (s.extract (i + 1) s.size).size ≤ 100 := by rw [z1, z2]; omega
        clear ha z1 z2
        generalize s.extract 0 i = sa at *
        generalize s.extract (i + 1) s.size = sb at *
        go_wp2
        go_quiet (fail)
        go_wp2
        go_roundw
        case rel => exact ⟨m', k6, sa ++ sb, by go_num, rfl, by have := HA2.out; omega, by omega, by omega, Cur.below HC6.out (below_drewN (Below.refl _ _) _), grown_trans' G6.out (grown_of_below (below_drewN (Below.refl _ _) _) _)⟩
        case measure => simp [intOf]
      · have hr0 : (r == 0) = false := by rw [beq_eq_false_iff_ne]; exact h0
        by_cases h1' : r = 1
        · subst h1'
          clear s2 z2 hr0
          have one : ∀ x : Int, (strOfNums [x]).size = 1 := fun x => strOfNums_size [x]
          have n1 : ∀ x : Int, ¬ 9223372036854775807 < (s.extract 0 i).size + (strOfNums [x]).size := fun x => by rw [one, z1]; omega
          have n2 : ∀ x : Int, ¬ 9223372036854775807 < (s.extract 0 i).size + (strOfNums [x]).size + (s.extract i s.size).size := fun x => by rw [one, z1, z3]; omega
          have n3 : ∀ x : Int, ¬ 9223372036854775807 < (s.extract 0 i ++ strOfNums [x]).size + (s.extract i s.size).size := fun x => by rw [ByteArray.size_append, one, z1, z3]; omega
          have HZ : Hid (∀ x : Int, (s.extract 0 i ++ strOfNums [x] ++ s.extract i s.size).size = s.size + 1) := fun x => by rw [ByteArray.size_append, ByteArray.size_append, one, z1, z3]; omega
          clear one z1 z3
          generalize s.extract 0 i = sa at *
          generalize s.extract i s.size = sc at *
          go_wp2
          go_region_held (fun _ => True) (trivial) (first | (go_at_call 72; refine (next_any B b ao n cap k6 _ (by omega) ?_).mono ?_; exact Cur.below HC6.out ((Below.refl _ _).drew); rintro e w7 ⟨x, rfl, x0, x1, C7, g7⟩))
          have G7 : Hid (w.grownBy w7 (some b)) := grown_trans' (grown_trans' G6.out (grown_of_below ((Below.refl w6.heap.size w6).drew) (some b))) g7
          have HC7 : Hid _ := C7
          clear C7 g7
          go_wp2
          go_roundw
          case rel => exact ⟨m', k6 + 1, _, by go_num, rfl, by have := HZ.out (IntKind.u8.wrap x); omega, by omega, by omega, Cur.below HC7.out ((Below.refl _ _).alloc (Nat.le_refl _) _), grown_trans' G7.out (grown_of_below ((Below.refl _ _).alloc (Nat.le_refl _) _) _)⟩
          case measure => simp [intOf]
        · have hr1 : (r == 1) = false := by rw [beq_eq_false_iff_ne]; exact h1'
          clear s1 s2 s3 z1 z2 z3
          go_wp2
          go_roundw
          case rel => exact ⟨m', k6, s, by go_num, rfl, by omega, by omega, by omega, HC6.out, G6.out⟩
          case measure => simp [intOf]
    · by_cases hm : 0 < m
      · have hltI : (0 : Int) < (m : Int) := by omega
        have hszI : ¬ (0 : Int) < (s.size : Int) := by omega
        go_wp2
        go_ret
        exact ⟨s, rfl, by omega, k', by omega, HC4.out, G4.out⟩
      · have hltI : ¬ (0 : Int) < (m : Int) := by omega
        go_wp2
        go_ret
        exact ⟨s, rfl, by omega, k', by omega, HC4.out, G4.out⟩
end Go.Proofs.YtcclollclbegoaaDoor

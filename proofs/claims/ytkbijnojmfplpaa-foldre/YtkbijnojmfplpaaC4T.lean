/-
  Letters that count as one, in the specification: l4FoldSet, FoldSet.
-/
import Derived.Test.YtkbijnojmfplpaaC4S
namespace Go.Proofs.Ytkbijnojmfplpaa
open Go.ChangeShapes Go.WideShapes Go.ChangeAt Go.RowKit
theorem memS_flS (C : List (Int × Int)) (r : Int) : memS (flS C) r = true ↔ Mem r C := by
  have hl := flS_len C
  rw [mem_iff]
  constructor
  · intro h
    obtain ⟨j, hj, hd⟩ := List.any_eq_true.1 h
    have hj' : j < C.length := by have := List.mem_range.1 hj; omega
    have hd := of_decide_eq_true hd
    have hf := flS_at C j hj'
    rw [hf.1, hf.2] at hd
    exact ⟨C.getD j (0, 0), by simp [List.getD, hj'], by omega⟩
  · rintro ⟨p, hp, h1⟩
    obtain ⟨j, hj, rfl⟩ := List.mem_iff_getElem.1 hp
    have hf := flS_at C j hj
    have e : C.getD j (0, 0) = C[j] := by simp [List.getD, hj]
    rw [e] at hf
    exact memS_true (j := j) (by omega) (by rw [hf.1, hf.2]; omega)
/-- The set with the letters that count as one with its own, as far as it goes. -/
def foldK (C : List (Int × Int)) : Nat → List (Int × Int)
  | 0 => C
  | i + 1 => if (memS (flS C) (65 + i) || memS (flS C) (97 + i)) = true then addS (addS (foldK C i) (65 + i) (65 + i + 1)) (97 + i) (97 + i + 1) else foldK C i
theorem foldK_facts {C : List (Int × Int)} (h : CT C) (hl : C.length ≤ 12) : ∀ i : Nat, i ≤ 26 → CT (foldK C i) ∧ (foldK C i).length ≤ 12 + 2 * i ∧ ∀ x, Mem x (foldK C i) ↔ Mem x C ∨ ∃ j : Nat, j < i ∧ (Mem (65 + j) C ∨ Mem (97 + j) C) ∧ (x = 65 + j ∨ x = 97 + j)
  | 0, _ => ⟨h, by simpa [foldK] using hl, fun x => ⟨.inl, fun q => q.elim id (fun ⟨j, hj, _⟩ => absurd hj (by omega))⟩⟩
  | i + 1, hi => by
    obtain ⟨i1, i2, i3⟩ := foldK_facts h hl i (by omega)
    unfold foldK
    have hm : ((memS (flS C) (65 + i) || memS (flS C) (97 + i)) = true) ↔ (Mem (65 + i) C ∨ Mem (97 + i) C) := by rw [Bool.or_eq_true, memS_flS, memS_flS]
    by_cases hb : (memS (flS C) (65 + i) || memS (flS C) (97 + i)) = true
    · rw [if_pos hb]
      obtain ⟨a1, a2⟩ := addS_ct i1 (lo := 65 + i) (hi := 65 + i) (by omega) (Int.le_refl _) (by omega)
      have a3 := addS_len i1 (lo := 65 + i) (hi := 65 + i + 1) (by omega) (by omega)
      obtain ⟨b1, b2⟩ := addS_ct a1 (lo := 97 + i) (hi := 97 + i) (by omega) (Int.le_refl _) (by omega)
      have b3 := addS_len a1 (lo := 97 + i) (hi := 97 + i + 1) (by omega) (by omega)
      refine ⟨b1, by omega, fun x => ?_⟩
      rw [b2 x, a2 x, i3 x]
      constructor
      · rintro (((q | ⟨j, hj, q1, q2⟩) | q) | q)
        · exact .inl q
        · exact .inr ⟨j, by omega, q1, q2⟩
        · exact .inr ⟨i, by omega, hm.1 hb, .inl (by omega)⟩
        · exact .inr ⟨i, by omega, hm.1 hb, .inr (by omega)⟩
      · rintro (q | ⟨j, hj, q1, q2⟩)
        · exact .inl (.inl (.inl q))
        · by_cases e : j = i
          · subst e
            rcases q2 with q2 | q2
            · exact .inl (.inr (by omega))
            · exact .inr (by omega)
          · exact .inl (.inl (.inr ⟨j, by omega, q1, q2⟩))
    · rw [if_neg hb]
      refine ⟨i1, by omega, fun x => ?_⟩
      rw [i3 x]
      constructor
      · rintro (q | ⟨j, hj, q1, q2⟩)
        · exact .inl q
        · exact .inr ⟨j, by omega, q1, q2⟩
      · rintro (q | ⟨j, hj, q1, q2⟩)
        · exact .inl q
        · by_cases e : j = i
          · subst e
            exact absurd (hm.2 q1) hb
          · exact .inr ⟨j, by omega, q1, q2⟩
set_option maxRecDepth 100000 in
set_option maxHeartbeats 4000000 in
theorem sfoldS_any (C : List (Int × Int)) (ao : Option Addr) (cap : Nat) (w : World) (n : Nat) (hn : n = (flS C).length) (hct : CT C) (hl : C.length ≤ 12) (hA : IntsAt w ao (flS C)) :
    Calls Try.prog 61 #[.slice ao n cap] w fun e w' => ∃ v, e = .returned v ∧ w'.ownsRow w.heap.size 3 1 v (flS (foldK C 26)).length (ints (flS (foldK C 26))) ∧ Below w.heap.size w w' := by
  subst hn
  have HA : Hid _ := hA
  have HCT : Hid _ := hct
  have hfl : (flS C).length ≤ 24 := by rw [flS_len]; omega
  have HE : Hid ((flS C).length % 2 = 0) := by show (flS C).length % 2 = 0; rw [flS_len]; omega
  clear hA hct
  go_enter Try.func61, Try.ntmps61
  go_wp2_with fail
  refine (sown_any (flS C) ao _ cap _ rfl (by omega) HA.out).mono ?_
  rintro e w1 ⟨v1, rfl, o1, b1⟩
  have O1 : Hid _ := o1
  have B1 : Hid _ := b1
  clear o1 b1
  go_wp2
  go_loopw [3, 4] (fun v i wr => ∃ k : Nat, k ≤ 26 ∧ i = .int .i64 (65 + (k : Int)) ∧ wr.ownsRow w.heap.size 3 1 v (flS (foldK C k)).length (ints (flS (foldK C k))) ∧ Below w.heap.size w wr) (fun _ i _ => 91 - (intOf i).toNat)
  case atStart => exact ⟨0, Nat.zero_le _, rfl, O1.out, B1.out⟩
  case round =>
    obtain ⟨k, hk, rfl, hown, hbw⟩ := hrel
    have HB : Hid _ := hbw
    obtain ⟨f1, f2, -⟩ := foldK_facts HCT.out hl k hk
    by_cases hlt : k < 26
    · have hltI : 65 + (k : Int) ≤ 90 := by omega
      have IA : Hid _ := IntsAt.keepB HA.out hbw
      have HF : Hid _ := f1
      have HFO : Hid (foldK C (k + 1) = if (memS (flS C) (65 + k) || memS (flS C) (97 + k)) = true then addS (addS (foldK C k) (65 + k) (65 + k + 1)) (97 + k) (97 + k + 1) else foldK C k) := rfl
      have hadd : (65 + (k : Int)) + 32 = 97 + k := by omega
      have HADD : Hid _ := hadd
      obtain ⟨-, a7, c7, rfl, i7⟩ := ints_of_own hown
      have OWN : Hid _ := hown
      have I7 : Hid _ := i7
      have YES : Hid (∀ wq : World, Below wr.heap.size wr wq → IntsAt wq a7 (flS (foldK C k))) := fun wq h => IntsAt.keepB I7.out h
      clear f1 hown i7 hbw hadd
      cases hm1 : memS (flS C) (65 + k)
      · cases hm2 : memS (flS C) (97 + k)
        · have M1 : Hid _ := hm1
          have M2 : Hid _ := hm2
          have HX : Hid (foldK C (k + 1) = foldK C k) := by show foldK C (k + 1) = foldK C k; rw [HFO.out, hm1, hm2]; rfl
          clear hm1 hm2
          go_wp2_with fail
          refine (sin4_any (flS C) _ ao cap _ (by omega) HE.out IA.out).mono ?_
          rintro e w2 ⟨rfl, b2⟩
          rw [M1.out]
          have B2 : Hid _ := b2
          clear b2
          go_wp2_with fail
          rw [HADD.out]
          refine (sin4_any (flS C) _ ao cap _ (by omega) HE.out (IntsAt.keepB IA.out B2.out)).mono ?_
          rintro e w3 ⟨rfl, b3⟩
          rw [M2.out]
          have B3 : Hid (Below wr.heap.size wr w3) := B2.out.trans (b3.mono B2.out.size)
          clear b3
          go_wp2
          go_roundw
          case rel => exact ⟨k + 1, by omega, by go_num, by rw [HX.out]; exact World.ownsRow.keepB OWN.out B3.out, HB.out.trans (B3.out.mono HB.out.size)⟩
          case measure => simp [intOf]; omega
        · have M1 : Hid _ := hm1
          have M2 : Hid _ := hm2
          have HX : Hid (foldK C (k + 1) = addS (addS (foldK C k) (65 + k) (65 + k + 1)) (97 + k) (97 + k + 1)) := by show foldK C (k + 1) = _; rw [HFO.out, hm1, hm2]; rfl
          clear hm1 hm2
          go_wp2_with fail
          refine (sin4_any (flS C) _ ao cap _ (by omega) HE.out IA.out).mono ?_
          rintro e w2 ⟨rfl, b2⟩
          rw [M1.out]
          have B2 : Hid _ := b2
          clear b2
          go_wp2_with fail
          rw [HADD.out]
          refine (sin4_any (flS C) _ ao cap _ (by omega) HE.out (IntsAt.keepB IA.out B2.out)).mono ?_
          rintro e w3 ⟨rfl, b3⟩
          rw [M2.out]
          have BQ : Hid (Below wr.heap.size wr w3) := B2.out.trans (b3.mono B2.out.size)
          clear b3
          go_wp2_with fail
          refine (sadd_any (foldK C k) (65 + k) (65 + k) a7 c7 _ _ rfl (by omega) HF.out.bd (by omega) (by omega) (YES.out _ BQ.out)).mono ?_
          rintro e w4 ⟨v4, rfl, o4, b4⟩
          have O4 : Hid _ := o4
          have B4 : Hid (Below wr.heap.size wr w4) := BQ.out.trans (b4.mono BQ.out.size)
          obtain ⟨-, a4, c4, rfl, i4⟩ := ints_of_own o4
          have I4 : Hid _ := i4
          obtain ⟨g1, -⟩ := addS_ct HF.out (lo := 65 + k) (hi := 65 + k) (by omega) (Int.le_refl _) (by omega)
          have g2 := addS_len HF.out (lo := 65 + k) (hi := 65 + k + 1) (by omega) (by omega)
          have G1 : Hid _ := g1
          clear o4 b4 i4 g1
          go_wp2_with fail
          rw [HADD.out]
          refine (sadd_any (addS (foldK C k) (65 + k) (65 + k + 1)) (97 + k) (97 + k) a4 c4 _ _ rfl (by omega) G1.out.bd (by omega) (by omega) I4.out).mono ?_
          rintro e w5 ⟨v5, rfl, o5, b5⟩
          have B5 : Hid (Below wr.heap.size wr w5) := B4.out.trans (b5.mono B4.out.size)
          have O5 : Hid (w5.ownsRow w.heap.size 3 1 v5 _ _) := own_mono o5 (Nat.le_trans HB.out.size B4.out.size)
          clear o5 b5
          go_wp2
          go_roundw
          case rel => exact ⟨k + 1, by omega, by go_num, by rw [HX.out]; exact O5.out, HB.out.trans (B5.out.mono HB.out.size)⟩
          case measure => simp [intOf]; omega
      · have M1 : Hid _ := hm1
        have HX : Hid (foldK C (k + 1) = addS (addS (foldK C k) (65 + k) (65 + k + 1)) (97 + k) (97 + k + 1)) := by show foldK C (k + 1) = _; rw [HFO.out, hm1]; rfl
        clear hm1
        go_wp2_with fail
        refine (sin4_any (flS C) _ ao cap _ (by omega) HE.out IA.out).mono ?_
        rintro e w2 ⟨rfl, b2⟩
        rw [M1.out]
        have BQ : Hid (Below wr.heap.size wr w2) := b2
        clear b2
        go_wp2_with fail
        refine (sadd_any (foldK C k) (65 + k) (65 + k) a7 c7 _ _ rfl (by omega) HF.out.bd (by omega) (by omega) (YES.out _ BQ.out)).mono ?_
        rintro e w4 ⟨v4, rfl, o4, b4⟩
        have O4 : Hid _ := o4
        have B4 : Hid (Below wr.heap.size wr w4) := BQ.out.trans (b4.mono BQ.out.size)
        obtain ⟨-, a4, c4, rfl, i4⟩ := ints_of_own o4
        have I4 : Hid _ := i4
        obtain ⟨g1, -⟩ := addS_ct HF.out (lo := 65 + k) (hi := 65 + k) (by omega) (Int.le_refl _) (by omega)
        have g2 := addS_len HF.out (lo := 65 + k) (hi := 65 + k + 1) (by omega) (by omega)
        have G1 : Hid _ := g1
        clear o4 b4 i4 g1
        go_wp2_with fail
        rw [HADD.out]
        refine (sadd_any (addS (foldK C k) (65 + k) (65 + k + 1)) (97 + k) (97 + k) a4 c4 _ _ rfl (by omega) G1.out.bd (by omega) (by omega) I4.out).mono ?_
        rintro e w5 ⟨v5, rfl, o5, b5⟩
        have B5 : Hid (Below wr.heap.size wr w5) := B4.out.trans (b5.mono B4.out.size)
        have O5 : Hid (w5.ownsRow w.heap.size 3 1 v5 _ _) := own_mono o5 (Nat.le_trans HB.out.size B4.out.size)
        clear o5 b5
        go_wp2
        go_roundw
        case rel => exact ⟨k + 1, by omega, by go_num, by rw [HX.out]; exact O5.out, HB.out.trans (B5.out.mono HB.out.size)⟩
        case measure => simp [intOf]; omega
    · obtain rfl : k = 26 := by omega
      go_wp2
      go_ret
      exact ⟨_, rfl, hown, hbw⟩
end Go.Proofs.Ytkbijnojmfplpaa

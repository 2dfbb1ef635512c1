/-
  Union and meeting in the specification: l4Union, UnionSet, MeetSet.
-/
import Derived.Test.YtpkhmihkchiheaaC4S
import Derived.Deep.RegionWith
namespace Go.Proofs.Ytpkhmihkchiheaa
open Go.ChangeShapes Go.WideShapes Go.ChangeAt Go.RowKit
/-- Spans added one by one. -/
def uniF (A B : List (Int × Int)) : List (Int × Int) := B.foldl (fun C p => addS C p.1 p.2) A
theorem uniF_snoc (A B : List (Int × Int)) (p : Int × Int) : uniF A (B ++ [p]) = addS (uniF A B) p.1 p.2 := by simp [uniF]
theorem uniF_facts {A B : List (Int × Int)} (hA : CT A) (hB : CT B) : ∀ k, k ≤ B.length → CT (uniF A (B.take k)) ∧ (uniF A (B.take k)).length ≤ A.length + k ∧ ∀ x, Mem x (uniF A (B.take k)) ↔ Mem x A ∨ Mem x (B.take k)
  | 0, _ => ⟨hA, Nat.le_refl _, fun x => by simp [uniF, Mem]⟩
  | k + 1, h => by
    obtain ⟨i1, i2, i3⟩ := uniF_facts hA hB k (by omega)
    have hm : B.getD k (0, 0) ∈ B := by simp [List.getD, show k < B.length by omega]
    have h1 := hB.can.ge hm
    have h2 := hB.top _ hm
    rw [take_snocS B k (by omega), uniF_snoc]
    generalize B.getD k (0, 0) = p at *
    obtain ⟨j1, j2⟩ := addS_ct i1 (lo := p.1) (hi := p.2 - 1) (by omega) (by omega) (by omega)
    rw [Int.sub_add_cancel] at j1 j2
    have j3 := addS_len i1 (lo := p.1) (hi := p.2) (by omega) (by omega)
    refine ⟨j1, by omega, fun x => ?_⟩
    rw [j2 x, i3 x, mem_append, or_assoc]
    simp [Mem]
set_option maxRecDepth 100000 in
set_option maxHeartbeats 4000000 in
theorem sunion_any (A B : List (Int × Int)) (ao bo : Option Addr) (ca cb : Nat) (w : World) (n m : Nat) (hn : n = (flS A).length) (hm : m = (flS B).length) (hA : CT A) (hB : CT B) (la : A.length ≤ 100) (lb : B.length ≤ 100) (iA : IntsAt w ao (flS A)) (iB : IntsAt w bo (flS B)) :
    Calls Try.prog 46 #[.slice ao n ca, .slice bo m cb] w fun e w' => ∃ v, e = .returned v ∧ w'.ownsRow w.heap.size 3 1 v (flS (uniF A B)).length (ints (flS (uniF A B))) ∧ Below w.heap.size w w' := by
  subst hn
  have HM : Hid (m = (flS B).length) := hm
  have HML : Hid (m = 2 * B.length) := by show m = 2 * B.length; rw [hm, flS_len]
  have hm2 : m ≤ 200 := by rw [hm, flS_len]; omega
  have IA : Hid _ := iA
  have IB : Hid _ := iB
  have HA : Hid _ := hA
  have HB : Hid _ := hB
  have hla : (flS A).length ≤ 200 := by rw [flS_len]; omega
  clear iA iB hA hB hm
  go_enter Try.func46, Try.ntmps46
  go_wp2_with fail
  refine (sown_any (flS A) ao _ ca _ rfl (by omega) IA.out).mono ?_
  rintro e w1 ⟨v1, rfl, o1, b1⟩
  have O1 : Hid _ := o1
  have B1 : Hid _ := b1
  clear o1 b1
  go_wp2
  go_loopw [5, 6] (fun v i wr => ∃ k j : Nat, k ≤ m ∧ k = 2 * j ∧ i = .int .i64 k ∧ wr.ownsRow w.heap.size 3 1 v (flS (uniF A (B.take j))).length (ints (flS (uniF A (B.take j)))) ∧ Below w.heap.size w wr) (fun _ i _ => m - (intOf i).toNat)
  case atStart => exact ⟨0, 0, Nat.zero_le _, rfl, rfl, O1.out, B1.out⟩
  case round =>
    obtain ⟨k, j, hk, hkj, rfl, hown, hbw⟩ := hrel
    have HK : Hid _ := hkj
    have HBW : Hid _ := hbw
    obtain ⟨f1, f2, -⟩ := uniF_facts HA.out HB.out j (by have := HML.out; omega)
    by_cases hlt : k < m
    · have hltI : (k : Int) < (m : Int) := by omega
      have hj : j < B.length := by have := HML.out; omega
      have hlt2 : k + 1 < m := by have := HML.out; omega
      have hlt2I : (k : Int) + 1 < (m : Int) := by omega
      have hw1 : IntKind.i64.wrap ((k : Int) + 1) = (k : Int) + 1 := IntWalk.i64_in _ (by omega)
      have hn1 : ((k : Int) + 1).toNat = k + 1 := by omega
      have hp1 : (0 : Int) ≤ (k : Int) + 1 := by omega
      have hf := flS_at B j hj
      rw [← hkj] at hf
      obtain ⟨b1, o1, rfl, l1, c1⟩ := IB.out k (by rw [← HM.out]; exact hlt)
      obtain ⟨b2, o2, e2, l2, c2⟩ := IB.out (k + 1) (by rw [← HM.out]; exact hlt2)
      obtain ⟨rfl, rfl⟩ : b1 = b2 ∧ o1 = o2 := by simp at e2; exact e2
      rw [hf.1] at c1
      rw [hf.2] at c2
      have g1 : wr.cell? ⟨b1, o1 + k, none⟩ = some (.int .i64 (B.getD j (0, 0)).1) := (hbw.cell (p := ⟨b1, o1 + k, none⟩) l1).trans c1
      have g2 : wr.cell? ⟨b1, o1 + (k + 1), none⟩ = some (.int .i64 ((B.getD j (0, 0)).2 - 1)) := (hbw.cell (p := ⟨b1, o1 + (k + 1), none⟩) l1).trans c2
      have hmm : B.getD j (0, 0) ∈ B := by simp [List.getD, hj]
      have s1 := HB.out.can.ge hmm
      have s2 := HB.out.top _ hmm
      have HST : Hid (uniF A (B.take (j + 1)) = addS (uniF A (B.take j)) (B.getD j (0, 0)).1 (B.getD j (0, 0)).2) := by show uniF A (B.take (j + 1)) = _; rw [take_snocS B j hj, uniF_snoc]
      obtain ⟨-, a7, c7, rfl, i7⟩ := ints_of_own hown
      have I7 : Hid _ := i7
      have HF : Hid _ := f1
      clear c1 c2 e2 hkj hf hmm hown hbw i7 f1
      generalize B.getD j (0, 0) = q at *
      obtain ⟨a, b⟩ := q
      simp only at s1 s2 g1 g2
      generalize uniF A (B.take j) = D at *
      have BD : Hid (Below wr.heap.size wr wr.drew) := (Below.refl _ _).drew
      go_wp2
      go_region_with ((go_at_call 69; refine (sadd_any D a (b - 1) a7 c7 _ _ rfl (by omega) HF.out.bd (by omega) (by omega) (IntsAt.keepB I7.out BD.out)).mono ?_; rintro e w2 ⟨v2, rfl, o2, b2⟩))
      all_goals
        have B2 : Hid (Below w.heap.size w w2) := (HBW.out.trans (BD.out.mono HBW.out.size)).trans (b2.mono (HBW.out.trans (BD.out.mono HBW.out.size)).size)
        have O2 : Hid _ := own_mono o2 (HBW.out.trans (BD.out.mono HBW.out.size)).size
        clear o2 b2
        go_wp2
        go_roundw
        case rel => exact ⟨k + 2, j + 1, by omega, by have := HK.out; omega, by go_num, by rw [HST.out]; have := O2.out; rw [Int.sub_add_cancel] at this; exact this, B2.out⟩
        case measure => simp [intOf]; omega
    · have hkl : k = m := by omega
      subst hkl
      have hjc : B.take j = B := List.take_of_length_le (by have := HML.out; omega)
      rw [hjc] at hown
      clear hkj hjc
      go_wp2
      go_ret
      exact ⟨_, rfl, hown, hbw⟩
end Go.Proofs.Ytpkhmihkchiheaa

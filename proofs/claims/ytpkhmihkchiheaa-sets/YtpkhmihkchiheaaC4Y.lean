/-
  MeetSet of the program: all meetings of two spans are joined.
-/
import Derived.Test.YtpkhmihkchiheaaC4X
namespace Go.Proofs.Ytpkhmihkchiheaa
open Go.ChangeShapes Go.WideShapes Go.ChangeAt Go.RowKit
set_option maxRecDepth 100000 in
set_option maxHeartbeats 4000000 in
theorem imeet_yes (L M : List Int) (ao bo : Option Addr) (ca cb : Nat) (w : World) (A B : List (Int × Int)) (hA : Good4 L A) (hB : Good4 M B) (iA : IntsAt w ao L) (iB : IntsAt w bo M) :
    Calls Try.prog 18 #[.slice ao L.length ca, .slice bo M.length cb] w fun e w' => SetE w w' (meetD A B) e ∧ Below w.heap.size w w' := by
  have IA : Hid _ := iA
  have IB : Hid _ := iB
  have G1 : Hid _ := hA
  have G2 : Hid _ := hB
  have FA : Hid ((pad A).length = 24) := pad_len hA.le
  have FB : Hid ((pad B).length = 24) := pad_len hB.le
  have hixA := index64 (pad A) FA.out
  have hixB := index64 (pad B) FB.out
  have PA : Hid _ := hA.pr
  have PB : Hid _ := hB.pr
  obtain ⟨-, -, d1, -, d3⟩ := meetD_facts hA.ct hB.ct hA.le hB.le
  have D1 : Hid _ := d1
  have HMM : Hid (∀ x, Mem x (meetD A B) ↔ Mem x (crossS (tw A) (tw B))) := fun x => by rw [d3 x, crossS_mem, tw_mem hA.le, tw_mem hB.le]
  have HBD : Hid (∀ p ∈ crossS (tw A) (tw B), 0 ≤ p.1 ∧ p.1 ≤ 1114112 ∧ 0 ≤ p.2 ∧ p.2 ≤ 1114112) := fun p hp => by
    simp only [crossS, List.mem_flatMap, List.mem_map] at hp
    obtain ⟨a, ha, b, hb, rfl⟩ := hp
    have h1 := tw_bd hA.ct a ha
    have h2 := tw_bd hB.ct b hb
    unfold meetP
    simp only
    omega
  have HSB : Hid (∀ p ∈ crossS (tw A) (tw B), -4000000 ≤ p.1 ∧ p.1 ≤ 4000000 ∧ -4000000 ≤ p.2 ∧ p.2 ≤ 4000000) := fun p hp => by have := HBD.out p hp; omega
  have HSG : Hid (∀ p ∈ crossS (tw A) (tw B), p.1 < p.2 → -1 < p.1) := fun p hp _ => by have := HBD.out p hp; omega
  have TA : Hid _ := tw_len A
  have TB : Hid _ := tw_len B
  clear iA iB hA hB d1 d3 HBD
  go_enter Try.func18, Try.ntmps18
  go_wp2_with fail
  refine (read_yes L ao ca _ G1.out.good IA.out).mono ?_
  rintro e w1 ⟨rfl, b1⟩
  rw [PA.out]
  obtain ⟨w2, hst, s2, b2⟩ := new_set w1 A G1.out.le
  have HST : Hid _ := hst
  have S2 : Hid _ := s2
  have B2 : Hid (Below w.heap.size w w2) := b1.trans (b2.mono b1.size)
  clear hst s2 b1 b2
  go_wp2_with (refine wpList_store_set rfl (.tmp 6) (.tmp 18) rfl w1.heap.size rfl rfl HST.out ?_)
  refine (read_yes M bo cb _ G2.out.good (IntsAt.keepB IB.out B2.out)).mono ?_
  rintro e w3 ⟨rfl, b3⟩
  rw [PB.out]
  obtain ⟨w4, hst4, s4, b4⟩ := new_set w3 B G2.out.le
  have HST4 : Hid _ := hst4
  have S4 : Hid _ := s4
  have BB3 : Hid (Below w.heap.size w w3) := B2.out.trans (b3.mono B2.out.size)
  have S2' : Hid (SetAt w4 w1.heap.size A) := (S2.out.keep b3).keep b4
  have B4 : Hid (Below w.heap.size w w4) := BB3.out.trans (b4.mono BB3.out.size)
  clear hst4 s4 b3 b4 IA IB
  go_wp2_with (first | (refine wpList_store_set rfl (.tmp 8) (.tmp 23) rfl w3.heap.size rfl rfl HST4.out ?_) | (refine wpList_load_mid rfl 61 (.tmp 6) rfl w1.heap.size 0 rfl (ints (pad A)) _ S2'.out.ra Try.underlying61 rfl (by rw [info64, ints_len, FA.out]) ?_))
  go_loopw [10, 32] (fun v i wr => ∃ k : Nat, k ≤ 12 ∧ i = .int .i64 k ∧ ownS wr w4.heap.size v (crossS ((tw A).take k) (tw B)) ∧ Below w4.heap.size w4 wr) (fun _ i _ => 12 - (intOf i).toNat)
  case atStart => exact ⟨0, Nat.zero_le _, rfl, World.ownsRow_nil _ _ _ _, Below.refl _ _⟩
  case round =>
    obtain ⟨wo, hwo⟩ : ∃ wo, wo = wr := ⟨_, rfl⟩
    subst hwo
    obtain ⟨k, hk, rfl, hown, hbw⟩ := hrel
    have OWN : Hid _ := hown
    have HB : Hid _ := hbw
    by_cases hlt : k < 12
    · have hltI : (k : Int) < 12 := by omega
      have hik := fun w => hixA k hlt w
      have hp := pad_get A k
      rw [hp.1, hp.2] at hik
      have HTK : Hid (crossS ((tw A).take (k + 1)) (tw B) = crossS ((tw A).take k) (tw B) ++ (tw B).map (meetP (A.getD k (0, 0)))) := by
        show crossS ((tw A).take (k + 1)) (tw B) = _
        rw [crossS_take _ _ k (by rw [TA.out]; exact hlt), tw_get A k hlt]
      have hcl : (crossS ((tw A).take k) (tw B)).length ≤ 144 := by
        rw [crossS_len, TB.out]
        have : ((tw A).take k).length ≤ 12 := by simp; omega
        omega
      have SB : Hid (SetAt wo w3.heap.size B) := S4.out.keep hbw
      clear hp hixA hown hbw
      generalize A.getD k (0, 0) = p at *
      obtain ⟨x, y⟩ := p
      simp only at hik
      generalize crossS ((tw A).take k) (tw B) = S at *
      have AL : ∀ q : World, ∀ o, Below q.heap.size q (q.alloc o) := fun q o => (Below.refl _ _).alloc (Nat.le_refl _) o
      have SB2 : Hid (SetAt (wo.alloc (.cells #[.int .i64 x, .int .i64 y] 59)) w3.heap.size B) := SB.out.keep (AL _ _)
      have OWN2 : Hid (ownS (wo.alloc (.cells #[.int .i64 x, .int .i64 y] 59)) w4.heap.size _ S) := World.ownsRow.keepB OWN.out (AL _ _)
      have HB2 : Hid (Below w4.heap.size w4 (wo.alloc (.cells #[.int .i64 x, .int .i64 y] 59))) := HB.out.trans ((AL _ _).mono HB.out.size)
      have NEQ : Hid _ := (fun e => by have := (World.ownsRow.lt OWN.out wo.heap.size e).2; omega : ¬ Value.ownBlock _ = some wo.heap.size)
      go_wp2_with (refine wpList_load_mid rfl 61 (.tmp 8) rfl w3.heap.size 0 rfl (ints (pad B)) _ SB2.out.ra Try.underlying61 rfl (by rw [info64, ints_len, FB.out]) ?_)
      go_loopw [10, 36] (fun v i wq => ∃ j : Nat, j ≤ 12 ∧ i = .int .i64 j ∧ ownS wq w4.heap.size v (S ++ ((tw B).take j).map (meetP (x, y))) ∧ (¬ v.ownBlock = some wo.heap.size) ∧ wq.cell? ⟨wo.heap.size, 0, none⟩ = some (.int .i64 x) ∧ wq.cell? ⟨wo.heap.size, 1, none⟩ = some (.int .i64 y) ∧ wo.heap.size < wq.heap.size ∧ Below w4.heap.size w4 wq) (fun _ i _ => 12 - (intOf i).toNat)
      case atStart => exact ⟨0, Nat.zero_le _, rfl, by simpa using OWN2.out, NEQ.out, by simp, by simp, by simp, HB2.out⟩
      case round =>
        obtain ⟨j, hj, rfl, hown, hne, q0, q1, hlt3, hbw⟩ := hrel
        have OWN3 : Hid _ := hown
        have HB3 : Hid _ := hbw
        have NE3 : Hid _ := hne
        by_cases hjl : j < 12
        · have hjlI : (j : Int) < 12 := by omega
          have hjk := fun w => hixB j hjl w
          have hp := pad_get B j
          rw [hp.1, hp.2] at hjk
          have HMT : Hid (S ++ ((tw B).take (j + 1)).map (meetP (x, y)) = (S ++ ((tw B).take j).map (meetP (x, y))) ++ [meetP (x, y) (B.getD j (0, 0))]) := by
            show S ++ ((tw B).take (j + 1)).map (meetP (x, y)) = _
            rw [map_take _ _ j (by rw [TB.out]; exact hjl), tw_get B j hjl, List.append_assoc]
          have hsl : (S ++ ((tw B).take j).map (meetP (x, y))).length ≤ 156 := by simp; omega
          clear hp hixB hown hbw hne
          generalize B.getD j (0, 0) = q at *
          obtain ⟨c, d⟩ := q
          simp only at hjk
          generalize S ++ ((tw B).take j).map (meetP (x, y)) = S3 at *
          have hnn : ¬ wo.heap.size = wr.heap.size := by omega
          go_wp2_with fail
          refine (meet_any x y c d _).mono ?_
          rintro e w5 ⟨rfl, b5⟩
          have BA : Hid (Below wr.heap.size wr w5) := (AL wr _).trans (b5.mono (by simp))
          have B5 : Hid (Below w4.heap.size w4 w5) := HB3.out.trans (BA.out.mono HB3.out.size)
          have O5 : Hid _ := World.ownsRow.keepB OWN3.out BA.out
          have e0 : w5.cell? ⟨wo.heap.size, 0, none⟩ = some (.int .i64 x) := (BA.out.cell (p := ⟨wo.heap.size, 0, none⟩) hlt3).trans q0
          have e1 : w5.cell? ⟨wo.heap.size, 1, none⟩ = some (.int .i64 y) := (BA.out.cell (p := ⟨wo.heap.size, 1, none⟩) hlt3).trans q1
          have hlt5 : wo.heap.size < w5.heap.size := Nat.lt_of_lt_of_le hlt3 BA.out.size
          clear b5 q0 q1 hnn
          go_wp2_with (at_builtin; refine wpS _ rfl _ _ rfl w4.heap.size _ S3 rfl (World.ownsRow.keepB O5.out (AL _ _)) (some ⟨w5.heap.size, 0, none⟩) [(max x c, min y d)] 1 1 rfl rfl (spans_new w5 _ _ _ _ rfl) ?c1 ?c2 ?_)
          case c1 => omega
          case c2 => have := B5.out.size; simp; omega
          intro v6 w6 hown6 hgrow hob
          have B6 : Hid (Below w4.heap.size w4 w6) := Below.grown (B5.out.trans ((AL _ _).mono B5.out.size)) hgrow (Below.size (B5.out.trans ((AL _ _).mono B5.out.size))) (fun g hg => (World.ownsRow.lt OWN3.out g hg).1)
          have blk := hgrow.block wo.heap.size (by simp; omega) (fun e => NE3.out e.symm)
          have e0' : w6.cell? ⟨wo.heap.size, 0, none⟩ = some (.int .i64 x) := by
            rw [World.cell?_of_block (a := ⟨wo.heap.size, 0, none⟩) blk]
            exact ((AL w5 _).cell (p := ⟨wo.heap.size, 0, none⟩) hlt5).trans e0
          have e1' : w6.cell? ⟨wo.heap.size, 1, none⟩ = some (.int .i64 y) := by
            rw [World.cell?_of_block (a := ⟨wo.heap.size, 1, none⟩) blk]
            exact ((AL w5 _).cell (p := ⟨wo.heap.size, 1, none⟩) hlt5).trans e1
          have NE6 : Hid (¬ v6.ownBlock = some wo.heap.size) := fun e => by
            rcases hob with h | h
            · rw [h] at e; exact NE3.out e
            · rw [h] at e; have := Option.some.inj e; (try simp at this); omega
          have hlt6 : wo.heap.size < w6.heap.size := Nat.lt_of_lt_of_le (by simp; omega) hgrow.size
          have O6 : Hid _ := hown6
          clear hgrow hob blk hown6 e0 e1
          go_wp2
          go_roundw
          case rel => exact ⟨j + 1, by omega, by go_num, by rw [HMT.out]; exact O6.out, NE6.out, e0', e1', hlt6, B6.out⟩
          case measure => simp [intOf]; omega
        · have hj12 : j = 12 := by omega
          subst hj12
          have HTT : Hid ((tw B).take 12 = tw B) := List.take_of_length_le (by rw [TB.out]; exact Nat.le_refl _)
          clear hixB q0 q1
          go_wp2
          go_roundw
          case rel => exact ⟨k + 1, by omega, by go_num, by rw [HTK.out]; have := OWN3.out; rw [HTT.out] at this; exact this, HB3.out⟩
          case measure => simp [intOf]; omega
    · have hk12 : k = 12 := by omega
      subst hk12
      have HTT : Hid ((tw A).take 12 = tw A) := List.take_of_length_le (by rw [TA.out]; exact Nat.le_refl _)
      rw [HTT.out] at hown
      obtain ⟨ao3, cap3, rfl, sp3⟩ := spans_of_own hown
      have SP3 : Hid _ := sp3
      have HCL : Hid ((crossS (tw A) (tw B)).length = 144) := by show (crossS (tw A) (tw B)).length = 144; rw [crossS_len, TA.out, TB.out]
      clear hown sp3 hbw OWN hixA hixB
      go_wp2_with fail
      refine (joinSp' (crossS (tw A) (tw B)) (meetD A B) ao3 cap3 _ _ (by simp) (by rw [HCL.out]; omega) HSB.out HSG.out D1.out.can HMM.out SP3.out).mono ?_
      rintro e w9 ⟨hor, b9⟩
      have BW : Hid (Below w.heap.size w wo) := B4.out.trans (HB.out.mono B4.out.size)
      have B9 : Hid (Below w.heap.size w w9) := BW.out.trans (b9.mono BW.out.size)
      clear b9
      obtain ⟨h12, v9, rfl, o9⟩ | ⟨h12, rfl⟩ := hor
      · have O9 : Hid (w9.ownsRow w.heap.size 3 1 v9 (flS (meetD A B)).length (ints (flS (meetD A B)))) := own_mono o9 BW.out.size
        clear o9
        go_wp2
        go_ret2
        exact ⟨.inl ⟨h12, v9, rfl, O9.out⟩, B9.out⟩
      · go_wp2
        go_ret2
        exact ⟨.inr ⟨h12, rfl⟩, B9.out⟩
end Go.Proofs.Ytpkhmihkchiheaa

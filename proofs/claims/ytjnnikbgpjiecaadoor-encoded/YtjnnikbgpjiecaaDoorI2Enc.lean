/-
  Contract of impl.EncodeAll with the shifting code, and in every code.
-/
import Derived.Test.YtjnnikbgpjiecaaDoorI2EncA
namespace Go.Proofs.YtjnnikbgpjiecaaDoor
open Go.ChangeShapes Go.WideShapes Go.ChangeAt Go.RowKit
set_option maxRecDepth 100000 in
set_option maxHeartbeats 4000000 in
theorem ienc_5 (L : List Int) (ao : Option Addr) (cap : Nat) (w : World) (hl : L.length ≤ 1000) (hA : IntsAt w ao L) (hg : allG L = true) (R0 : EncR) (hR0 : encGo 5 L 0 0 ⟨#[]⟩ = R0) :
    Calls Tryd.prog 23 #[.int .i64 5, .slice ao L.length cap] w fun e w' => e = .returned (.tuple #[.string R0.s, .int .i64 R0.k, .bool R0.ok]) ∧ Below w.heap.size w w' := by
  obtain ⟨i0, hi, hz0, hz1, hz2⟩ := info_parts Tryd.info5
  have HA : Hid _ := hA
  have HG : Hid _ := hg
  have HAL : Hid _ := allG_true hg
  have h1000 : ¬ (1000 : Int) < (L.length : Int) := by omega
  have HF0 : Hid (R0 = encGo 5 (L.drop 0) 0 0 ⟨#[]⟩) := hR0.symm
  clear hA hg hR0
  go_enter Tryd.func23, Tryd.ntmps23
  go_wp2_with fail
  refine (codeOf_5 0 _).mono ?_
  rintro e w1 ⟨rfl, hw1⟩
  have s1 : ShAt w1 w.heap.size 0 := by
    rw [hw1]
    refine ⟨?_, ?_, by simp⟩
    · rw [cell_of_row _ _ _ _ _ _ (heap_alloc_new w _)]; rfl
    · unfold World.frozen?; simp only [heap_alloc_new w _]; simp
  have b1 : Below w.heap.size w w1 := by rw [hw1]; exact (Below.refl _ _).alloc (Nat.le_refl _) _
  have SH1 : Hid _ := s1
  have B1 : Hid _ := b1
  clear hw1 s1 b1
  go_wp2_with fail
  refine (iall_any L _ _ _ (by omega) (IntsAt.below HA.out B1.out)).mono ?_
  rintro e w2 ⟨rfl, rfl⟩
  rw [HG.out]
  have apn := ap5 w.heap.size
  go_wp2
  go_loopw [9, 33] (fun v iv wr => ∃ (k : Nat) (s : ByteArray) (sh : Int), k ≤ L.length ∧ iv = .int .i64 k ∧ s.size ≤ 4 * k ∧ (sh = 0 ∨ sh = 1) ∧ R0 = encGo 5 (L.drop k) k sh s ∧ ShAt wr w.heap.size sh ∧ wr.ownsRow (w.heap.size + 1) 5 1 v s.size (byteC s.data.toList) ∧ Below w.heap.size w wr) (fun _ i _ => L.length - (intOf i).toNat)
  case atStart => exact ⟨0, ⟨#[]⟩, 0, Nat.zero_le _, rfl, Nat.zero_le _, .inl rfl, HF0.out, SH1.out, World.ownsRow_nil _ _ _ _, B1.out⟩
  case round =>
    obtain ⟨k, s, sh, hk, rfl, hsz, hsh, hF, sat, hown, hbw⟩ := hrel
    have HE : Hid _ := hF
    have SAT : Hid _ := sat
    have HSH : Hid _ := hsh
    have hclt := sat.lt
    clear hF sat hsh
    by_cases hlt : k < L.length
    · have hltI : (k : Int) < (L.length : Int) := by omega
      obtain ⟨b1, o1, rfl, l1, h1⟩ := HA.out k hlt
      have g1 : wr.cell? ⟨b1, o1 + k, none⟩ = some (.int .i64 (L.getD k 0)) := (hbw.cell (p := ⟨b1, o1 + k, none⟩) l1).trans h1
      have HGR : Hid _ := goodB_true (HAL.out (L.getD k 0) (by simp [List.getD, hlt]))
      have HD : Hid _ := drop_getD L k hlt
      clear h1
      generalize L.getD k 0 = r at *
      have hps := putS_size 5 sh r
      have HR : Hid (R0 = if (putS 5 sh r).ok then encGo 5 (L.drop (k + 1)) (k + 1) (putS 5 sh r).sh (s ++ (putS 5 sh r).s) else ⟨⟨#[]⟩, k, true⟩) := by show _ = _; rw [HE.out, HD.out]; rfl
      have HSB : Hid ((putS 5 sh r).ok = true → (putS 5 sh r).sh = 0 ∨ (putS 5 sh r).sh = 1) := fun hok => by
        by_cases h32 : r < 32
        · rw [put5_low sh r h32]; exact HSH.out
        · by_cases h126 : r ≤ 126
          · rw [put5_mid sh r h32 h126 HSH.out]; exact .inl rfl
          · by_cases hk : 12352 ≤ r ∧ r ≤ 12446
            · rw [put5_high sh r hk.1 hk.2 HSH.out]; exact .inr rfl
            · rw [put5_no sh r h126 hk] at hok; cases hok
      have HWY : Hid (∀ W : World, ShAt W w.heap.size sh → (putS 5 sh r).ok = true → _) := fun W h hok => iwrite_5 w.heap.size sh r W HGR.out.1 hok HSH.out h
      have HWN : Hid (∀ W : World, (putS 5 sh r).ok = false → _) := fun W hok => iwrite_5no w.heap.size sh r W HGR.out.1 hok HSH.out
      generalize putS 5 sh r = R at *
      cases hok : R.ok
      · have hF : R0 = ⟨⟨#[]⟩, k, true⟩ := by rw [HR.out, hok]; rfl
        have HF2 : Hid _ := hF
        have HOK : Hid _ := hok
        clear hok hF
        go_wp2_with fail
        refine (HWN.out _ HOK.out).mono ?_
        rintro e w2 ⟨rfl, hw2⟩
        rw [hw2]
        go_wp2
        go_ret3
        exact ⟨by rw [HF2.out]; rfl, hbw⟩
      · have hF : R0 = encGo 5 (L.drop (k + 1)) (k + 1) R.sh (s ++ R.s) := by rw [HR.out, hok]; rfl
        have HF2 : Hid _ := hF
        have HOK : Hid _ := hok
        clear hok hF HR
        go_wp2_with fail
        refine (HWY.out _ SAT.out HOK.out).mono ?_
        rintro e w3 ⟨rfl, sat3, g3⟩
        have far : u9.ownBlock = none ∨ u9.ownBlock ≠ some w.heap.size := by
          cases hu : u9.ownBlock with
          | none => exact .inl rfl
          | some g => exact .inr (fun e => by have := Option.some.inj e; have := (hown.lt g hu).1; omega)
        have hown2 := hown.kept g3 far
        have hbw2 : Below w.heap.size w w3 := Below.grown hbw g3 (by omega) (fun g hg => by have := Option.some.inj hg; omega)
        have hlt3 := sat3.lt
        have SAT3 : Hid _ := sat3
        clear hown hbw g3 g1 far sat3 SAT
        go_wp2_with (at_builtin; refine Lib.wpList_append_own_string _ rfl _ _ 22 9 rfl (w.heap.size + 1) 5 i0 Tryd.underlying22 Tryd.underlying9 hi hz0 hz1 hz2 _ _ _ rfl hown2 R.s rfl ?c1 ?c2 ?c3 ?_)
        case c1 => unfold maxLen; omega
        case c2 => omega
        case c3 => omega
        intro v' w4 hown3 hgrow _
        have hb3 : Below w.heap.size w w4 := Below.grown hbw2 hgrow (by omega) (fun g hg => by have := (hown2.lt g hg).1; omega)
        have SAT4 : Hid (ShAt w4 w.heap.size R.sh) := ShAt.grown SAT3.out hgrow (fun e => by have := (hown2.lt w.heap.size e).1; omega)
        clear hgrow hown2 hbw2
        have hz' := ByteArray.size_append (a := s) (b := R.s)
        go_wp2
        go_roundw
        case rel =>
          refine ⟨k + 1, s ++ R.s, R.sh, by omega, by go_num, by omega, HSB.out HOK.out, HF2.out, SAT4.out, ?_, hb3⟩
          rw [hz', byteC_app]
          simpa [byteC, Lib.strCells] using hown3
        case measure => simp [intOf]; omega
    · obtain rfl : k = L.length := by omega
      have HFE : Hid (R0 = endR (s ++ turnS sh 0)) := by show _ = _; rw [HE.out, List.drop_length]; exact end_turn sh s HSH.out
      have hts := turnS_size sh 0
      have HTN : Hid (∀ W : World, ShAt W w.heap.size sh → _) := fun W h => turn_any w.heap.size sh 0 W h (.inl rfl)
      generalize turnS sh 0 = T at *
      go_wp2_with fail
      refine (HTN.out _ SAT.out).mono ?_
      rintro e w3 ⟨rfl, sat3, g3⟩
      have far : u9.ownBlock = none ∨ u9.ownBlock ≠ some w.heap.size := by
        cases hu : u9.ownBlock with
        | none => exact .inl rfl
        | some g => exact .inr (fun e => by have := Option.some.inj e; have := (hown.lt g hu).1; omega)
      have hown2 := hown.kept g3 far
      have hbw2 : Below w.heap.size w w3 := Below.grown hbw g3 (by omega) (fun g hg => by have := Option.some.inj hg; omega)
      have hlt3 := sat3.lt
      clear hown hbw g3 far sat3 SAT
      go_wp2_with (at_builtin; refine Lib.wpList_append_own_string _ rfl _ _ 22 9 rfl (w.heap.size + 1) 5 i0 Tryd.underlying22 Tryd.underlying9 hi hz0 hz1 hz2 _ _ _ rfl hown2 T rfl ?c1 ?c2 ?c3 ?_)
      case c1 => unfold maxLen; omega
      case c2 => omega
      case c3 => omega
      intro v' w4 hown3 hgrow _
      have hbe : Below w.heap.size w w4 := Below.grown hbw2 hgrow (by omega) (fun g hg => by have := (hown2.lt g hg).1; omega)
      clear hgrow hown2 hbw2
      have hz' := ByteArray.size_append (a := s) (b := T)
      have hown4 : w4.ownsRow (w.heap.size + 1) 5 1 v' (s ++ T).size (byteC (s ++ T).data.toList) := by
        rw [hz', byteC_app]
        simpa [byteC, Lib.strCells] using hown3
      clear hown3
      obtain ⟨t, hst⟩ : ∃ t, s ++ T = t := ⟨_, rfl⟩
      rw [hst] at hown4 HFE
      clear hst hz'
      obtain ⟨ao', cap', hv⟩ : ∃ ao' cap', v' = .slice ao' (t).size cap' := by
        rcases hown4.2 with ⟨h1, h2⟩ | ⟨g, c, cur, h1, _⟩
        · exact ⟨none, 0, by rw [h1, h2]⟩
        · exact ⟨_, _, h1⟩
      have hcv := conv_own hown4
      rw [show (⟨(t).data.toList.toArray⟩ : ByteArray) = t from rfl] at hcv
      subst hv
      by_cases ht : (t).size ≤ 1000
      · have hsz : ¬ (1000 : Int) < ((t).size : Int) := by omega
        have HF2 : Hid (R0 = ⟨t, -1, true⟩) := by show _ = _; rw [HFE.out, endR, if_pos ht]
        go_wp2
        go_ret3
        exact ⟨by rw [HF2.out]; rfl, hbe⟩
      · have hsz : (1000 : Int) < ((t).size : Int) := by omega
        have HF2 : Hid (R0 = ⟨⟨#[]⟩, 0, false⟩) := by show _ = _; rw [HFE.out, endR, if_neg ht]
        go_wp2
        go_ret3
        exact ⟨by rw [HF2.out]; rfl, hbe⟩
theorem ienc_any (en : Int) (L : List Int) (ao : Option Addr) (cap : Nat) (w : World) (hT : Tabs w) (hl : L.length ≤ 1048576) (hA : IntsAt w ao L) :
    Calls Tryd.prog 23 #[.int .i64 en, .slice ao L.length cap] w fun e w' => e = .returned (.tuple #[.string (encA en L).s, .int .i64 (encA en L).k, .bool (encA en L).ok]) ∧ Below w.heap.size w w' := by
  cases hc : codeB en
  · rw [show encA en L = ⟨⟨#[]⟩, 0, false⟩ from by simp [encA, hc]]
    exact ienc_bad en L ao cap w hc
  · have h := of_decide_eq_true (show decide (1 ≤ en ∧ en ≤ 5) = true from hc)
    by_cases hL : L.length ≤ 1000
    · cases hg : allG L
      · rw [show encA en L = ⟨⟨#[]⟩, 0, false⟩ from by simp [encA, hc, hg]]
        exact ienc_not en L ao cap w h (by omega) hA hg
      · rw [show encA en L = encGo en L 0 0 ⟨#[]⟩ from by simp [encA, hc, hg, hL]]
        rcases (by omega : en = 1 ∨ en = 2 ∨ en = 3 ∨ en = 4 ∨ en = 5) with rfl | rfl | rfl | rfl | rfl
        · exact ienc_1 L ao cap w hT hL hA hg _ rfl
        · exact ienc_2 L ao cap w hT hL hA hg _ rfl
        · exact ienc_3 L ao cap w hT hL hA hg _ rfl
        · exact ienc_4 L ao cap w hT hL hA hg _ rfl
        · exact ienc_5 L ao cap w hL hA hg _ rfl
    · rw [show encA en L = ⟨⟨#[]⟩, 0, false⟩ from by simp [encA, hL]]
      exact ienc_long en L ao cap w h (by omega)
end Go.Proofs.YtjnnikbgpjiecaaDoor

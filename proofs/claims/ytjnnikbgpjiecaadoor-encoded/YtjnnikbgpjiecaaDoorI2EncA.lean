/-
  Contract of impl.EncodeAll.
-/
import Derived.Test.YtjnnikbgpjiecaaDoorI2Wr
import Derived.Test.YtjnnikbgpjiecaaDoorI2Flush
namespace Go.Proofs.YtjnnikbgpjiecaaDoor
open Go.ChangeShapes Go.WideShapes Go.ChangeAt Go.RowKit
def endR (t : ByteArray) : EncR := if t.size ≤ 1000 then ⟨t, -1, true⟩ else ⟨⟨#[]⟩, 0, false⟩
theorem end_0 (s : ByteArray) : encEnd 0 s = endR s := rfl
theorem app_nil2 (s : ByteArray) : s ++ (⟨#[]⟩ : ByteArray) = s := by
  apply ByteArray.ext
  simp
theorem end_turn (sh : Int) (s : ByteArray) (h : sh = 0 ∨ sh = 1) : encEnd sh s = endR (s ++ turnS sh 0) := by
  rcases h with rfl | rfl
  · rw [show turnS 0 0 = ⟨#[]⟩ from by simp [turnS], app_nil2]; rfl
  · rw [show turnS 1 0 = strOfNums [15] from by simp [turnS]]; rfl
theorem byteC_app (a b : ByteArray) : byteC (a ++ b).data.toList = byteC a.data.toList ++ byteC b.data.toList := by rw [ByteArray.data_append, Array.toList_append]; simp [byteC]
theorem ap5 (C : Nat) (w : World) : (Instr.typeAssert (shV C) 66 74 false).run Tryd.prog w = .ok (.pointer (some ⟨C, 0, none⟩)) w := by kernel_rfl
set_option maxRecDepth 100000 in
set_option maxHeartbeats 1000000 in
theorem ienc_bad (en : Int) (L : List Int) (ao : Option Addr) (cap : Nat) (w : World) (hc : codeB en = false) :
    Calls Tryd.prog 23 #[.int .i64 en, .slice ao L.length cap] w fun e w' => e = .returned (.tuple #[.string ⟨#[]⟩, .int .i64 0, .bool false]) ∧ Below w.heap.size w w' := by
  have HC : Hid _ := hc
  clear hc
  go_enter Tryd.func23, Tryd.ntmps23
  go_wp2_with fail
  refine (codeOf_no en 0 _ HC.out).mono ?_
  rintro e w1 ⟨rfl, rfl⟩
  go_wp2
  go_ret3
  exact ⟨rfl, Below.refl _ _⟩
set_option maxRecDepth 100000 in
set_option maxHeartbeats 1000000 in
theorem ienc_long (en : Int) (L : List Int) (ao : Option Addr) (cap : Nat) (w : World) (hc : 1 ≤ en ∧ en ≤ 5) (hl : (1000 : Int) < L.length) :
    Calls Tryd.prog 23 #[.int .i64 en, .slice ao L.length cap] w fun e w' => e = .returned (.tuple #[.string ⟨#[]⟩, .int .i64 0, .bool false]) ∧ Below w.heap.size w w' := by
  have HC : Hid _ := hc
  clear hc
  go_enter Tryd.func23, Tryd.ntmps23
  go_wp2_with fail
  refine (code_bad en 0 _ HC.out).mono ?_
  rintro e w1 ⟨cv, rfl, -, b1⟩
  go_wp2
  go_ret3
  exact ⟨rfl, b1⟩
set_option maxRecDepth 100000 in
set_option maxHeartbeats 1000000 in
theorem ienc_not (en : Int) (L : List Int) (ao : Option Addr) (cap : Nat) (w : World) (hc : 1 ≤ en ∧ en ≤ 5) (hl : ¬ (1000 : Int) < L.length) (hA : IntsAt w ao L) (hg : allG L = false) :
    Calls Tryd.prog 23 #[.int .i64 en, .slice ao L.length cap] w fun e w' => e = .returned (.tuple #[.string ⟨#[]⟩, .int .i64 0, .bool false]) ∧ Below w.heap.size w w' := by
  have HC : Hid _ := hc
  have HA : Hid _ := hA
  have HG : Hid _ := hg
  have HL : Hid (L.length ≤ 1048576) := by show L.length ≤ 1048576; omega
  clear hc hA hg
  go_enter Tryd.func23, Tryd.ntmps23
  go_wp2_with fail
  refine (code_bad en 0 _ HC.out).mono ?_
  rintro e w1 ⟨cv, rfl, -, b1⟩
  go_wp2_with fail
  refine (iall_any L _ _ _ HL.out (IntsAt.below HA.out b1)).mono ?_
  rintro e w2 ⟨rfl, rfl⟩
  rw [HG.out]
  go_wp2
  go_ret3
  exact ⟨rfl, b1⟩
theorem put_sh (en r : Int) (h : en = 1 ∨ en = 2 ∨ en = 3 ∨ en = 4) : (putS en 0 r).sh = 0 := by
  rcases h with rfl | rfl | rfl | rfl
  · simp [putS]
  · by_cases h : r < 65536 <;> simp [putS, unitsB, h]
  · by_cases h : r < 65536 <;> simp [putS, unitsB, h]
  · simp [putS, unitsB]
theorem put_ok (en r : Int) (h : en = 1 ∨ en = 2 ∨ en = 3) : (putS en 0 r).ok = true := by
  rcases h with rfl | rfl | rfl
  · simp [putS]
  · by_cases h : r < 65536 <;> simp [putS, unitsB, h]
  · by_cases h : r < 65536 <;> simp [putS, unitsB, h]
set_option maxRecDepth 100000 in
set_option maxHeartbeats 2000000 in
theorem ienc_1 (L : List Int) (ao : Option Addr) (cap : Nat) (w : World) (hT : Tabs w) (hl : L.length ≤ 1000) (hA : IntsAt w ao L) (hg : allG L = true) (R0 : EncR) (hR0 : encGo 1 L 0 0 ⟨#[]⟩ = R0) :
    Calls Tryd.prog 23 #[.int .i64 1, .slice ao L.length cap] w fun e w' => e = .returned (.tuple #[.string R0.s, .int .i64 R0.k, .bool R0.ok]) ∧ Below w.heap.size w w' := by
  obtain ⟨i0, hi, hz0, hz1, hz2⟩ := info_parts Tryd.info5
  have HA : Hid _ := hA
  have HT : Hid _ := hT
  have HG : Hid _ := hg
  have HAL : Hid _ := allG_true hg
  have h1000 : ¬ (1000 : Int) < (L.length : Int) := by omega
  have HF0 : Hid (R0 = encGo 1 (L.drop 0) 0 0 ⟨#[]⟩) := hR0.symm
  clear hA hT hg hR0
  go_enter Tryd.func23, Tryd.ntmps23
  go_wp2_with fail
  refine (codeOf_1 0 _).mono ?_
  rintro e w1 ⟨rfl, rfl⟩
  go_wp2_with fail
  refine (iall_any L _ _ _ (by omega) HA.out).mono ?_
  rintro e w2 ⟨rfl, rfl⟩
  rw [HG.out]
  go_wp2
  go_loopw [9, 33] (fun v iv wr => ∃ (k : Nat) (s : ByteArray), k ≤ L.length ∧ iv = .int .i64 k ∧ s.size ≤ 4 * k ∧ R0 = encGo 1 (L.drop k) k 0 s ∧ wr.ownsRow w2.heap.size 5 1 v s.size (byteC s.data.toList) ∧ Below w2.heap.size w2 wr) (fun _ i _ => L.length - (intOf i).toNat)
  case atStart => exact ⟨0, ⟨#[]⟩, Nat.zero_le _, rfl, Nat.zero_le _, HF0.out, World.ownsRow_nil _ _ _ _, Below.refl _ _⟩
  case round =>
    obtain ⟨k, s, hk, rfl, hsz, hF, hown, hbw⟩ := hrel
    have HE : Hid _ := hF
    clear hF
    by_cases hlt : k < L.length
    · have hltI : (k : Int) < (L.length : Int) := by omega
      obtain ⟨b1, o1, rfl, l1, h1⟩ := HA.out k hlt
      have g1 : wr.cell? ⟨b1, o1 + k, none⟩ = some (.int .i64 (L.getD k 0)) := (hbw.cell (p := ⟨b1, o1 + k, none⟩) l1).trans h1
      have HGD : Hid (goodB (L.getD k 0) = true) := HAL.out (L.getD k 0) (by simp [List.getD, hlt])
      have HGR : Hid _ := goodB_true HGD.out
      have HD : Hid _ := drop_getD L k hlt
      clear h1
      generalize L.getD k 0 = r at *
      have hps := putS_size 1 0 r
      have HR : Hid (R0 = if (putS 1 0 r).ok then encGo 1 (L.drop (k + 1)) (k + 1) (putS 1 0 r).sh (s ++ (putS 1 0 r).s) else ⟨⟨#[]⟩, k, true⟩) := by show _ = _; rw [HE.out, HD.out]; rfl
      have HSH : Hid ((putS 1 0 r).sh = 0) := put_sh 1 r (by omega)
      generalize hPR : putS 1 0 r = R at *
      cases hok : R.ok
      · exfalso
        have h : (putS 1 0 r).ok = true := put_ok 1 r (by omega)
        rw [hPR, hok] at h
        cases h
      · have hF : R0 = encGo 1 (L.drop (k + 1)) (k + 1) 0 (s ++ R.s) := by rw [HR.out, hok, HSH.out]; rfl
        have HF2 : Hid _ := hF
        have HW : Hid (∀ w : World, Tabs w → Calls Tryd.prog 112 #[.agg #[], .int .i64 r] w fun e w' => e = .returned (.tuple #[.string R.s, .bool true]) ∧ Below w.heap.size w w') := fun w hT => by
          rw [← hPR]; exact iwrite_1 r w HGD.out hT
        clear hok hF hPR HR HSH
        go_wp2_with fail
        refine (HW.out _ (HT.out.below hbw)).mono ?_
        rintro e w3 ⟨rfl, b3⟩
        have hown2 := ownsRow_below hown b3
        have hbw2 := hbw.trans (b3.mono hbw.size)
        clear hown hbw b3 g1
        go_wp2_with (at_builtin; refine Lib.wpList_append_own_string _ rfl _ _ 22 9 rfl w2.heap.size 5 i0 Tryd.underlying22 Tryd.underlying9 hi hz0 hz1 hz2 _ _ _ rfl hown2 R.s rfl ?c1 ?c2 ?c3 ?_)
        case c1 => unfold maxLen; omega
        case c2 => omega
        case c3 => exact hbw2.size
        intro v' w4 hown3 hgrow _
        have hb3 : Below w2.heap.size w2 w4 := Below.grown hbw2 hgrow hbw2.size (fun g hg => (hown2.lt g hg).1)
        clear hgrow hown2 hbw2
        have hz' := ByteArray.size_append (a := s) (b := R.s)
        go_wp2
        go_roundw
        case rel =>
          refine ⟨k + 1, s ++ R.s, by omega, by go_num, by omega, HF2.out, ?_, hb3⟩
          rw [hz', byteC_app]
          simpa [byteC, Lib.strCells] using hown3
        case measure => simp [intOf]; omega
    · obtain rfl : k = L.length := by omega
      have HFE : Hid (R0 = endR s) := by show _ = _; rw [HE.out, List.drop_length]; rfl
      have hbe := hbw
      obtain ⟨ao', cap', hv⟩ : ∃ ao' cap', u9 = .slice ao' (s).size cap' := by
        rcases hown.2 with ⟨h1, h2⟩ | ⟨g, c, cur, h1, _⟩
        · exact ⟨none, 0, by rw [h1, h2]⟩
        · exact ⟨_, _, h1⟩
      have hcv := conv_own hown
      rw [show (⟨(s).data.toList.toArray⟩ : ByteArray) = s from rfl] at hcv
      subst hv
      by_cases ht : (s).size ≤ 1000
      · have hsz : ¬ (1000 : Int) < ((s).size : Int) := by omega
        have HF2 : Hid (R0 = ⟨s, -1, true⟩) := by show _ = _; rw [HFE.out, endR, if_pos ht]
        go_wp2
        go_ret3
        exact ⟨by rw [HF2.out]; rfl, hbe⟩
      · have hsz : (1000 : Int) < ((s).size : Int) := by omega
        have HF2 : Hid (R0 = ⟨⟨#[]⟩, 0, false⟩) := by show _ = _; rw [HFE.out, endR, if_neg ht]
        go_wp2
        go_ret3
        exact ⟨by rw [HF2.out]; rfl, hbe⟩
set_option maxRecDepth 100000 in
set_option maxHeartbeats 2000000 in
theorem ienc_2 (L : List Int) (ao : Option Addr) (cap : Nat) (w : World) (hT : Tabs w) (hl : L.length ≤ 1000) (hA : IntsAt w ao L) (hg : allG L = true) (R0 : EncR) (hR0 : encGo 2 L 0 0 ⟨#[]⟩ = R0) :
    Calls Tryd.prog 23 #[.int .i64 2, .slice ao L.length cap] w fun e w' => e = .returned (.tuple #[.string R0.s, .int .i64 R0.k, .bool R0.ok]) ∧ Below w.heap.size w w' := by
  obtain ⟨i0, hi, hz0, hz1, hz2⟩ := info_parts Tryd.info5
  have HA : Hid _ := hA
  have HT : Hid _ := hT
  have HG : Hid _ := hg
  have HAL : Hid _ := allG_true hg
  have h1000 : ¬ (1000 : Int) < (L.length : Int) := by omega
  have HF0 : Hid (R0 = encGo 2 (L.drop 0) 0 0 ⟨#[]⟩) := hR0.symm
  clear hA hT hg hR0
  go_enter Tryd.func23, Tryd.ntmps23
  go_wp2_with fail
  refine (codeOf_2 0 _).mono ?_
  rintro e w1 ⟨rfl, rfl⟩
  go_wp2_with fail
  refine (iall_any L _ _ _ (by omega) HA.out).mono ?_
  rintro e w2 ⟨rfl, rfl⟩
  rw [HG.out]
  go_wp2
  go_loopw [9, 33] (fun v iv wr => ∃ (k : Nat) (s : ByteArray), k ≤ L.length ∧ iv = .int .i64 k ∧ s.size ≤ 4 * k ∧ R0 = encGo 2 (L.drop k) k 0 s ∧ wr.ownsRow w2.heap.size 5 1 v s.size (byteC s.data.toList) ∧ Below w2.heap.size w2 wr) (fun _ i _ => L.length - (intOf i).toNat)
  case atStart => exact ⟨0, ⟨#[]⟩, Nat.zero_le _, rfl, Nat.zero_le _, HF0.out, World.ownsRow_nil _ _ _ _, Below.refl _ _⟩
  case round =>
    obtain ⟨k, s, hk, rfl, hsz, hF, hown, hbw⟩ := hrel
    have HE : Hid _ := hF
    clear hF
    by_cases hlt : k < L.length
    · have hltI : (k : Int) < (L.length : Int) := by omega
      obtain ⟨b1, o1, rfl, l1, h1⟩ := HA.out k hlt
      have g1 : wr.cell? ⟨b1, o1 + k, none⟩ = some (.int .i64 (L.getD k 0)) := (hbw.cell (p := ⟨b1, o1 + k, none⟩) l1).trans h1
      have HGD : Hid (goodB (L.getD k 0) = true) := HAL.out (L.getD k 0) (by simp [List.getD, hlt])
      have HGR : Hid _ := goodB_true HGD.out
      have HD : Hid _ := drop_getD L k hlt
      clear h1
      generalize L.getD k 0 = r at *
      have hps := putS_size 2 0 r
      have HR : Hid (R0 = if (putS 2 0 r).ok then encGo 2 (L.drop (k + 1)) (k + 1) (putS 2 0 r).sh (s ++ (putS 2 0 r).s) else ⟨⟨#[]⟩, k, true⟩) := by show _ = _; rw [HE.out, HD.out]; rfl
      have HSH : Hid ((putS 2 0 r).sh = 0) := put_sh 2 r (by omega)
      generalize hPR : putS 2 0 r = R at *
      cases hok : R.ok
      · exfalso
        have h : (putS 2 0 r).ok = true := put_ok 2 r (by omega)
        rw [hPR, hok] at h
        cases h
      · have hF : R0 = encGo 2 (L.drop (k + 1)) (k + 1) 0 (s ++ R.s) := by rw [HR.out, hok, HSH.out]; rfl
        have HF2 : Hid _ := hF
        have HW : Hid (∀ w : World, Tabs w → Calls Tryd.prog 118 #[.agg #[], .int .i64 r] w fun e w' => e = .returned (.tuple #[.string R.s, .bool true]) ∧ Below w.heap.size w w') := fun w hT => by
          rw [← hPR]; exact iwrite_2 r w HGR.out.1 HGR.out.2.1
        clear hok hF hPR HR HSH
        go_wp2_with fail
        refine (HW.out _ (HT.out.below hbw)).mono ?_
        rintro e w3 ⟨rfl, b3⟩
        have hown2 := ownsRow_below hown b3
        have hbw2 := hbw.trans (b3.mono hbw.size)
        clear hown hbw b3 g1
        go_wp2_with (at_builtin; refine Lib.wpList_append_own_string _ rfl _ _ 22 9 rfl w2.heap.size 5 i0 Tryd.underlying22 Tryd.underlying9 hi hz0 hz1 hz2 _ _ _ rfl hown2 R.s rfl ?c1 ?c2 ?c3 ?_)
        case c1 => unfold maxLen; omega
        case c2 => omega
        case c3 => exact hbw2.size
        intro v' w4 hown3 hgrow _
        have hb3 : Below w2.heap.size w2 w4 := Below.grown hbw2 hgrow hbw2.size (fun g hg => (hown2.lt g hg).1)
        clear hgrow hown2 hbw2
        have hz' := ByteArray.size_append (a := s) (b := R.s)
        go_wp2
        go_roundw
        case rel =>
          refine ⟨k + 1, s ++ R.s, by omega, by go_num, by omega, HF2.out, ?_, hb3⟩
          rw [hz', byteC_app]
          simpa [byteC, Lib.strCells] using hown3
        case measure => simp [intOf]; omega
    · obtain rfl : k = L.length := by omega
      have HFE : Hid (R0 = endR s) := by show _ = _; rw [HE.out, List.drop_length]; rfl
      have hbe := hbw
      obtain ⟨ao', cap', hv⟩ : ∃ ao' cap', u9 = .slice ao' (s).size cap' := by
        rcases hown.2 with ⟨h1, h2⟩ | ⟨g, c, cur, h1, _⟩
        · exact ⟨none, 0, by rw [h1, h2]⟩
        · exact ⟨_, _, h1⟩
      have hcv := conv_own hown
      rw [show (⟨(s).data.toList.toArray⟩ : ByteArray) = s from rfl] at hcv
      subst hv
      by_cases ht : (s).size ≤ 1000
      · have hsz : ¬ (1000 : Int) < ((s).size : Int) := by omega
        have HF2 : Hid (R0 = ⟨s, -1, true⟩) := by show _ = _; rw [HFE.out, endR, if_pos ht]
        go_wp2
        go_ret3
        exact ⟨by rw [HF2.out]; rfl, hbe⟩
      · have hsz : (1000 : Int) < ((s).size : Int) := by omega
        have HF2 : Hid (R0 = ⟨⟨#[]⟩, 0, false⟩) := by show _ = _; rw [HFE.out, endR, if_neg ht]
        go_wp2
        go_ret3
        exact ⟨by rw [HF2.out]; rfl, hbe⟩
set_option maxRecDepth 100000 in
set_option maxHeartbeats 2000000 in
theorem ienc_3 (L : List Int) (ao : Option Addr) (cap : Nat) (w : World) (hT : Tabs w) (hl : L.length ≤ 1000) (hA : IntsAt w ao L) (hg : allG L = true) (R0 : EncR) (hR0 : encGo 3 L 0 0 ⟨#[]⟩ = R0) :
    Calls Tryd.prog 23 #[.int .i64 3, .slice ao L.length cap] w fun e w' => e = .returned (.tuple #[.string R0.s, .int .i64 R0.k, .bool R0.ok]) ∧ Below w.heap.size w w' := by
  obtain ⟨i0, hi, hz0, hz1, hz2⟩ := info_parts Tryd.info5
  have HA : Hid _ := hA
  have HT : Hid _ := hT
  have HG : Hid _ := hg
  have HAL : Hid _ := allG_true hg
  have h1000 : ¬ (1000 : Int) < (L.length : Int) := by omega
  have HF0 : Hid (R0 = encGo 3 (L.drop 0) 0 0 ⟨#[]⟩) := hR0.symm
  clear hA hT hg hR0
  go_enter Tryd.func23, Tryd.ntmps23
  go_wp2_with fail
  refine (codeOf_3 0 _).mono ?_
  rintro e w1 ⟨rfl, rfl⟩
  go_wp2_with fail
  refine (iall_any L _ _ _ (by omega) HA.out).mono ?_
  rintro e w2 ⟨rfl, rfl⟩
  rw [HG.out]
  go_wp2
  go_loopw [9, 33] (fun v iv wr => ∃ (k : Nat) (s : ByteArray), k ≤ L.length ∧ iv = .int .i64 k ∧ s.size ≤ 4 * k ∧ R0 = encGo 3 (L.drop k) k 0 s ∧ wr.ownsRow w2.heap.size 5 1 v s.size (byteC s.data.toList) ∧ Below w2.heap.size w2 wr) (fun _ i _ => L.length - (intOf i).toNat)
  case atStart => exact ⟨0, ⟨#[]⟩, Nat.zero_le _, rfl, Nat.zero_le _, HF0.out, World.ownsRow_nil _ _ _ _, Below.refl _ _⟩
  case round =>
    obtain ⟨k, s, hk, rfl, hsz, hF, hown, hbw⟩ := hrel
    have HE : Hid _ := hF
    clear hF
    by_cases hlt : k < L.length
    · have hltI : (k : Int) < (L.length : Int) := by omega
      obtain ⟨b1, o1, rfl, l1, h1⟩ := HA.out k hlt
      have g1 : wr.cell? ⟨b1, o1 + k, none⟩ = some (.int .i64 (L.getD k 0)) := (hbw.cell (p := ⟨b1, o1 + k, none⟩) l1).trans h1
      have HGD : Hid (goodB (L.getD k 0) = true) := HAL.out (L.getD k 0) (by simp [List.getD, hlt])
      have HGR : Hid _ := goodB_true HGD.out
      have HD : Hid _ := drop_getD L k hlt
      clear h1
      generalize L.getD k 0 = r at *
      have hps := putS_size 3 0 r
      have HR : Hid (R0 = if (putS 3 0 r).ok then encGo 3 (L.drop (k + 1)) (k + 1) (putS 3 0 r).sh (s ++ (putS 3 0 r).s) else ⟨⟨#[]⟩, k, true⟩) := by show _ = _; rw [HE.out, HD.out]; rfl
      have HSH : Hid ((putS 3 0 r).sh = 0) := put_sh 3 r (by omega)
      generalize hPR : putS 3 0 r = R at *
      cases hok : R.ok
      · exfalso
        have h : (putS 3 0 r).ok = true := put_ok 3 r (by omega)
        rw [hPR, hok] at h
        cases h
      · have hF : R0 = encGo 3 (L.drop (k + 1)) (k + 1) 0 (s ++ R.s) := by rw [HR.out, hok, HSH.out]; rfl
        have HF2 : Hid _ := hF
        have HW : Hid (∀ w : World, Tabs w → Calls Tryd.prog 125 #[.agg #[], .int .i64 r] w fun e w' => e = .returned (.tuple #[.string R.s, .bool true]) ∧ Below w.heap.size w w') := fun w hT => by
          rw [← hPR]; exact iwrite_3 r w HGR.out.1 HGR.out.2.1
        clear hok hF hPR HR HSH
        go_wp2_with fail
        refine (HW.out _ (HT.out.below hbw)).mono ?_
        rintro e w3 ⟨rfl, b3⟩
        have hown2 := ownsRow_below hown b3
        have hbw2 := hbw.trans (b3.mono hbw.size)
        clear hown hbw b3 g1
        go_wp2_with (at_builtin; refine Lib.wpList_append_own_string _ rfl _ _ 22 9 rfl w2.heap.size 5 i0 Tryd.underlying22 Tryd.underlying9 hi hz0 hz1 hz2 _ _ _ rfl hown2 R.s rfl ?c1 ?c2 ?c3 ?_)
        case c1 => unfold maxLen; omega
        case c2 => omega
        case c3 => exact hbw2.size
        intro v' w4 hown3 hgrow _
        have hb3 : Below w2.heap.size w2 w4 := Below.grown hbw2 hgrow hbw2.size (fun g hg => (hown2.lt g hg).1)
        clear hgrow hown2 hbw2
        have hz' := ByteArray.size_append (a := s) (b := R.s)
        go_wp2
        go_roundw
        case rel =>
          refine ⟨k + 1, s ++ R.s, by omega, by go_num, by omega, HF2.out, ?_, hb3⟩
          rw [hz', byteC_app]
          simpa [byteC, Lib.strCells] using hown3
        case measure => simp [intOf]; omega
    · obtain rfl : k = L.length := by omega
      have HFE : Hid (R0 = endR s) := by show _ = _; rw [HE.out, List.drop_length]; rfl
      have hbe := hbw
      obtain ⟨ao', cap', hv⟩ : ∃ ao' cap', u9 = .slice ao' (s).size cap' := by
        rcases hown.2 with ⟨h1, h2⟩ | ⟨g, c, cur, h1, _⟩
        · exact ⟨none, 0, by rw [h1, h2]⟩
        · exact ⟨_, _, h1⟩
      have hcv := conv_own hown
      rw [show (⟨(s).data.toList.toArray⟩ : ByteArray) = s from rfl] at hcv
      subst hv
      by_cases ht : (s).size ≤ 1000
      · have hsz : ¬ (1000 : Int) < ((s).size : Int) := by omega
        have HF2 : Hid (R0 = ⟨s, -1, true⟩) := by show _ = _; rw [HFE.out, endR, if_pos ht]
        go_wp2
        go_ret3
        exact ⟨by rw [HF2.out]; rfl, hbe⟩
      · have hsz : (1000 : Int) < ((s).size : Int) := by omega
        have HF2 : Hid (R0 = ⟨⟨#[]⟩, 0, false⟩) := by show _ = _; rw [HFE.out, endR, if_neg ht]
        go_wp2
        go_ret3
        exact ⟨by rw [HF2.out]; rfl, hbe⟩
set_option maxRecDepth 100000 in
set_option maxHeartbeats 2000000 in
theorem ienc_4 (L : List Int) (ao : Option Addr) (cap : Nat) (w : World) (hT : Tabs w) (hl : L.length ≤ 1000) (hA : IntsAt w ao L) (hg : allG L = true) (R0 : EncR) (hR0 : encGo 4 L 0 0 ⟨#[]⟩ = R0) :
    Calls Tryd.prog 23 #[.int .i64 4, .slice ao L.length cap] w fun e w' => e = .returned (.tuple #[.string R0.s, .int .i64 R0.k, .bool R0.ok]) ∧ Below w.heap.size w w' := by
  obtain ⟨i0, hi, hz0, hz1, hz2⟩ := info_parts Tryd.info5
  have HA : Hid _ := hA
  have HT : Hid _ := hT
  have HG : Hid _ := hg
  have HAL : Hid _ := allG_true hg
  have h1000 : ¬ (1000 : Int) < (L.length : Int) := by omega
  have HF0 : Hid (R0 = encGo 4 (L.drop 0) 0 0 ⟨#[]⟩) := hR0.symm
  clear hA hT hg hR0
  go_enter Tryd.func23, Tryd.ntmps23
  go_wp2_with fail
  refine (codeOf_4 0 _).mono ?_
  rintro e w1 ⟨rfl, rfl⟩
  go_wp2_with fail
  refine (iall_any L _ _ _ (by omega) HA.out).mono ?_
  rintro e w2 ⟨rfl, rfl⟩
  rw [HG.out]
  go_wp2
  go_loopw [9, 33] (fun v iv wr => ∃ (k : Nat) (s : ByteArray), k ≤ L.length ∧ iv = .int .i64 k ∧ s.size ≤ 4 * k ∧ R0 = encGo 4 (L.drop k) k 0 s ∧ wr.ownsRow w2.heap.size 5 1 v s.size (byteC s.data.toList) ∧ Below w2.heap.size w2 wr) (fun _ i _ => L.length - (intOf i).toNat)
  case atStart => exact ⟨0, ⟨#[]⟩, Nat.zero_le _, rfl, Nat.zero_le _, HF0.out, World.ownsRow_nil _ _ _ _, Below.refl _ _⟩
  case round =>
    obtain ⟨k, s, hk, rfl, hsz, hF, hown, hbw⟩ := hrel
    have HE : Hid _ := hF
    clear hF
    by_cases hlt : k < L.length
    · have hltI : (k : Int) < (L.length : Int) := by omega
      obtain ⟨b1, o1, rfl, l1, h1⟩ := HA.out k hlt
      have g1 : wr.cell? ⟨b1, o1 + k, none⟩ = some (.int .i64 (L.getD k 0)) := (hbw.cell (p := ⟨b1, o1 + k, none⟩) l1).trans h1
      have HGD : Hid (goodB (L.getD k 0) = true) := HAL.out (L.getD k 0) (by simp [List.getD, hlt])
      have HGR : Hid _ := goodB_true HGD.out
      have HD : Hid _ := drop_getD L k hlt
      clear h1
      generalize L.getD k 0 = r at *
      have hps := putS_size 4 0 r
      have HR : Hid (R0 = if (putS 4 0 r).ok then encGo 4 (L.drop (k + 1)) (k + 1) (putS 4 0 r).sh (s ++ (putS 4 0 r).s) else ⟨⟨#[]⟩, k, true⟩) := by show _ = _; rw [HE.out, HD.out]; rfl
      have HSH : Hid ((putS 4 0 r).sh = 0) := put_sh 4 r (by omega)
      generalize hPR : putS 4 0 r = R at *
      cases hok : R.ok
      · have hF : R0 = ⟨⟨#[]⟩, k, true⟩ := by rw [HR.out, hok]; rfl
        have HF2 : Hid _ := hF
        have HLT : Hid (¬ r < 256) := by
          have h : (putS 4 0 r).ok = false := by rw [hPR]; exact hok
          rw [show (putS 4 0 r).ok = decide (r < 256) from by simp [putS, unitsB]] at h
          exact of_decide_eq_false h
        clear hok hF
        go_wp2_with fail
        refine (iwrite_4no r _ (by have := HLT.out; omega)).mono ?_
        rintro e w2 ⟨rfl, b2⟩
        go_wp2
        go_ret3
        exact ⟨by rw [HF2.out]; rfl, hbw.trans (b2.mono hbw.size)⟩
      · have hF : R0 = encGo 4 (L.drop (k + 1)) (k + 1) 0 (s ++ R.s) := by rw [HR.out, hok, HSH.out]; rfl
        have HF2 : Hid _ := hF
        have HLT : Hid (r < 256) := by
          have h : (putS 4 0 r).ok = true := by rw [hPR]; exact hok
          rw [show (putS 4 0 r).ok = decide (r < 256) from by simp [putS, unitsB]] at h
          have h2 := of_decide_eq_true h
          exact h2
        have HW : Hid (∀ w : World, Tabs w → Calls Tryd.prog 127 #[.agg #[], .int .i64 r] w fun e w' => e = .returned (.tuple #[.string R.s, .bool true]) ∧ Below w.heap.size w w') := fun w hT => by
          rw [← hPR]; exact iwrite_4 r w HGR.out.1 HLT.out
        clear hok hF hPR HR HSH
        go_wp2_with fail
        refine (HW.out _ (HT.out.below hbw)).mono ?_
        rintro e w3 ⟨rfl, b3⟩
        have hown2 := ownsRow_below hown b3
        have hbw2 := hbw.trans (b3.mono hbw.size)
        clear hown hbw b3 g1
        go_wp2_with (at_builtin; refine Lib.wpList_append_own_string _ rfl _ _ 22 9 rfl w2.heap.size 5 i0 Tryd.underlying22 Tryd.underlying9 hi hz0 hz1 hz2 _ _ _ rfl hown2 R.s rfl ?c1 ?c2 ?c3 ?_)
        case c1 => unfold maxLen; omega
        case c2 => omega
        case c3 => exact hbw2.size
        intro v' w4 hown3 hgrow _
        have hb3 : Below w2.heap.size w2 w4 := Below.grown hbw2 hgrow hbw2.size (fun g hg => (hown2.lt g hg).1)
        clear hgrow hown2 hbw2
        have hz' := ByteArray.size_append (a := s) (b := R.s)
        go_wp2
        go_roundw
        case rel =>
          refine ⟨k + 1, s ++ R.s, by omega, by go_num, by omega, HF2.out, ?_, hb3⟩
          rw [hz', byteC_app]
          simpa [byteC, Lib.strCells] using hown3
        case measure => simp [intOf]; omega
    · obtain rfl : k = L.length := by omega
      have HFE : Hid (R0 = endR s) := by show _ = _; rw [HE.out, List.drop_length]; rfl
      have hbe := hbw
      obtain ⟨ao', cap', hv⟩ : ∃ ao' cap', u9 = .slice ao' (s).size cap' := by
        rcases hown.2 with ⟨h1, h2⟩ | ⟨g, c, cur, h1, _⟩
        · exact ⟨none, 0, by rw [h1, h2]⟩
        · exact ⟨_, _, h1⟩
      have hcv := conv_own hown
      rw [show (⟨(s).data.toList.toArray⟩ : ByteArray) = s from rfl] at hcv
      subst hv
      by_cases ht : (s).size ≤ 1000
      · have hsz : ¬ (1000 : Int) < ((s).size : Int) := by omega
        have HF2 : Hid (R0 = ⟨s, -1, true⟩) := by show _ = _; rw [HFE.out, endR, if_pos ht]
        go_wp2
        go_ret3
        exact ⟨by rw [HF2.out]; rfl, hbe⟩
      · have hsz : (1000 : Int) < ((s).size : Int) := by omega
        have HF2 : Hid (R0 = ⟨⟨#[]⟩, 0, false⟩) := by show _ = _; rw [HFE.out, endR, if_neg ht]
        go_wp2
        go_ret3
        exact ⟨by rw [HF2.out]; rfl, hbe⟩
end Go.Proofs.YtjnnikbgpjiecaaDoor

/-
  For every two lists of bytes, laws.FnEncoded returns true: what a drawn list of numbers is written as in a drawn code is read from it again, or the first one that cannot be written is told; and DecodeAll, GuessCode and NewDecoder answer at drawn arguments as the specification's. Condition: the two package-level tables of forms hold what the program's text lays in them (tied to the text by the given card).
-/
import Derived.Test.YtjnnikbgpjiecaaDoorFrame
import Derived.Test.YtjnnikbgpjiecaaDoorD2Dr2
import Derived.Test.YtjnnikbgpjiecaaDoorI2Guess
import Derived.ChangeOld
namespace Go.Proofs.YtjnnikbgpjiecaaDoor
open Go.ChangeShapes Go.WideShapes Go.ChangeAt Go.WideMaps Go.WideElems Go.RowKit
namespace LawEncoded
theorem slice_ints (a : Option Addr) (n c k : Nat) (K : Int) (hK : K = k) (h : k ≤ n) (hc : n ≤ c) (hz : a = none → c = 0) (w : World) : (Instr.slice 28 (.slice a n c) none (some (.int .i64 K)) none).run Tryd.prog w = .ok (.slice a k c) w := by
  subst hK
  have h1 : (k : Int) ≤ c := by omega
  have h2 : k ≤ c := by omega
  cases a with
  | none =>
    have h3 := hz rfl
    subst h3
    obtain rfl : k = 0 := by omega
    go_simp
  | some a => go_simp
theorem ints_take {w : World} {ao : Option Addr} {L : List Int} (h : IntsAt w ao L) (k : Nat) : IntsAt w ao (L.take k) := fun j hj => by
  rw [List.length_take] at hj
  obtain ⟨b, off, h1, h2, h3⟩ := h j (by omega)
  refine ⟨b, off, h1, h2, ?_⟩
  rw [h3]
  simp [List.getD, show j < k by omega]
theorem own_cap {w : World} {base : Nat} {a : Option Addr} {n c : Nat} {xs : List Value} (h : w.ownsRow base 3 1 (.slice a n c) n xs) : n ≤ c ∧ (a = none → c = 0) := by
  rcases h.2 with ⟨h1, h2⟩ | ⟨g, cap, cur, h1, _, _, h4⟩
  · simp only [Value.slice.injEq] at h1
    obtain ⟨rfl, h5, h6⟩ := h1
    exact ⟨by omega, fun _ => h6⟩
  · simp only [Value.slice.injEq] at h1
    obtain ⟨rfl, _, rfl⟩ := h1
    exact ⟨h4.1, fun e => by cases e⟩
set_option maxRecDepth 100000 in
set_option maxHeartbeats 8000000 in
theorem walk_in (a0 : Option Addr) (n0 c0 : Nat) (a1 : Option Addr) (n1 c1 : Nat) (w : World) (hA : ArgB w a0 n0) (hM : ArgB w a1 n1) (hT : Tabs w) (hn0 : (n0 : Int) ≤ 1048576) (hn1 : (n1 : Int) ≤ 1048576 - n0) :
    Calls Tryd.prog 4 #[.slice a0 n0 c0, .slice a1 n1 c1] w fun e w' => e = .returned (.bool true) ∧ Below w.heap.size w w' := by
  have HT : Hid _ := hT
  have HA : Hid _ := hA
  have HM : Hid _ := hM
  have hn0' : ¬ (1048576 : Int) < (n0 : Int) := by omega
  have hn1' : ¬ (1048576 : Int) - n0 < (n1 : Int) := by omega
  clear hT hA hM
  go_enter Tryd.func4, Tryd.ntmps4
  go_wp2_with (first | (go_at_call 10; go_in) | fail)
  refine (denc_any a0 n0 c0 _ HA.out).mono ?_
  rintro e w1 ⟨en, v, L, rfl, hL, own1, b1⟩
  obtain ⟨_, la, lc, rfl, hI⟩ := ints_of_own own1
  have hcap := own_cap own1
  have B1 : Hid _ := b1
  have I1 : Hid _ := hI
  clear b1 hI own1 HA
  go_wp2_with fail
  refine (ienc_any en L la lc _ (Tabs.below HT.out B1.out) (by omega) I1.out).mono ?_
  rintro e w2 ⟨rfl, b2⟩
  have B2 : Hid (Below w.heap.size w w2) := Below.trans B1.out (b2.mono (Below.size B1.out))
  have I2 : Hid _ := IntsAt.below I1.out b2
  clear b2 I1
  go_wp2_with fail
  refine (enc_any en L la lc _ (by omega) I2.out).mono ?_
  rintro e w3 ⟨rfl, b3⟩
  have B3 : Hid (Below w.heap.size w w3) := Below.trans B2.out (b3.mono (Below.size B2.out))
  have I3 : Hid _ := IntsAt.below I2.out b3
  clear b3 I2 B2 B1
  have HDE : Hid _ := dec_enc en L
  have HEF : Hid _ := enc_first en L (by omega)
  have HSZ : Hid _ := encA_size en L
  have HCB : Hid ((encA en L).ok = true → codeB en = true) := fun h => by
    cases hc : codeB en
    · rw [show encA en L = ⟨⟨#[]⟩, 0, false⟩ from by simp [encA, hc]] at h; cases h
    · rfl
  generalize encA en L = R at *
  obtain ⟨s, k, ok⟩ := R
  cases ok
  · have BK := B3
    clear HDE HEF HCB
    go_wp2_with fail
    refine (ddec_any a1 n1 c1 _ (ArgB.below HM.out BK.out)).mono ?_
    rintro e y1 ⟨e2, t, rfl, ht, d1⟩
    have D1 : Hid (Below w.heap.size w y1) := Below.trans BK.out (d1.mono (Below.size BK.out))
    clear d1
    obtain ⟨ok2, M1, M2, m1, m2, SP, IM⟩ := dec_both e2 t
    have HSP : Hid _ := SP
    have HIM : Hid _ := IM
    clear SP IM
    go_wp2_with fail
    refine (HIM.out _ (Tabs.below HT.out D1.out)).mono ?_
    rintro e y2 ⟨vx, vn, rfl, T2, d2⟩
    have D2 : Hid (Below w.heap.size w y2) := Below.trans D1.out (d2.mono (Below.size D1.out))
    obtain ⟨ax, cx, an, cn, rfl, rfl⟩ := T2.form
    have TX2 : Hid _ := T2
    clear T2 d2
    go_wp2_with fail
    refine (HSP.out _).mono ?_
    rintro e y3 ⟨vr, vl, rfl, T3, d3⟩
    have D3 : Hid (Below w.heap.size w y3) := Below.trans D2.out (d3.mono (Below.size D2.out))
    obtain ⟨ar, cr, al, cl, rfl, rfl⟩ := T3.form
    have TX3 : Hid _ := Two.below TX2.out d3
    have TR3 : Hid _ := T3
    clear T3 d3 TX2
    go_wp2_with fail
    refine (dguess_any a1 n1 c1 _ (ArgB.below HM.out D3.out)).mono ?_
    rintro e y4 ⟨u, rfl, d4⟩
    have D4 : Hid (Below w.heap.size w y4) := Below.trans D3.out (d4.mono (Below.size D3.out))
    have TX4 : Hid _ := Two.below TX3.out d4
    have TR4 : Hid _ := Two.below TR3.out d4
    clear d4 TX3 TR3
    have HGI : Hid (∀ w : World, Tabs w → _) := fun w hT => iguess_any u w hT
    have HGS : Hid (∀ w : World, _) := fun w => guess_any u w
    obtain ⟨gg, gk, gok⟩ := guessR u
    go_wp2_with fail
    refine (HGI.out _ (Tabs.below HT.out D4.out)).mono ?_
    rintro e y5 ⟨rfl, d5⟩
    have D5 : Hid (Below w.heap.size w y5) := Below.trans D4.out (d5.mono (Below.size D4.out))
    have TX5 : Hid _ := Two.below TX4.out d5
    have TR5 : Hid _ := Two.below TR4.out d5
    clear d5 TX4 TR4
    go_wp2_with fail
    refine (HGS.out _).mono ?_
    rintro e y6 ⟨rfl, d6⟩
    have D6 : Hid (Below w.heap.size w y6) := Below.trans D5.out (d6.mono (Below.size D5.out))
    have TX6 : Hid _ := Two.below TX5.out d6
    have TR6 : Hid _ := Two.below TR5.out d6
    clear d6 TX5 TR5
    go_wp2_with fail
    refine (dnew_any a1 n1 c1 _ (ArgB.below HM.out D6.out)).mono ?_
    rintro e y7 ⟨v7, rfl, d7⟩
    have D7 : Hid (Below w.heap.size w y7) := Below.trans D6.out (d7.mono (Below.size D6.out))
    have TX7 : Hid _ := Two.below TX6.out d7
    have TR7 : Hid _ := Two.below TR6.out d7
    clear d7 TX6 TR6
    obtain ⟨nok, ne, NS, NI⟩ := new_both v7
    have HNS : Hid _ := NS
    have HNI : Hid _ := NI
    clear NS NI
    go_wp2_with fail
    refine (HNI.out _).mono ?_
    rintro e y8 ⟨rfl, d8⟩
    have D8 : Hid (Below w.heap.size w y8) := Below.trans D7.out (d8.mono (Below.size D7.out))
    have TX8 : Hid _ := Two.below TX7.out d8
    have TR8 : Hid _ := Two.below TR7.out d8
    have DG8 : Hid _ := DecAt.new y8 ne 0 0 ⟨#[]⟩ 25 _ rfl
    clear d8 TX7 TR7
    go_wp2_with fail
    refine (HNS.out _).mono ?_
    rintro e y9 ⟨rfl, d9⟩
    have D8a := Below.alloc D8.out (Below.size D8.out) (.cells #[.int .i64 ne, .int .i64 0, .int .i64 0, .string ⟨#[]⟩] 25)
    have D9 : Hid (Below w.heap.size w y9) := D8a.trans (d9.mono D8a.size)
    have TX9 : Hid _ := Two.below (Two.alloc TX8.out _) d9
    have TR9 : Hid _ := Two.below (Two.alloc TR8.out _) d9
    have DG9 : Hid _ := DecAt.below DG8.out d9
    have S9 : Hid (y8.heap.size < y9.heap.size) := (DecAt.below DG8.out d9).lt
    have D9a : Hid _ := Below.alloc D9.out (Below.size D9.out) (.cells #[.int .i64 ne, .int .i64 0, .int .i64 0, .string ⟨#[]⟩] 25)
    have TX9a : Hid _ := Two.alloc TX9.out (.cells #[.int .i64 ne, .int .i64 0, .int .i64 0, .string ⟨#[]⟩] 25)
    have TR9a : Hid _ := Two.alloc TR9.out (.cells #[.int .i64 ne, .int .i64 0, .int .i64 0, .string ⟨#[]⟩] 25)
    have DG9a : Hid _ := DecAt.alloc DG9.out (.cells #[.int .i64 ne, .int .i64 0, .int .i64 0, .string ⟨#[]⟩] 25)
    have DW9 : Hid _ := DecAt.new y9 ne 0 0 ⟨#[]⟩ 25 _ rfl
    clear d9 D8a TX8 TR8 DG8 TX9 TR9 DG9
    have bb2 : (ok2 == ok2) = true := by simp
    have bbg : (gok == gok) = true := by simp
    have bbn : (nok == nok) = true := by simp
    have hM1 : M1.length ≤ 1048576 := by omega
    have hM2 : M2.length ≤ 1048576 := by omega
    go_wp2_with fail
    refine (same_any M1 _ _ _ _ _ hM1 (Two.i1 TX9a.out) (Two.i1 TR9a.out)).mono ?_
    rintro e z1 ⟨rfl, f1⟩
    have F1 : Hid (Below w.heap.size w z1) := Below.trans D9a.out (f1.mono (Below.size D9a.out))
    have TXb : Hid _ := Two.below TX9a.out f1
    have TRb : Hid _ := Two.below TR9a.out f1
    have DGb : Hid _ := DecAt.below DG9a.out f1
    have DWb : Hid _ := DecAt.below DW9.out f1
    clear f1 TX9a TR9a DG9a DW9
    go_wp2_with fail
    refine (same_any M2 _ _ _ _ _ hM2 (Two.i2 TXb.out) (Two.i2 TRb.out)).mono ?_
    rintro e z2 ⟨rfl, f2⟩
    have F2 : Hid (Below w.heap.size w z2) := Below.trans F1.out (f2.mono (Below.size F1.out))
    obtain ⟨p0, p1, p2, p3, -, -⟩ := DecAt.below DGb.out f2
    obtain ⟨q0, q1, q2, q3, -, -⟩ := DecAt.below DWb.out f2
    clear f2
    go_wp2
    go_ret
    exact ⟨rfl, F2.out⟩
  · by_cases hk : k < 0
    · have HC : Hid _ := HCB.out rfl
      have HD : Hid (decRs en s = L) := HDE.out rfl hk
      have HS : Hid (s.size ≤ 1000) := HSZ.out
      have HLS : Hid _ := decLs_sum en s
      have HLB : Hid _ := decLs_bd en s HSZ.out
      have hll : (decLs en s).length ≤ 3000 := by
        have h := feedD_sizes en 0 0 ⟨#[]⟩ s HSZ.out (Nat.zero_le _)
        have hl := flushN_len (unitsB en) (feedD en 0 0 ⟨#[]⟩ s).held.size (feedD en 0 0 ⟨#[]⟩ s).held.size
        unfold decLs; rw [List.length_append]; omega
      have hk0 : ¬ 0 ≤ k := by omega
      clear HDE HEF HCB HSZ
      go_wp2_with fail
      refine (idecA_yes en s _ (Tabs.below HT.out B3.out) HC.out HS.out).mono ?_
      rintro e w4 ⟨vx, vn, rfl, T4, b4⟩
      rw [HD.out] at T4
      have hsum : ¬ (s.size : Int) < sumI (decLs en s) := by have := HLS.out; omega
      have B4 : Hid (Below w.heap.size w w4) := Below.trans B3.out (b4.mono (Below.size B3.out))
      have I4 : Hid _ := IntsAt.below I3.out b4
      generalize decLs en s = LS at *
      obtain ⟨ax, cx, an, cn, rfl, rfl⟩ := T4.form
      have TT4 : Hid _ := T4
      clear b4 T4 I3 B3
      have hL7 : L.length ≤ 1048576 := by omega
      go_wp2_with fail
      refine (same_any L _ _ _ _ _ hL7 (Two.i1 TT4.out) I4.out).mono ?_
      rintro e w5 ⟨rfl, b5⟩
      have B5 : Hid (Below w.heap.size w w5) := Below.trans B4.out (b5.mono (Below.size B4.out))
      have TT5 : Hid _ := Two.below TT4.out b5
      clear b5 TT4 B4
      go_wp2_with fail
      refine (sum_any LS _ _ _ (by omega) HLB.out (Two.i2 TT5.out)).mono ?_
      rintro e w6 ⟨rfl, rfl⟩
      have BK := B5
      clear TT5 HLB HLS
      go_wp2_with fail
      refine (ddec_any a1 n1 c1 _ (ArgB.below HM.out BK.out)).mono ?_
      rintro e y1 ⟨e2, t, rfl, ht, d1⟩
      have D1 : Hid (Below w.heap.size w y1) := Below.trans BK.out (d1.mono (Below.size BK.out))
      clear d1
      obtain ⟨ok2, M1, M2, m1, m2, SP, IM⟩ := dec_both e2 t
      have HSP : Hid _ := SP
      have HIM : Hid _ := IM
      clear SP IM
      go_wp2_with fail
      refine (HIM.out _ (Tabs.below HT.out D1.out)).mono ?_
      rintro e y2 ⟨vx, vn, rfl, T2, d2⟩
      have D2 : Hid (Below w.heap.size w y2) := Below.trans D1.out (d2.mono (Below.size D1.out))
      obtain ⟨ax, cx, an, cn, rfl, rfl⟩ := T2.form
      have TX2 : Hid _ := T2
      clear T2 d2
      go_wp2_with fail
      refine (HSP.out _).mono ?_
      rintro e y3 ⟨vr, vl, rfl, T3, d3⟩
      have D3 : Hid (Below w.heap.size w y3) := Below.trans D2.out (d3.mono (Below.size D2.out))
      obtain ⟨ar, cr, al, cl, rfl, rfl⟩ := T3.form
      have TX3 : Hid _ := Two.below TX2.out d3
      have TR3 : Hid _ := T3
      clear T3 d3 TX2
      go_wp2_with fail
      refine (dguess_any a1 n1 c1 _ (ArgB.below HM.out D3.out)).mono ?_
      rintro e y4 ⟨u, rfl, d4⟩
      have D4 : Hid (Below w.heap.size w y4) := Below.trans D3.out (d4.mono (Below.size D3.out))
      have TX4 : Hid _ := Two.below TX3.out d4
      have TR4 : Hid _ := Two.below TR3.out d4
      clear d4 TX3 TR3
      have HGI : Hid (∀ w : World, Tabs w → _) := fun w hT => iguess_any u w hT
      have HGS : Hid (∀ w : World, _) := fun w => guess_any u w
      obtain ⟨gg, gk, gok⟩ := guessR u
      go_wp2_with fail
      refine (HGI.out _ (Tabs.below HT.out D4.out)).mono ?_
      rintro e y5 ⟨rfl, d5⟩
      have D5 : Hid (Below w.heap.size w y5) := Below.trans D4.out (d5.mono (Below.size D4.out))
      have TX5 : Hid _ := Two.below TX4.out d5
      have TR5 : Hid _ := Two.below TR4.out d5
      clear d5 TX4 TR4
      go_wp2_with fail
      refine (HGS.out _).mono ?_
      rintro e y6 ⟨rfl, d6⟩
      have D6 : Hid (Below w.heap.size w y6) := Below.trans D5.out (d6.mono (Below.size D5.out))
      have TX6 : Hid _ := Two.below TX5.out d6
      have TR6 : Hid _ := Two.below TR5.out d6
      clear d6 TX5 TR5
      go_wp2_with fail
      refine (dnew_any a1 n1 c1 _ (ArgB.below HM.out D6.out)).mono ?_
      rintro e y7 ⟨v7, rfl, d7⟩
      have D7 : Hid (Below w.heap.size w y7) := Below.trans D6.out (d7.mono (Below.size D6.out))
      have TX7 : Hid _ := Two.below TX6.out d7
      have TR7 : Hid _ := Two.below TR6.out d7
      clear d7 TX6 TR6
      obtain ⟨nok, ne, NS, NI⟩ := new_both v7
      have HNS : Hid _ := NS
      have HNI : Hid _ := NI
      clear NS NI
      go_wp2_with fail
      refine (HNI.out _).mono ?_
      rintro e y8 ⟨rfl, d8⟩
      have D8 : Hid (Below w.heap.size w y8) := Below.trans D7.out (d8.mono (Below.size D7.out))
      have TX8 : Hid _ := Two.below TX7.out d8
      have TR8 : Hid _ := Two.below TR7.out d8
      have DG8 : Hid _ := DecAt.new y8 ne 0 0 ⟨#[]⟩ 25 _ rfl
      clear d8 TX7 TR7
      go_wp2_with fail
      refine (HNS.out _).mono ?_
      rintro e y9 ⟨rfl, d9⟩
      have D8a := Below.alloc D8.out (Below.size D8.out) (.cells #[.int .i64 ne, .int .i64 0, .int .i64 0, .string ⟨#[]⟩] 25)
      have D9 : Hid (Below w.heap.size w y9) := D8a.trans (d9.mono D8a.size)
      have TX9 : Hid _ := Two.below (Two.alloc TX8.out _) d9
      have TR9 : Hid _ := Two.below (Two.alloc TR8.out _) d9
      have DG9 : Hid _ := DecAt.below DG8.out d9
      have S9 : Hid (y8.heap.size < y9.heap.size) := (DecAt.below DG8.out d9).lt
      have D9a : Hid _ := Below.alloc D9.out (Below.size D9.out) (.cells #[.int .i64 ne, .int .i64 0, .int .i64 0, .string ⟨#[]⟩] 25)
      have TX9a : Hid _ := Two.alloc TX9.out (.cells #[.int .i64 ne, .int .i64 0, .int .i64 0, .string ⟨#[]⟩] 25)
      have TR9a : Hid _ := Two.alloc TR9.out (.cells #[.int .i64 ne, .int .i64 0, .int .i64 0, .string ⟨#[]⟩] 25)
      have DG9a : Hid _ := DecAt.alloc DG9.out (.cells #[.int .i64 ne, .int .i64 0, .int .i64 0, .string ⟨#[]⟩] 25)
      have DW9 : Hid _ := DecAt.new y9 ne 0 0 ⟨#[]⟩ 25 _ rfl
      clear d9 D8a TX8 TR8 DG8 TX9 TR9 DG9
      have bb2 : (ok2 == ok2) = true := by simp
      have bbg : (gok == gok) = true := by simp
      have bbn : (nok == nok) = true := by simp
      have hM1 : M1.length ≤ 1048576 := by omega
      have hM2 : M2.length ≤ 1048576 := by omega
      go_wp2_with fail
      refine (same_any M1 _ _ _ _ _ hM1 (Two.i1 TX9a.out) (Two.i1 TR9a.out)).mono ?_
      rintro e z1 ⟨rfl, f1⟩
      have F1 : Hid (Below w.heap.size w z1) := Below.trans D9a.out (f1.mono (Below.size D9a.out))
      have TXb : Hid _ := Two.below TX9a.out f1
      have TRb : Hid _ := Two.below TR9a.out f1
      have DGb : Hid _ := DecAt.below DG9a.out f1
      have DWb : Hid _ := DecAt.below DW9.out f1
      clear f1 TX9a TR9a DG9a DW9
      go_wp2_with fail
      refine (same_any M2 _ _ _ _ _ hM2 (Two.i2 TXb.out) (Two.i2 TRb.out)).mono ?_
      rintro e z2 ⟨rfl, f2⟩
      have F2 : Hid (Below w.heap.size w z2) := Below.trans F1.out (f2.mono (Below.size F1.out))
      obtain ⟨p0, p1, p2, p3, -, -⟩ := DecAt.below DGb.out f2
      obtain ⟨q0, q1, q2, q3, -, -⟩ := DecAt.below DWb.out f2
      clear f2
      go_wp2
      go_ret
      exact ⟨rfl, F2.out⟩
    · have hk0 : 0 ≤ k := by omega
      obtain ⟨j, hj, hkj, e1, e2, e3, e4⟩ := HEF.out rfl hk0
      have hkj' : k = (j : Int) := hkj
      subst hkj'
      clear HDE HEF HCB hkj
      have sl1 := slice_ints la L.length lc j (j : Int) rfl (by omega) hcap.1 hcap.2
      have sl2 := slice_ints la L.length lc (j + 1) ((j : Int) + 1) (by omega) (by omega) hcap.1 hcap.2
      have l1 : (L.take j).length = j := by rw [List.length_take]; omega
      have l2 : (L.take (j + 1)).length = j + 1 := by rw [List.length_take]; omega
      have HE1 : Hid (∀ w : World, Tabs w → IntsAt w la L → Calls Tryd.prog 23 #[.int .i64 en, .slice la j lc] w fun e w' => e = .returned (.tuple #[.string (encA en (L.take j)).s, .int .i64 (-1), .bool true]) ∧ Below w.heap.size w w') := fun w hT hI => by
        have h := ienc_any en (L.take j) la lc w hT (by omega) (ints_take hI j)
        rw [l1, e1, e2] at h
        exact h
      have HE2 : Hid (∀ w : World, Tabs w → IntsAt w la L → Calls Tryd.prog 23 #[.int .i64 en, .slice la ((j + 1 : Nat)) lc] w fun e w' => e = .returned (.tuple #[.string (encA en (L.take (j + 1))).s, .int .i64 (j : Int), .bool true]) ∧ Below w.heap.size w w') := fun w hT hI => by
        have h := ienc_any en (L.take (j + 1)) la lc w hT (by omega) (ints_take hI (j + 1))
        rw [l2, e3, e4] at h
        exact h
      clear e1 e2 e3 e4 l1 l2
      go_wp2_with fail
      refine (HE1.out _ (Tabs.below HT.out B3.out) I3.out).mono ?_
      rintro e w4 ⟨rfl, b4⟩
      have B4 : Hid (Below w.heap.size w w4) := Below.trans B3.out (b4.mono (Below.size B3.out))
      have I4 : Hid _ := IntsAt.below I3.out b4
      clear b4 I3 B3
      go_wp2_with fail
      refine (HE2.out _ (Tabs.below HT.out B4.out) I4.out).mono ?_
      rintro e w5 ⟨rfl, b5⟩
      have B5 : Hid (Below w.heap.size w w5) := Below.trans B4.out (b5.mono (Below.size B4.out))
      have BK := B5
      clear b5 I4 B4
      go_wp2_with fail
      refine (ddec_any a1 n1 c1 _ (ArgB.below HM.out BK.out)).mono ?_
      rintro e y1 ⟨e2, t, rfl, ht, d1⟩
      have D1 : Hid (Below w.heap.size w y1) := Below.trans BK.out (d1.mono (Below.size BK.out))
      clear d1
      obtain ⟨ok2, M1, M2, m1, m2, SP, IM⟩ := dec_both e2 t
      have HSP : Hid _ := SP
      have HIM : Hid _ := IM
      clear SP IM
      go_wp2_with fail
      refine (HIM.out _ (Tabs.below HT.out D1.out)).mono ?_
      rintro e y2 ⟨vx, vn, rfl, T2, d2⟩
      have D2 : Hid (Below w.heap.size w y2) := Below.trans D1.out (d2.mono (Below.size D1.out))
      obtain ⟨ax, cx, an, cn, rfl, rfl⟩ := T2.form
      have TX2 : Hid _ := T2
      clear T2 d2
      go_wp2_with fail
      refine (HSP.out _).mono ?_
      rintro e y3 ⟨vr, vl, rfl, T3, d3⟩
      have D3 : Hid (Below w.heap.size w y3) := Below.trans D2.out (d3.mono (Below.size D2.out))
      obtain ⟨ar, cr, al, cl, rfl, rfl⟩ := T3.form
      have TX3 : Hid _ := Two.below TX2.out d3
      have TR3 : Hid _ := T3
      clear T3 d3 TX2
      go_wp2_with fail
      refine (dguess_any a1 n1 c1 _ (ArgB.below HM.out D3.out)).mono ?_
      rintro e y4 ⟨u, rfl, d4⟩
      have D4 : Hid (Below w.heap.size w y4) := Below.trans D3.out (d4.mono (Below.size D3.out))
      have TX4 : Hid _ := Two.below TX3.out d4
      have TR4 : Hid _ := Two.below TR3.out d4
      clear d4 TX3 TR3
      have HGI : Hid (∀ w : World, Tabs w → _) := fun w hT => iguess_any u w hT
      have HGS : Hid (∀ w : World, _) := fun w => guess_any u w
      obtain ⟨gg, gk, gok⟩ := guessR u
      go_wp2_with fail
      refine (HGI.out _ (Tabs.below HT.out D4.out)).mono ?_
      rintro e y5 ⟨rfl, d5⟩
      have D5 : Hid (Below w.heap.size w y5) := Below.trans D4.out (d5.mono (Below.size D4.out))
      have TX5 : Hid _ := Two.below TX4.out d5
      have TR5 : Hid _ := Two.below TR4.out d5
      clear d5 TX4 TR4
      go_wp2_with fail
      refine (HGS.out _).mono ?_
      rintro e y6 ⟨rfl, d6⟩
      have D6 : Hid (Below w.heap.size w y6) := Below.trans D5.out (d6.mono (Below.size D5.out))
      have TX6 : Hid _ := Two.below TX5.out d6
      have TR6 : Hid _ := Two.below TR5.out d6
      clear d6 TX5 TR5
      go_wp2_with fail
      refine (dnew_any a1 n1 c1 _ (ArgB.below HM.out D6.out)).mono ?_
      rintro e y7 ⟨v7, rfl, d7⟩
      have D7 : Hid (Below w.heap.size w y7) := Below.trans D6.out (d7.mono (Below.size D6.out))
      have TX7 : Hid _ := Two.below TX6.out d7
      have TR7 : Hid _ := Two.below TR6.out d7
      clear d7 TX6 TR6
      obtain ⟨nok, ne, NS, NI⟩ := new_both v7
      have HNS : Hid _ := NS
      have HNI : Hid _ := NI
      clear NS NI
      go_wp2_with fail
      refine (HNI.out _).mono ?_
      rintro e y8 ⟨rfl, d8⟩
      have D8 : Hid (Below w.heap.size w y8) := Below.trans D7.out (d8.mono (Below.size D7.out))
      have TX8 : Hid _ := Two.below TX7.out d8
      have TR8 : Hid _ := Two.below TR7.out d8
      have DG8 : Hid _ := DecAt.new y8 ne 0 0 ⟨#[]⟩ 25 _ rfl
      clear d8 TX7 TR7
      go_wp2_with fail
      refine (HNS.out _).mono ?_
      rintro e y9 ⟨rfl, d9⟩
      have D8a := Below.alloc D8.out (Below.size D8.out) (.cells #[.int .i64 ne, .int .i64 0, .int .i64 0, .string ⟨#[]⟩] 25)
      have D9 : Hid (Below w.heap.size w y9) := D8a.trans (d9.mono D8a.size)
      have TX9 : Hid _ := Two.below (Two.alloc TX8.out _) d9
      have TR9 : Hid _ := Two.below (Two.alloc TR8.out _) d9
      have DG9 : Hid _ := DecAt.below DG8.out d9
      have S9 : Hid (y8.heap.size < y9.heap.size) := (DecAt.below DG8.out d9).lt
      have D9a : Hid _ := Below.alloc D9.out (Below.size D9.out) (.cells #[.int .i64 ne, .int .i64 0, .int .i64 0, .string ⟨#[]⟩] 25)
      have TX9a : Hid _ := Two.alloc TX9.out (.cells #[.int .i64 ne, .int .i64 0, .int .i64 0, .string ⟨#[]⟩] 25)
      have TR9a : Hid _ := Two.alloc TR9.out (.cells #[.int .i64 ne, .int .i64 0, .int .i64 0, .string ⟨#[]⟩] 25)
      have DG9a : Hid _ := DecAt.alloc DG9.out (.cells #[.int .i64 ne, .int .i64 0, .int .i64 0, .string ⟨#[]⟩] 25)
      have DW9 : Hid _ := DecAt.new y9 ne 0 0 ⟨#[]⟩ 25 _ rfl
      clear d9 D8a TX8 TR8 DG8 TX9 TR9 DG9
      have bb2 : (ok2 == ok2) = true := by simp
      have bbg : (gok == gok) = true := by simp
      have bbn : (nok == nok) = true := by simp
      have hM1 : M1.length ≤ 1048576 := by omega
      have hM2 : M2.length ≤ 1048576 := by omega
      go_wp2_with fail
      refine (same_any M1 _ _ _ _ _ hM1 (Two.i1 TX9a.out) (Two.i1 TR9a.out)).mono ?_
      rintro e z1 ⟨rfl, f1⟩
      have F1 : Hid (Below w.heap.size w z1) := Below.trans D9a.out (f1.mono (Below.size D9a.out))
      have TXb : Hid _ := Two.below TX9a.out f1
      have TRb : Hid _ := Two.below TR9a.out f1
      have DGb : Hid _ := DecAt.below DG9a.out f1
      have DWb : Hid _ := DecAt.below DW9.out f1
      clear f1 TX9a TR9a DG9a DW9
      go_wp2_with fail
      refine (same_any M2 _ _ _ _ _ hM2 (Two.i2 TXb.out) (Two.i2 TRb.out)).mono ?_
      rintro e z2 ⟨rfl, f2⟩
      have F2 : Hid (Below w.heap.size w z2) := Below.trans F1.out (f2.mono (Below.size F1.out))
      obtain ⟨p0, p1, p2, p3, -, -⟩ := DecAt.below DGb.out f2
      obtain ⟨q0, q1, q2, q3, -, -⟩ := DecAt.below DWb.out f2
      clear f2
      go_wp2
      go_ret
      exact ⟨rfl, F2.out⟩
set_option maxRecDepth 100000 in
set_option maxHeartbeats 1000000 in
theorem walk_big (a0 : Option Addr) (n0 c0 : Nat) (a1 : Option Addr) (n1 c1 : Nat) (w : World) (h : (1048576 : Int) < n0 ∨ ((n0 : Int) ≤ 1048576 ∧ (1048576 : Int) - n0 < n1)) :
    Calls Tryd.prog 4 #[.slice a0 n0 c0, .slice a1 n1 c1] w fun e w' => e = .returned (.bool true) ∧ Below w.heap.size w w' := by
  rcases h with h | ⟨h1, h2⟩
  · go_enter Tryd.func4, Tryd.ntmps4
    go_wp2_with (first | (go_at_call 10; go_in) | fail)
    go_ret
    exact ⟨rfl, Below.refl _ _⟩
  · have h1' : ¬ (1048576 : Int) < (n0 : Int) := by omega
    go_enter Tryd.func4, Tryd.ntmps4
    go_wp2_with (first | (go_at_call 10; go_in) | fail)
    go_ret
    exact ⟨rfl, Below.refl _ _⟩
theorem walk (a0 : Option Addr) (n0 c0 : Nat) (a1 : Option Addr) (n1 c1 : Nat) (w : World) (hA : ArgB w a0 n0) (hM : ArgB w a1 n1) (hT : Tabs w) :
    Calls Tryd.prog 4 #[.slice a0 n0 c0, .slice a1 n1 c1] w fun e w' => e = .returned (.bool true) ∧ Below w.heap.size w w' := by
  by_cases h : (1048576 : Int) < n0 ∨ ((n0 : Int) ≤ 1048576 ∧ (1048576 : Int) - n0 < n1)
  · exact walk_big a0 n0 c0 a1 n1 c1 w h
  · exact walk_in a0 n0 c0 a1 n1 c1 w hA hM hT (by omega) (by omega)
theorem arg_of {H : Type} {enc : TypeId × Value → H} {W : World} {a : Option Addr} {len cap : Nat} {x : DataW H × List MemPlace} {base : Nat} {held : Bool} {fuel : Nat}
    (hf : DataW.trod enc Tryd.prog W base (fun _ => true) held fuel 22 (Value.cells (.slice a len cap)).toList = some x) : ArgB W a len := by
  rcases open_ints Tryd.underlying22 Tryd.underlying5 (by kernel_rfl) hf with ⟨hcs, _⟩ | ⟨y, l, c, zs, hcs, _, hl, hm, hz, _, hcell, hwz⟩
  · simp [Value.cells] at hcs
    obtain ⟨rfl, rfl, rfl⟩ := hcs
    exact fun j hj => absurd hj (by omega)
  · simp [Value.cells] at hcs
    obtain ⟨rfl, rfl, rfl⟩ := hcs
    have hz' : zs.length = cap := by simpa using hz
    intro j hj
    obtain ⟨b, off, rfl, hc⟩ := ints_at hcell (by omega)
    have hcj := hc j (by omega)
    have hw := bounds_u8 (hwz (zs.getD j 0) (by simp [List.getD, show j < zs.length by omega]))
    exact ⟨b, off, zs.getD j 0, rfl, World.block_lt_of_cell? W _ hcj, hcj, by omega, by omega⟩
set_option maxRecDepth 100000 in
theorem lifted (os : Os) (started : os.Started) (H : Type) (enc : TypeId × Value → H) :
    ReturnsInHanded {} Tryd.checked os 4 .any (fun w args => (Rows.fnEncodedSpec.pre enc Tryd.prog Tryd.f4 [] false w args ∧ laidMetH Tryd.prog laid2 w) ∧ sizedMet enc Tryd.prog Tryd.f4 (OpenSpec.ofChange Rows.fnEncodedSpec) false w args)
      (Rows.fnEncodedSpec.post enc Tryd.prog Tryd.f4 false true false false) := by
  refine returnsInHanded_of_change_and (C := Tryd.checked) (X := fun w _ => laidMetH Tryd.prog laid2 w) (fun _ _ _ hh h => h.of_heap hh) own started (by kernel_rfl) Tryd.func4
    (ChangeSpec.witness_shaped (enc := enc) (C := Tryd.checked) (os := os) (X := fun w _ => laidMetH Tryd.prog laid2 w) false (World.doorLaid Tryd.prog 400 os) #[.slice none 0 0, .slice none 0 0] 8 rfl (World.shaped_of_RefB (by kernel_rfl) (by kernel_rfl)) (by kernel_rfl) (by kernel_rfl) (by kernel_rfl) (door_met os _)) ?_
  intro W base args ds gs before hval0 hW _ _ hL _
  have hval : ∀ (j : Nat) t v, Tryd.f4.params[j]? = some t → args[j]? = some v → Value.okWide Tryd.prog W .any base t v := hval0
  have hW' := hW
  obtain ⟨p, q, hA0, hV0, rfl, hfz, hnd⟩ := hW
  have hA : DataW.TrodAll enc Tryd.prog W 0 (fun _ => true) true Tryd.f4.params.toList args.toList ds p := hA0
  have hV : DataW.TrodVars enc Tryd.prog W (fun _ => true) vars2 gs q := hV0
  rw [Tryd.params4] at hA hval
  obtain ⟨v0, vs0, d0, ds0, p0, q0, hargs, rfl, rfl, h0, r0⟩ := trodAll_cons hA
  obtain ⟨v1, vs1, d1, ds1, p1, q1, rfl, rfl, rfl, h1, r1⟩ := trodAll_cons r0
  obtain ⟨rfl, rfl, rfl⟩ := trodAll_nil r1
  obtain rfl : args = #[v0, v1] := by cases args; simp_all
  obtain ⟨g, t, cs, fuel, d, q1, g', t', cs', fuel', d', q2, rfl, _⟩ := trodVars_two hV
  obtain ⟨a0, len0, cap0, rfl⟩ := okWide_slice Tryd.underlying22 (hval 0 22 v0 rfl rfl)
  have k0 := h0
  have lt0 : ∀ x ∈ p0, x.block < W.heap.size := by obtain ⟨m, hm⟩ := k0; exact DataW.trod_lt m _ _ _ hm
  have i0 : ArgB W a0 len0 := by obtain ⟨fuel, hf⟩ := h0; exact arg_of hf
  obtain ⟨a1, len1, cap1, rfl⟩ := okWide_slice Tryd.underlying22 (hval 1 22 v1 rfl rfl)
  have k1 := h1
  have lt1 : ∀ x ∈ p1, x.block < W.heap.size := by obtain ⟨m, hm⟩ := k1; exact DataW.trod_lt m _ _ _ hm
  have i1 : ArgB W a1 len1 := by obtain ⟨fuel, hf⟩ := h1; exact arg_of hf
  clear hA0 hval0
  refine (walk a0 len0 cap0 a1 len1 cap1 W i0 i1 (tabs_of_laid hL)).mono fun e W' ⟨he, bel⟩ => ?_
  subst he
  exact ⟨_, rfl, _, _, _, [], _, q, hW', trodAll_mk1 (shut_bool Tryd.underlying4 _), (trodAll_cons_mk (Below.trod laidOut (by kernel_rfl) (of_decide_eq_true (by kernel_rfl)) k0 bel lt0) (trodAll_cons_mk (Below.trod laidOut (by kernel_rfl) (of_decide_eq_true (by kernel_rfl)) k1 bel lt1) trodAll_mk0)), bel.trodVars laidOut (by kernel_rfl) hV, bel.frame _, fun h => by cases h⟩
theorem row : Rows.FnEncodedSaid :=
  OpenClaim.holds_of_wide 4 Tryd.f4 rfl rfl rfl rfl rfl rfl rfl ⟨rfl, rfl, rfl, rfl, rfl⟩ rfl rfl rfl rfl rfl (by kernel_rfl) Tryd.func4 (by kernel_rfl)
    (of_decide_eq_true (by kernel_rfl)) (by unfold Func.isWrapper; first | (rw [if_pos (by decide +kernel)]; kernel_rfl) | (rw [if_neg (by decide +kernel)]; exact ⟨rfl, rfl⟩))
    (fun os started H enc _ => lifted os started H enc)
end LawEncoded
theorem encoded_card : Rows.FnEncodedCardSaid :=
  Claim7.holds_tied_plain_at .later [] [.data, .data] true Rows.fnEncodedCard.stood.harness Rows.fnEncodedCard.stood.looks
    LawEncoded.row (fun _ h => by cases h) (by kernel_rfl) (fun _ h => by cases h) fnEncoded_row_tie rfl ⟨rfl, rfl⟩ (by kernel_rfl) rfl
    (fun f fn hf hfn => by
      obtain rfl : f = 4 := Option.some.inj ((show Tryd.prog.funcNamed "loop.example/g00692/laws.FnEncoded" = some 4 by kernel_rfl).symm.trans hf) |>.symm
      obtain rfl : fn = Tryd.f4 := (Option.some.inj (Tryd.func4.symm.trans hfn)).symm
      exact ⟨by kernel_rfl, fun j t ht => by
        rw [Tryd.params4] at ht
        have hm : t ∈ [22, 22] := by simpa using Array.mem_of_getElem? ht
        have hall : ([22, 22].all fun u => !Tryd.prog.wantsStandIn u) = true := by kernel_rfl
        exact (show Tryd.prog.wantsStandIn t = false by simpa using List.all_eq_true.1 hall t hm)⟩)
    (by kernel_rfl)
#print axioms encoded_card
end Go.Proofs.YtjnnikbgpjiecaaDoor

/-
  For every two lists of bytes, laws.FnUtf8 returns true: a drawn rune is read back from its bytes, the beginnings of its bytes are begun and not whole, drawn texts have the runes that ranging over them counts, and each function of chapter 1 answers at the drawn arguments as the specification. Condition: the two package-level tables of forms hold what the program's text lays in them (tied to the text by the given card).
-/
import Derived.Test.YtflgdfkcgkibgaaDoorFrame
import Derived.Test.YtflgdfkcgkibgaaDoorU8p
import Derived.ChangeOld
namespace Go.Proofs.YtflgdfkcgkibgaaDoor
open Go.ChangeShapes Go.WideShapes Go.ChangeAt Go.WideMaps Go.WideElems Go.RowKit
namespace LawUtf8
theorem rat_both (s : ByteArray) (hs : s.size ≤ 1000) (p : Int) : ∃ (x y : Int) (z : Bool),
    (∀ w, Tabs w → Calls Tryd.prog 15 #[.string s, .int .i64 p] w fun e w' => e = .returned (.tuple #[.int .i64 x, .int .i64 y, .bool z]) ∧ Below w.heap.size w w') ∧
    (∀ w, Calls Tryd.prog 26 #[.string s, .int .i64 p] w fun e w' => e = .returned (.tuple #[.int .i64 x, .int .i64 y, .bool z]) ∧ Below w.heap.size w w') := by
  by_cases h : 0 ≤ p ∧ p < s.size
  · obtain ⟨i, rfl⟩ := Int.eq_ofNat_of_zero_le h.1
    have hi : i < s.size := by omega
    exact ⟨_, _, _, fun w hT => irat_any s i w hs hi hT, fun w => LawRuneAt.srat_any s i w hs hi⟩
  · refine ⟨0, 0, false, fun w _ => ?_, fun w => ?_⟩
    · exact (LawRuneAt.irat_no s p w (by omega)).mono fun e w' ⟨he, hw⟩ => ⟨he, by rw [hw]; exact Below.refl _ _⟩
    · exact (LawRuneAt.srat_out s p w (by omega) (by omega)).mono fun e w' ⟨he, hw⟩ => ⟨he, by rw [hw]; exact Below.refl _ _⟩
theorem irat_one (s : ByteArray) (w : World) (hs : s.size ≤ 1000) (hi : 1 < s.size) (hT : Tabs w) :
    Calls Tryd.prog 15 #[.string s, .int .i64 1] w fun e w' => e = .returned (.tuple #[.int .i64 (decR s 1), .int .i64 (decW s 1), .bool true]) ∧ Below w.heap.size w w' := irat_any s 1 w hs hi hT
set_option maxRecDepth 100000 in
set_option maxHeartbeats 8000000 in
theorem walk_in (a0 : Option Addr) (n0 c0 : Nat) (a1 : Option Addr) (n1 c1 : Nat) (w : World) (hA : ArgB w a0 n0) (hM : ArgB w a1 n1) (hT : Tabs w) (hn0 : (n0 : Int) ≤ 1048576) (hn1 : (n1 : Int) ≤ 1048576 - n0) :
    Calls Tryd.prog 3 #[.slice a0 n0 c0, .slice a1 n1 c1] w fun e w' => e = .returned (.bool true) ∧ Below w.heap.size w w' := by
  have HT : Hid _ := hT
  have HA : Hid _ := hA
  have HM : Hid _ := hM
  have hn0' : ¬ (1048576 : Int) < (n0 : Int) := by omega
  have hn1' : ¬ (1048576 : Int) - n0 < (n1 : Int) := by omega
  clear hT hA hM
  go_enter Tryd.func3, Tryd.ntmps3
  go_wp2_with (first | (go_at_call 9; go_in) | fail)
  refine (dutf_any a0 n0 c0 _ HA.out).mono ?_
  rintro e w1 ⟨r, rfl, b1⟩
  have B1 : Hid _ := b1
  clear b1 HA
  cases hg : goodB r
  · have HG : Hid _ := hg
    clear hg
    go_wp2_with fail
    refine (iutf_no r _ HG.out).mono ?_
    rintro e w2 ⟨rfl, rfl⟩
    go_wp2_with fail
    refine (sutf_no r _ HG.out).mono ?_
    rintro e w3 ⟨rfl, rfl⟩
    go_wp2_with fail
    refine (igood_not HG.out _).mono ?_
    rintro e w4 ⟨rfl, rfl⟩
    go_wp2_with fail
    refine (good_not HG.out _).mono ?_
    rintro e w5 ⟨rfl, rfl⟩
    go_wp2_with fail
    refine (igood_not HG.out _).mono ?_
    rintro e w6 ⟨rfl, rfl⟩
    have BQ := B1
    go_wp2_with fail
    refine (drunes_any a1 n1 c1 _ (ArgB.below HM.out BQ.out)).mono ?_
    rintro e y1 ⟨t, rfl, ht, d1⟩
    have D1 : Hid (Below w.heap.size w y1) := Below.trans BQ.out (d1.mono (Below.size BQ.out))
    have HT26 : Hid _ := ht
    have HT1000 : Hid (t.size ≤ 1000) := by show t.size ≤ 1000; omega
    have HLN : Hid ((runes t).length ≤ 1000) := by have := runes_len t; show (runes t).length ≤ 1000; omega
    have HLB : Hid ((runes t).length ≤ 1048576) := by have := HLN.out; show (runes t).length ≤ 1048576; omega
    have HTB : Hid _ := small_tB t ht
    have HTS : Hid _ := tS_yes (small_tB t ht)
    clear d1 BQ ht
    go_wp2_with fail
    refine (irunes_any t _ HT1000.out).mono ?_
    rintro e y2 ⟨vl, rfl, ol, d2⟩
    have OL2 : Hid _ := ol
    have D2 : Hid (Below w.heap.size w y2) := Below.trans D1.out (d2.mono (Below.size D1.out))
    obtain ⟨_, al, cl, rfl, il⟩ := ints_of_own ol
    have IL2 : Hid _ := il
    clear ol d2 il
    go_wp2_with fail
    refine (srunes_any t _ HT1000.out).mono ?_
    rintro e y3 ⟨vr, rfl, or', d3⟩
    have IL3 : Hid _ := IntsAt.below IL2.out d3
    have D3 : Hid (Below w.heap.size w y3) := Below.trans D2.out (d3.mono (Below.size D2.out))
    obtain ⟨_, ar, cr, rfl, ir⟩ := ints_of_own or'
    have IR3 : Hid _ := ir
    clear or' d3 ir
    go_wp2_with fail
    refine (same_any (runes t) _ _ _ _ _ HLB.out IL3.out IR3.out).mono ?_
    rintro e y4 ⟨rfl, d4⟩
    have IL4 : Hid _ := IntsAt.below IL3.out d4
    have D4 : Hid (Below w.heap.size w y4) := Below.trans D3.out (d4.mono (Below.size D3.out))
    clear d4
    obtain ⟨wb, hwb⟩ : ∃ wb : Bool, ((textS (runes t)).toList == t.toList) = wb := ⟨_, rfl⟩
    have HWB : Hid _ := hwb
    clear hwb
    go_wp2_with fail
    refine (iwhole_any t _ HT1000.out (Tabs.below HT.out D4.out)).mono ?_
    rintro e y5 ⟨rfl, d5⟩
    rw [HWB.out]
    have IL5 : Hid _ := IntsAt.below IL4.out d5
    have D5 : Hid (Below w.heap.size w y5) := Below.trans D4.out (d5.mono (Below.size D4.out))
    clear d5
    go_wp2_with fail
    refine (swhole_any t _ HT1000.out).mono ?_
    rintro e y6 ⟨rfl, d6⟩
    rw [HWB.out]
    have IL6 : Hid _ := IntsAt.below IL5.out d6
    have D6 : Hid (Below w.heap.size w y6) := Below.trans D5.out (d6.mono (Below.size D5.out))
    clear d6
    go_wp2_with fail
    go_loopw [19] (fun i wr => ∃ (p f m : Nat), i = .int .i64 m ∧ wr.heap[y6.heap.size]? = some (.stringIter t p) ∧ m + (runesFrom t f p).length = (runes t).length ∧ t.size ≤ p + f ∧ Below y6.heap.size y6 wr) (fun _ wr => t.size - wr.iterPos y6.heap.size)
    case atStart =>
      refine ⟨0, t.size, 0, rfl, World.iter_heap y6 t 0, ?_, by omega, (Below.refl _ _).alloc (Nat.le_refl _) (.stringIter t 0)⟩
      rw [Nat.zero_add]; rfl
    case round =>
      obtain ⟨p, f, m, rfl, hit, hmm, hf, hbw⟩ := hrel
      have HMM : Hid _ := hmm
      have hml : m ≤ 1000 := by have := HLN.out; omega
      clear hmm
      have hsz : y6.heap.size < wr.heap.size := (Array.getElem?_eq_some_iff.1 hit).1
      by_cases hlt : p < t.size
      · have hnx : ∀ ty, (Instr.next (.pointer (some ⟨y6.heap.size, 0, none⟩)) true ty).run Tryd.prog wr = _ := fun ty => Lib.run_next_any_at wr y6.heap.size t p ty hit hlt
        obtain ⟨f, rfl⟩ : ∃ f', f = f' + 1 := ⟨f - 1, by omega⟩
        have HS : Hid (runesFrom t (f + 1) p = decR t p :: runesFrom t f (p + decW t p)) := by show runesFrom t (f + 1) p = _; rw [runesFrom, if_pos hlt]
        have hw := decW_pos t p hlt
        have hw' : 1 ≤ (Utf8.decode t p).2 ∧ (Utf8.decode t p).2 ≤ 4 ∧ p + (Utf8.decode t p).2 ≤ t.size := hw
        have HS' : Hid (runesFrom t (f + 1) p = decR t p :: runesFrom t f (p + (Utf8.decode t p).2)) := HS.out
        have hit2 := Lib.iterAt_heap wr y6.heap.size t p (p + (Utf8.decode t p).2) hit
        have hbw2 := Lib.below_iterAt hbw (k := y6.heap.size) (Nat.le_refl _) t (p + (Utf8.decode t p).2)
        have HI2 : Hid _ := hit2
        have HB2 : Hid _ := hbw2
        have HP : Hid (wr.iterPos y6.heap.size = p ∧ (wr.iterAt y6.heap.size t (p + (Utf8.decode t p).2)).iterPos y6.heap.size = p + (Utf8.decode t p).2) := by
          show _ ∧ _
          simp only [World.iterPos, hit, hit2]
          exact ⟨trivial, trivial⟩
        clear HS hw hit2 hbw2
        generalize (Utf8.decode t p).1 = r1 at *
        generalize (Utf8.decode t p).2 = d at *
        go_wp2
        go_roundw
        case rel => exact ⟨p + d, f, m + 1, by go_num, HI2.out, by have := HMM.out; rw [HS'.out, List.length_cons] at this; omega, by omega, HB2.out⟩
        case measure => rw [HP.out.1, HP.out.2]; omega
      · have hnx : ∀ ty, (Instr.next (.pointer (some ⟨y6.heap.size, 0, none⟩)) true ty).run Tryd.prog wr = _ := fun ty => Lib.run_next_end_at wr y6.heap.size t p ty hit hlt
        obtain rfl : m = (runes t).length := by have := HMM.out; rw [runesFrom_end t f p hlt] at this; simpa using this
        have IL7 : Hid _ := IntsAt.below IL6.out hbw
        have D7 : Hid (Below w.heap.size w wr) := Below.trans D6.out (hbw.mono (Below.size D6.out))
        clear hbw
        go_wp2_with fail
        refine (itext_any (runes t) _ _ _ HLN.out IL7.out (Tabs.below HT.out D7.out)).mono ?_
        rintro e y8 ⟨rfl, d8⟩
        rw [HTB.out, HTS.out]
        have D8 : Hid (Below w.heap.size w y8) := Below.trans D7.out (d8.mono (Below.size D7.out))
        clear d8 hit hnx hsz
        have hwb := HWB.out
        go_wp2_with fail
        refine (iwhole_any t _ HT1000.out (Tabs.below HT.out D8.out)).mono ?_
        rintro e y9 ⟨rfl, d9⟩
        rw [HWB.out]
        have D9 : Hid (Below w.heap.size w y9) := Below.trans D8.out (d9.mono (Below.size D8.out))
        clear d9
        go_wp2_with fail
        clear hwb
        refine (dbeg_any a1 n1 c1 _ (ArgB.below HM.out D9.out)).mono ?_
        rintro e z1 ⟨u, rfl, e1⟩
        have E1 : Hid (Below w.heap.size w z1) := Below.trans D9.out (e1.mono (Below.size D9.out))
        clear e1
        go_wp2_with fail
        refine (drat_any a1 n1 c1 _ (ArgB.below HM.out E1.out)).mono ?_
        rintro e z2 ⟨v, q, rfl, hv, e2⟩
        have E2 : Hid (Below w.heap.size w z2) := Below.trans E1.out (e2.mono (Below.size E1.out))
        obtain ⟨rx, ry, rz, hi1, hi2⟩ := rat_both v (by omega) q
        have RI : Hid _ := hi1
        have RS : Hid _ := hi2
        clear e2 hi1 hi2 hv
        go_wp2_with fail
        refine (RI.out _ (Tabs.below HT.out E2.out)).mono ?_
        rintro e z3 ⟨rfl, e3⟩
        have E3 : Hid (Below w.heap.size w z3) := Below.trans E2.out (e3.mono (Below.size E2.out))
        clear e3
        go_wp2_with fail
        refine (RS.out _).mono ?_
        rintro e z4 ⟨rfl, e4⟩
        have E4 : Hid (Below w.heap.size w z4) := Below.trans E3.out (e4.mono (Below.size E3.out))
        clear e4 RI RS
        go_wp2_with fail
        refine (dtext_any a1 n1 c1 _ (ArgB.below HM.out E4.out)).mono ?_
        rintro e z5 ⟨vt, L, rfl, hL, ot, e5⟩
        have E5 : Hid (Below w.heap.size w z5) := Below.trans E4.out (e5.mono (Below.size E4.out))
        obtain ⟨_, at', ct, rfl, it⟩ := ints_of_own ot
        have IT5 : Hid _ := it
        clear e5 ot it
        go_wp2_with fail
        refine (itext_any L _ _ _ (by omega) IT5.out (Tabs.below HT.out E5.out)).mono ?_
        rintro e z6 ⟨rfl, e6⟩
        have E6 : Hid (Below w.heap.size w z6) := Below.trans E5.out (e6.mono (Below.size E5.out))
        have IT6 : Hid _ := IntsAt.below IT5.out e6
        clear e6
        go_wp2_with fail
        refine (stext_any L _ _ _ (by omega) IT6.out).mono ?_
        rintro e z7 ⟨rfl, e7⟩
        have E7 : Hid (Below w.heap.size w z7) := Below.trans E6.out (e7.mono (Below.size E6.out))
        clear e7
        obtain ⟨bb, hb1, hb2⟩ := LawIsBegun.both u
        have HB1 : Hid _ := hb1
        have HB2 : Hid _ := hb2
        clear hb1 hb2
        go_wp2_with fail
        refine (HB2.out _ (Tabs.below HT.out E7.out)).mono ?_
        rintro e z8 ⟨rfl, e8⟩
        have E8 : Hid (Below w.heap.size w z8) := Below.trans E7.out (e8.mono (Below.size E7.out))
        clear e8
        go_wp2_with fail
        refine (LawIsBegun.sbeg_of u _ _ HB1.out).mono ?_
        rintro e z9 ⟨rfl, e9⟩
        have E9 : Hid (Below w.heap.size w z9) := Below.trans E8.out (e9.mono (Below.size E8.out))
        clear e9
        go_wp2
        go_ret
        exact ⟨rfl, E9.out⟩
  · have HG : Hid _ := hg
    have HRB : Hid _ := read_back r hg
    have hes : (encS r).size ≤ 4 := by have := encN_len r; rw [encS_size]; omega
    have hes1 : 1 ≤ (encS r).size := by have := encN_len r; rw [encS_size]; omega
    have HWS : Hid _ := wrapT_size (encS r)
    have HPB : Hid _ := part_beg r hg
    have HPN : Hid _ := part_none r hg
    clear hg
    go_wp2_with fail
    refine (iutf_any r _ HG.out (Tabs.below HT.out B1.out)).mono ?_
    rintro e w2 ⟨rfl, b2⟩
    have B2 : Hid (Below w.heap.size w w2) := Below.trans B1.out (b2.mono (Below.size B1.out))
    clear b2
    go_wp2_with fail
    refine (sutf_any r _ HG.out).mono ?_
    rintro e w3 ⟨rfl, b3⟩
    have B3 : Hid (Below w.heap.size w w3) := Below.trans B2.out (b3.mono (Below.size B2.out))
    clear b3
    go_wp2_with fail
    refine (igood_yes HG.out _).mono ?_
    rintro e w4 ⟨rfl, rfl⟩
    go_wp2_with fail
    refine (good_yes HG.out _).mono ?_
    rintro e w5 ⟨rfl, rfl⟩
    go_wp2_with fail
    refine (igood_yes HG.out _).mono ?_
    rintro e w6 ⟨rfl, rfl⟩
    have n1x : ¬ 9223372036854775807 < (⟨#[97]⟩ : ByteArray).size + (encS r).size := by have : (⟨#[97]⟩ : ByteArray).size = 1 := rfl; omega
    have n2x : ¬ 9223372036854775807 < (⟨#[97]⟩ : ByteArray).size + (encS r).size + (⟨#[98]⟩ : ByteArray).size := by have : (⟨#[97]⟩ : ByteArray).size = 1 := rfl; have : (⟨#[98]⟩ : ByteArray).size = 1 := rfl; omega
    go_wp2_with fail
    refine (irat_one (wrapT (encS r)) _ (by have := HWS.out; omega) (by have := HWS.out; omega) (Tabs.below HT.out B3.out)).mono ?_
    rintro e w7 ⟨rfl, b7⟩
    rw [HRB.out.1, HRB.out.2]
    have B7 : Hid (Below w.heap.size w w7) := Below.trans B3.out (b7.mono (Below.size B3.out))
    clear b7 n1x n2x HRB HWS
    go_wp2_with fail
    go_loopw [13] (fun i wr => ∃ k : Nat, 1 ≤ k ∧ k ≤ (encS r).size ∧ i = .int .i64 k ∧ Below w7.heap.size w7 wr) (fun i _ => (encS r).size - (intOf i).toNat)
    case atStart => exact ⟨1, by omega, hes1, rfl, Below.refl _ _⟩
    case round =>
      obtain ⟨k, hk1, hk2, rfl, hbw⟩ := hrel
      have BW7 : Hid (Below w.heap.size w wr) := Below.trans B7.out (hbw.mono (Below.size B7.out))
      have HBW : Hid _ := hbw
      clear hbw
      by_cases hlt : k < (encS r).size
      · have hltI : (k : Int) < ((encS r).size : Int) := by omega
        have sl := slice_head (encS r) k (by omega)
        have HZ : Hid _ := head_size (encS r) k (by omega)
        have HPB2 : Hid _ := HPB.out k hk1 hlt
        have HPN2 : Hid _ := HPN.out k hk1 hlt
        generalize hgt : (encS r).extract 0 k = tt at *
        have HGT : Hid _ := hgt
        clear hgt
        have HZ0 : Hid (0 < tt.size) := by have := HZ.out; show 0 < tt.size; omega
        have HBEG : Hid (BegP tt.size (byt tt 0) (byt tt 1) (byt tt 2)) := by rw [HZ.out]; exact HPB2.out
        have HNW : Hid _ := not_whole tt HZ0.out HPN2.out
        have HSZ : Hid (tt.size ≤ 1000) := by have := HZ.out; show tt.size ≤ 1000; omega
        go_wp2_with fail
        refine (ibeg_yes tt _ (Tabs.below HT.out BW7.out) HZ0.out HBEG.out).mono ?_
        rintro e x1 ⟨rfl, f1⟩
        have F1 : Hid (Below w7.heap.size w7 x1) := Below.trans HBW.out (f1.mono (Below.size HBW.out))
        have FW1 : Hid (Below w.heap.size w x1) := Below.trans BW7.out (f1.mono (Below.size BW7.out))
        clear f1
        go_wp2_with fail
        refine (iwhole_any tt _ HSZ.out (Tabs.below HT.out FW1.out)).mono ?_
        rintro e x2 ⟨rfl, f2⟩
        rw [HNW.out]
        have F2 : Hid (Below w7.heap.size w7 x2) := Below.trans F1.out (f2.mono (Below.size F1.out))
        clear f2
        go_wp2
        go_roundw
        case rel => exact ⟨k + 1, by omega, by omega, by go_num, F2.out⟩
        case measure => simp [intOf]; omega
      · have BQ := BW7
        go_wp2_with fail
        refine (drunes_any a1 n1 c1 _ (ArgB.below HM.out BQ.out)).mono ?_
        rintro e y1 ⟨t, rfl, ht, d1⟩
        have D1 : Hid (Below w.heap.size w y1) := Below.trans BQ.out (d1.mono (Below.size BQ.out))
        have HT26 : Hid _ := ht
        have HT1000 : Hid (t.size ≤ 1000) := by show t.size ≤ 1000; omega
        have HLN : Hid ((runes t).length ≤ 1000) := by have := runes_len t; show (runes t).length ≤ 1000; omega
        have HLB : Hid ((runes t).length ≤ 1048576) := by have := HLN.out; show (runes t).length ≤ 1048576; omega
        have HTB : Hid _ := small_tB t ht
        have HTS : Hid _ := tS_yes (small_tB t ht)
        clear d1 BQ ht
        go_wp2_with fail
        refine (irunes_any t _ HT1000.out).mono ?_
        rintro e y2 ⟨vl, rfl, ol, d2⟩
        have OL2 : Hid _ := ol
        have D2 : Hid (Below w.heap.size w y2) := Below.trans D1.out (d2.mono (Below.size D1.out))
        obtain ⟨_, al, cl, rfl, il⟩ := ints_of_own ol
        have IL2 : Hid _ := il
        clear ol d2 il
        go_wp2_with fail
        refine (srunes_any t _ HT1000.out).mono ?_
        rintro e y3 ⟨vr, rfl, or', d3⟩
        have IL3 : Hid _ := IntsAt.below IL2.out d3
        have D3 : Hid (Below w.heap.size w y3) := Below.trans D2.out (d3.mono (Below.size D2.out))
        obtain ⟨_, ar, cr, rfl, ir⟩ := ints_of_own or'
        have IR3 : Hid _ := ir
        clear or' d3 ir
        go_wp2_with fail
        refine (same_any (runes t) _ _ _ _ _ HLB.out IL3.out IR3.out).mono ?_
        rintro e y4 ⟨rfl, d4⟩
        have IL4 : Hid _ := IntsAt.below IL3.out d4
        have D4 : Hid (Below w.heap.size w y4) := Below.trans D3.out (d4.mono (Below.size D3.out))
        clear d4
        obtain ⟨wb, hwb⟩ : ∃ wb : Bool, ((textS (runes t)).toList == t.toList) = wb := ⟨_, rfl⟩
        have HWB : Hid _ := hwb
        clear hwb
        go_wp2_with fail
        refine (iwhole_any t _ HT1000.out (Tabs.below HT.out D4.out)).mono ?_
        rintro e y5 ⟨rfl, d5⟩
        rw [HWB.out]
        have IL5 : Hid _ := IntsAt.below IL4.out d5
        have D5 : Hid (Below w.heap.size w y5) := Below.trans D4.out (d5.mono (Below.size D4.out))
        clear d5
        go_wp2_with fail
        refine (swhole_any t _ HT1000.out).mono ?_
        rintro e y6 ⟨rfl, d6⟩
        rw [HWB.out]
        have IL6 : Hid _ := IntsAt.below IL5.out d6
        have D6 : Hid (Below w.heap.size w y6) := Below.trans D5.out (d6.mono (Below.size D5.out))
        clear d6
        go_wp2_with fail
        go_loopw [19] (fun i wr => ∃ (p f m : Nat), i = .int .i64 m ∧ wr.heap[y6.heap.size]? = some (.stringIter t p) ∧ m + (runesFrom t f p).length = (runes t).length ∧ t.size ≤ p + f ∧ Below y6.heap.size y6 wr) (fun _ wr => t.size - wr.iterPos y6.heap.size)
        case atStart =>
          refine ⟨0, t.size, 0, rfl, World.iter_heap y6 t 0, ?_, by omega, (Below.refl _ _).alloc (Nat.le_refl _) (.stringIter t 0)⟩
          rw [Nat.zero_add]; rfl
        case round =>
          obtain ⟨p, f, m, rfl, hit, hmm, hf, hbw⟩ := hrel
          have HMM : Hid _ := hmm
          have hml : m ≤ 1000 := by have := HLN.out; omega
          clear hmm
          have hsz : y6.heap.size < wr.heap.size := (Array.getElem?_eq_some_iff.1 hit).1
          by_cases hlt : p < t.size
          · have hnx : ∀ ty, (Instr.next (.pointer (some ⟨y6.heap.size, 0, none⟩)) true ty).run Tryd.prog wr = _ := fun ty => Lib.run_next_any_at wr y6.heap.size t p ty hit hlt
            obtain ⟨f, rfl⟩ : ∃ f', f = f' + 1 := ⟨f - 1, by omega⟩
            have HS : Hid (runesFrom t (f + 1) p = decR t p :: runesFrom t f (p + decW t p)) := by show runesFrom t (f + 1) p = _; rw [runesFrom, if_pos hlt]
            have hw := decW_pos t p hlt
            have hw' : 1 ≤ (Utf8.decode t p).2 ∧ (Utf8.decode t p).2 ≤ 4 ∧ p + (Utf8.decode t p).2 ≤ t.size := hw
            have HS' : Hid (runesFrom t (f + 1) p = decR t p :: runesFrom t f (p + (Utf8.decode t p).2)) := HS.out
            have hit2 := Lib.iterAt_heap wr y6.heap.size t p (p + (Utf8.decode t p).2) hit
            have hbw2 := Lib.below_iterAt hbw (k := y6.heap.size) (Nat.le_refl _) t (p + (Utf8.decode t p).2)
            have HI2 : Hid _ := hit2
            have HB2 : Hid _ := hbw2
            have HP : Hid (wr.iterPos y6.heap.size = p ∧ (wr.iterAt y6.heap.size t (p + (Utf8.decode t p).2)).iterPos y6.heap.size = p + (Utf8.decode t p).2) := by
              show _ ∧ _
              simp only [World.iterPos, hit, hit2]
              exact ⟨trivial, trivial⟩
            clear HS hw hit2 hbw2
            generalize (Utf8.decode t p).1 = r1 at *
            generalize (Utf8.decode t p).2 = d at *
            go_wp2
            go_roundw
            case rel => exact ⟨p + d, f, m + 1, by go_num, HI2.out, by have := HMM.out; rw [HS'.out, List.length_cons] at this; omega, by omega, HB2.out⟩
            case measure => rw [HP.out.1, HP.out.2]; omega
          · have hnx : ∀ ty, (Instr.next (.pointer (some ⟨y6.heap.size, 0, none⟩)) true ty).run Tryd.prog wr = _ := fun ty => Lib.run_next_end_at wr y6.heap.size t p ty hit hlt
            obtain rfl : m = (runes t).length := by have := HMM.out; rw [runesFrom_end t f p hlt] at this; simpa using this
            have IL7 : Hid _ := IntsAt.below IL6.out hbw
            have D7 : Hid (Below w.heap.size w wr) := Below.trans D6.out (hbw.mono (Below.size D6.out))
            clear hbw
            go_wp2_with fail
            refine (itext_any (runes t) _ _ _ HLN.out IL7.out (Tabs.below HT.out D7.out)).mono ?_
            rintro e y8 ⟨rfl, d8⟩
            rw [HTB.out, HTS.out]
            have D8 : Hid (Below w.heap.size w y8) := Below.trans D7.out (d8.mono (Below.size D7.out))
            clear d8 hit hnx hsz
            have hwb := HWB.out
            go_wp2_with fail
            refine (iwhole_any t _ HT1000.out (Tabs.below HT.out D8.out)).mono ?_
            rintro e y9 ⟨rfl, d9⟩
            rw [HWB.out]
            have D9 : Hid (Below w.heap.size w y9) := Below.trans D8.out (d9.mono (Below.size D8.out))
            clear d9
            go_wp2_with fail
            clear hwb
            refine (dbeg_any a1 n1 c1 _ (ArgB.below HM.out D9.out)).mono ?_
            rintro e z1 ⟨u, rfl, e1⟩
            have E1 : Hid (Below w.heap.size w z1) := Below.trans D9.out (e1.mono (Below.size D9.out))
            clear e1
            go_wp2_with fail
            refine (drat_any a1 n1 c1 _ (ArgB.below HM.out E1.out)).mono ?_
            rintro e z2 ⟨v, q, rfl, hv, e2⟩
            have E2 : Hid (Below w.heap.size w z2) := Below.trans E1.out (e2.mono (Below.size E1.out))
            obtain ⟨rx, ry, rz, hi1, hi2⟩ := rat_both v (by omega) q
            have RI : Hid _ := hi1
            have RS : Hid _ := hi2
            clear e2 hi1 hi2 hv
            go_wp2_with fail
            refine (RI.out _ (Tabs.below HT.out E2.out)).mono ?_
            rintro e z3 ⟨rfl, e3⟩
            have E3 : Hid (Below w.heap.size w z3) := Below.trans E2.out (e3.mono (Below.size E2.out))
            clear e3
            go_wp2_with fail
            refine (RS.out _).mono ?_
            rintro e z4 ⟨rfl, e4⟩
            have E4 : Hid (Below w.heap.size w z4) := Below.trans E3.out (e4.mono (Below.size E3.out))
            clear e4 RI RS
            go_wp2_with fail
            refine (dtext_any a1 n1 c1 _ (ArgB.below HM.out E4.out)).mono ?_
            rintro e z5 ⟨vt, L, rfl, hL, ot, e5⟩
            have E5 : Hid (Below w.heap.size w z5) := Below.trans E4.out (e5.mono (Below.size E4.out))
            obtain ⟨_, at', ct, rfl, it⟩ := ints_of_own ot
            have IT5 : Hid _ := it
            clear e5 ot it
            go_wp2_with fail
            refine (itext_any L _ _ _ (by omega) IT5.out (Tabs.below HT.out E5.out)).mono ?_
            rintro e z6 ⟨rfl, e6⟩
            have E6 : Hid (Below w.heap.size w z6) := Below.trans E5.out (e6.mono (Below.size E5.out))
            have IT6 : Hid _ := IntsAt.below IT5.out e6
            clear e6
            go_wp2_with fail
            refine (stext_any L _ _ _ (by omega) IT6.out).mono ?_
            rintro e z7 ⟨rfl, e7⟩
            have E7 : Hid (Below w.heap.size w z7) := Below.trans E6.out (e7.mono (Below.size E6.out))
            clear e7
            obtain ⟨bb, hb1, hb2⟩ := LawIsBegun.both u
            have HB1 : Hid _ := hb1
            have HB2 : Hid _ := hb2
            clear hb1 hb2
            go_wp2_with fail
            refine (HB2.out _ (Tabs.below HT.out E7.out)).mono ?_
            rintro e z8 ⟨rfl, e8⟩
            have E8 : Hid (Below w.heap.size w z8) := Below.trans E7.out (e8.mono (Below.size E7.out))
            clear e8
            go_wp2_with fail
            refine (LawIsBegun.sbeg_of u _ _ HB1.out).mono ?_
            rintro e z9 ⟨rfl, e9⟩
            have E9 : Hid (Below w.heap.size w z9) := Below.trans E8.out (e9.mono (Below.size E8.out))
            clear e9
            go_wp2
            go_ret
            exact ⟨rfl, E9.out⟩
set_option maxRecDepth 100000 in
set_option maxHeartbeats 1000000 in
theorem walk_big (a0 : Option Addr) (n0 c0 : Nat) (a1 : Option Addr) (n1 c1 : Nat) (w : World) (h : (1048576 : Int) < n0 ∨ ((n0 : Int) ≤ 1048576 ∧ (1048576 : Int) - n0 < n1)) :
    Calls Tryd.prog 3 #[.slice a0 n0 c0, .slice a1 n1 c1] w fun e w' => e = .returned (.bool true) ∧ Below w.heap.size w w' := by
  rcases h with h | ⟨h1, h2⟩
  · go_enter Tryd.func3, Tryd.ntmps3
    go_wp2_with (first | (go_at_call 9; go_in) | fail)
    go_ret
    exact ⟨rfl, Below.refl _ _⟩
  · have h1' : ¬ (1048576 : Int) < (n0 : Int) := by omega
    go_enter Tryd.func3, Tryd.ntmps3
    go_wp2_with (first | (go_at_call 9; go_in) | fail)
    go_ret
    exact ⟨rfl, Below.refl _ _⟩
theorem walk (a0 : Option Addr) (n0 c0 : Nat) (a1 : Option Addr) (n1 c1 : Nat) (w : World) (hA : ArgB w a0 n0) (hM : ArgB w a1 n1) (hT : Tabs w) :
    Calls Tryd.prog 3 #[.slice a0 n0 c0, .slice a1 n1 c1] w fun e w' => e = .returned (.bool true) ∧ Below w.heap.size w w' := by
  by_cases h : (1048576 : Int) < n0 ∨ ((n0 : Int) ≤ 1048576 ∧ (1048576 : Int) - n0 < n1)
  · exact walk_big a0 n0 c0 a1 n1 c1 w h
  · exact walk_in a0 n0 c0 a1 n1 c1 w hA hM hT (by omega) (by omega)
theorem arg_of {H : Type} {enc : TypeId × Value → H} {W : World} {a : Option Addr} {len cap : Nat} {x : DataW H × List MemPlace} {base : Nat} {held : Bool} {fuel : Nat}
    (hf : DataW.trod enc Tryd.prog W base (fun _ => true) held fuel 22 (Value.cells (.slice a len cap)).toList = some x) : ArgB W a len := by
  rcases open_ints Tryd.underlying22 Tryd.underlying5 (by kernel_rfl) hf with ⟨hcs, _⟩ | ⟨y, l, c, zs, hcs, _, hl, hm, hz, _, hcell, hwz⟩
  · simp [Value.cells] at hcs
    obtain ⟨rfl, rfl, rfl⟩ := hcs
    exact fun j hj => absurd hj (by omega)
  · simp [Value.cells] at hcs
    obtain ⟨rfl, rfl, rfl⟩ := hcs
    have hz' : zs.length = cap := by simpa using hz
    intro j hj
    obtain ⟨b, off, rfl, hc⟩ := ints_at hcell (by omega)
    have hcj := hc j (by omega)
    have hw := bounds_u8 (hwz (zs.getD j 0) (by simp [List.getD, show j < zs.length by omega]))
    exact ⟨b, off, zs.getD j 0, rfl, World.block_lt_of_cell? W _ hcj, hcj, by omega, by omega⟩
set_option maxRecDepth 100000 in
theorem lifted (os : Os) (started : os.Started) (H : Type) (enc : TypeId × Value → H) :
    ReturnsInHanded {} Tryd.checked os 3 .any (fun w args => (Rows.fnUtf8Spec.pre enc Tryd.prog Tryd.f3 [] false w args ∧ laidMetH Tryd.prog laid2 w) ∧ sizedMet enc Tryd.prog Tryd.f3 (OpenSpec.ofChange Rows.fnUtf8Spec) false w args)
      (Rows.fnUtf8Spec.post enc Tryd.prog Tryd.f3 false true false false) := by
  refine returnsInHanded_of_change_and (C := Tryd.checked) (X := fun w _ => laidMetH Tryd.prog laid2 w) (fun _ _ _ hh h => h.of_heap hh) own started (by kernel_rfl) Tryd.func3
    (ChangeSpec.witness_shaped (enc := enc) (C := Tryd.checked) (os := os) (X := fun w _ => laidMetH Tryd.prog laid2 w) false (World.doorLaid Tryd.prog 400 os) #[.slice none 0 0, .slice none 0 0] 8 rfl (World.shaped_of_RefB (by kernel_rfl) (by kernel_rfl)) (by kernel_rfl) (by kernel_rfl) (by kernel_rfl) (door_met os _)) ?_
  intro W base args ds gs before hval0 hW _ _ hL _
  have hval : ∀ (j : Nat) t v, Tryd.f3.params[j]? = some t → args[j]? = some v → Value.okWide Tryd.prog W .any base t v := hval0
  have hW' := hW
  obtain ⟨p, q, hA0, hV0, rfl, hfz, hnd⟩ := hW
  have hA : DataW.TrodAll enc Tryd.prog W 0 (fun _ => true) true Tryd.f3.params.toList args.toList ds p := hA0
  have hV : DataW.TrodVars enc Tryd.prog W (fun _ => true) vars2 gs q := hV0
  rw [Tryd.params3] at hA hval
  obtain ⟨v0, vs0, d0, ds0, p0, q0, hargs, rfl, rfl, h0, r0⟩ := trodAll_cons hA
  obtain ⟨v1, vs1, d1, ds1, p1, q1, rfl, rfl, rfl, h1, r1⟩ := trodAll_cons r0
  obtain ⟨rfl, rfl, rfl⟩ := trodAll_nil r1
  obtain rfl : args = #[v0, v1] := by cases args; simp_all
  obtain ⟨g, t, cs, fuel, d, q1, g', t', cs', fuel', d', q2, rfl, _⟩ := trodVars_two hV
  obtain ⟨a0, len0, cap0, rfl⟩ := okWide_slice Tryd.underlying22 (hval 0 22 v0 rfl rfl)
  have k0 := h0
  have lt0 : ∀ x ∈ p0, x.block < W.heap.size := by obtain ⟨m, hm⟩ := k0; exact DataW.trod_lt m _ _ _ hm
  have i0 : ArgB W a0 len0 := by obtain ⟨fuel, hf⟩ := h0; exact arg_of hf
  obtain ⟨a1, len1, cap1, rfl⟩ := okWide_slice Tryd.underlying22 (hval 1 22 v1 rfl rfl)
  have k1 := h1
  have lt1 : ∀ x ∈ p1, x.block < W.heap.size := by obtain ⟨m, hm⟩ := k1; exact DataW.trod_lt m _ _ _ hm
  have i1 : ArgB W a1 len1 := by obtain ⟨fuel, hf⟩ := h1; exact arg_of hf
  clear hA0 hval0
  refine (walk a0 len0 cap0 a1 len1 cap1 W i0 i1 (tabs_of_laid hL)).mono fun e W' ⟨he, bel⟩ => ?_
  subst he
  exact ⟨_, rfl, _, _, _, [], _, q, hW', trodAll_mk1 (shut_bool Tryd.underlying4 _), (trodAll_cons_mk (Below.trod laidOut (by kernel_rfl) (of_decide_eq_true (by kernel_rfl)) k0 bel lt0) (trodAll_cons_mk (Below.trod laidOut (by kernel_rfl) (of_decide_eq_true (by kernel_rfl)) k1 bel lt1) trodAll_mk0)), bel.trodVars laidOut (by kernel_rfl) hV, bel.frame _, fun h => by cases h⟩
theorem row : Rows.FnUtf8Said :=
  OpenClaim.holds_of_wide 3 Tryd.f3 rfl rfl rfl rfl rfl rfl rfl ⟨rfl, rfl, rfl, rfl, rfl⟩ rfl rfl rfl rfl rfl (by kernel_rfl) Tryd.func3 (by kernel_rfl)
    (of_decide_eq_true (by kernel_rfl)) (by unfold Func.isWrapper; first | (rw [if_pos (by decide +kernel)]; kernel_rfl) | (rw [if_neg (by decide +kernel)]; exact ⟨rfl, rfl⟩))
    (fun os started H enc _ => lifted os started H enc)
end LawUtf8
theorem utf8_card : Rows.FnUtf8CardSaid :=
  Claim7.holds_tied_plain_at .later [] [.data, .data] true Rows.fnUtf8Card.stood.harness false
    LawUtf8.row (fun _ h => by cases h) (by kernel_rfl) (fun _ h => by cases h) fnUtf8_row_tie rfl ⟨rfl, rfl⟩ (by kernel_rfl) rfl
    (fun f fn hf hfn => by
      obtain rfl : f = 3 := Option.some.inj ((show Tryd.prog.funcNamed "loop.example/g00692/laws.FnUtf8" = some 3 by kernel_rfl).symm.trans hf) |>.symm
      obtain rfl : fn = Tryd.f3 := (Option.some.inj (Tryd.func3.symm.trans hfn)).symm
      exact ⟨by kernel_rfl, fun j t ht => by
        rw [Tryd.params3] at ht
        have hm : t ∈ [22, 22] := by simpa using Array.mem_of_getElem? ht
        have hall : ([22, 22].all fun u => !Tryd.prog.wantsStandIn u) = true := by kernel_rfl
        exact (show Tryd.prog.wantsStandIn t = false by simpa using List.all_eq_true.1 hall t hm)⟩)
    (by kernel_rfl)
#print axioms utf8_card
end Go.Proofs.YtflgdfkcgkibgaaDoor

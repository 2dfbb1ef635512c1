/-
  Contract of spec.EncodeAll.
-/
import Derived.Test.YtcclollclbegoaaDoorD2Put
import Derived.Test.YtcclollclbegoaaDoorAlls
namespace Go.Proofs.YtcclollclbegoaaDoor
open Go.ChangeShapes Go.WideShapes Go.ChangeAt Go.RowKit
/-- What writing tells: the text, the number of the first rune that can't be written, whether. -/
structure EncR where
  s : ByteArray
  k : Int
  ok : Bool
def encEnd (sh : Int) (s : ByteArray) : EncR :=
  if (if sh = 1 then s ++ strOfNums [15] else s).size ≤ 1000 then ⟨if sh = 1 then s ++ strOfNums [15] else s, -1, true⟩ else ⟨⟨#[]⟩, 0, false⟩
def encGo (en : Int) : List Int → Nat → Int → ByteArray → EncR
  | [], _, sh, s => encEnd sh s
  | r :: L, k, sh, s => if (putS en sh r).ok then encGo en L (k + 1) (putS en sh r).sh (s ++ (putS en sh r).s) else ⟨⟨#[]⟩, k, true⟩
def encA (en : Int) (L : List Int) : EncR := if codeB en && (allG L && decide (L.length ≤ 1000)) then encGo en L 0 0 ⟨#[]⟩ else ⟨⟨#[]⟩, 0, false⟩
theorem drop_getD (L : List Int) (k : Nat) (h : k < L.length) : L.drop k = L.getD k 0 :: L.drop (k + 1) := by
  rw [List.drop_eq_getElem_cons h]; simp [List.getD, h]
set_option maxRecDepth 100000 in
set_option maxHeartbeats 1000000 in
theorem enc_bad (en : Int) (L : List Int) (ao : Option Addr) (cap : Nat) (w : World) (hc : codeB en = false) :
    Calls Tryd.prog 21 #[.int .i64 en, .slice ao L.length cap] w fun e w' => e = .returned (.tuple #[.string (encA en L).s, .int .i64 (encA en L).k, .bool (encA en L).ok]) ∧ Below w.heap.size w w' := by
  rw [show encA en L = ⟨⟨#[]⟩, 0, false⟩ from by simp [encA, hc]]
  have HC : Hid _ := hc
  clear hc
  go_enter Tryd.func21, Tryd.ntmps21
  go_wp2_with (go_at_call 41; refine (code_any _ _).mono ?_; rintro e w1 ⟨rfl, rfl⟩; rw [HC.out])
  go_ret3
  exact ⟨rfl, Below.refl _ _⟩
set_option maxRecDepth 100000 in
set_option maxHeartbeats 1000000 in
theorem enc_not (en : Int) (L : List Int) (ao : Option Addr) (cap : Nat) (w : World) (hc : codeB en = true) (hl : L.length ≤ 1048576) (hA : IntsAt w ao L) (hn : (allG L && decide (L.length ≤ 1000)) = false) :
    Calls Tryd.prog 21 #[.int .i64 en, .slice ao L.length cap] w fun e w' => e = .returned (.tuple #[.string (encA en L).s, .int .i64 (encA en L).k, .bool (encA en L).ok]) ∧ Below w.heap.size w w' := by
  rw [show encA en L = ⟨⟨#[]⟩, 0, false⟩ from by rw [encA, hn, Bool.and_false]; rfl]
  have HC : Hid _ := hc
  have HN : Hid _ := hn
  have HA : Hid _ := hA
  have HL : Hid _ := hl
  clear hc hn hA hl
  go_enter Tryd.func21, Tryd.ntmps21
  go_wp2_with (first | (go_at_call 41; refine (code_any _ _).mono ?_; rintro e w1 ⟨rfl, rfl⟩; rw [HC.out]) | (go_at_call 57; refine (all_any L ao cap _ HL.out HA.out).mono ?_; rintro e w2 ⟨rfl, b2⟩; rw [HN.out]))
  go_ret3
  exact ⟨rfl, b2⟩
set_option maxRecDepth 100000 in
set_option maxHeartbeats 2000000 in
theorem enc_yes (en : Int) (L : List Int) (ao : Option Addr) (cap : Nat) (w : World) (hc : codeB en = true) (hA : IntsAt w ao L) (hn : (allG L && decide (L.length ≤ 1000)) = true) :
    Calls Tryd.prog 21 #[.int .i64 en, .slice ao L.length cap] w fun e w' => e = .returned (.tuple #[.string (encA en L).s, .int .i64 (encA en L).k, .bool (encA en L).ok]) ∧ Below w.heap.size w w' := by
  have HF : Hid (encA en L = encGo en (L.drop 0) 0 0 ⟨#[]⟩) := by show _ = _; rw [encA, hc, hn]; rfl
  have hn2 := hn
  rw [Bool.and_eq_true] at hn2
  have HG : Hid _ := allG_true hn2.1
  have hl : L.length ≤ 1000 := of_decide_eq_true hn2.2
  generalize encA en L = F at *
  have HC : Hid _ := hc
  have HN : Hid _ := hn
  have HA : Hid _ := hA
  clear hc hn hA hn2
  go_enter Tryd.func21, Tryd.ntmps21
  go_wp2_with (first | (go_at_call 41; refine (code_any _ _).mono ?_; rintro e w1 ⟨rfl, rfl⟩; rw [HC.out]) | (go_at_call 57; refine (all_any L ao cap _ (by omega) HA.out).mono ?_; rintro e w2 ⟨rfl, b2⟩; rw [HN.out]))
  go_loopw [7, 8, 24] (fun sv hv iv wr => ∃ (k : Nat) (s : ByteArray) (sh : Int), k ≤ L.length ∧ sv = .string s ∧ hv = .int .i64 sh ∧ iv = .int .i64 k ∧ s.size ≤ 4 * k ∧ F = encGo en (L.drop k) k sh s ∧ Below w1.heap.size w1 wr) (fun _ _ i _ => L.length - (intOf i).toNat)
  case atStart => exact ⟨0, ⟨#[]⟩, 0, Nat.zero_le _, rfl, rfl, rfl, Nat.zero_le _, HF.out, b2⟩
  case round =>
    obtain ⟨k, s, sh, hk, rfl, rfl, rfl, hsz, hF, hbw⟩ := hrel
    have HE : Hid _ := hF
    clear hF
    by_cases hlt : k < L.length
    · have hltI : (k : Int) < (L.length : Int) := by omega
      obtain ⟨b1, o1, rfl, l1, h1⟩ := HA.out k hlt
      have g1 : wr.cell? ⟨b1, o1 + k, none⟩ = some (.int .i64 (L.getD k 0)) := (hbw.cell (p := ⟨b1, o1 + k, none⟩) l1).trans h1
      have HGR : Hid _ := goodB_true (HG.out (L.getD k 0) (by simp [List.getD, hlt]))
      have HD : Hid _ := drop_getD L k hlt
      clear h1
      generalize L.getD k 0 = r at *
      have HP : Hid (∀ w : World, _) := fun w => put_any en sh r w HGR.out.1 HGR.out.2.1
      have hps := putS_size en sh r
      have HR : Hid (F = if (putS en sh r).ok then encGo en (L.drop (k + 1)) (k + 1) (putS en sh r).sh (s ++ (putS en sh r).s) else ⟨⟨#[]⟩, k, true⟩) := by show _ = _; rw [HE.out, HD.out]; rfl
      generalize putS en sh r = R at *
      have hcat : ¬ 9223372036854775807 < s.size + R.s.size := by omega
      cases hok : R.ok
      · have hF : F = ⟨⟨#[]⟩, k, true⟩ := by rw [HR.out, hok]; rfl
        rw [hok] at HP
        have HF2 : Hid _ := hF
        clear hok hF
        go_wp2_with fail
        refine (HP.out _).mono ?_
        rintro e w3 ⟨rfl, b3⟩
        go_wp2
        go_ret3
        exact ⟨by rw [HF2.out]; rfl, hbw.trans (b3.mono hbw.size)⟩
      · have hF : F = encGo en (L.drop (k + 1)) (k + 1) R.sh (s ++ R.s) := by rw [HR.out, hok]; rfl
        rw [hok] at HP
        have HF2 : Hid _ := hF
        clear hok hF
        go_wp2_with fail
        refine (HP.out _).mono ?_
        rintro e w3 ⟨rfl, b3⟩
        go_wp2
        have hsz2 := ByteArray.size_append (a := s) (b := R.s)
        go_roundw
        case rel => exact ⟨k + 1, s ++ R.s, R.sh, by omega, rfl, rfl, by go_num, by omega, HF2.out, hbw.trans (b3.mono hbw.size)⟩
        case measure => simp [intOf]; omega
    · obtain rfl : k = L.length := by omega
      have hF : F = encEnd sh s := by rw [HE.out, List.drop_length]; rfl
      have c1 := conv_1
      by_cases hsh : sh = 1
      · subst hsh
        have hz15 : (s ++ strOfNums [15]).size = s.size + 1 := by rw [ByteArray.size_append, strOf_size]; rfl
        have hcat : ¬ 9223372036854775807 < s.size + (strOfNums [15]).size := by rw [strOf_size]; simp; omega
        by_cases hlong : s.size + 1 ≤ 1000
        · have hF2 : F = ⟨s ++ strOfNums [15], -1, true⟩ := by rw [hF]; simp [encEnd, hz15, hlong]
          have HF2 : Hid _ := hF2
          have hlI : ¬ (1000 : Int) < ((s ++ strOfNums [15]).size : Int) := by omega
          clear hF hF2
          go_wp2
          go_ret3
          exact ⟨by rw [HF2.out]; rfl, hbw.alloc hbw.size _⟩
        · have hF2 : F = ⟨⟨#[]⟩, 0, false⟩ := by rw [hF]; simp [encEnd, hz15, hlong]
          have HF2 : Hid _ := hF2
          have hlI : (1000 : Int) < ((s ++ strOfNums [15]).size : Int) := by omega
          clear hF hF2
          go_wp2
          go_ret3
          exact ⟨by rw [HF2.out]; rfl, hbw.alloc hbw.size _⟩
      · have n1 : (sh == 1) = false := by rw [beq_eq_false_iff_ne]; exact hsh
        by_cases hlong : s.size ≤ 1000
        · have hF2 : F = ⟨s, -1, true⟩ := by rw [hF]; simp [encEnd, hsh, hlong]
          have HF2 : Hid _ := hF2
          have hlI : ¬ (1000 : Int) < (s.size : Int) := by omega
          clear hF hF2 hsh
          go_wp2
          go_ret3
          exact ⟨by rw [HF2.out]; rfl, hbw⟩
        · have hF2 : F = ⟨⟨#[]⟩, 0, false⟩ := by rw [hF]; simp [encEnd, hsh, hlong]
          have HF2 : Hid _ := hF2
          have hlI : (1000 : Int) < (s.size : Int) := by omega
          clear hF hF2 hsh
          go_wp2
          go_ret3
          exact ⟨by rw [HF2.out]; rfl, hbw⟩
theorem enc_any (en : Int) (L : List Int) (ao : Option Addr) (cap : Nat) (w : World) (hl : L.length ≤ 1048576) (hA : IntsAt w ao L) :
    Calls Tryd.prog 21 #[.int .i64 en, .slice ao L.length cap] w fun e w' => e = .returned (.tuple #[.string (encA en L).s, .int .i64 (encA en L).k, .bool (encA en L).ok]) ∧ Below w.heap.size w w' := by
  cases hc : codeB en
  · exact enc_bad en L ao cap w hc
  · cases hn : (allG L && decide (L.length ≤ 1000))
    · exact enc_not en L ao cap w hc hl hA hn
    · exact enc_yes en L ao cap w hc hA hn
end Go.Proofs.YtcclollclbegoaaDoor

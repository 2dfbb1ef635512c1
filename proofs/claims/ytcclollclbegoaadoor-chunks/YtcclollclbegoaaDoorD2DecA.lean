/-
  Contracts of spec.l2Decode and spec.DecodeAll.
-/
import Derived.Test.YtcclollclbegoaaDoorRowAp
namespace Go.Proofs.YtcclollclbegoaaDoor
open Go.ChangeShapes Go.WideShapes Go.ChangeAt Go.RowKit
theorem feedU_hsz (en : Int) : ∀ (f : Nat) (x : ByteArray), (feedU en f x).2.2.size ≤ x.size
  | 0, x => Nat.le_refl _
  | f + 1, x => by
    unfold feedU
    split
    · exact Nat.le_refl _
    · split
      · exact Nat.le_refl _
      · have h := feedU_hsz en f (x.extract (oneS en x).2 x.size)
        rw [ByteArray.size_extract] at h
        show (feedU en f (x.extract (oneS en x).2 x.size)).2.2.size ≤ x.size
        omega
theorem feedD_sizes (en sh lo : Int) (held s : ByteArray) (hs : s.size ≤ 1000) (hh : held.size ≤ 3) : (feedD en sh lo held s).held.size ≤ 1003 ∧ (feedD en sh lo held s).rs.length ≤ 1003 ∧ (feedD en sh lo held s).ls.length ≤ 1003 := by
  unfold feedD
  split
  · have h := feedB_len en s.data.toList sh lo
    have e : s.data.toList.length = s.size := by simp
    refine ⟨?_, ?_, ?_⟩
    · show held.size ≤ _; omega
    · show (feedB en s.data.toList sh lo).1.length ≤ _; omega
    · show (feedB en s.data.toList sh lo).2.1.length ≤ _; omega
  · have h := feedU_len en (held ++ s).size (held ++ s)
    have h' := feedU_hsz en (held ++ s).size (held ++ s)
    have e := ByteArray.size_append (a := held) (b := s)
    refine ⟨?_, ?_, ?_⟩
    · show (feedU en (held ++ s).size (held ++ s)).2.2.size ≤ _; omega
    · show (feedU en (held ++ s).size (held ++ s)).1.length ≤ _; omega
    · show (feedU en (held ++ s).size (held ++ s)).2.1.length ≤ _; omega
theorem goodD_new (en : Int) (h : codeB en = true) : goodD en 0 0 ⟨#[]⟩ = true := by
  unfold goodD
  rw [h]
  have : (⟨#[]⟩ : ByteArray).size = 0 := rfl
  simp [this]
set_option maxRecDepth 100000 in
set_option maxHeartbeats 1000000 in
theorem decode_any (en : Int) (s : ByteArray) (w : World) (hc : codeB en = true) (hs : s.size ≤ 1000) (R : FedR) (hR : feedD en 0 0 ⟨#[]⟩ s = R) (hh : R.held.size ≤ 2000) (n1 : R.rs.length ≤ 2000) (n2 : R.ls.length ≤ 2000) (F : List Int) (hF : flushN (unitsB en) R.held.size R.held.size = F) :
    Calls Tryd.prog 59 #[.int .i64 en, .string s] w fun e w' => ∃ v1 v2, e = .returned (.tuple #[v1, v2]) ∧ Two w.heap.size w' v1 (R.rs ++ bads F.length) v2 (R.ls ++ F) ∧ Below w.heap.size w w' := by
  obtain ⟨i0, hi, hz0, hz1, hz2⟩ := info_parts Tryd.info3
  have H1 : Hid (∀ w : World, _) := fun w => feed_any en 0 0 ⟨#[]⟩ s w (goodD_new en hc) hs
  rw [hR] at H1
  have H2 : Hid (∀ w : World, _) := fun w => flush_any en R.sh R.lo R.held w hh
  rw [hF] at H2
  have n3 : F.length ≤ 2000 := by have := flushN_len (unitsB en) R.held.size R.held.size; rw [hF] at this; omega
  clear hc hs hR hF hh
  go_enter Tryd.func59, Tryd.ntmps59
  go_wp2_with fail
  refine (H1.out _).mono ?_
  rintro e w1 ⟨v1, v2, rfl, T1, b1⟩
  go_wp2_with fail
  refine (H2.out _).mono ?_
  rintro e w2 ⟨v3, v4, rfl, T2, b2⟩
  have T1' := ((T1.alloc (.cells #[.int .i64 en, .int .i64 R.sh, .int .i64 R.lo, .string R.held] 25)).below b2).alloc (.cells #[.int .i64 en, .int .i64 R.sh, .int .i64 R.lo, .string ⟨#[]⟩] 25)
  have T2' := T2.alloc (.cells #[.int .i64 en, .int .i64 R.sh, .int .i64 R.lo, .string ⟨#[]⟩] 25)
  have hb2 := ((b1.alloc b1.size _).trans (b2.mono (by have := b1.size; simp; omega))).alloc (by have := b1.size; have := b2.size; simp at this ⊢; omega) (.cells #[.int .i64 en, .int .i64 R.sh, .int .i64 R.lo, .string ⟨#[]⟩] 25)
  have far : v4.ownBlock = none ∨ v4.ownBlock ≠ v1.ownBlock := by
    cases h4 : v4.ownBlock with
    | none => exact .inl rfl
    | some g =>
      refine .inr (fun e => ?_)
      have a1 := (T1.a.lt g e.symm).2
      have a2 := (T2.b.lt g h4).1
      simp at a2
      omega
  have hsz := hb2.size
  clear T1 T2 b1 b2
  go_wp2_with (at_builtin; refine wpList_append_row _ rfl _ _ 28 rfl w.heap.size 3 i0 (.int .i64 0) 1 8 Tryd.underlying28 hi hz0 hz1 hz2 rfl (by decide) _ _ _ rfl T1'.a _ _ _ _ rfl T2'.a (ints_one _) ?c3 ?c4 ?c5 ?_)
  case c3 => rw [bads_len]; unfold maxLen; omega
  case c4 => rw [bads_len]; omega
  case c5 => exact hsz
  intro v1' w3 hown3 hgrow hat
  have T3 := T1'.push (M := bads F.length) hown3 rfl hgrow (by simpa using hat)
  have hv4 := T2'.b.kept hgrow far
  have hb3 := Below.grown_row hb2 T1'.a hgrow hsz (Nat.le_refl _)
  clear hown3 hgrow hat T1' T2' hb2 hsz far
  have hsz := hb3.size
  go_wp2_with (at_builtin; refine wpList_append_row _ rfl _ _ 28 rfl w.heap.size 3 i0 (.int .i64 0) 1 8 Tryd.underlying28 hi hz0 hz1 hz2 rfl (by decide) _ _ _ rfl T3.b _ _ _ _ rfl hv4 (ints_one _) ?c3 ?c4 ?c5 ?_)
  case c3 => unfold maxLen; omega
  case c4 => omega
  case c5 => exact hsz
  intro v2' w4 hown4 hgrow hat
  have T4 := (T3.swap.push (M := F) hown4 rfl hgrow hat).swap
  have hb4 := Below.grown_row hb3 T3.b hgrow hsz (Nat.le_refl _)
  go_wp2
  go_ret2
  exact ⟨v1', v2', rfl, T4, hb4⟩
/-- What all bytes at once become. -/
def decRs (en : Int) (s : ByteArray) : List Int := (feedD en 0 0 ⟨#[]⟩ s).rs ++ bads (flushN (unitsB en) (feedD en 0 0 ⟨#[]⟩ s).held.size (feedD en 0 0 ⟨#[]⟩ s).held.size).length
def decLs (en : Int) (s : ByteArray) : List Int := (feedD en 0 0 ⟨#[]⟩ s).ls ++ flushN (unitsB en) (feedD en 0 0 ⟨#[]⟩ s).held.size (feedD en 0 0 ⟨#[]⟩ s).held.size
theorem decode_all (en : Int) (s : ByteArray) (w : World) (hc : codeB en = true) (hs : s.size ≤ 1000) :
    Calls Tryd.prog 59 #[.int .i64 en, .string s] w fun e w' => ∃ v1 v2, e = .returned (.tuple #[v1, v2]) ∧ Two w.heap.size w' v1 (decRs en s) v2 (decLs en s) ∧ Below w.heap.size w w' := by
  have h := feedD_sizes en 0 0 ⟨#[]⟩ s hs (Nat.zero_le _)
  exact decode_any en s w hc hs _ rfl (by omega) (by omega) (by omega) _ rfl
set_option maxRecDepth 100000 in
set_option maxHeartbeats 1000000 in
theorem decA_bad (en : Int) (s : ByteArray) (w : World) (hc : codeB en = false) :
    Calls Tryd.prog 24 #[.int .i64 en, .string s] w fun e w' => e = .returned (.tuple #[.slice none 0 0, .slice none 0 0, .bool false]) ∧ w' = w := by
  have HC : Hid _ := hc
  clear hc
  go_enter Tryd.func24, Tryd.ntmps24
  go_wp2_with fail
  refine (code_any _ _).mono ?_
  rintro e w1 ⟨rfl, rfl⟩
  rw [HC.out]
  go_wp2
  exact bodyPost_ret (v := .tuple #[.slice none 0 0, .slice none 0 0, .bool false]) (by simp [results, Tryd.results24, go_sem]) rfl ⟨rfl, rfl⟩
set_option maxRecDepth 100000 in
set_option maxHeartbeats 1000000 in
theorem decA_long (en : Int) (s : ByteArray) (w : World) (hc : codeB en = true) (hs : ¬ s.size ≤ 1000) :
    Calls Tryd.prog 24 #[.int .i64 en, .string s] w fun e w' => e = .returned (.tuple #[.slice none 0 0, .slice none 0 0, .bool false]) ∧ w' = w := by
  have HC : Hid _ := hc
  have HS : Hid _ := decide_eq_false (by omega : ¬ (s.size : Int) ≤ 1000)
  clear hc hs
  go_enter Tryd.func24, Tryd.ntmps24
  go_wp2_with fail
  refine (code_any _ _).mono ?_
  rintro e w1 ⟨rfl, rfl⟩
  rw [HC.out]
  go_wp2_with fail
  refine (text_any _ _).mono ?_
  rintro e w2 ⟨rfl, rfl⟩
  rw [HS.out]
  go_wp2
  exact bodyPost_ret (v := .tuple #[.slice none 0 0, .slice none 0 0, .bool false]) (by simp [results, Tryd.results24, go_sem]) rfl ⟨rfl, rfl⟩
set_option maxRecDepth 100000 in
set_option maxHeartbeats 1000000 in
theorem decA_yes (en : Int) (s : ByteArray) (w : World) (hc : codeB en = true) (hs : s.size ≤ 1000) :
    Calls Tryd.prog 24 #[.int .i64 en, .string s] w fun e w' => ∃ v1 v2, e = .returned (.tuple #[v1, v2, .bool true]) ∧ Two w.heap.size w' v1 (decRs en s) v2 (decLs en s) ∧ Below w.heap.size w w' := by
  have HC : Hid _ := hc
  have HS : Hid _ := decide_eq_true (by omega : (s.size : Int) ≤ 1000)
  have HF : Hid (∀ w : World, _) := fun w => decode_all en s w hc hs
  clear hc hs
  go_enter Tryd.func24, Tryd.ntmps24
  go_wp2_with fail
  refine (code_any _ _).mono ?_
  rintro e w1 ⟨rfl, rfl⟩
  rw [HC.out]
  go_wp2_with fail
  refine (text_any _ _).mono ?_
  rintro e w2 ⟨rfl, rfl⟩
  rw [HS.out]
  go_wp2_with fail
  refine (HF.out _).mono ?_
  rintro e w3 ⟨v1, v2, rfl, T, b3⟩
  go_wp2
  exact bodyPost_ret (v := .tuple #[v1, v2, .bool true]) (by simp [results, Tryd.results24, go_sem]) rfl ⟨v1, v2, rfl, T, b3⟩
end Go.Proofs.YtcclollclbegoaaDoor

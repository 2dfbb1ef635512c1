/-
  Contracts of impl.NewDecoder and impl.DecodeAll.
-/
import Derived.Test.YtjnnikbgpjiecaaDoorI2FeedD
import Derived.Test.YtjnnikbgpjiecaaDoorI2Flush
import Derived.Test.YtjnnikbgpjiecaaDoorD2DecA
namespace Go.Proofs.YtjnnikbgpjiecaaDoor
open Go.ChangeShapes Go.WideShapes Go.ChangeAt Go.RowKit
set_option maxRecDepth 100000 in
set_option maxHeartbeats 1000000 in
theorem inew_no (en : Int) (w : World) (h : codeB en = false) :
    Calls Tryd.prog 32 #[.int .i64 en] w fun e w' => e = .returned (.tuple #[decV 0 0 0 ⟨#[]⟩, .bool false]) ∧ Below w.heap.size w w' := by
  have HC : Hid _ := h
  have b0 : Below w.heap.size w (w.alloc (.cells #[.int .i64 0, .int .i64 0, .int .i64 0, .string ⟨#[]⟩] 25)) := (Below.refl _ _).alloc (Nat.le_refl _) _
  obtain ⟨r0, r1, r2, r3, gz, -⟩ := DecAt.new w 0 0 0 ⟨#[]⟩ 25 _ rfl
  have g0 := gz 0
  have g1 := gz 1
  have g2 := gz 2
  have g3 := gz 3
  clear h gz
  go_enter Tryd.func32, Tryd.ntmps32
  go_wp2_with fail
  refine (codeOf_no en 0 _ HC.out).mono ?_
  rintro e w1 ⟨rfl, rfl⟩
  go_wp2
  exact bodyPost_ret (v := .tuple #[decV 0 0 0 ⟨#[]⟩, .bool false]) (by simp [results, Tryd.results32, go_sem]) rfl ⟨rfl, by first | exact b0 | exact below_put b0 (by omega) b0.size _ _ _ _⟩
set_option maxRecDepth 100000 in
set_option maxHeartbeats 1000000 in
theorem inew_yes (en : Int) (w : World) (h : codeB en = true) :
    Calls Tryd.prog 32 #[.int .i64 en] w fun e w' => e = .returned (.tuple #[decV en 0 0 ⟨#[]⟩, .bool true]) ∧ Below w.heap.size w w' := by
  have hc' := of_decide_eq_true (show decide (1 ≤ en ∧ en ≤ 5) = true from h)
  have HC : Hid _ := hc'
  have b0 : Below w.heap.size w (w.alloc (.cells #[.int .i64 0, .int .i64 0, .int .i64 0, .string ⟨#[]⟩] 25)) := (Below.refl _ _).alloc (Nat.le_refl _) _
  have D0 := DecAt.new w 0 0 0 ⟨#[]⟩ 25 _ rfl
  clear h hc'
  go_enter Tryd.func32, Tryd.ntmps32
  go_wp2_with fail
  refine (code_bad en 0 _ HC.out).mono ?_
  rintro e w1 ⟨cv, rfl, -, b1⟩
  obtain ⟨r0, r1, r2, r3, gz, -⟩ := D0.below b1
  have g0 := gz 0
  have g1 := gz 1
  have g2 := gz 2
  have g3 := gz 3
  replace b1 := b0.trans (b1.mono b0.size)
  clear D0 b0 gz
  go_wp2
  exact bodyPost_ret (v := .tuple #[decV en 0 0 ⟨#[]⟩, .bool true]) (by simp [results, Tryd.results32, go_sem, r0, r1, r2, r3]) rfl ⟨rfl, below_put b1 (by omega) b1.size _ _ _ _⟩
theorem feedB5_lo : ∀ (t : List UInt8) (sh lo : Int), 0 ≤ lo → (feedB 5 t sh lo).2.2.2 ≤ lo + t.length
  | [], sh, lo, h => by show lo ≤ lo + ((0 : Nat) : Int); omega
  | b :: t, sh, lo, h => by
    rw [feedB, List.length_cons]
    split
    · have := feedB5_lo t (15 - b.toNat) (lo + 1) (by omega); omega
    · have := feedB5_lo t sh 0 (by omega)
      show (feedB 5 t sh 0).2.2.2 ≤ _
      omega
theorem new_good (en : Int) (s : ByteArray) (hc : codeB en = true) (hs : s.size ≤ 1000) : goodD en (feedD en 0 0 ⟨#[]⟩ s).sh (feedD en 0 0 ⟨#[]⟩ s).lo (feedD en 0 0 ⟨#[]⟩ s).held = true := by
  have h := of_decide_eq_true (show decide (1 ≤ en ∧ en ≤ 5) = true from hc)
  rcases (by omega : en = 1 ∨ en = 2 ∨ en = 3 ∨ en = 4 ∨ en = 5) with rfl | rfl | rfl | rfl | rfl
  · exact feedU_held 1 (⟨#[]⟩ ++ s).size (⟨#[]⟩ ++ s) (Nat.le_refl _) (by omega)
  · exact feedU_held 2 (⟨#[]⟩ ++ s).size (⟨#[]⟩ ++ s) (Nat.le_refl _) (by omega)
  · exact feedU_held 3 (⟨#[]⟩ ++ s).size (⟨#[]⟩ ++ s) (Nat.le_refl _) (by omega)
  · have hst := feedB4_state s.data.toList
    have e1 : (feedD 4 0 0 ⟨#[]⟩ s).sh = 0 := congrArg (·.1) hst
    have e2 : (feedD 4 0 0 ⟨#[]⟩ s).lo = 0 := congrArg (·.2) hst
    rw [e1, e2]
    rfl
  · have hst := feedB5_state s.data.toList 0 0 (by omega) (by omega)
    have hlo := feedB5_lo s.data.toList 0 0 (by omega)
    have hl : s.data.toList.length = s.size := by simp
    exact (good5 _ _ hst).2 (by omega)
set_option maxRecDepth 100000 in
set_option maxHeartbeats 1000000 in
theorem idecA_no (en : Int) (s : ByteArray) (w : World) (hT : Tabs w) (h : codeB en = false) :
    Calls Tryd.prog 25 #[.int .i64 en, .string s] w fun e w' => e = .returned (.tuple #[.slice none 0 0, .slice none 0 0, .bool false]) ∧ Below w.heap.size w w' := by
  have HC : Hid _ := h
  have HT : Hid _ := hT
  clear h hT
  go_enter Tryd.func25, Tryd.ntmps25
  go_wp2_with fail
  refine (inew_no en _ HC.out).mono ?_
  rintro e w1 ⟨rfl, b1⟩
  have hz1 := b1.size
  have b1' := b1.alloc b1.size (.cells #[.int .i64 0, .int .i64 0, .int .i64 0, .string ⟨#[]⟩] 25)
  have D0 := DecAt.new w1 0 0 0 ⟨#[]⟩ 25 _ rfl
  clear b1
  go_wp2_with fail
  refine (ifeedD_bad 0 0 0 ⟨#[]⟩ s _ (HT.out.below b1') rfl).mono ?_
  rintro e w2 ⟨rfl, b2⟩
  obtain ⟨r0, r1, r2, r3, gz, -⟩ := D0.below b2
  have g0 := gz 0
  have g1 := gz 1
  have g2 := gz 2
  have g3 := gz 3
  replace b2 := b1'.trans (b2.mono b1'.size)
  clear D0 b1' gz
  go_wp2
  go_ret3
  exact ⟨rfl, below_put b2 hz1 b2.size _ _ _ _⟩
set_option maxRecDepth 100000 in
set_option maxHeartbeats 1000000 in
theorem idecA_long (en : Int) (s : ByteArray) (w : World) (hT : Tabs w) (h : codeB en = true) (hs : ¬ s.size ≤ 1000) :
    Calls Tryd.prog 25 #[.int .i64 en, .string s] w fun e w' => e = .returned (.tuple #[.slice none 0 0, .slice none 0 0, .bool false]) ∧ Below w.heap.size w w' := by
  have HC : Hid _ := h
  have HT : Hid _ := hT
  have HS : Hid _ := hs
  clear h hT hs
  go_enter Tryd.func25, Tryd.ntmps25
  go_wp2_with fail
  refine (inew_yes en _ HC.out).mono ?_
  rintro e w1 ⟨rfl, b1⟩
  have hz1 := b1.size
  have b1' := b1.alloc b1.size (.cells #[.int .i64 en, .int .i64 0, .int .i64 0, .string ⟨#[]⟩] 25)
  have D0 := DecAt.new w1 en 0 0 ⟨#[]⟩ 25 _ rfl
  clear b1
  go_wp2_with fail
  refine (ifeedD_long en 0 0 ⟨#[]⟩ s _ (HT.out.below b1') (goodD_new en HC.out) HS.out).mono ?_
  rintro e w2 ⟨rfl, b2⟩
  obtain ⟨r0, r1, r2, r3, gz, -⟩ := D0.below b2
  have g0 := gz 0
  have g1 := gz 1
  have g2 := gz 2
  have g3 := gz 3
  replace b2 := b1'.trans (b2.mono b1'.size)
  clear D0 b1' gz
  go_wp2
  go_ret3
  exact ⟨rfl, below_put b2 hz1 b2.size _ _ _ _⟩
set_option maxRecDepth 100000 in
set_option maxHeartbeats 2000000 in
theorem idecA_any (en : Int) (s : ByteArray) (w : World) (hT : Tabs w) (hc : codeB en = true) (hs : s.size ≤ 1000) (R : FedR) (hR : feedD en 0 0 ⟨#[]⟩ s = R) (n1 : R.rs.length ≤ 2000) (n2 : R.ls.length ≤ 2000) (F : List Int) (hF : flushN (unitsB en) R.held.size R.held.size = F) (n3 : F.length ≤ 2000) :
    Calls Tryd.prog 25 #[.int .i64 en, .string s] w fun e w' => ∃ v1 v2, e = .returned (.tuple #[v1, v2, .bool true]) ∧ Two w.heap.size w' v1 (R.rs ++ bads F.length) v2 (R.ls ++ F) ∧ Below w.heap.size w w' := by
  obtain ⟨i0, hi, hz0, hz1, hz2⟩ := info_parts Tryd.info3
  have HC : Hid _ := hc
  have HT : Hid _ := hT
  have hx : goodD en R.sh R.lo R.held = true := by rw [← hR]; exact new_good en s hc hs
  have H1 : Hid (∀ w : World, Tabs w → _) := fun w hT => ifeedD_yes en 0 0 ⟨#[]⟩ s w hT (goodD_new en hc) hs R hR hx
  have H2 : Hid (∀ w : World, Tabs w → _) := fun w hT => iflushD_yes en R.sh R.lo R.held w hT hx
  rw [hF] at H2
  clear hc hT hs hR hF hx
  go_enter Tryd.func25, Tryd.ntmps25
  go_wp2_with fail
  refine (inew_yes en _ HC.out).mono ?_
  rintro e w1 ⟨rfl, b1⟩
  have hw1 := b1.size
  have b1' := b1.alloc b1.size (.cells #[.int .i64 en, .int .i64 0, .int .i64 0, .string ⟨#[]⟩] 25)
  have D0 := DecAt.new w1 en 0 0 ⟨#[]⟩ 25 _ rfl
  clear b1
  go_wp2_with fail
  refine (H1.out _ (HT.out.below b1')).mono ?_
  rintro e w2 ⟨v1, v2, rfl, T1, b2⟩
  have D2 := D0.below b2
  obtain ⟨r0, r1, r2, r3, gz, -⟩ := id D2
  have g0 := gz 0
  have g1 := gz 1
  have g2 := gz 2
  have g3 := gz 3
  have b2' := b1'.trans (b2.mono b1'.size)
  have B2 : Hid _ := below_put b2' hw1 b2'.size (.int .i64 en) (.int .i64 R.sh) (.int .i64 R.lo) (.string R.held)
  have T2 : Hid _ := T1.put w1.heap.size (by simp) (.int .i64 en) (.int .i64 R.sh) (.int .i64 R.lo) (.string R.held)
  have L1 : Hid _ := T1.lies
  have S2 : Hid (w2.heap.size ≤ (putDec w2 w1.heap.size (.int .i64 en) (.int .i64 R.sh) (.int .i64 R.lo) (.string R.held)).heap.size) := by show _ ≤ _; simp
  clear D0 D2 b1' b2 b2' gz T1
  go_wp2_with fail
  refine (H2.out _ (HT.out.below B2.out)).mono ?_
  rintro e w3 ⟨v3, v4, rfl, T3, b3⟩
  have T2' := (Two.below T2.out b3).alloc (.cells #[.int .i64 en, .int .i64 R.sh, .int .i64 R.lo, .string ⟨#[]⟩] 25)
  have T3' := T3.alloc (.cells #[.int .i64 en, .int .i64 R.sh, .int .i64 R.lo, .string ⟨#[]⟩] 25)
  have b3' := Below.trans B2.out (b3.mono (Below.size B2.out))
  have hb2 := b3'.alloc b3'.size (.cells #[.int .i64 en, .int .i64 R.sh, .int .i64 R.lo, .string ⟨#[]⟩] 25)
  have far : v4.ownBlock = none ∨ v4.ownBlock ≠ v1.ownBlock := by
    cases h4 : v4.ownBlock with
    | none => exact .inl rfl
    | some g =>
      refine .inr (fun e => ?_)
      have a1 := ((L1.out).a g e.symm).2
      have a2 := (T3.b.lt g h4).1
      have a3 := S2.out
      omega
  have T1' := Two.lower T2' (B' := w.heap.size) (by simp; omega)
  have hsz := hb2.size
  clear T2 T2' T3 b3 b3' B2 r0 r1 r2 r3 g0 g1 g2 g3
  go_wp2_with (at_builtin; refine wpList_append_row _ rfl _ _ 28 rfl w.heap.size 3 i0 (.int .i64 0) 1 8 Tryd.underlying28 hi hz0 hz1 hz2 rfl (by decide) _ _ _ rfl T1'.a _ _ _ _ rfl T3'.a (ints_one _) ?c3 ?c4 ?c5 ?_)
  case c3 => rw [bads_len]; unfold maxLen; omega
  case c4 => rw [bads_len]; omega
  case c5 => exact hsz
  intro v1' w4 hown3 hgrow hat
  have T4 := T1'.push (M := bads F.length) hown3 rfl hgrow (by simpa using hat)
  have hv4 := T3'.b.kept hgrow far
  have hb3 := Below.grown_row hb2 T1'.a hgrow hsz (Nat.le_refl _)
  clear hown3 hgrow hat T1' T3' hb2 hsz far
  have hsz := hb3.size
  go_wp2_with (at_builtin; refine wpList_append_row _ rfl _ _ 28 rfl w.heap.size 3 i0 (.int .i64 0) 1 8 Tryd.underlying28 hi hz0 hz1 hz2 rfl (by decide) _ _ _ rfl T4.b _ _ _ _ rfl hv4 (ints_one _) ?c3 ?c4 ?c5 ?_)
  case c3 => unfold maxLen; omega
  case c4 => omega
  case c5 => exact hsz
  intro v2' w5 hown4 hgrow hat
  have T5 := (T4.swap.push (M := F) hown4 rfl hgrow hat).swap
  have hb4 := Below.grown_row hb3 T4.b hgrow hsz (Nat.le_refl _)
  go_wp2
  go_ret3
  exact ⟨v1', v2', rfl, T5, hb4⟩
theorem idecA_yes (en : Int) (s : ByteArray) (w : World) (hT : Tabs w) (hc : codeB en = true) (hs : s.size ≤ 1000) :
    Calls Tryd.prog 25 #[.int .i64 en, .string s] w fun e w' => ∃ v1 v2, e = .returned (.tuple #[v1, v2, .bool true]) ∧ Two w.heap.size w' v1 (decRs en s) v2 (decLs en s) ∧ Below w.heap.size w w' := by
  have h := feedD_sizes en 0 0 ⟨#[]⟩ s hs (Nat.zero_le _)
  have hl := flushN_len (unitsB en) (feedD en 0 0 ⟨#[]⟩ s).held.size (feedD en 0 0 ⟨#[]⟩ s).held.size
  exact idecA_any en s w hT hc hs _ rfl (by omega) (by omega) _ rfl (by omega)
end Go.Proofs.YtjnnikbgpjiecaaDoor

/-
  Contracts of spec.l2Feed for good decoders, and of spec.FeedDecoder.
-/
import Derived.Test.YtcclollclbegoaaDoorD2FeedU
namespace Go.Proofs.YtcclollclbegoaaDoor
open Go.ChangeShapes Go.WideShapes Go.ChangeAt Go.RowKit
/-- What feeding tells: shift, loose and held behind it, runes, lengths. -/
structure FedR where
  sh : Int
  lo : Int
  held : ByteArray
  rs : List Int
  ls : List Int
def feedD (en sh lo : Int) (held s : ByteArray) : FedR :=
  if en = 4 ∨ en = 5 then ⟨(feedB en s.data.toList sh lo).2.2.1, (feedB en s.data.toList sh lo).2.2.2, held, (feedB en s.data.toList sh lo).1, (feedB en s.data.toList sh lo).2.1⟩
  else ⟨sh, lo, (feedU en (held ++ s).size (held ++ s)).2.2, (feedU en (held ++ s).size (held ++ s)).1, (feedU en (held ++ s).size (held ++ s)).2.1⟩
theorem goodD_facts {en sh lo : Int} {held : ByteArray} (h : goodD en sh lo held = true) : (1 ≤ en ∧ en ≤ 5) ∧ (0 ≤ sh ∧ sh ≤ 1) ∧ (0 ≤ lo ∧ lo ≤ 1000) ∧ (en = 5 ∨ (sh = 0 ∧ lo = 0)) ∧ held.size ≤ 3 ∧ ((en = 4 ∨ en = 5) → held.size = 0) := by
  unfold goodD codeB at h
  simp only [Bool.and_eq_true, Bool.or_eq_true, decide_eq_true_eq] at h
  obtain ⟨⟨⟨⟨h1, h2⟩, h3⟩, h4⟩, h5⟩ := h
  refine ⟨h1, h2, h3, by omega, ?_⟩
  split at h5
  · rename_i e
    simp only [Bool.or_eq_true, decide_eq_true_eq] at h5
    rcases h5 with h5 | h5
    · exact ⟨by omega, fun _ => h5⟩
    · have := begB_size h5; exact ⟨by omega, by omega⟩
  · split at h5
    · rename_i e
      simp only [Bool.or_eq_true, Bool.and_eq_true, decide_eq_true_eq] at h5
      have e' : en = 2 ∨ en = 3 := of_decide_eq_true e
      exact ⟨by omega, by omega⟩
    · have h5' := of_decide_eq_true h5
      exact ⟨by omega, fun _ => h5'⟩
theorem feed_any (en sh lo : Int) (held s : ByteArray) (w : World) (hg : goodD en sh lo held = true) (hs : s.size ≤ 1000) :
    Calls Tryd.prog 39 #[decV en sh lo held, .string s] w fun e w' => ∃ v1 v2, e = .returned (.tuple #[decV en (feedD en sh lo held s).sh (feedD en sh lo held s).lo (feedD en sh lo held s).held, v1, v2]) ∧
      Two w.heap.size w' v1 (feedD en sh lo held s).rs v2 (feedD en sh lo held s).ls ∧ Below w.heap.size w w' := by
  obtain ⟨h1, h2, h3, h4, h5, h6⟩ := goodD_facts hg
  by_cases h45 : en = 4 ∨ en = 5
  · unfold feedD
    rw [if_pos h45]
    rcases h45 with rfl | rfl
    · exact feed4_any sh lo held s w hs h3.1 h3.2
    · exact feed5_any sh lo held s w hs h3.1 h3.2 h2.1 h2.2
  · unfold feedD
    rw [if_neg h45]
    exact feedU_any en sh lo held s w (by rw [ByteArray.size_append]; omega) (by omega) (by omega)
/-- Blocks D and D + 1, a decoder each, as a call lays them. -/
theorem laid_two (w : World) (en sh lo : Int) (held : ByteArray) (t t' : TypeId) : DecAt ((w.alloc (.cells #[.int .i64 en, .int .i64 sh, .int .i64 lo, .string held] t)).alloc (.cells #[.int .i64 0, .int .i64 0, .int .i64 0, .string ⟨#[]⟩] t')) w.heap.size en sh lo held ∧
    DecAt ((w.alloc (.cells #[.int .i64 en, .int .i64 sh, .int .i64 lo, .string held] t)).alloc (.cells #[.int .i64 0, .int .i64 0, .int .i64 0, .string ⟨#[]⟩] t')) (w.heap.size + 1) 0 0 0 ⟨#[]⟩ ∧
    Below w.heap.size w ((w.alloc (.cells #[.int .i64 en, .int .i64 sh, .int .i64 lo, .string held] t)).alloc (.cells #[.int .i64 0, .int .i64 0, .int .i64 0, .string ⟨#[]⟩] t')) :=
  ⟨(DecAt.new _ _ _ _ _ _ _ rfl).alloc _, DecAt.new _ _ _ _ _ _ _ (by simp), ((Below.refl _ _).alloc (Nat.le_refl _) _).alloc (by simp) _⟩
/-- A decoder is laid whole into a block. -/
abbrev putDec (w : World) (D : Nat) (a b c d : Value) : World := (((w.setCell ⟨D, 0, none⟩ a).setCell ⟨D, 1, none⟩ b).setCell ⟨D, 2, none⟩ c).setCell ⟨D, 3, none⟩ d
theorem below_put {D B : Nat} {w0 w : World} (hb : Below D w0 w) (hD : D ≤ B) (hl : D ≤ w.heap.size) (a b c d : Value) : Below D w0 (putDec w B a b c d) :=
  below_set (below_set (below_set (below_set hb _ _ _ hD hl) _ _ _ hD (by simp; omega)) _ _ _ hD (by simp; omega)) _ _ _ hD (by simp; omega)
theorem Two.put {B : Nat} {w : World} {v1 v2 : Value} {L1 L2 : List Int} (T : Two B w v1 L1 v2 L2) (b : Nat) (hb : b < B) (a b' c d : Value) : Two B (putDec w b a b' c d) v1 L1 v2 L2 :=
  (((T.set _ _ _ hb).set _ _ _ hb).set _ _ _ hb).set _ _ _ hb
set_option maxRecDepth 100000 in
set_option maxHeartbeats 1000000 in
theorem feedD_bad (en sh lo : Int) (held s : ByteArray) (w : World) (hg : goodD en sh lo held = false) :
    Calls Tryd.prog 10 #[decV en sh lo held, .string s] w fun e w' => e = .returned (.tuple #[decV 0 0 0 ⟨#[]⟩, .slice none 0 0, .slice none 0 0, .bool false]) ∧ Below w.heap.size w w' := by
  have HG : Hid _ := hg
  clear hg
  go_enter Tryd.func10, Tryd.ntmps10
  go_wp2_with fail
  refine (gd_any _ _ _ _ _).mono ?_
  rintro e w1 ⟨rfl, b1⟩
  rw [HG.out]
  obtain ⟨-, hr, hb⟩ := laid_two w en sh lo held 25 25
  have hb1 := hb.trans (b1.mono hb.size)
  obtain ⟨r0, r1, r2, r3, gz, -⟩ := hr.below b1
  have g0 := gz 0
  have g1 := gz 1
  have g2 := gz 2
  have g3 := gz 3
  clear gz hr hb b1
  go_wp2
  exact bodyPost_ret (v := .tuple #[decV 0 0 0 ⟨#[]⟩, .slice none 0 0, .slice none 0 0, .bool false]) (by simp [results, Tryd.results10, go_sem, r0, r1, r2, r3]) rfl ⟨rfl, below_put hb1 (by omega) hb1.size _ _ _ _⟩
set_option maxRecDepth 100000 in
set_option maxHeartbeats 1000000 in
theorem feedD_long (en sh lo : Int) (held s : ByteArray) (w : World) (hg : goodD en sh lo held = true) (hs : ¬ s.size ≤ 1000) :
    Calls Tryd.prog 10 #[decV en sh lo held, .string s] w fun e w' => e = .returned (.tuple #[decV 0 0 0 ⟨#[]⟩, .slice none 0 0, .slice none 0 0, .bool false]) ∧ Below w.heap.size w w' := by
  have HG : Hid _ := hg
  have HS : Hid _ := decide_eq_false (by omega : ¬ (s.size : Int) ≤ 1000)
  clear hg hs
  go_enter Tryd.func10, Tryd.ntmps10
  go_wp2_with fail
  refine (gd_any _ _ _ _ _).mono ?_
  rintro e w1 ⟨rfl, b1⟩
  rw [HG.out]
  obtain ⟨-, hr, hb⟩ := laid_two w en sh lo held 25 25
  have hb1 := hb.trans (b1.mono hb.size)
  obtain ⟨r0, r1, r2, r3, gz, -⟩ := hr.below b1
  have g0 := gz 0
  have g1 := gz 1
  have g2 := gz 2
  have g3 := gz 3
  clear gz hr hb b1
  go_wp2_with fail
  refine (text_any _ _).mono ?_
  rintro e w2 ⟨rfl, rfl⟩
  rw [HS.out]
  go_wp2
  exact bodyPost_ret (v := .tuple #[decV 0 0 0 ⟨#[]⟩, .slice none 0 0, .slice none 0 0, .bool false]) (by simp [results, Tryd.results10, go_sem, r0, r1, r2, r3]) rfl ⟨rfl, below_put hb1 (by omega) hb1.size _ _ _ _⟩
set_option maxRecDepth 100000 in
set_option maxHeartbeats 1000000 in
theorem feedD_yes (en sh lo : Int) (held s : ByteArray) (w : World) (hg : goodD en sh lo held = true) (hs : s.size ≤ 1000) (R : FedR) (hR : feedD en sh lo held s = R) (hx : goodD en R.sh R.lo R.held = true) :
    Calls Tryd.prog 10 #[decV en sh lo held, .string s] w fun e w' => ∃ v1 v2, e = .returned (.tuple #[decV en R.sh R.lo R.held, v1, v2, .bool true]) ∧ Two w.heap.size w' v1 R.rs v2 R.ls ∧ Below w.heap.size w w' := by
  have HG : Hid _ := hg
  have HS : Hid _ := decide_eq_true (by omega : (s.size : Int) ≤ 1000)
  have HX : Hid _ := hx
  have HF : Hid (∀ w : World, _) := fun w => feed_any en sh lo held s w hg hs
  rw [hR] at HF
  clear hg hs hx hR
  go_enter Tryd.func10, Tryd.ntmps10
  go_wp2_with fail
  refine (gd_any _ _ _ _ _).mono ?_
  rintro e w1 ⟨rfl, b1⟩
  rw [HG.out]
  obtain ⟨hd, hr, hb⟩ := laid_two w en sh lo held 25 25
  have hb1 := hb.trans (b1.mono hb.size)
  have hd1 := hd.below b1
  have hr1 := hr.below b1
  obtain ⟨d0, d1, d2, d3, -, -⟩ := hd.below b1
  clear hd hr hb b1
  go_wp2_with fail
  refine (text_any _ _).mono ?_
  rintro e w2 ⟨rfl, rfl⟩
  rw [HS.out]
  go_wp2_with fail
  refine (HF.out _).mono ?_
  rintro e w3 ⟨v1, v2, rfl, T, b3⟩
  have hb3 := hb1.trans (b3.mono hb1.size)
  have hl := hr1.lt
  have hr3 := hr1.below b3
  clear hd1 hr1 b3 hb1 d0 d1 d2 d3
  go_wp2_with fail
  refine (gd_any _ _ _ _ _).mono ?_
  rintro e w4 ⟨rfl, b4⟩
  rw [HX.out]
  have hx4 := (DecAt.new w3 en R.sh R.lo R.held 25 _ rfl).below b4
  have hr4 := (hr3.alloc _).below b4
  have T4 := (T.alloc _).below b4
  have hb4 := (hb3.alloc hb3.size _).trans (b4.mono (by have := hb3.size; simp; omega))
  obtain ⟨x0, x1, x2, x3, -, -⟩ := hx4
  obtain ⟨r0, r1, r2, r3, gz, -⟩ := hr4
  have g0 := gz 0
  have g1 := gz 1
  have g2 := gz 2
  have g3 := gz 3
  clear T hb3 hr3 gz
  go_wp2
  exact bodyPost_ret (v := .tuple #[decV en R.sh R.lo R.held, v1, v2, .bool true]) (by simp [results, Tryd.results10, go_sem, r0, r1, r2, r3]) rfl ⟨v1, v2, rfl, (T4.put _ hl _ _ _ _).lower (by omega), below_put hb4 (by omega) hb4.size _ _ _ _⟩
set_option maxRecDepth 100000 in
set_option maxHeartbeats 1000000 in
theorem feedD_over (en sh lo : Int) (held s : ByteArray) (w : World) (hg : goodD en sh lo held = true) (hs : s.size ≤ 1000) (R : FedR) (hR : feedD en sh lo held s = R) (hx : goodD en R.sh R.lo R.held = false) :
    Calls Tryd.prog 10 #[decV en sh lo held, .string s] w fun e w' => e = .returned (.tuple #[decV 0 0 0 ⟨#[]⟩, .slice none 0 0, .slice none 0 0, .bool false]) ∧ Below w.heap.size w w' := by
  have HG : Hid _ := hg
  have HS : Hid _ := decide_eq_true (by omega : (s.size : Int) ≤ 1000)
  have HX : Hid _ := hx
  have HF : Hid (∀ w : World, _) := fun w => feed_any en sh lo held s w hg hs
  rw [hR] at HF
  clear hg hs hx hR
  go_enter Tryd.func10, Tryd.ntmps10
  go_wp2_with fail
  refine (gd_any _ _ _ _ _).mono ?_
  rintro e w1 ⟨rfl, b1⟩
  rw [HG.out]
  obtain ⟨hd, hr, hb⟩ := laid_two w en sh lo held 25 25
  have hb1 := hb.trans (b1.mono hb.size)
  have hd1 := hd.below b1
  have hr1 := hr.below b1
  obtain ⟨d0, d1, d2, d3, -, -⟩ := hd.below b1
  clear hd hr hb b1
  go_wp2_with fail
  refine (text_any _ _).mono ?_
  rintro e w2 ⟨rfl, rfl⟩
  rw [HS.out]
  go_wp2_with fail
  refine (HF.out _).mono ?_
  rintro e w3 ⟨v1, v2, rfl, T, b3⟩
  have hb3 := hb1.trans (b3.mono hb1.size)
  have hl := hr1.lt
  have hr3 := hr1.below b3
  clear hd1 hr1 b3 hb1 d0 d1 d2 d3
  go_wp2_with fail
  refine (gd_any _ _ _ _ _).mono ?_
  rintro e w4 ⟨rfl, b4⟩
  rw [HX.out]
  have hx4 := (DecAt.new w3 en R.sh R.lo R.held 25 _ rfl).below b4
  have hr4 := (hr3.alloc _).below b4
  have T4 := (T.alloc _).below b4
  have hb4 := (hb3.alloc hb3.size _).trans (b4.mono (by have := hb3.size; simp; omega))
  obtain ⟨x0, x1, x2, x3, -, -⟩ := hx4
  obtain ⟨r0, r1, r2, r3, gz, -⟩ := hr4
  have g0 := gz 0
  have g1 := gz 1
  have g2 := gz 2
  have g3 := gz 3
  clear T T4 hb3 x0 x1 x2 x3 hr3 gz
  go_wp2
  exact bodyPost_ret (v := .tuple #[decV 0 0 0 ⟨#[]⟩, .slice none 0 0, .slice none 0 0, .bool false]) (by simp [results, Tryd.results10, go_sem, r0, r1, r2, r3]) rfl ⟨rfl, below_put hb4 (by omega) hb4.size _ _ _ _⟩
end Go.Proofs.YtcclollclbegoaaDoor

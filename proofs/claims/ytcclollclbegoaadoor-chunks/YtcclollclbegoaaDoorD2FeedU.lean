/-
  Contract of spec.l2Feed with a code whose runes may be longer than a byte.
-/
import Derived.Test.YtcclollclbegoaaDoorD2Feed
namespace Go.Proofs.YtcclollclbegoaaDoor
open Go.ChangeShapes Go.WideShapes Go.ChangeAt Go.RowKit
theorem oneS_le (en : Int) (s : ByteArray) (h : 0 < s.size) : (oneS en s).2 ≤ s.size := by
  unfold oneS
  have hw := decW_pos s 0 h
  repeat' split
  all_goals first | (show 0 ≤ _; omega) | (show 2 ≤ _; omega) | (show 4 ≤ _; omega) | (show decW s 0 ≤ _; omega)
def strSize : Value → Nat
  | .string x => x.size
  | _ => 0
theorem slice_tl (s : ByteArray) (d : Nat) (h : d ≤ s.size) (w : World) : (Instr.slice 9 (.string s) (some (.int .i64 (d : Int))) none none).run Tryd.prog w = .ok (.string (s.extract d s.size)) w := by
  have h' : (d : Int) ≤ s.size := by omega
  go_simp
def feedW (A B : List Int) (G : List Int × List Int × ByteArray) : List Int × List Int × ByteArray := (A ++ G.1, B ++ G.2.1, G.2.2)
theorem feedW_none (A B : List Int) (en : Int) (f : Nat) (x : ByteArray) (h : x.size = 0) : feedW A B (feedU en f x) = (A, B, x) := by
  cases f <;> simp [feedW, feedU, h]
theorem feedW_stop (A B : List Int) (en : Int) (f : Nat) (x : ByteArray) (h : (oneS en x).2 = 0) : feedW A B (feedU en f x) = (A, B, x) := by
  cases f <;> simp [feedW, feedU, h]
theorem feedW_step (A B : List Int) (en : Int) (f : Nat) (x : ByteArray) (h0 : 0 < x.size) (h : 0 < (oneS en x).2) :
    feedW A B (feedU en (f + 1) x) = feedW (A ++ [(oneS en x).1]) (B ++ [((oneS en x).2 : Int)]) (feedU en f (x.extract (oneS en x).2 x.size)) := by
  have e0 : ¬ x.size = 0 := by omega
  have e1 : ¬ (oneS en x).2 = 0 := by omega
  simp [feedW, feedU, e0, e1]
theorem feedU_len (en : Int) : ∀ (f : Nat) (x : ByteArray), (feedU en f x).1.length ≤ f ∧ (feedU en f x).2.1.length = (feedU en f x).1.length
  | 0, x => ⟨Nat.le_refl _, rfl⟩
  | f + 1, x => by
    unfold feedU
    have := feedU_len en f (x.extract (oneS en x).2 x.size)
    split
    · simp
    · split
      · simp
      · simp only [List.length_cons]; omega
set_option maxRecDepth 100000 in
set_option maxHeartbeats 2000000 in
theorem feedU_any (en sh lo : Int) (held s : ByteArray) (w : World) (hs : (held ++ s).size ≤ 2000) (h4 : en ≠ 4) (h5 : en ≠ 5) :
    Calls Tryd.prog 39 #[decV en sh lo held, .string s] w fun e w' => ∃ v1 v2, e = .returned (.tuple #[decV en sh lo (feedU en (held ++ s).size (held ++ s)).2.2, v1, v2]) ∧
      Two w.heap.size w' v1 (feedU en (held ++ s).size (held ++ s)).1 v2 (feedU en (held ++ s).size (held ++ s)).2.1 ∧ Below w.heap.size w w' := by
  obtain ⟨i0, hi, hz0, hz1, hz2⟩ := info_parts Tryd.info3
  have HF : Hid (feedU en (held ++ s).size (held ++ s) = feedW [] [] (feedU en (held ++ s).size (held ++ s))) := rfl
  have HN : Hid (_ ∧ _) := feedU_len en (held ++ s).size (held ++ s)
  have b4 : (en == 4) = false := by rw [beq_eq_false_iff_ne]; exact h4
  have b5 : (en == 5) = false := by rw [beq_eq_false_iff_ne]; exact h5
  have HZ : Hid _ := hs
  have hcat : ¬ 9223372036854775807 < held.size + s.size := by have := ByteArray.size_append (a := held) (b := s); omega
  clear h4 h5 hs
  generalize hFF : feedU en (held ++ s).size (held ++ s) = F at *
  have HS0 : Hid _ := hFF
  clear hFF
  go_enter Tryd.func39, Tryd.ntmps39
  go_wp2
  go_loopw [1, 7, 8] (fun sv v1 v2 wr => ∃ (x : ByteArray) (f : Nat) (L1 L2 : List Int), sv = .string x ∧ x.size ≤ f ∧ x.size ≤ 2000 ∧ F = feedW L1 L2 (feedU en f x) ∧ Fed w.heap.size wr en sh lo held v1 L1 v2 L2 ∧ Below w.heap.size w wr) (fun sv _ _ _ => strSize sv)
  case atStart =>
    refine ⟨held ++ s, _, [], [], rfl, Nat.le_refl _, HZ.out, HS0.out.symm.trans rfl, ⟨(DecAt.new _ _ _ _ _ _ _ rfl).alloc _, DecAt.new _ _ _ _ _ _ _ (by simp), Two.nil _ _⟩, ?_⟩
    exact ((Below.refl _ _).alloc (Nat.le_refl _) _).alloc (by simp) _
  case round =>
    obtain ⟨x, f, L1, L2, rfl, hxf, hx2, hF, fed, hbw⟩ := hrel
    have HG : Hid _ := hF
    have c0 := fed.d.c0
    clear hF
    have HX : Hid _ := hx2
    have HXF : Hid _ := hxf
    have hlen : L1.length ≤ 2000 ∧ L2.length ≤ 2000 := by
      have h1 := congrArg (fun G => G.1.length) HG.out
      have h2 := congrArg (fun G => G.2.1.length) HG.out
      have h3 := HN.out
      have h4 := HZ.out
      simp only [feedW, List.length_append] at h1 h2
      omega
    obtain ⟨n1, n2⟩ := hlen
    clear hx2 hxf
    by_cases hx0 : x.size = 0
    · have hem := isEmpty_yes hx0
      have HE : Hid _ := feedW_none L1 L2 en f x hx0
      clear hx0
      have c1 := fed.d.c1
      have c2 := fed.d.c2
      have c3 := fed.d.c3
      have f3 := fed.d.fz 3
      have r0 := fed.r.c0
      have r1 := fed.r.c1
      have r2 := fed.r.c2
      have r3 := fed.r.c3
      have g0 := fed.r.fz 0
      have g1 := fed.r.fz 1
      have g2 := fed.r.fz 2
      have g3 := fed.r.fz 3
      have HO : Hid _ := (fed.set3 x).out (below_set hbw w.heap.size 3 (.string x) (Nat.le_refl _) hbw.size) (.int .i64 en) (.int .i64 sh) (.int .i64 lo) (.string x)
      clear fed hbw
      go_wp2
      have hend : F = (L1, L2, x) := by rw [HG.out, HE.out]
      subst hend
      exact bodyPost_ret (v := .tuple #[decV en sh lo x, u7, u8]) (by simp [results, Tryd.results39, go_sem, r0, r1, r2, r3]) rfl ⟨u7, u8, rfl, HO.out.1, HO.out.2⟩
    · have hx0' : 0 < x.size := by omega
      have hem := isEmpty_no hx0'
      have HX0 : Hid _ := hx0'
      clear hx0 hx0'
      have hl := oneS_le en x HX0.out
      have HL : Hid _ := hl
      clear hl
      by_cases hz : (oneS en x).2 = 0
      · have HE : Hid _ := feedW_stop L1 L2 en f x hz
        have hzI : (((oneS en x).2 : Int) == 0) = true := by rw [hz]; rfl
        clear hz
        go_wp2_with fail
        refine (l2one_any en x _ HX0.out HX.out).mono ?_
        rintro e w1 ⟨rfl, b1⟩
        have fed1 := fed.below b1
        have hbw1 := hbw.trans (b1.mono hbw.size)
        clear fed hbw b1 c0
        have c0 := fed1.d.c0
        have c1 := fed1.d.c1
        have c2 := fed1.d.c2
        have c3 := fed1.d.c3
        have f3 := fed1.d.fz 3
        have r0 := fed1.r.c0
        have r1 := fed1.r.c1
        have r2 := fed1.r.c2
        have r3 := fed1.r.c3
        have g0 := fed1.r.fz 0
        have g1 := fed1.r.fz 1
        have g2 := fed1.r.fz 2
        have g3 := fed1.r.fz 3
        have HO : Hid _ := (fed1.set3 x).out (below_set hbw1 w.heap.size 3 (.string x) (Nat.le_refl _) hbw1.size) (.int .i64 en) (.int .i64 sh) (.int .i64 lo) (.string x)
        clear fed1 hbw1
        go_wp2
        have hend : F = (L1, L2, x) := by rw [HG.out, HE.out]
        subst hend
        exact bodyPost_ret (v := .tuple #[decV en sh lo x, u7, u8]) (by simp [results, Tryd.results39, go_sem, r0, r1, r2, r3]) rfl ⟨u7, u8, rfl, HO.out.1, HO.out.2⟩
      · obtain ⟨f, rfl⟩ : ∃ f', f = f' + 1 := ⟨f - 1, by have := HX0.out; have := HXF.out; omega⟩
        have HE : Hid _ := feedW_step L1 L2 en f x HX0.out (by omega)
        have hp : 0 < (oneS en x).2 := by omega
        have hzI : (((oneS en x).2 : Int) == 0) = false := by rw [beq_eq_false_iff_ne]; omega
        have sl := slice_tl x (oneS en x).2 HL.out
        clear hz
        go_wp2_with fail
        refine (l2one_any en x _ HX0.out HX.out).mono ?_
        rintro e w1 ⟨rfl, b1⟩
        have fed1 := fed.below b1
        have hbw1 := hbw.trans (b1.mono hbw.size)
        clear fed hbw b1 c0
        go_wp2_with (at_builtin; refine wpList_append_own_at _ rfl _ _ 28 rfl (w.heap.size + 2) 3 i0 (.int .i64 0) 1 8 Tryd.underlying28 hi hz0 hz1 hz2 rfl (by decide) _ _ _ rfl (fed1.t.a.alloc _) ⟨_, 0, none⟩ 1 1 [.int .i64 (oneS en x).1] rfl rfl ?c1 ?c2 ?c3 ?c4 ?c5 ?_)
        case c1 => exact cell_one_new _ _ _
        case c2 => intro u hu; simp at hu; subst hu; rfl
        case c3 => unfold maxLen; omega
        case c4 => omega
        case c5 => have := fed1.r.lt; simp at this ⊢; omega
        intro v1' w2 hown2 hgrow _ hat
        have fed2 := (fed1.alloc _).push (M := [(oneS en x).1]) hown2 rfl hgrow (by simpa using hat)
        have hbw2 := Below.grown_row (hbw1.alloc hbw1.size _) (fed1.t.a.alloc _) hgrow (by have := hbw1.size; simp at this ⊢; omega) (by omega)
        clear hown2 hgrow hat fed1 hbw1
        go_wp2_with (at_builtin; refine wpList_append_own_at _ rfl _ _ 28 rfl (w.heap.size + 2) 3 i0 (.int .i64 0) 1 8 Tryd.underlying28 hi hz0 hz1 hz2 rfl (by decide) _ _ _ rfl (fed2.t.b.alloc _) ⟨_, 0, none⟩ 1 1 [.int .i64 (oneS en x).2] rfl rfl ?c1 ?c2 ?c3 ?c4 ?c5 ?_)
        case c1 => exact cell_one_new _ _ _
        case c2 => intro u hu; simp at hu; subst hu; rfl
        case c3 => unfold maxLen; omega
        case c4 => omega
        case c5 => have := fed2.r.lt; simp at this ⊢; omega
        intro v2' w3 hown3 hgrow _ hat
        have fed3 := (fed2.alloc _).push2 (M := [((oneS en x).2 : Int)]) hown3 rfl hgrow (by simpa using hat)
        have hbw3 := Below.grown_row (hbw2.alloc hbw2.size _) (fed2.t.b.alloc _) hgrow (by have := hbw2.size; simp at this ⊢; omega) (by omega)
        clear hown3 hgrow hat fed2 hbw2
        go_wp2
        have hz' : (x.extract (oneS en x).2 x.size).size = x.size - (oneS en x).2 := by rw [ByteArray.size_extract]; omega
        have q1 := HX0.out
        have q2 := HX.out
        have q3 := HXF.out
        go_roundw
        case rel => exact ⟨_, f, _, _, rfl, by omega, by omega, by rw [HG.out, HE.out], fed3, hbw3⟩
        case measure => simp only [strSize]; omega
end Go.Proofs.YtcclollclbegoaaDoor

/-
  Contracts of spec.l2Flush, spec.FlushDecoder, spec.l2Decode and spec.DecodeAll.
-/
import Derived.Test.YtcclollclbegoaaDoorD2FeedD
namespace Go.Proofs.YtcclollclbegoaaDoor
open Go.ChangeShapes Go.WideShapes Go.ChangeAt Go.RowKit
theorem flushN_step2 (f n : Nat) : flushN true (f + 1) (n + 2) = 2 :: flushN true f n := by simp [flushN]
theorem flushN_step1 (u : Bool) (f n : Nat) (h : u = false ∨ n = 0) : flushN u (f + 1) (n + 1) = 1 :: flushN u f n := by
  rcases h with h | h <;> simp [flushN, h]
theorem flushN_none (u : Bool) (f : Nat) : flushN u f 0 = [] := by cases f <;> rfl
theorem flushN_len (u : Bool) : ∀ f n, (flushN u f n).length ≤ f
  | 0, _ => Nat.le_refl _
  | f + 1, 0 => by simp [flushN]
  | f + 1, n + 1 => by
    unfold flushN
    split
    · have := flushN_len u f (n - 1); simp only [List.length_cons]; omega
    · have := flushN_len u f n; simp only [List.length_cons]; omega
def bads (n : Nat) : List Int := List.replicate n 65533
theorem bads_len (n : Nat) : (bads n).length = n := List.length_replicate
theorem bads_succ (n : Nat) : bads n ++ [65533] = bads (n + 1) := by simp [bads, List.replicate_succ']
theorem slice_one (s : ByteArray) (h2 : 1 ≤ s.size) (w : World) : (Instr.slice 9 (.string s) (some (.int .i64 1)) none none).run Tryd.prog w = .ok (.string (s.extract 1 s.size)) w := by
  have h' : (1 : Int) ≤ s.size := by omega
  go_simp
set_option maxRecDepth 100000 in
set_option maxHeartbeats 2000000 in
theorem flush_any (en sh lo : Int) (held : ByteArray) (w : World) (hs : held.size ≤ 2000) :
    Calls Tryd.prog 49 #[decV en sh lo held] w fun e w' => ∃ v1 v2, e = .returned (.tuple #[decV en sh lo ⟨#[]⟩, v1, v2]) ∧
      Two w.heap.size w' v1 (bads (flushN (unitsB en) held.size held.size).length) v2 (flushN (unitsB en) held.size held.size) ∧ Below w.heap.size w w' := by
  obtain ⟨i0, hi, hz0, hz1, hz2⟩ := info_parts Tryd.info3
  have HN : Hid _ := flushN_len (unitsB en) held.size held.size
  have HZ : Hid _ := hs
  clear hs
  generalize hFF : flushN (unitsB en) held.size held.size = F at *
  have HS0 : Hid _ := hFF
  clear hFF
  go_enter Tryd.func49, Tryd.ntmps49
  go_wp2
  go_loopw [5, 6, 7] (fun v1 v2 sv wr => ∃ (x : ByteArray) (f : Nat) (L2 : List Int), sv = .string x ∧ x.size ≤ f ∧ x.size ≤ 2000 ∧ F = L2 ++ flushN (unitsB en) f x.size ∧ Fed w.heap.size wr en sh lo held v1 (bads L2.length) v2 L2 ∧ Below w.heap.size w wr) (fun _ _ sv _ => strSize sv)
  case atStart =>
    refine ⟨held, _, [], rfl, Nat.le_refl _, HZ.out, HS0.out.symm, ⟨(DecAt.new _ _ _ _ _ _ _ rfl).alloc _, DecAt.new _ _ _ _ _ _ _ (by simp), Two.nil _ _⟩, ?_⟩
    exact ((Below.refl _ _).alloc (Nat.le_refl _) _).alloc (by simp) _
  case round =>
    obtain ⟨x, f, L2, rfl, hxf, hx2, hF, fed, hbw⟩ := hrel
    have HG : Hid _ := hF
    have c0 := fed.d.c0
    clear hF
    have HX : Hid _ := hx2
    have HXF : Hid _ := hxf
    have n2 : L2.length ≤ 2000 := by
      have h1 := congrArg List.length HG.out
      have h3 := HN.out
      have h4 := HZ.out
      rw [List.length_append] at h1
      omega
    clear hx2 hxf
    by_cases hx0 : x.size = 0
    · have hem := isEmpty_yes hx0
      have HE : Hid _ := flushN_none (unitsB en) f
      have HX0 : Hid _ := hx0
      clear hx0
      have c1 := fed.d.c1
      have c2 := fed.d.c2
      have c3 := fed.d.c3
      have f3 := fed.d.fz 3
      have r0 := fed.r.c0
      have r1 := fed.r.c1
      have r2 := fed.r.c2
      have r3 := fed.r.c3
      have g0 := fed.r.fz 0
      have g1 := fed.r.fz 1
      have g2 := fed.r.fz 2
      have g3 := fed.r.fz 3
      have HO : Hid _ := (fed.set3 ⟨#[]⟩).out (below_set hbw w.heap.size 3 (.string ⟨#[]⟩) (Nat.le_refl _) hbw.size) (.int .i64 en) (.int .i64 sh) (.int .i64 lo) (.string ⟨#[]⟩)
      clear fed hbw
      go_wp2
      have hend : F = L2 := by rw [HG.out, HX0.out, HE.out, List.append_nil]
      subst hend
      exact bodyPost_ret (v := .tuple #[decV en sh lo ⟨#[]⟩, u5, u6]) (by simp [results, Tryd.results49, go_sem, r0, r1, r2, r3]) rfl ⟨u5, u6, rfl, HO.out.1, HO.out.2⟩
    · have hx0' : 0 < x.size := by omega
      have hem := isEmpty_no hx0'
      have HX0 : Hid _ := hx0'
      obtain ⟨f, rfl⟩ : ∃ f', f = f' + 1 := ⟨f - 1, by have := HXF.out; omega⟩
      cases hu : unitsB en
      · have HE : Hid (flushN (unitsB en) (f + 1) x.size = 1 :: flushN (unitsB en) f (x.size - 1)) := by
          show _ = _
          obtain ⟨n, hn⟩ : ∃ n, x.size = n + 1 := ⟨x.size - 1, by omega⟩
          rw [hn]; exact flushN_step1 _ f n (.inl hu)
        have HU : Hid _ := hu
        clear hx0 hx0' hu
        have sl := slice_one x (by have := HX0.out; omega)
        go_wp2_with fail
        refine (units_any _ _).mono ?_
        rintro e w1 ⟨rfl, rfl⟩
        rw [HU.out]
        go_wp2_with (at_builtin; refine wpList_append_own_at _ rfl _ _ 28 rfl (w.heap.size + 2) 3 i0 (.int .i64 0) 1 8 Tryd.underlying28 hi hz0 hz1 hz2 rfl (by decide) _ _ _ rfl (fed.t.a.alloc _) ⟨_, 0, none⟩ 1 1 [.int .i64 65533] rfl rfl ?c1 ?c2 ?c3 ?c4 ?c5 ?_)
        case c1 => exact cell_one_new _ _ _
        case c2 => intro u hu; simp at hu; subst hu; rfl
        case c3 => rw [bads_len]; unfold maxLen; omega
        case c4 => rw [bads_len]; omega
        case c5 => have := fed.r.lt; simp at this ⊢; omega
        intro v1' w2 hown2 hgrow _ hat
        have fed2 := (fed.alloc _).push (M := [65533]) hown2 rfl hgrow (by simpa using hat)
        rw [bads_succ] at fed2
        have hbw2 := Below.grown_row (hbw.alloc hbw.size _) (fed.t.a.alloc _) hgrow (by have := hbw.size; simp at this ⊢; omega) (by omega)
        clear hown2 hgrow hat fed hbw c0
        go_wp2_with (at_builtin; refine wpList_append_own_at _ rfl _ _ 28 rfl (w.heap.size + 2) 3 i0 (.int .i64 0) 1 8 Tryd.underlying28 hi hz0 hz1 hz2 rfl (by decide) _ _ _ rfl (fed2.t.b.alloc _) ⟨_, 0, none⟩ 1 1 [.int .i64 1] rfl rfl ?c1 ?c2 ?c3 ?c4 ?c5 ?_)
        case c1 => exact cell_one_new _ _ _
        case c2 => intro u hu; simp at hu; subst hu; rfl
        case c3 => unfold maxLen; omega
        case c4 => omega
        case c5 => have := fed2.r.lt; simp at this ⊢; omega
        intro v2' w3 hown3 hgrow _ hat
        have fed3 := (fed2.alloc _).push2 (M := [1]) hown3 rfl hgrow (by simpa using hat)
        have hbw3 := Below.grown_row (hbw2.alloc hbw2.size _) (fed2.t.b.alloc _) hgrow (by have := hbw2.size; simp at this ⊢; omega) (by omega)
        clear hown3 hgrow hat fed2 hbw2
        go_wp2
        have q1 := HX0.out
        have q2 := HX.out
        have q3 := HXF.out
        have hz' : (x.extract 1 x.size).size = x.size - 1 := by rw [ByteArray.size_extract]; omega
        go_roundw
        case rel => exact ⟨_, f, L2 ++ [1], rfl, by omega, by omega, by rw [HG.out, HE.out, hz']; simp [HU.out], by rw [List.length_append]; exact fed3, hbw3⟩
        case measure => simp only [strSize]; omega
      · have HU : Hid _ := hu
        by_cases h1 : x.size = 1
        · have HE : Hid (flushN (unitsB en) (f + 1) x.size = 1 :: flushN (unitsB en) f (x.size - 1)) := by
            show _ = _
            rw [h1]; exact flushN_step1 _ f 0 (.inr rfl)
          have h1I : ¬ (1 : Int) < x.size := by omega
          clear hx0 hx0' hu h1
          have sl := slice_one x (by have := HX0.out; omega)
          go_wp2_with fail
          refine (units_any _ _).mono ?_
          rintro e w1 ⟨rfl, rfl⟩
          rw [HU.out]
          go_wp2_with (at_builtin; refine wpList_append_own_at _ rfl _ _ 28 rfl (w.heap.size + 2) 3 i0 (.int .i64 0) 1 8 Tryd.underlying28 hi hz0 hz1 hz2 rfl (by decide) _ _ _ rfl (fed.t.a.alloc _) ⟨_, 0, none⟩ 1 1 [.int .i64 65533] rfl rfl ?c1 ?c2 ?c3 ?c4 ?c5 ?_)
          case c1 => exact cell_one_new _ _ _
          case c2 => intro u hu; simp at hu; subst hu; rfl
          case c3 => rw [bads_len]; unfold maxLen; omega
          case c4 => rw [bads_len]; omega
          case c5 => have := fed.r.lt; simp at this ⊢; omega
          intro v1' w2 hown2 hgrow _ hat
          have fed2 := (fed.alloc _).push (M := [65533]) hown2 rfl hgrow (by simpa using hat)
          rw [bads_succ] at fed2
          have hbw2 := Below.grown_row (hbw.alloc hbw.size _) (fed.t.a.alloc _) hgrow (by have := hbw.size; simp at this ⊢; omega) (by omega)
          clear hown2 hgrow hat fed hbw c0
          go_wp2_with (at_builtin; refine wpList_append_own_at _ rfl _ _ 28 rfl (w.heap.size + 2) 3 i0 (.int .i64 0) 1 8 Tryd.underlying28 hi hz0 hz1 hz2 rfl (by decide) _ _ _ rfl (fed2.t.b.alloc _) ⟨_, 0, none⟩ 1 1 [.int .i64 1] rfl rfl ?c1 ?c2 ?c3 ?c4 ?c5 ?_)
          case c1 => exact cell_one_new _ _ _
          case c2 => intro u hu; simp at hu; subst hu; rfl
          case c3 => unfold maxLen; omega
          case c4 => omega
          case c5 => have := fed2.r.lt; simp at this ⊢; omega
          intro v2' w3 hown3 hgrow _ hat
          have fed3 := (fed2.alloc _).push2 (M := [1]) hown3 rfl hgrow (by simpa using hat)
          have hbw3 := Below.grown_row (hbw2.alloc hbw2.size _) (fed2.t.b.alloc _) hgrow (by have := hbw2.size; simp at this ⊢; omega) (by omega)
          clear hown3 hgrow hat fed2 hbw2
          go_wp2
          have q1 := HX0.out
          have q2 := HX.out
          have q3 := HXF.out
          have hz' : (x.extract 1 x.size).size = x.size - 1 := by rw [ByteArray.size_extract]; omega
          go_roundw
          case rel => exact ⟨_, f, L2 ++ [1], rfl, by omega, by omega, by rw [HG.out, HE.out, hz']; simp [HU.out], by rw [List.length_append]; exact fed3, hbw3⟩
          case measure => simp only [strSize]; omega
        · have HE : Hid (flushN (unitsB en) (f + 1) x.size = 2 :: flushN (unitsB en) f (x.size - 2)) := by
            show _ = _
            obtain ⟨n, hn⟩ : ∃ n, x.size = n + 2 := ⟨x.size - 2, by omega⟩
            rw [hn, hu]; exact flushN_step2 f n
          have h1I : (1 : Int) < x.size := by omega
          clear hx0 hx0' hu h1
          have sl := slice_two x (by omega)
          go_wp2_with fail
          refine (units_any _ _).mono ?_
          rintro e w1 ⟨rfl, rfl⟩
          rw [HU.out]
          go_wp2_with (at_builtin; refine wpList_append_own_at _ rfl _ _ 28 rfl (w.heap.size + 2) 3 i0 (.int .i64 0) 1 8 Tryd.underlying28 hi hz0 hz1 hz2 rfl (by decide) _ _ _ rfl (fed.t.a.alloc _) ⟨_, 0, none⟩ 1 1 [.int .i64 65533] rfl rfl ?c1 ?c2 ?c3 ?c4 ?c5 ?_)
          case c1 => exact cell_one_new _ _ _
          case c2 => intro u hu; simp at hu; subst hu; rfl
          case c3 => rw [bads_len]; unfold maxLen; omega
          case c4 => rw [bads_len]; omega
          case c5 => have := fed.r.lt; simp at this ⊢; omega
          intro v1' w2 hown2 hgrow _ hat
          have fed2 := (fed.alloc _).push (M := [65533]) hown2 rfl hgrow (by simpa using hat)
          rw [bads_succ] at fed2
          have hbw2 := Below.grown_row (hbw.alloc hbw.size _) (fed.t.a.alloc _) hgrow (by have := hbw.size; simp at this ⊢; omega) (by omega)
          clear hown2 hgrow hat fed hbw c0
          go_wp2_with (at_builtin; refine wpList_append_own_at _ rfl _ _ 28 rfl (w.heap.size + 2) 3 i0 (.int .i64 0) 1 8 Tryd.underlying28 hi hz0 hz1 hz2 rfl (by decide) _ _ _ rfl (fed2.t.b.alloc _) ⟨_, 0, none⟩ 1 1 [.int .i64 2] rfl rfl ?c1 ?c2 ?c3 ?c4 ?c5 ?_)
          case c1 => exact cell_one_new _ _ _
          case c2 => intro u hu; simp at hu; subst hu; rfl
          case c3 => unfold maxLen; omega
          case c4 => omega
          case c5 => have := fed2.r.lt; simp at this ⊢; omega
          intro v2' w3 hown3 hgrow _ hat
          have fed3 := (fed2.alloc _).push2 (M := [2]) hown3 rfl hgrow (by simpa using hat)
          have hbw3 := Below.grown_row (hbw2.alloc hbw2.size _) (fed2.t.b.alloc _) hgrow (by have := hbw2.size; simp at this ⊢; omega) (by omega)
          clear hown3 hgrow hat fed2 hbw2
          go_wp2
          have q1 := HX0.out
          have q2 := HX.out
          have q3 := HXF.out
          have hz' : (x.extract 2 x.size).size = x.size - 2 := by rw [ByteArray.size_extract]; omega
          go_roundw
          case rel => exact ⟨_, f, L2 ++ [2], rfl, by omega, by omega, by rw [HG.out, HE.out, hz']; simp [HU.out], by rw [List.length_append]; exact fed3, hbw3⟩
          case measure => simp only [strSize]; omega
end Go.Proofs.YtcclollclbegoaaDoor

/-
  Contract of spec.l2Feed with a code of one byte.
-/
import Derived.Test.YtcclollclbegoaaDoorD2Two
namespace Go.Proofs.YtcclollclbegoaaDoor
open Go.ChangeShapes Go.WideShapes Go.ChangeAt Go.RowKit
set_option maxRecDepth 100000 in
set_option maxHeartbeats 2000000 in
theorem feed4_any (sh lo : Int) (held s : ByteArray) (w : World) (hs : s.size ≤ 1000) (l0 : 0 ≤ lo) (l1 : lo ≤ 1000) :
    Calls Tryd.prog 39 #[decV 4 sh lo held, .string s] w fun e w' => ∃ v1 v2, e = .returned (.tuple #[decV 4 (feedB 4 s.data.toList sh lo).2.2.1 (feedB 4 s.data.toList sh lo).2.2.2 held, v1, v2]) ∧
      Two w.heap.size w' v1 (feedB 4 s.data.toList sh lo).1 v2 (feedB 4 s.data.toList sh lo).2.1 ∧ Below w.heap.size w w' := by
  obtain ⟨i0, hi, hz0, hz1, hz2⟩ := info_parts Tryd.info3
  have HF : Hid (feedB 4 s.data.toList sh lo = feedT [] [] (feedB 4 (s.data.toList.drop 0) sh lo)) := rfl
  have HN : Hid (_ ∧ _) := feedB_len 4 s.data.toList sh lo
  generalize feedB 4 s.data.toList sh lo = F at *
  go_enter Tryd.func39, Tryd.ntmps39
  go_wp2
  go_loopw [7, 8, 9] (fun v1 v2 p wr => ∃ (k : Nat) (L1 L2 : List Int) (sh' lo' : Int), k ≤ s.size ∧ p = .int .i64 k ∧ 0 ≤ lo' ∧ lo' ≤ 1000 ∧ F = feedT L1 L2 (feedB 4 (s.data.toList.drop k) sh' lo') ∧ Fed w.heap.size wr 4 sh' lo' held v1 L1 v2 L2 ∧ Below w.heap.size w wr) (fun _ _ p _ => s.size - (intOf p).toNat)
  case atStart =>
    refine ⟨0, [], [], sh, lo, Nat.zero_le _, rfl, l0, l1, HF.out, ⟨(DecAt.new _ _ _ _ _ _ _ rfl).alloc _, DecAt.new _ _ _ _ _ _ _ (by simp), Two.nil _ _⟩, ?_⟩
    exact ((Below.refl _ _).alloc (Nat.le_refl _) _).alloc (by simp) _
  case round =>
    obtain ⟨k, L1, L2, sh', lo', hk, rfl, l0', l1', hF, fed, hbw⟩ := hrel
    have HG : Hid _ := hF
    have c0 := fed.d.c0
    have c1 := fed.d.c1
    have c2 := fed.d.c2
    have c3 := fed.d.c3
    have f1 := fed.d.fz 1
    have f2 := fed.d.fz 2
    clear hF
    by_cases hlt : k < s.size
    · have hltI : (k : Int) < s.size := by omega
      have cb := byte_le s k hlt
      have fed1 := fed.set2 (lo' + 1)
      have hbw1 := below_set hbw w.heap.size 2 (.int .i64 (lo' + 1)) (Nat.le_refl _) hbw.size
      have hlen : L1.length ≤ 1000 ∧ L2.length ≤ 1000 := by
        have h1 := congrArg (fun G => G.1.length) HG.out
        have h2 := congrArg (fun G => G.2.1.length) HG.out
        have h3 := HN.out
        simp only [feedT, List.length_append] at h1 h2
        have : s.data.toList.length = s.size := by simp
        omega
      obtain ⟨n1, n2⟩ := hlen
      have HS : Hid _ := feedT_latin L1 L2 sh' lo' s[k] (s.data.toList.drop (k + 1))
      have HD : Hid _ := drop_at s k hlt
      go_wp2_with (at_builtin; refine wpList_append_own_at _ rfl _ _ 28 rfl (w.heap.size + 2) 3 i0 (.int .i64 0) 1 8 Tryd.underlying28 hi hz0 hz1 hz2 rfl (by decide) _ _ _ rfl (fed1.t.a.alloc _) ⟨_, 0, none⟩ 1 1 [.int .i64 s[k].toNat] rfl rfl ?c1 ?c2 ?c3 ?c4 ?c5 ?_)
      case c1 => have := cell_one_new (wr.setCell ⟨w.heap.size, 2, none⟩ (.int .i64 (lo' + 1))) (.int .i64 s[k].toNat) 3; rwa [World.size_setCell] at this
      case c2 => intro u hu; simp at hu; subst hu; rfl
      case c3 => unfold maxLen; omega
      case c4 => omega
      case c5 => have := fed1.r.lt; simp at this ⊢; omega
      intro v1' w2 hown2 hgrow _ hat
      have fed2 := (fed1.alloc _).push (M := [(s[k].toNat : Int)]) hown2 rfl hgrow (by simpa using hat)
      have hbw2 := Below.grown_row (hbw1.alloc hbw1.size _) (fed1.t.a.alloc _) hgrow (by have := hbw1.size; simp at this ⊢; omega) (by omega)
      have d2 := fed2.d.c2
      clear hown2 hgrow hat fed fed1 hbw hbw1 c0 c1 c2 c3 f1 f2
      go_wp2_with (at_builtin; refine wpList_append_own_at _ rfl _ _ 28 rfl (w.heap.size + 2) 3 i0 (.int .i64 0) 1 8 Tryd.underlying28 hi hz0 hz1 hz2 rfl (by decide) _ _ _ rfl (fed2.t.b.alloc _) ⟨_, 0, none⟩ 1 1 [.int .i64 (lo' + 1)] rfl rfl ?c1 ?c2 ?c3 ?c4 ?c5 ?_)
      case c1 => exact cell_one_new _ _ _
      case c2 => intro u hu; simp at hu; subst hu; rfl
      case c3 => unfold maxLen; omega
      case c4 => omega
      case c5 => have := fed2.r.lt; simp at this ⊢; omega
      intro v2' w3 hown3 hgrow _ hat
      have fed3 := (fed2.alloc _).push2 (M := [lo' + 1]) hown3 rfl hgrow (by simpa using hat)
      have hbw3 := Below.grown_row (hbw2.alloc hbw2.size _) (fed2.t.b.alloc _) hgrow (by have := hbw2.size; simp at this ⊢; omega) (by omega)
      have d3 := fed3.d.c2
      have f3 := fed3.d.fz 2
      clear hown3 hgrow hat fed2 hbw2 d2
      go_wp2
      go_roundw
      case rel => exact ⟨k + 1, _, _, sh', 0, by omega, by go_num, by omega, by omega, by rw [HG.out, HD.out, HS.out], fed3.set2 0, below_set hbw3 _ _ _ (Nat.le_refl _) hbw3.size⟩
      case measure => simp [intOf]; omega
    · have hltI : ¬ (k : Int) < s.size := by omega
      have r0 := fed.r.c0
      have r1 := fed.r.c1
      have r2 := fed.r.c2
      have r3 := fed.r.c3
      have g0 := fed.r.fz 0
      have g1 := fed.r.fz 1
      have g2 := fed.r.fz 2
      have g3 := fed.r.fz 3
      have HO : Hid _ := fed.out hbw (.int .i64 4) (.int .i64 sh') (.int .i64 lo') (.string held)
      clear fed hbw
      go_wp2
      have hend : F = (L1, L2, sh', lo') := by
        rw [HG.out, List.drop_eq_nil_of_le (by simp; omega)]
        simp [feedT, feedB]
      subst hend
      exact bodyPost_ret (v := .tuple #[decV 4 sh' lo' held, u7, u8]) (by simp [results, Tryd.results39, go_sem, r0, r1, r2, r3]) rfl ⟨u7, u8, rfl, HO.out.1, HO.out.2⟩
set_option maxRecDepth 100000 in
set_option maxHeartbeats 2000000 in
theorem feed5_any (sh lo : Int) (held s : ByteArray) (w : World) (hs : s.size ≤ 1000) (l0 : 0 ≤ lo) (l1 : lo ≤ 1000) (s0 : 0 ≤ sh) (s1 : sh ≤ 1) :
    Calls Tryd.prog 39 #[decV 5 sh lo held, .string s] w fun e w' => ∃ v1 v2, e = .returned (.tuple #[decV 5 (feedB 5 s.data.toList sh lo).2.2.1 (feedB 5 s.data.toList sh lo).2.2.2 held, v1, v2]) ∧
      Two w.heap.size w' v1 (feedB 5 s.data.toList sh lo).1 v2 (feedB 5 s.data.toList sh lo).2.1 ∧ Below w.heap.size w w' := by
  obtain ⟨i0, hi, hz0, hz1, hz2⟩ := info_parts Tryd.info3
  have HF : Hid (feedB 5 s.data.toList sh lo = feedT [] [] (feedB 5 (s.data.toList.drop 0) sh lo)) := rfl
  have HN : Hid (_ ∧ _) := feedB_len 5 s.data.toList sh lo
  generalize feedB 5 s.data.toList sh lo = F at *
  go_enter Tryd.func39, Tryd.ntmps39
  go_wp2
  go_loopw [7, 8, 9] (fun v1 v2 p wr => ∃ (k : Nat) (L1 L2 : List Int) (sh' lo' : Int), k ≤ s.size ∧ p = .int .i64 k ∧ 0 ≤ lo' ∧ lo' ≤ 1000 + k ∧ 0 ≤ sh' ∧ sh' ≤ 1 ∧ F = feedT L1 L2 (feedB 5 (s.data.toList.drop k) sh' lo') ∧ Fed w.heap.size wr 5 sh' lo' held v1 L1 v2 L2 ∧ Below w.heap.size w wr) (fun _ _ p _ => s.size - (intOf p).toNat)
  case atStart =>
    refine ⟨0, [], [], sh, lo, Nat.zero_le _, rfl, l0, by omega, s0, s1, HF.out, ⟨(DecAt.new _ _ _ _ _ _ _ rfl).alloc _, DecAt.new _ _ _ _ _ _ _ (by simp), Two.nil _ _⟩, ?_⟩
    exact ((Below.refl _ _).alloc (Nat.le_refl _) _).alloc (by simp) _
  case round =>
    obtain ⟨k, L1, L2, sh', lo', hk, rfl, l0', l1', s0', s1', hF, fed, hbw⟩ := hrel
    have HG : Hid _ := hF
    have c0 := fed.d.c0
    have c1 := fed.d.c1
    have c2 := fed.d.c2
    have c3 := fed.d.c3
    have f1 := fed.d.fz 1
    have f2 := fed.d.fz 2
    clear hF
    by_cases hlt : k < s.size
    · have hltI : (k : Int) < s.size := by omega
      have cb := byte_le s k hlt
      have fed1 := fed.set2 (lo' + 1)
      have hbw1 := below_set hbw w.heap.size 2 (.int .i64 (lo' + 1)) (Nat.le_refl _) hbw.size
      have hlen : L1.length ≤ 1000 ∧ L2.length ≤ 1000 := by
        have h1 := congrArg (fun G => G.1.length) HG.out
        have h2 := congrArg (fun G => G.2.1.length) HG.out
        have h3 := HN.out
        simp only [feedT, List.length_append] at h1 h2
        have : s.data.toList.length = s.size := by simp
        omega
      obtain ⟨n1, n2⟩ := hlen
      have HD : Hid _ := drop_at s k hlt
      by_cases hsk : (s[k].toNat : Int) = 14 ∨ (s[k].toNat : Int) = 15
      · have HS : Hid _ := feedT_skip L1 L2 sh' lo' s[k] (s.data.toList.drop (k + 1)) hsk
        have fed2 := fed1.set1 (15 - s[k].toNat)
        have hbw2 := below_set hbw1 w.heap.size 1 (.int .i64 (15 - s[k].toNat)) (Nat.le_refl _) hbw1.size
        have test : ((s[k].toNat : Int) == 14) = true ∨ (((s[k].toNat : Int) == 14) = false ∧ ((s[k].toNat : Int) == 15) = true) := by
          rcases hsk with h | h
          · exact .inl (by rw [h]; rfl)
          · exact .inr ⟨by rw [h]; rfl, by rw [h]; rfl⟩
        have sb : 0 ≤ (15 : Int) - s[k].toNat ∧ (15 : Int) - s[k].toNat ≤ 1 := by omega
        clear hsk
        rcases test with e14 | ⟨e14, e15⟩
        · skip
          go_wp2
          go_roundw
          case rel => exact ⟨k + 1, _, _, 15 - s[k].toNat, lo' + 1, by omega, by go_num, by omega, by omega, sb.1, sb.2, by rw [HG.out, HD.out, HS.out], fed2, hbw2⟩
          case measure => simp [intOf]; omega
        · skip
          go_wp2
          go_roundw
          case rel => exact ⟨k + 1, _, _, 15 - s[k].toNat, lo' + 1, by omega, by go_num, by omega, by omega, sb.1, sb.2, by rw [HG.out, HD.out, HS.out], fed2, hbw2⟩
          case measure => simp [intOf]; omega
      · have HS : Hid _ := feedT_shift L1 L2 sh' lo' s[k] (s.data.toList.drop (k + 1)) hsk
        have e14 : ((s[k].toNat : Int) == 14) = false := by rw [beq_eq_false_iff_ne]; omega
        have e15 : ((s[k].toNat : Int) == 15) = false := by rw [beq_eq_false_iff_ne]; omega
        clear hsk
        go_wp2_with fail
        refine (shifted_any _ _ _).mono ?_
        rintro e w1 ⟨rfl, rfl⟩
        go_wp2_with (at_builtin; refine wpList_append_own_at _ rfl _ _ 28 rfl (w.heap.size + 2) 3 i0 (.int .i64 0) 1 8 Tryd.underlying28 hi hz0 hz1 hz2 rfl (by decide) _ _ _ rfl (fed1.t.a.alloc _) ⟨_, 0, none⟩ 1 1 [.int .i64 (shiftedN sh' s[k].toNat)] rfl rfl ?c1 ?c2 ?c3 ?c4 ?c5 ?_)
        case c1 => have := cell_one_new (wr.setCell ⟨w.heap.size, 2, none⟩ (.int .i64 (lo' + 1))) (.int .i64 (shiftedN sh' s[k].toNat)) 3; rwa [World.size_setCell] at this
        case c2 => intro u hu; simp at hu; subst hu; rfl
        case c3 => unfold maxLen; omega
        case c4 => omega
        case c5 => have := fed1.r.lt; simp at this ⊢; omega
        intro v1' w2 hown2 hgrow _ hat
        have fed2 := (fed1.alloc _).push (M := [shiftedN sh' s[k].toNat]) hown2 rfl hgrow (by simpa using hat)
        have hbw2 := Below.grown_row (hbw1.alloc hbw1.size _) (fed1.t.a.alloc _) hgrow (by have := hbw1.size; simp at this ⊢; omega) (by omega)
        have d2 := fed2.d.c2
        clear hown2 hgrow hat fed fed1 hbw hbw1 c0 c1 c2 c3 f1 f2
        go_wp2_with (at_builtin; refine wpList_append_own_at _ rfl _ _ 28 rfl (w.heap.size + 2) 3 i0 (.int .i64 0) 1 8 Tryd.underlying28 hi hz0 hz1 hz2 rfl (by decide) _ _ _ rfl (fed2.t.b.alloc _) ⟨_, 0, none⟩ 1 1 [.int .i64 (lo' + 1)] rfl rfl ?c1 ?c2 ?c3 ?c4 ?c5 ?_)
        case c1 => exact cell_one_new _ _ _
        case c2 => intro u hu; simp at hu; subst hu; rfl
        case c3 => unfold maxLen; omega
        case c4 => omega
        case c5 => have := fed2.r.lt; simp at this ⊢; omega
        intro v2' w3 hown3 hgrow _ hat
        have fed3 := (fed2.alloc _).push2 (M := [lo' + 1]) hown3 rfl hgrow (by simpa using hat)
        have hbw3 := Below.grown_row (hbw2.alloc hbw2.size _) (fed2.t.b.alloc _) hgrow (by have := hbw2.size; simp at this ⊢; omega) (by omega)
        have d3 := fed3.d.c2
        have f3 := fed3.d.fz 2
        clear hown3 hgrow hat fed2 hbw2 d2
        go_wp2
        go_roundw
        case rel => exact ⟨k + 1, _, _, sh', 0, by omega, by go_num, by omega, by omega, s0', s1', by rw [HG.out, HD.out, HS.out], fed3.set2 0, below_set hbw3 _ _ _ (Nat.le_refl _) hbw3.size⟩
        case measure => simp [intOf]; omega
    · have hltI : ¬ (k : Int) < s.size := by omega
      have r0 := fed.r.c0
      have r1 := fed.r.c1
      have r2 := fed.r.c2
      have r3 := fed.r.c3
      have g0 := fed.r.fz 0
      have g1 := fed.r.fz 1
      have g2 := fed.r.fz 2
      have g3 := fed.r.fz 3
      have HO : Hid _ := fed.out hbw (.int .i64 5) (.int .i64 sh') (.int .i64 lo') (.string held)
      clear fed hbw
      go_wp2
      have hend : F = (L1, L2, sh', lo') := by
        rw [HG.out, List.drop_eq_nil_of_le (by simp; omega)]
        simp [feedT, feedB]
      subst hend
      exact bodyPost_ret (v := .tuple #[decV 5 sh' lo' held, u7, u8]) (by simp [results, Tryd.results39, go_sem, r0, r1, r2, r3]) rfl ⟨u7, u8, rfl, HO.out.1, HO.out.2⟩
end Go.Proofs.YtcclollclbegoaaDoor

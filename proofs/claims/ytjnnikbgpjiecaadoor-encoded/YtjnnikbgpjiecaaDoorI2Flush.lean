/-
  Contract of impl.FlushDecoder.
-/
import Derived.Test.YtjnnikbgpjiecaaDoorI2Good
import Derived.Test.YtjnnikbgpjiecaaDoorD2Dec
namespace Go.Proofs.YtjnnikbgpjiecaaDoor
open Go.ChangeShapes Go.WideShapes Go.ChangeAt Go.RowKit
def badN (en : Int) : Int := if unitsB en then 2 else 1
set_option maxRecDepth 100000 in
set_option maxHeartbeats 400000 in
theorem bs_1 (w : World) : Calls Tryd.prog 54 #[codV 96] w fun e w' => e = .returned (.int .i64 (badN 1)) ∧ w' = w := by
  have asn := fun xT w => as_1 (.agg #[]) xT w
  go_enter Tryd.func54, Tryd.ntmps54
  go_wp2
  go_ret
  exact ⟨rfl, rfl⟩
set_option maxRecDepth 100000 in
set_option maxHeartbeats 400000 in
theorem bs_2 (w : World) : Calls Tryd.prog 54 #[codV 97] w fun e w' => e = .returned (.int .i64 (badN 2)) ∧ w' = w := by
  have asn := fun xT w => as_2 (.agg #[]) xT w
  go_enter Tryd.func54, Tryd.ntmps54
  go_wp2
  go_ret
  exact ⟨rfl, rfl⟩
set_option maxRecDepth 100000 in
set_option maxHeartbeats 400000 in
theorem bs_3 (w : World) : Calls Tryd.prog 54 #[codV 98] w fun e w' => e = .returned (.int .i64 (badN 3)) ∧ w' = w := by
  have asn := fun xT w => as_3 (.agg #[]) xT w
  go_enter Tryd.func54, Tryd.ntmps54
  go_wp2
  go_ret
  exact ⟨rfl, rfl⟩
set_option maxRecDepth 100000 in
set_option maxHeartbeats 400000 in
theorem bs_4 (w : World) : Calls Tryd.prog 54 #[codV 99] w fun e w' => e = .returned (.int .i64 (badN 4)) ∧ w' = w := by
  have asn := fun xT w => as_4 (.agg #[]) xT w
  go_enter Tryd.func54, Tryd.ntmps54
  go_wp2
  go_ret
  exact ⟨rfl, rfl⟩
set_option maxRecDepth 100000 in
set_option maxHeartbeats 400000 in
theorem bs_5 (b : Nat) (w : World) : Calls Tryd.prog 54 #[shV b] w fun e w' => e = .returned (.int .i64 (badN 5)) ∧ w' = w := by
  have asn := fun xT w => as_5 (.pointer (some ⟨b, 0, none⟩)) xT w
  go_enter Tryd.func54, Tryd.ntmps54
  go_wp2
  go_ret
  exact ⟨rfl, rfl⟩
theorem code_bad (en sh : Int) (w : World) (h : 1 ≤ en ∧ en ≤ 5) : Calls Tryd.prog 42 #[.int .i64 en, .int .i64 sh] w fun e w' => ∃ cv, e = .returned (.tuple #[cv, .bool true]) ∧
    (∀ w, Calls Tryd.prog 54 #[cv] w fun e w' => e = .returned (.int .i64 (badN en)) ∧ w' = w) ∧ Below w.heap.size w w' := by
  rcases (by omega : en = 1 ∨ en = 2 ∨ en = 3 ∨ en = 4 ∨ en = 5) with rfl | rfl | rfl | rfl | rfl
  · exact (codeOf_1 sh w).mono fun e w' ⟨he, hw⟩ => ⟨_, he, fun w => bs_1 w, by rw [hw]; exact Below.refl _ _⟩
  · exact (codeOf_2 sh w).mono fun e w' ⟨he, hw⟩ => ⟨_, he, fun w => bs_2 w, by rw [hw]; exact Below.refl _ _⟩
  · exact (codeOf_3 sh w).mono fun e w' ⟨he, hw⟩ => ⟨_, he, fun w => bs_3 w, by rw [hw]; exact Below.refl _ _⟩
  · exact (codeOf_4 sh w).mono fun e w' ⟨he, hw⟩ => ⟨_, he, fun w => bs_4 w, by rw [hw]; exact Below.refl _ _⟩
  · exact (codeOf_5 sh w).mono fun e w' ⟨he, hw⟩ => ⟨_, he, fun w' => bs_5 _ w', by rw [hw]; exact (Below.refl _ _).alloc (Nat.le_refl _) _⟩
set_option maxRecDepth 100000 in
set_option maxHeartbeats 1000000 in
theorem iflushD_bad (en sh lo : Int) (held : ByteArray) (w : World) (hT : Tabs w) (hg : goodD en sh lo held = false) :
    Calls Tryd.prog 20 #[decV en sh lo held] w fun e w' => e = .returned (.tuple #[decV 0 0 0 ⟨#[]⟩, .slice none 0 0, .slice none 0 0, .bool false]) ∧ Below w.heap.size w w' := by
  have HG : Hid _ := hg
  have HT : Hid _ := hT
  clear hg hT
  obtain ⟨-, hr, hb⟩ := laid_two w en sh lo held 25 25
  go_enter Tryd.func20, Tryd.ntmps20
  go_wp2_with fail
  refine (igd_any _ _ _ _ _ (HT.out.below hb)).mono ?_
  rintro e w1 ⟨rfl, b1⟩
  rw [HG.out]
  have hb1 := hb.trans (b1.mono hb.size)
  obtain ⟨r0, r1, r2, r3, gz, -⟩ := hr.below b1
  have g0 := gz 0
  have g1 := gz 1
  have g2 := gz 2
  have g3 := gz 3
  clear gz hr hb b1
  go_wp2
  exact bodyPost_ret (v := .tuple #[decV 0 0 0 ⟨#[]⟩, .slice none 0 0, .slice none 0 0, .bool false]) (by simp [results, Tryd.results20, go_sem, r0, r1, r2, r3]) rfl ⟨rfl, below_put hb1 (by omega) hb1.size _ _ _ _⟩
set_option maxRecDepth 100000 in
set_option maxHeartbeats 2000000 in
theorem iflushD_yes (en sh lo : Int) (held : ByteArray) (w : World) (hT : Tabs w) (hg : goodD en sh lo held = true) :
    Calls Tryd.prog 20 #[decV en sh lo held] w fun e w' => ∃ v1 v2, e = .returned (.tuple #[decV en sh lo ⟨#[]⟩, v1, v2, .bool true]) ∧
      Two w.heap.size w' v1 (bads (flushN (unitsB en) held.size held.size).length) v2 (flushN (unitsB en) held.size held.size) ∧ Below w.heap.size w w' := by
  obtain ⟨i0, hi, hz0, hz1, hz2⟩ := info_parts Tryd.info3
  have HN : Hid _ := flushN_len (unitsB en) held.size held.size
  obtain ⟨hen, -, -, -, hh, -⟩ := goodD_facts hg
  have HE5 : Hid _ := hen
  have HZ : Hid _ := hh
  have HG : Hid _ := hg
  have HT : Hid _ := hT
  clear hh hen hg hT
  generalize hFF : flushN (unitsB en) held.size held.size = F at *
  have HS0 : Hid _ := hFF
  clear hFF
  obtain ⟨hd, hr, hb⟩ := laid_two w en sh lo held 25 25
  go_enter Tryd.func20, Tryd.ntmps20
  go_wp2_with fail
  refine (igd_any _ _ _ _ _ (HT.out.below hb)).mono ?_
  rintro e w1 ⟨rfl, b1⟩
  rw [HG.out]
  have hb1 := hb.trans (b1.mono hb.size)
  have hd1 := hd.below b1
  have hr1 := hr.below b1
  obtain ⟨d0, d1, d2, d3, -, -⟩ := hd.below b1
  clear hd hr hb b1
  go_wp2_with fail
  refine (code_bad en sh _ HE5.out).mono ?_
  rintro e w2 ⟨cv, rfl, hB, b2⟩
  have HB : Hid _ := hB
  have hb2 := hb1.trans (b2.mono hb1.size)
  have hd2 := hd1.below b2
  have hr2 := hr1.below b2
  obtain ⟨d0', d1', d2', d3', -, -⟩ := hd1.below b2
  clear hd1 hr1 hb1 b2 d0 d1 d2 d3 hB
  go_wp2
  go_loopw [8, 9, 10] (fun v1 v2 p wr => ∃ (k f : Nat) (L2 : List Int), p = .int .i64 k ∧ k ≤ f ∧ k ≤ 3 ∧ F = L2 ++ flushN (unitsB en) f k ∧ Fed w.heap.size wr en sh lo held v1 (bads L2.length) v2 L2 ∧ Below w.heap.size w wr) (fun _ _ p _ => (intOf p).toNat)
  case atStart =>
    exact ⟨held.size, _, [], rfl, Nat.le_refl _, HZ.out, HS0.out.symm, ⟨hd2, hr2, Two.nil _ _⟩, hb2⟩
  case round =>
    clear hd2 hr2 hb2 d0' d1' d2' d3'
    obtain ⟨k, f, L2, rfl, hkf, hk3, hF, fed, hbw⟩ := hrel
    have HF : Hid _ := hF
    clear hF
    have n2 : L2.length ≤ 2000 := by
      have h1 := congrArg List.length HF.out
      have h3 := HN.out
      have h4 := HZ.out
      rw [List.length_append] at h1
      omega
    by_cases hk : 0 < k
    · have hkI : (0 : Int) < k := by omega
      obtain ⟨f, rfl⟩ : ∃ f', f = f' + 1 := ⟨f - 1, by omega⟩
      obtain ⟨n, hmin, hn0, hnk, hst⟩ : ∃ n : Nat, min (k : Int) (badN en) = n ∧ 0 < n ∧ n ≤ k ∧ flushN (unitsB en) (f + 1) k = (n : Int) :: flushN (unitsB en) f (k - n) := by
        unfold badN
        cases hu : unitsB en
        · refine ⟨1, by simp; omega, by omega, by omega, ?_⟩
          obtain ⟨m, rfl⟩ : ∃ m, k = m + 1 := ⟨k - 1, by omega⟩
          exact flushN_step1 _ f m (.inl rfl)
        · by_cases h2 : 2 ≤ k
          · refine ⟨2, by simp; omega, by omega, by omega, ?_⟩
            obtain ⟨m, rfl⟩ : ∃ m, k = m + 2 := ⟨k - 2, by omega⟩
            exact flushN_step2 f m
          · refine ⟨1, by simp; omega, by omega, by omega, ?_⟩
            obtain rfl : k = 1 := by omega
            exact flushN_step1 _ f 0 (.inr rfl)
      have HST : Hid _ := hst
      have HMIN : Hid _ := hmin
      clear hst hmin
      go_wp2_with fail
      refine (HB.out _).mono ?_
      rintro e w3 ⟨rfl, rfl⟩
      have hmin := HMIN.out
      generalize badN en = q at *
      have h3 : (k : Int) < q ∧ n = k ∨ (k : Int) = q ∧ n = k ∨ q < (k : Int) ∧ q = n := by omega
      rcases h3 with ⟨hlt, rfl⟩ | ⟨rfl, rfl⟩ | ⟨hlt, rfl⟩
      all_goals
        go_wp2_with (at_builtin; refine wpList_append_own_at _ rfl _ _ 28 rfl (w.heap.size + 2) 3 i0 (.int .i64 0) 1 8 Tryd.underlying28 hi hz0 hz1 hz2 rfl (by decide) _ _ _ rfl (fed.t.a.alloc _) ⟨_, 0, none⟩ 1 1 [.int .i64 65533] rfl rfl ?c1 ?c2 ?c3 ?c4 ?c5 ?_)
        case c1 => exact cell_one_new _ _ _
        case c2 => intro u hu; simp at hu; subst hu; rfl
        case c3 => rw [bads_len]; unfold maxLen; omega
        case c4 => rw [bads_len]; omega
        case c5 => have := fed.r.lt; simp at this ⊢; omega
        intro v1' w4 hown2 hgrow _ hat
        have fed2 := (fed.alloc _).push (M := [65533]) hown2 rfl hgrow (by simpa using hat)
        rw [bads_succ] at fed2
        have hbw2 := Below.grown_row (hbw.alloc hbw.size _) (fed.t.a.alloc _) hgrow (by have := hbw.size; simp at this ⊢; omega) (by omega)
        clear hown2 hgrow hat fed hbw
        go_wp2_with (at_builtin; refine wpList_append_own_at _ rfl _ _ 28 rfl (w.heap.size + 2) 3 i0 (.int .i64 0) 1 8 Tryd.underlying28 hi hz0 hz1 hz2 rfl (by decide) _ _ _ rfl (fed2.t.b.alloc _) ⟨_, 0, none⟩ 1 1 [.int .i64 n] rfl rfl ?c1 ?c2 ?c3 ?c4 ?c5 ?_)
        case c1 => exact cell_one_new _ _ _
        case c2 => intro u hu; simp at hu; subst hu; rfl
        case c3 => unfold maxLen; omega
        case c4 => omega
        case c5 => have := fed2.r.lt; simp at this ⊢; omega
        intro v2' w5 hown3 hgrow _ hat
        have fed3 := (fed2.alloc _).push2 (M := [(n : Int)]) hown3 rfl hgrow (by simpa using hat)
        have hbw3 := Below.grown_row (hbw2.alloc hbw2.size _) (fed2.t.b.alloc _) hgrow (by have := hbw2.size; simp at this ⊢; omega) (by omega)
        clear hown3 hgrow hat fed2 hbw2
        go_wp2
        go_roundw
        case rel => first | exact ⟨k - n, f, _, congrArg (Value.int IntKind.i64) (Int.ofNat_sub hnk).symm, by omega, by omega, (HF.out.trans (congrArg (L2 ++ ·) HST.out)).trans (List.append_assoc L2 [_] _).symm, (by rw [List.length_append]; exact fed3), hbw3⟩ | exact ⟨n - n, f, _, (by rw [Nat.sub_self]; rfl), by omega, by omega, (HF.out.trans (congrArg (L2 ++ ·) HST.out)).trans (List.append_assoc L2 [_] _).symm, (by rw [List.length_append]; exact fed3), hbw3⟩
        case measure => simp [intOf]; omega
    · obtain rfl : k = 0 := by omega
      have hend : F = L2 := by rw [HF.out, flushN_none, List.append_nil]
      have c0 := fed.d.c0
      have c1 := fed.d.c1
      have c2 := fed.d.c2
      have r0 := fed.r.c0
      have r1 := fed.r.c1
      have r2 := fed.r.c2
      have r3 := fed.r.c3
      have g0 := fed.r.fz 0
      have g1 := fed.r.fz 1
      have g2 := fed.r.fz 2
      have g3 := fed.r.fz 3
      have HO : Hid _ := fed.out hbw (.int .i64 en) (.int .i64 sh) (.int .i64 lo) (.string ⟨#[]⟩)
      clear fed hbw HF HN HS0
      subst hend
      go_wp2
      exact bodyPost_ret (v := .tuple #[decV en sh lo ⟨#[]⟩, u8, u9, .bool true]) (by simp [results, Tryd.results20, go_sem, r0, r1, r2, r3]) rfl ⟨u8, u9, rfl, HO.out.1, HO.out.2⟩
end Go.Proofs.YtjnnikbgpjiecaaDoor

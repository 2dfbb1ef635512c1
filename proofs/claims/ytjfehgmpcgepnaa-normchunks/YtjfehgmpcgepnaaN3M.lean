/-
  FeedNorm of the program, for lists that are not too long together.
-/
import Derived.Test.YtjfehgmpcgepnaaN3L
import Derived.Laws.CopyOwn
namespace Go.Proofs.Ytjfehgmpcgepnaa
open Go.ChangeShapes Go.WideShapes Go.ChangeAt Go.RowKit
theorem copy_ex {w w0 : World} {B g off : Nat} {cur : List Value} (hg : w.heap[g]? = some (.cells cur.toArray 3 (0, 0))) (dp ao : Option Addr) (dLen dCap cap : Nat) (L : List Int) (hA : IntsAt w ao L) (hd : dp = some ⟨g, off, none⟩ ∨ L.length = 0) (hle : L.length ≤ dLen) (hfit : off + L.length ≤ cur.length) (hb : Below B w0 w) (hBg : B ≤ g) :
    ∃ w', (∀ ty, (Builtin.copy_ #[24, 24] ty #[.slice dp dLen dCap, .slice ao L.length cap]).run Try.prog w = .ok (goInt L.length) w') ∧ w'.heap[g]? = some (.cells (splice cur off (ints L)).toArray 3 (0, 0)) ∧ Below B w0 w' ∧ w.grownBy w' (some g) := by
  have hs : (Try.prog.info? 3).map (·.size) = some 1 := by kernel_rfl
  by_cases h0 : L.length = 0
  · refine ⟨w, fun ty => ?_, ?_, hb, grown_refl _ _⟩
    · have := run_copy_none (P := Try.prog) w 24 24 ty 3 dp ao dLen dCap L.length cap Try.underlying24 hs (by rw [h0]; exact Nat.zero_min _)
      rw [this, h0]; rfl
    · have e : L = [] := List.eq_nil_of_length_eq_zero h0
      subst e
      rw [hg]
      simp [splice, ints]
  · obtain ⟨b, o, he, _, _⟩ := hA 0 (by omega)
    subst he
    rcases hd with rfl | hd
    · refine ⟨w.setRow g (cur.toArray.toList.take off ++ ints L ++ cur.toArray.toList.drop (off + (ints L).length)).toArray, fun ty => ?_, ?_, below_setRow hb hBg _, ⟨rfl, rfl, rfl, by simp [World.setRow], fun k _ hk => setRow_other w g k _ (fun e => hk (by rw [e]))⟩⟩
      · have hmin : (ints L).length = Nat.min L.length dLen := by rw [show Nat.min L.length dLen = L.length from Nat.min_eq_left hle]; simp [ints]
        have := run_copy_row Try.prog w 24 24 ty 3 g off dLen dCap ⟨b, o, none⟩ L.length cap cur.toArray 3 (ints L) Try.underlying24 hs hg hmin (fun j v hj => by
          have hjl : j < L.length := by
            rcases Nat.lt_or_ge j L.length with h | h
            · exact h
            · simp [ints, List.getElem?_eq_none h] at hj
          obtain ⟨b', off', he, _, hc⟩ := hA j hjl
          cases he
          have hp : (⟨b, o, none⟩ : Addr).add j = ⟨b, o + j, none⟩ := by unfold Addr.add; split <;> simp_all
          rw [hp, hc]
          simp [ints, hjl] at hj
          rw [← hj]
          simp [List.getD, hjl]) (by simpa [ints] using hfit) (ints_one _)
        rw [this]
        simp [ints]
      · rw [setRow_heap w g cur.toArray _ 3 _ hg]
        simp [splice]
    · exact absurd hd h0
theorem splice_two (H C : List Int) : splice (splice (ints (List.replicate (H.length + C.length) 0)) 0 (ints H)) H.length (ints C) = ints (H ++ C) := by
  unfold splice
  simp only [ints, List.take_zero, List.nil_append, List.length_map, Nat.zero_add, List.map_replicate, List.drop_replicate, Nat.add_sub_cancel_left]
  rw [List.take_left' (by simp), List.drop_eq_nil_of_le (by simp)]
  simp
theorem own_of_block {w : World} {base g N : Nat} {X : List Int} (hN : N = X.length) (hl : N ≤ 1048576) (hb : base ≤ g) (hg : w.heap[g]? = some (.cells (ints X).toArray 3 (0, 0))) : w.ownsRow base 3 1 (.slice (some ⟨g, 0, none⟩) N N) N (ints X) :=
  ⟨by simp [ints, hN], .inr ⟨g, N, (ints X).toArray, rfl, hb, hg, Nat.le_refl _, by unfold maxLen; omega, by simp [ints, hN], List.take_of_length_le (by simp [ints, hN])⟩⟩
set_option maxRecDepth 100000 in
theorem slice_cut3 (g N k : Nat) (hk : k ≤ N) : ∀ w, (Instr.slice 24 (.slice (some ⟨g, 0, none⟩) N N) none (some (.int .i64 (k : Int))) (some (.int .i64 (k : Int)))).run Try.prog w = .ok (.slice (some ⟨g, 0, none⟩) k k) w := fun w => by
  obtain ⟨i0, hi, hz0, hz1, hz2⟩ := info_parts Try.info3
  rw [run_slice_hm w 24 _ N N Try.underlying24 .i64 .i64 (k : Int) (k : Int) (by omega) (by omega) (by omega), show Try.prog.elem 24 = 3 by kernel_rfl]
  simp [sizeOf, typeInfo, hi, hz1, sliced]
  exact fun _ => rfl
set_option maxRecDepth 100000 in
theorem slice_at (g N k : Nat) (hk : k ≤ N) : ∃ A C, (∀ w, (Instr.slice 24 (.slice (some ⟨g, 0, none⟩) N N) (some (.int .i64 (k : Int))) none none).run Try.prog w = .ok (.slice A (N - k) C) w) ∧ (A = some ⟨g, k, none⟩ ∨ N = k) := by
  obtain ⟨i0, hi, hz0, hz1, hz2⟩ := info_parts Try.info3
  refine ⟨if N = k then some ⟨g, 0, none⟩ else some ⟨g, k, none⟩, N - k, fun w => ?_, ?_⟩
  · rw [run_slice_l w 24 _ N N Try.underlying24 .i64 (k : Int) (by omega) (by omega), show Try.prog.elem 24 = 3 by kernel_rfl]
    have hp : (⟨g, 0, none⟩ : Addr).add k = ⟨g, k, none⟩ := by unfold Addr.add; split <;> simp_all
    simp [sizeOf, typeInfo, hi, hz1, sliced, hp]
  · by_cases e : N = k
    · exact .inr e
    · left; rw [if_neg e]
theorem block_ints {w : World} {g k : Nat} {X : List Int} {A : Option Addr} (hg : w.heap[g]? = some (.cells (ints X).toArray 3 (0, 0))) (hA : A = some ⟨g, k, none⟩ ∨ X.length = k) : IntsAt w A (X.drop k) := fun j hj => by
  simp at hj
  rcases hA with rfl | hA
  · refine ⟨g, k, rfl, (Array.getElem?_eq_some_iff.1 hg).1, ?_⟩
    simp [World.cell?, hg, ints, List.getD, show k + j < X.length by omega]
  · omega
theorem ints_take {w : World} {ao : Option Addr} {X : List Int} (h : IntsAt w ao X) (k : Nat) : IntsAt w ao (X.take k) := fun j hj => by
  simp at hj
  obtain ⟨b, off, h1, h2, h3⟩ := h j (by omega)
  refine ⟨b, off, h1, h2, ?_⟩
  rw [h3]
  simp [List.getD, hj, show j < X.length by omega]
theorem allG_append (A B : List Int) : allG (A ++ B) = (allG A && allG B) := by simp [allG]
theorem allG_take {L : List Int} (h : allG L = true) (k : Nat) : allG (L.take k) = true := List.all_eq_true.2 fun r hr => allG_true h r (List.mem_of_mem_take hr)
theorem allG_drop {L : List Int} (h : allG L = true) (k : Nat) : allG (L.drop k) = true := List.all_eq_true.2 fun r hr => allG_true h r (List.mem_of_mem_drop hr)
theorem splitL_good {r : Int} (h : goodB r = true) : allG (splitL r) = true := by
  obtain ⟨h1, h2, h3⟩ := goodB_true h
  unfold splitL
  by_cases c1 : 57344 ≤ r ∧ r ≤ 57759
  · rw [if_pos c1]
    by_cases c2 : (r - 57344) / 8 < 26
    · rw [if_pos c2]; simp [allG]; exact ⟨goodB_mk (by omega), goodB_mk (by omega)⟩
    · rw [if_neg c2]; simp [allG]; exact ⟨goodB_mk (by omega), goodB_mk (by omega)⟩
  · rw [if_neg c1]
    by_cases c3 : 44032 ≤ r ∧ r ≤ 55203
    · rw [if_pos c3]
      by_cases c4 : (r - 44032) % 28 = 0
      · rw [if_pos c4]; simp [allG]; exact ⟨goodB_mk (by omega), goodB_mk (by omega)⟩
      · rw [if_neg c4]; simp [allG]; exact ⟨goodB_mk (by omega), goodB_mk (by omega), goodB_mk (by omega)⟩
    · rw [if_neg c3]; simp [allG, h]
theorem splitAllL_good {L : List Int} (h : allG L = true) : allG (splitAllL L) = true := List.all_eq_true.2 fun r hr => by
  obtain ⟨x, hx, hr⟩ := List.mem_flatMap.1 hr
  exact allG_true (splitL_good (allG_true h x hx)) r hr
set_option maxRecDepth 100000 in
set_option maxHeartbeats 8000000 in
theorem ifeed_yes (H L : List Int) (ah al : Option Addr) (ch cl : Nat) (w : World) (hlen : H.length + 3 * L.length ≤ 300) (hgH : allG H = true) (hgL : allG L = true) (hH : IntsAt w ah H) (hL : IntsAt w al L) :
    Calls Try.prog 6 #[.agg #[.slice ah H.length ch], .slice al L.length cl] w fun e w' => ∃ A C v, e = .returned (.tuple #[.agg #[.slice A ((H ++ splitAllL L).drop (cutN (H ++ splitAllL L))).length C], v, .bool true]) ∧ IntsAt w' A ((H ++ splitAllL L).drop (cutN (H ++ splitAllL L))) ∧ w'.ownsRow w.heap.size 3 1 v (fullL ((H ++ splitAllL L).take (cutN (H ++ splitAllL L)))).length (ints (fullL ((H ++ splitAllL L).take (cutN (H ++ splitAllL L))))) ∧ Below w.heap.size w w' := by
  have HHI : Hid _ := hH
  have HLI : Hid _ := hL
  have hsl := splitAllL_len L
  have hheld : heldB L = true := heldB_mk (by omega) hgL
  have HHL : Hid _ := hheld
  have HHH : Hid (heldB H = true) := heldB_mk (by omega) hgH
  have HGX : Hid (allG (H ++ splitAllL L) = true) := by show allG _ = true; rw [allG_append, hgH, splitAllL_good hgL]; rfl
  clear hH hL hheld hgH hgL
  go_enter Try.func6, Try.ntmps6
  have BX : Hid (Below w.heap.size w ((w.alloc (.cells #[.slice ah H.length ch] 26)).alloc (.cells #[.slice none 0 0] 26))) := ((Below.refl _ _).alloc (Nat.le_refl _) _).alloc (by simp) _
  go_wp2_with fail
  refine (isplitAll_yes L al cl _ HHL.out (by omega) (IntsAt.below HLI.out BX.out)).mono ?_
  rintro e w1 ⟨v1, rfl, o1, b1⟩
  have O1 : Hid (w1.ownsRow w.heap.size 3 1 v1 (splitAllL L).length (ints (splitAllL L))) := own_mono o1 (by simp; omega)
  have B1 : Hid (Below w.heap.size w w1) := Below.trans BX.out (b1.mono (Below.size BX.out))
  have SZ1 : Hid (w.heap.size + 2 ≤ w1.heap.size) := by have := b1.size; simp at this; show w.heap.size + 2 ≤ w1.heap.size; omega
  have c0 : w1.cell? ⟨w.heap.size, 0, none⟩ = some (.slice ah H.length ch) := (b1.cell (p := ⟨w.heap.size, 0, none⟩) (by simp; omega)).trans (by simp [go_sem])
  have c1 : w1.cell? ⟨w.heap.size + 1, 0, none⟩ = some (.slice none 0 0) := (b1.cell (p := ⟨w.heap.size + 1, 0, none⟩) (by simp)).trans (by simp [go_sem])
  have f1 : w1.frozen? ⟨w.heap.size + 1, 0, none⟩ = false := (World.frozen?_of_block (a := ⟨w.heap.size + 1, 0, none⟩) (b1.block (w.heap.size + 1) (by simp))).trans (by simp [go_sem])
  obtain ⟨-, a1, cc1, rfl, -⟩ := ints_of_own o1
  clear o1 b1
  go_wp2_with fail
  refine (iheld_any H ah ch _ (by omega) (IntsAt.below HHI.out B1.out)).mono ?_
  rintro e w' ⟨rfl, rfl⟩
  rw [HHH.out]
  obtain ⟨N, hN⟩ : ∃ N, N = H.length + (splitAllL L).length := ⟨_, rfl⟩
  obtain ⟨w2, hmk, o2, b2⟩ := make_row w1 N (by omega)
  have hmk' : (Instr.makeSlice 24 (.int .i64 ((H.length : Int) + ((splitAllL L).length : Int))) (.int .i64 ((H.length : Int) + ((splitAllL L).length : Int)))).run Try.prog w1 = .ok (.slice (some ⟨w1.heap.size, 0, none⟩) N N) w2 := by
    rw [show (H.length : Int) + ((splitAllL L).length : Int) = (N : Int) by omega]; exact hmk
  have hg2 : w2.heap[w1.heap.size]? = some (.cells (ints (List.replicate N 0)).toArray 3 (0, 0)) := by
    rcases o2.2 with ⟨h1, _⟩ | ⟨g, cap, cur, h1, h2, h3, h4, h5, h6, h7⟩
    · cases h1
    · simp only [Value.slice.injEq, Option.some.injEq, Addr.mk.injEq, and_true, true_and] at h1
      obtain ⟨rfl, rfl⟩ := h1
      rw [h3, ← h7, List.take_of_length_le (by simp [h6])]
  have B2 : Hid (Below w.heap.size w w2) := Below.trans B1.out (b2.mono (Below.size B1.out))
  have hRw : w.heap.size ≤ w1.heap.size := by have := SZ1.out; omega
  obtain ⟨w3, hcp1, hg3, b3, g3⟩ := copy_ex hg2 (some ⟨w1.heap.size, 0, none⟩) ah N N ch H (IntsAt.below HHI.out B2.out) (.inl rfl) (by omega) (by simp [ints]; omega) B2.out hRw
  obtain ⟨A4, C4, hs4, hA4⟩ := slice_at w1.heap.size N H.length (by omega)
  have hne : Value.ownBlock (.slice a1 (splitAllL L).length cc1) = none ∨ Value.ownBlock (.slice a1 (splitAllL L).length cc1) ≠ some w1.heap.size := by
    cases hb : Value.ownBlock (.slice a1 (splitAllL L).length cc1) with
    | none => exact .inl rfl
    | some g => exact .inr fun e => by have h1 := (World.ownsRow.lt O1.out g hb).2; have := Option.some.inj e; omega
  have i3 : IntsAt w3 a1 (splitAllL L) := own_ints (World.ownsRow.kept (ownsRow_below O1.out b2) g3 hne)
  obtain ⟨w4, hcp2, hg4, b4, g4⟩ := copy_ex hg3 A4 a1 (N - H.length) C4 cc1 (splitAllL L) i3 (by rcases hA4 with h | h; exact .inl h; exact .inr (by omega)) (by omega) (by rw [length_splice _ _ _ (by simp [ints]; omega)]; simp [ints]; omega) b3 hRw
  rw [hN, splice_two] at hg4
  have c2 : w2.cell? ⟨w.heap.size, 0, none⟩ = some (.slice ah H.length ch) := (b2.cell (p := ⟨w.heap.size, 0, none⟩) (by have := SZ1.out; show w.heap.size < w1.heap.size; omega)).trans c0
  have hk3 : ∀ k, k < w1.heap.size → w3.heap[k]? = w1.heap[k]? := fun k hk => (g3.block k (by have := b2.size; omega) (fun e => by have := Option.some.inj e; omega)).trans (b2.block k hk)
  have hk4 : ∀ k, k < w1.heap.size → w4.heap[k]? = w1.heap[k]? := fun k hk => (g4.block k (by have := b2.size; have := g3.size; omega) (fun e => by have := Option.some.inj e; omega)).trans (hk3 k hk)
  have c3 : w3.cell? ⟨w.heap.size, 0, none⟩ = some (.slice ah H.length ch) := (World.cell?_of_block (a := ⟨w.heap.size, 0, none⟩) (hk3 w.heap.size (by have := SZ1.out; omega))).trans c0
  have HG4 : Hid (w4.heap[w1.heap.size]? = some (.cells (ints (H ++ splitAllL L)).toArray 3 (0, 0))) := hg4
  have HC4 : Hid (w4.cell? ⟨w.heap.size + 1, 0, none⟩ = some (.slice none 0 0)) := (World.cell?_of_block (a := ⟨w.heap.size + 1, 0, none⟩) (hk4 (w.heap.size + 1) (by have := SZ1.out; omega))).trans c1
  have HF4 : Hid (w4.frozen? ⟨w.heap.size + 1, 0, none⟩ = false) := (World.frozen?_of_block (a := ⟨w.heap.size + 1, 0, none⟩) (hk4 (w.heap.size + 1) (by have := SZ1.out; omega))).trans f1
  have B4 : Hid (Below w.heap.size w w4) := b4
  have SZ4 : Hid (w1.heap.size < w4.heap.size) := by have := b2.size; have := g3.size; have := g4.size; have h := (Array.getElem?_eq_some_iff.1 hg4).1; exact h
  have HN : Hid (N = (H ++ splitAllL L).length) := by show N = _; simp; exact hN
  have HIX : Hid (IntsAt w4 (some ⟨w1.heap.size, 0, none⟩) (H ++ splitAllL L)) := block_ints (k := 0) hg4 (.inl rfl)
  clear hN hmk o2 b2 hg2 b3 g3 hg3 hA4 hne i3 hg4 b4 g4 hk3 hk4 f1
  have hNp : N = H.length + (splitAllL L).length := by have := HN.out; simp at this; exact this
  clear hNp
  go_wp2_with fail
  refine (icut_any (H ++ splitAllL L) _ N N _ HN.out (by have := HN.out; simp at this; simp; omega) HIX.out).mono ?_
  rintro e w5 ⟨rfl, rfl⟩
  have hcN : cutN (H ++ splitAllL L) ≤ N := by rw [HN.out]; exact cutN_le _
  have hX3 : (H ++ splitAllL L).length ≤ 300 := by simp; omega
  have hs3 := slice_cut3 w1.heap.size N (cutN (H ++ splitAllL L)) hcN
  obtain ⟨A5, C5, hs5, hA5⟩ := slice_at w1.heap.size N (cutN (H ++ splitAllL L)) hcN
  have HA5 : Hid (IntsAt w4 A5 ((H ++ splitAllL L).drop (cutN (H ++ splitAllL L)))) := block_ints HG4.out (by rcases hA5 with h | h; exact .inl h; exact .inr (by rw [← HN.out]; exact h))
  have HT : Hid (heldB ((H ++ splitAllL L).take (cutN (H ++ splitAllL L))) = true) := heldB_mk (by simp; omega) (allG_take HGX.out _)
  have HIT : Hid (IntsAt w4 (some ⟨w1.heap.size, 0, none⟩) ((H ++ splitAllL L).take (cutN (H ++ splitAllL L)))) := ints_take HIX.out _
  have HNC : Hid (cutN (H ++ splitAllL L) = ((H ++ splitAllL L).take (cutN (H ++ splitAllL L))).length) := by
    have h1 := HN.out
    show _ = List.length _
    rw [List.length_take]
    omega
  have HND : Hid (N - cutN (H ++ splitAllL L) = ((H ++ splitAllL L).drop (cutN (H ++ splitAllL L))).length) := by
    have h1 := HN.out
    show _ = List.length _
    rw [List.length_drop]
    omega
  have hN3 : N ≤ 300 := by rw [HN.out]; exact hX3
  have hd3 : ¬ (300 : Int) < ((N - cutN (H ++ splitAllL L) : Nat) : Int) := by omega
  have HA5D : Hid (A5 = some ⟨w1.heap.size, cutN (H ++ splitAllL L), none⟩ ∨ N = cutN (H ++ splitAllL L)) := hA5
  clear hA5 hX3 hs4 hcp1 hcp2 hmk' c0 c1 c2 c3
  obtain ⟨XD, hXD⟩ : ∃ Z, Hid ((H ++ splitAllL L).drop (cutN (H ++ splitAllL L)) = Z) := ⟨_, rfl⟩
  obtain ⟨XT, hXT⟩ : ∃ Z, Hid ((H ++ splitAllL L).take (cutN (H ++ splitAllL L)) = Z) := ⟨_, rfl⟩
  rw [hXD.out] at HA5 HND
  rw [hXT.out] at HT HIT HNC
  obtain ⟨cu, hcu⟩ : ∃ c, Hid (cutN (H ++ splitAllL L) = c) := ⟨_, rfl⟩
  rw [hcu.out] at hs3 hs5 hd3 hcN HA5D HND HNC
  rw [hcu.out]
  go_wp2_with fail
  have hne := BW.some w4
  refine wp_region_below (by kernel_rfl) (by kernel_rfl) ?_
  repeat (go_big_quiet_step (fail))
  refine wpQuiet_nil ?_
  rintro wq ⟨⟨wq', hbq'⟩, hwq⟩
  have hbq : Below w4.heap.size w4 wq := by rw [hwq]; exact hbq'
  clear hwq hbq'
  have HBQ : Hid (Below w4.heap.size w4 wq) := hbq
  clear hbq hs3 hs5 hne
  go_wp2_with fail
  refine (ijs_yes XT _ cu cu _ HNC.out HT.out (IntsAt.below HIT.out HBQ.out)).mono ?_
  rintro e w6 ⟨v6, rfl, o6, b6q⟩
  have b6 : Below w4.heap.size w4 w6 := Below.trans HBQ.out (b6q.mono (Below.size HBQ.out))
  have O6Q : Hid (w6.ownsRow wq.heap.size 3 1 v6 (fullL XT).length (ints (fullL XT))) := o6
  have O6 : Hid (w6.ownsRow w.heap.size 3 1 v6 (fullL XT).length (ints (fullL XT))) := own_mono o6 (Nat.le_trans (Below.size B4.out) (Below.size HBQ.out))
  have B6 : Hid (Below w.heap.size w w6) := Below.trans B4.out (b6.mono (Below.size B4.out))
  have I6 : Hid (IntsAt w6 A5 XD) := IntsAt.below HA5.out b6
  have c6 : w6.cell? ⟨w.heap.size + 1, 0, none⟩ = some (.slice none 0 0) := (b6.cell (p := ⟨w.heap.size + 1, 0, none⟩) (by have h1 := SZ4.out; have h2 := SZ1.out; show w.heap.size + 1 < w4.heap.size; omega)).trans HC4.out
  have f6 : w6.frozen? ⟨w.heap.size + 1, 0, none⟩ = false := (World.frozen?_of_block (a := ⟨w.heap.size + 1, 0, none⟩) (b6.block (w.heap.size + 1) (by have h1 := SZ4.out; have h2 := SZ1.out; omega))).trans HF4.out
  obtain ⟨-, a6, c6', rfl, -⟩ := ints_of_own o6
  clear o6 b6 b6q
  have r0 := sc3_same w6 (w.heap.size + 1) 0 (.slice none 0 0) (.slice A5 (N - cu) C5) c6
  have GS : Hid _ := grown_set w6 (w.heap.size + 1) 0 (.slice A5 (N - cu) C5)
  have I7 : Hid (IntsAt (w6.setCell ⟨w.heap.size + 1, 0, none⟩ (.slice A5 (N - cu) C5)) A5 XD) := fun j hj => by
    obtain ⟨b, off, he, hb, hc⟩ := I6.out j hj
    rcases HA5D.out with h | h
    · rw [h] at he
      cases he
      exact ⟨_, _, h, by simpa using hb, by rw [sc3_other _ _ _ _ _ _ (.inl (by have := SZ1.out; omega))]; exact hc⟩
    · have h1 := HND.out
      omega
  have O7 : Hid ((w6.setCell ⟨w.heap.size + 1, 0, none⟩ (.slice A5 (N - cu) C5)).ownsRow w.heap.size 3 1 (.slice a6 (fullL XT).length c6') (fullL XT).length (ints (fullL XT))) := World.ownsRow.kept O6.out GS.out (by
    cases hb : Value.ownBlock (.slice a6 (fullL XT).length c6') with
    | none => exact .inl rfl
    | some g => exact .inr fun e => by have h1 := (World.ownsRow.lt O6Q.out g hb).1; have h2 := Option.some.inj e; have h3 := SZ1.out; have h4 := SZ4.out; have h5 := Below.size HBQ.out; omega)
  have B7 : Hid (Below w.heap.size w (w6.setCell ⟨w.heap.size + 1, 0, none⟩ (.slice A5 (N - cu) C5))) := Below.grown B6.out GS.out (Below.size B6.out) (fun g e => by have := Option.some.inj e; omega)
  go_wp2
  exact bodyPost_ret (v := .tuple #[.agg #[.slice A5 (N - cu) C5], .slice a6 (fullL XT).length c6', .bool true]) (by simp [results, Try.results6, go_sem, r0]) rfl ⟨A5, C5, _, by rw [hXD.out, ← HND.out], by rw [hXD.out]; exact I7.out, by rw [hXT.out]; exact O7.out, B7.out⟩
end Go.Proofs.Ytjfehgmpcgepnaa

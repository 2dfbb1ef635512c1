/-
  PlacesOf of the program.
-/
import Derived.Test.YtdhppigjlldfmaaW8N
namespace Go.Proofs.Ytdhppigjlldfmaa
open Go.ChangeShapes Go.WideShapes Go.ChangeAt Go.RowKit Go.Maps
set_option maxRecDepth 100000 in
set_option maxHeartbeats 1000000 in
theorem iword_any (L : List Int) (ao : Option Addr) (cap : Nat) (w : World) (hl : L.length ≤ 1048576) (hA : IntsAt w ao L) :
    Calls Try.prog 37 #[.slice ao L.length cap] w fun e w' => e = .returned (.bool (wordB L)) ∧ w' = w := by
  have HALL : Hid (Calls Try.prog 65 #[.slice ao L.length cap] w fun e w' => e = .returned (.bool (allG L)) ∧ w' = w) := iall3_any L ao cap w hl hA
  clear hA
  by_cases h0 : L.length = 0
  · have HO : Hid (wordB L = false) := (by unfold wordB; rw [decide_eq_false (by omega), Bool.and_false] : wordB L = false)
    have hI : ¬ 0 < L.length := by omega
    clear h0
    go_enter Try.func37, Try.ntmps37
    go_wp2
    go_ret
    exact ⟨by rw [HO.out] <;> rfl, rfl⟩
  · have hI : 0 < L.length := by omega
    by_cases h40 : L.length ≤ 40
    · have HO : Hid (wordB L = allG L) := (by unfold wordB; rw [decide_eq_true (by omega), Bool.and_true] : wordB L = allG L)
      have hI2 : decide ((L.length : Int) ≤ 40) = true := decide_eq_true (by omega)
      clear h0 h40
      generalize hga : allG L = ga at HALL HO
      cases ga
      all_goals
        go_enter Try.func37, Try.ntmps37
        go_wp2_with fail
        refine Calls.mono HALL.out ?_
        rintro e w1 ⟨rfl, rfl⟩
        go_wp2
        go_ret
        exact ⟨by rw [HO.out] <;> rfl, rfl⟩
    · have HO : Hid (wordB L = false) := (by unfold wordB; rw [decide_eq_false (by omega), Bool.and_false] : wordB L = false)
      have hI2 : decide ((L.length : Int) ≤ 40) = false := decide_eq_false (by omega)
      clear h0 h40
      go_enter Try.func37, Try.ntmps37
      go_wp2
      go_ret
      exact ⟨by rw [HO.out] <;> rfl, rfl⟩
set_option maxRecDepth 100000 in
set_option maxHeartbeats 4000000 in
theorem iplacesOf_any (L M : List Int) (ao bo : Option Addr) (ca cb : Nat) (w : World) (hl : L.length ≤ 1048576) (hm : M.length ≤ 1048576) (hA : IntsAt w ao L) (hB : IntsAt w bo M) :
    Calls Try.prog 14 #[.slice ao L.length ca, .slice bo M.length cb] w fun e w' => ∃ v, e = .returned (.tuple #[v, .bool (okP L M)]) ∧ w'.ownsRow w.heap.size 3 1 v (plA L M).length (ints (plA L M)) ∧ Below w.heap.size w w' := by
  have HLI : Hid (Calls Try.prog 47 #[.slice ao L.length ca] w fun e w' => e = .returned (.bool (okL L)) ∧ w' = w) := istream_any L ao ca w hl hA
  have HWO : Hid (Calls Try.prog 37 #[.slice bo M.length cb] w fun e w' => e = .returned (.bool (wordB M)) ∧ w' = w) := iword_any M bo cb w hm hB
  have HA : Hid _ := hA
  cases hg : okL L
  · have HP : Hid (okP L M = false ∧ plA L M = []) := okP_no (by unfold okP; rw [hg]; rfl)
    rw [hg] at HLI
    clear hg hA hB
    go_enter Try.func14, Try.ntmps14
    go_wp2_with fail
    refine Calls.mono HLI.out ?_
    rintro e w1 ⟨rfl, rfl⟩
    go_wp2
    go_ret2
    exact ⟨_, by rw [HP.out.1] <;> rfl, by rw [HP.out.2]; exact World.ownsRow_nil _ _ _ _, Below.refl _ _⟩
  · rw [hg] at HLI
    cases hw : wordB M
    · have HP : Hid (okP L M = false ∧ plA L M = []) := okP_no (by unfold okP; rw [hg, hw]; rfl)
      rw [hw] at HWO
      clear hg hw hA hB
      go_enter Try.func14, Try.ntmps14
      go_wp2_with fail
      refine Calls.mono HLI.out ?_
      rintro e w1 ⟨rfl, rfl⟩
      go_wp2_with fail
      refine Calls.mono HWO.out ?_
      rintro e w2 ⟨rfl, rfl⟩
      go_wp2
      go_ret2
      exact ⟨_, by rw [HP.out.1] <;> rfl, by rw [HP.out.2]; exact World.ownsRow_nil _ _ _ _, Below.refl _ _⟩
    · have HP : Hid (okP L M = true ∧ plA L M = plc L M (L.length + 1 - M.length)) := okP_yes (by unfold okP; rw [hg, hw]; rfl)
      rw [hw] at HWO
      obtain ⟨hall, h120⟩ := okL_true hg
      obtain ⟨hallM, h1, h40⟩ := wordB_true hw
      have HALLG : Hid (allG L = true) := hall
      have HT2 : Hid _ := fun o => trieOf_any (-1) [M] (some ⟨w.heap.size, 0, none⟩) 1 (w.alloc (.cells #[.slice bo M.length cb] o)) (fun j hj => by
        obtain rfl : j = 0 := by simp at hj; omega
        exact ⟨w.heap.size, 0, bo, cb, rfl, by simp, cell_of (heap_last2 w _ _ rfl) 0, IntsAt.keepB hB (al_W w _)⟩) (by simp) (one_wf hallM) (fun k => by
        cases k with
        | zero => show M.length ≤ _; omega
        | succ k => exact Nat.zero_le _)
      have HTO : Hid (∀ o, Calls Try.prog 38 #[.int .i64 (-1), .slice (some ⟨w.heap.size, 0, none⟩) 1 1] (w.alloc (.cells #[.slice bo M.length cb] o)) fun e w' => ∃ tb Q', e = .returned (.pointer (some ⟨tb, 0, none⟩)) ∧ SameQ (outT [M] (-1) 120).1 Q' ∧ TrieAt w' (w.alloc (.cells #[.slice bo M.length cb] o)).heap.size tb Q' (outT [M] (-1) 120).2.1 ∧ EndsW w' (w.alloc (.cells #[.slice bo M.length cb] o)).heap.size Q' (endsK [M] (-1) 1) ∧ Below (w.alloc (.cells #[.slice bo M.length cb] o)).heap.size (w.alloc (.cells #[.slice bo M.length cb] o)) w') := HT2.out
      obtain ⟨r1, -, r3⟩ := one_run M (-1) 120
      rw [show min 120 M.length = M.length by omega] at r1
      have HR1 : Hid ((outT [M] (-1) 120).1.length = M.length + 1) := r1
      have HR3 : Hid (FailOk (outT [M] (-1) 120).1) := r3.inv.2.1
      have HSTW : Hid (∀ k, k ≤ L.length → stN (outT [M] (-1) 120).1 (outT [M] (-1) 120).2.1 L k ≤ M.length ∧ (stN (outT [M] (-1) 120).1 (outT [M] (-1) 120).2.1 L k = M.length ↔ M <:+ L.take k)) := fun k hk => st_word M L (-1) h40 k hk
      generalize hQ0 : (outT [M] (-1) 120).1 = Q0 at HTO HR1 HR3 HSTW
      generalize hE0 : (outT [M] (-1) 120).2.1 = E0 at HTO HSTW
      obtain ⟨n, hn⟩ : ∃ n, n = L.length := ⟨_, rfl⟩
      obtain ⟨m, hmM⟩ : ∃ m, m = M.length := ⟨_, rfl⟩
      have HN : Hid (n = L.length) := hn
      have HMM : Hid (m = M.length) := hmM
      rw [← hn] at HLI h120 HP ⊢
      rw [← hmM] at HWO h1 h40 HP HTO HR1 ⊢
      clear hg hw hn hmM hl hm hA hB hall hallM r1 r3 hQ0 hE0 HT2
      go_enter Try.func14, Try.ntmps14
      go_wp2_with fail
      refine Calls.mono HLI.out ?_
      rintro e w1 ⟨rfl, rfl⟩
      go_wp2_with fail
      refine Calls.mono HWO.out ?_
      rintro e w2 ⟨rfl, rfl⟩
      go_wp2_with fail
      refine Calls.mono (HTO.out _) ?_
      rintro e w4 ⟨tb, Q', rfl, hs, hT, -, b4⟩
      have SQ : Hid (SameQ Q0 Q') := hs
      have T4 : Hid (TrieAt w4 (w2.alloc (.cells #[.slice bo m cb] 26)).heap.size tb Q' E0) := hT
      have B4 : Hid (Below w2.heap.size w2 w4) := (al_W w2 _).trans (b4.mono (al_W w2 _).size)
      clear hs hT b4
      go_wp2
      go_loopw [24, 7, 8] (fun i v s wr => ∃ k : Nat, k ≤ n ∧ i = .int .i64 k ∧ s = .int .i64 (stN Q0 E0 L k : Nat) ∧ wr.ownsRow w2.heap.size 3 1 v (plc L M (k + 1 - m)).length (ints (plc L M (k + 1 - m))) ∧ TrieAt wr (w2.alloc (.cells #[.slice bo m cb] 26)).heap.size tb Q' E0 ∧ Below w2.heap.size w2 wr) (fun i _ _ _ => n - (intOf i).toNat)
      case atStart => exact ⟨0, Nat.zero_le _, rfl, rfl, by rw [show 0 + 1 - m = 0 by omega]; exact World.ownsRow_nil _ _ _ _, T4.out, B4.out⟩
      case round =>
        obtain ⟨k, hk, rfl, rfl, hO, hT, hB9⟩ := hrel
        obtain ⟨av, cv, rfl⟩ := own_slice hO
        have HO : Hid _ := hO
        have HTT : Hid _ := hT
        have HB9 : Hid (Below w2.heap.size w2 wr) := hB9
        clear hO hT hB9 T4 B4
        by_cases hlt : k < n
        · have hltI : (k : Int) < (n : Int) := by omega
          obtain ⟨b1, o1, rfl, l1, g1⟩ := HA.out k (by have := HN.out; omega)
          have g1' : wr.cell? ⟨b1, o1 + k, none⟩ = some (.int .i64 (L.getD k 0)) := (HB9.out.cell (p := ⟨b1, o1 + k, none⟩) l1).trans g1
          have hkL : k < L.length := by have := HN.out; omega
          have HGW : wf64 (L.getD k 0) := goodB_wf (allG_at HALLG.out hkL)
          obtain ⟨hs1, -⟩ := HSTW.out k (by omega)
          obtain ⟨hs2, hs3⟩ := HSTW.out (k + 1) (by omega)
          have HSTEP : Hid (Calls Try.prog 49 #[.pointer (some ⟨tb, 0, none⟩), .int .i64 (stN Q0 E0 L k : Nat), .int .i64 (L.getD k 0)] wr fun e w' => e = .returned (.int .i64 (stN Q0 E0 L (k + 1) : Nat)) ∧ w' = wr) := by
            have := step_any _ tb (stN Q0 E0 L k) (L.getD k 0) Q' E0 wr HTT.out (fun j j0 hj => by rw [SQ.out.1] at hj; rw [(SQ.out.2 j).2.2.2]; exact HR3.out j j0 hj) (by rw [SQ.out.1, HR1.out]; have := HMM.out; omega) (by rw [SQ.out.1, HR1.out]; omega) HGW
            rw [stepN_same SQ.out] at this
            exact this
          have hsb := suf_beg (L := L) (M := M) hkL
          generalize hx : L.getD k 0 = x at g1' HSTEP
          generalize hst : stN Q0 E0 L k = st at HSTEP hs1
          generalize hst2 : stN Q0 E0 L (k + 1) = st2 at HSTEP hs2 hs3
          have HST2 : Hid _ := hst2
          rw [← HMM.out] at hs2 hs3 hsb
          by_cases he : st2 = m
          · have heb : ((st2 : Int) == (m : Int)) = true := by simp [he]
            obtain ⟨hle, hbg⟩ := hsb.1 (hs3.1 he)
            have HPL : Hid ((plc L M (k + 1 + 1 - m)).length = (plc L M (k + 1 - m)).length + 1 ∧ ints (plc L M (k + 1 + 1 - m)) = ints (plc L M (k + 1 - m)) ++ ints [(k : Int) + 1 - m]) := by
              have e : k + 1 + 1 - m = (k + 1 - m) + 1 := by omega
              have e2 : ((k + 1 - m : Nat) : Int) = (k : Int) + 1 - m := by omega
              rw [e, plc_yes hbg, e2]
              exact ⟨by rw [List.length_append, List.length_singleton], by simp [ints]⟩
            have hw1 : IntKind.i64.wrap ((k : Int) + 1) = (k : Int) + 1 := IntWalk.i64_in _ (by omega)
            have hw2 : IntKind.i64.wrap ((k : Int) + 1 - m) = (k : Int) + 1 - m := IntWalk.i64_in _ (by omega)
            have HLN : Hid ((plc L M (k + 1 - m)).length ≤ 1000) := Nat.le_trans (plc_len L M _) (by omega)
            have EO : Hid (∀ o, (wr.alloc o).ownsRow w2.heap.size 3 1 (.slice av (plc L M (k + 1 - m)).length cv) (plc L M (k + 1 - m)).length (ints (plc L M (k + 1 - m)))) := fun o => World.ownsRow.keepB HO.out (al_W _ o)
            have HZ : Hid (∀ o, w2.heap.size ≤ (wr.alloc o).heap.size) := fun o => Nat.le_trans HB9.out.size (al_W wr o).size
            have PUSH : Hid (∀ o v' w3, w3.ownsRow w2.heap.size 3 1 v' ((plc L M (k + 1 - m)).length + 1) (ints (plc L M (k + 1 - m)) ++ ints [(k : Int) + 1 - m]) → (wr.alloc o).grownBy w3 (Value.ownBlock (.slice av (plc L M (k + 1 - m)).length cv)) → w3.ownsRow w2.heap.size 3 1 v' (plc L M (k + 1 + 1 - m)).length (ints (plc L M (k + 1 + 1 - m))) ∧ TrieAt w3 (w2.alloc (.cells #[.slice bo m cb] 26)).heap.size tb Q' E0 ∧ Below w2.heap.size w2 w3) := fun o v' w3 hr hg =>
              ⟨by rw [HPL.out.1, HPL.out.2]; exact hr, TrieAt.turn (TrieAt.keepB HTT.out (al_W wr o)) hg (fun B hB' => by
                obtain ⟨cs, hcs⟩ := own_is (EO.out o) hB'
                exact ⟨cs, _, hcs, by decide, by decide⟩), Below.grown (HB9.out.trans ((al_W wr o).mono HB9.out.size)) hg (HZ.out o) (fun B hB' => (World.ownsRow.lt HO.out B hB').1)⟩
            clear hs1 hs2 hs3 hsb hbg he hx hst hst2 HGW g1 l1
            go_wp2_with fail
            refine Calls.mono HSTEP.out ?_
            rintro e w3 ⟨rfl, rfl⟩
            go_wp2_with (at_builtin; refine wpA _ rfl (.tmp 37) (.tmp 43) rfl w2.heap.size (.slice av (plc L M (k + 1 - m)).length cv) (plc L M (k + 1 - m)).length (ints (plc L M (k + 1 - m))) rfl (EO.out _) (some ⟨w3.heap.size, 0, none⟩) [(k : Int) + 1 - m] 1 1 rfl rfl (ints_new _ _ 3 _ rfl) (by have := HLN.out; omega) (HZ.out _) ?_; intro v' w5 hr hg hat; have RS : Hid _ := PUSH.out _ v' w5 hr hg; clear hr hg hat)
            go_wp2
            go_roundw
            case rel => exact ⟨k + 1, by omega, by go_num, by rw [HST2.out], RS.out⟩
            case measure => simp [intOf]; omega
          · have heb : ((st2 : Int) == (m : Int)) = false := by simp; omega
            have HPL : Hid (plc L M (k + 1 + 1 - m) = plc L M (k + 1 - m)) := by
              show _ = _
              by_cases hmk : m ≤ k + 1
              · have e : k + 1 + 1 - m = (k + 1 - m) + 1 := by omega
                rw [e]
                refine plc_no ?_
                cases hb : begB8 L M (k + 1 - m) with
                | false => rfl
                | true => exact absurd (hs3.2 (hsb.2 ⟨hmk, hb⟩)) he
              · rw [show k + 1 + 1 - m = 0 by omega, show k + 1 - m = 0 by omega]
            have RS : Hid (wr.ownsRow w2.heap.size 3 1 (.slice av (plc L M (k + 1 - m)).length cv) (plc L M (k + 1 + 1 - m)).length (ints (plc L M (k + 1 + 1 - m))) ∧ TrieAt wr (w2.alloc (.cells #[.slice bo m cb] 26)).heap.size tb Q' E0 ∧ Below w2.heap.size w2 wr) := ⟨by rw [HPL.out]; exact HO.out, HTT.out, HB9.out⟩
            clear hs1 hs2 hs3 hsb he hx hst hst2 HGW g1 l1
            go_wp2_with fail
            refine Calls.mono HSTEP.out ?_
            rintro e w3 ⟨rfl, rfl⟩
            go_wp2
            go_roundw
            case rel => exact ⟨k + 1, by omega, by go_num, by rw [HST2.out], RS.out⟩
            case measure => simp [intOf]; omega
        · obtain rfl : k = n := by omega
          have HR : Hid (wr.ownsRow w2.heap.size 3 1 (.slice av (plc L M (k + 1 - m)).length cv) (plA L M).length (ints (plA L M))) := by rw [HP.out.2]; exact HO.out
          go_wp2
          go_ret2
          exact ⟨_, by rw [HP.out.1] <;> rfl, HR.out, HB9.out⟩
end Go.Proofs.Ytdhppigjlldfmaa

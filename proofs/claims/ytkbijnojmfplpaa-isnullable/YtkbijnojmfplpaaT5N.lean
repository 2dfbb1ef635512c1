/-
  The specification's table of a pattern at the empty list: l5Cell; the tree of each node is one alone.
-/
import Derived.Test.YtkbijnojmfplpaaT5S
namespace Go.Proofs.Ytkbijnojmfplpaa
open Go.ChangeShapes Go.WideShapes Go.ChangeAt Go.WideMaps Go.WideElems Go.RowKit
theorem bal_whole {t : Option Tr} (h : okT t) : bal (post t) = -1 := by
  have := (bal_suf t h (post t).length (Nat.le_refl _)).2 rfl
  simpa using this
/-- Two trees at one place are one. -/
theorem Sub.uniq {P : List Nd} {k : Nat} {t u : Tr} (h : Sub P k (some t)) (g : Sub P k (some u)) : t = u := by
  have key : ∀ {t u : Tr}, Sub P k (some t) → Sub P k (some u) → (post (some t)).length ≤ (post (some u)).length → post (some t) = post (some u) := fun {t u} h g hle => by
    obtain ⟨h1, h2, pre, h3⟩ := h
    obtain ⟨g1, g2, pre', g3⟩ := g
    have e1 := drop_app_le pre (post (some t)) (post (some t)).length (Nat.le_refl _)
    rw [Nat.sub_self, List.drop_zero, ← h3] at e1
    have e2 := drop_app_le pre' (post (some u)) (post (some t)).length hle
    rw [← g3, e1] at e2
    by_cases e : (post (some t)).length = (post (some u)).length
    · rw [e, Nat.sub_self, List.drop_zero] at e2
      exact e2
    · have := (bal_suf (some u) g1 (post (some t)).length hle).1 (by omega)
      rw [← e2, bal_whole h1] at this
      omega
  rcases Nat.le_total (post (some t)).length (post (some u)).length with hle | hle
  · exact post_inj h.1 g.1 (key h g hle)
  · exact post_inj h.1 g.1 (key g h hle).symm
/-- Each node of a pattern has a tree. -/
theorem Sub.each {P : List Nd} {t : Tr} (h : pileT P P.length = some [t]) (k : Nat) (hk : k < P.length) : ∃ u, Sub P k (some u) := by
  cases e : pileT P (k + 1) with
  | none =>
    have := pileT_none e (P.length - (k + 1))
    rw [show k + 1 + (P.length - (k + 1)) = P.length by omega, h] at this
    cases this
  | some ts =>
    obtain ⟨h1, h2⟩ := pileT_ok P (k + 1) ts (by omega) e
    rcases ts with _ | ⟨u, r⟩
    · rw [posts] at h2
      have := congrArg List.length h2
      rw [List.length_take] at this
      simp at this
      omega
    · exact ⟨u, h1 u (by simp), hk, posts r, by rw [← h2, posts]⟩
/-- Rows of one flag where a slice begins. -/
def TabAt (w : World) (oa : Option Addr) (F : List Bool) : Prop :=
  ∀ j, j < F.length → ∃ b off rb, oa = some ⟨b, off, none⟩ ∧ b < w.heap.size ∧ w.cell? ⟨b, off + j, none⟩ = some (.slice (some ⟨rb, 0, none⟩) 1 1) ∧ rb < w.heap.size ∧ w.cell? ⟨rb, 0, none⟩ = some (.bool (F.getD j false))
theorem TabAt.keepB {w w' : World} {oa : Option Addr} {F : List Bool} (h : TabAt w oa F) (hb : Below w.heap.size w w') : TabAt w' oa F := fun j hj => by
  obtain ⟨b, off, rb, h1, h2, h3, h4, h5⟩ := h j hj
  exact ⟨b, off, rb, h1, Nat.lt_of_lt_of_le h2 hb.size, (hb.cell (p := ⟨b, off + j, none⟩) h2).trans h3, Nat.lt_of_lt_of_le h4 hb.size, (hb.cell (p := ⟨rb, 0, none⟩) h4).trans h5⟩
section
variable (P : List Nd) (ao : Option Addr) (cap : Nat) (oa : Option Addr) (oc : Nat) (F : List Bool) (tv : Value) (k : Nat) (op : Int) (s : List Int) (sa : Option Addr) (sc : Nat) (a b : Option Tr) (w : World)
set_option maxRecDepth 100000 in
set_option maxHeartbeats 4000000 in
theorem scell0_any (hp : P.length ≤ 10000) (hA : ResAt w ao P) (hS : Sub P k (some ⟨op, s, a, b⟩)) (hF : F.length = k) (hT : TabAt w oa F) (hN : ∀ j, j < k → ∀ t, Sub P j t → F.getD j false = nul t) :
    Calls Try.prog 109 #[.slice ao P.length cap, .slice oa k oc, tv, .slice none 0 0, .int .i64 k, .agg #[.int .i64 op, .slice sa s.length sc], .int .i64 0, .int .i64 0] w fun e w' => e = .returned (.bool (nul (some ⟨op, s, a, b⟩))) ∧ Below w.heap.size w w' := by
  have hok := hS.1
  have HS : Hid _ := hS
  have HA : Hid (ResAt w ao P) := hA
  have HT : Hid (TabAt w oa F) := hT
  have HN : Hid (∀ j, j < k → ∀ t, Sub P j t → F.getD j false = nul t) := hN
  have HF : Hid _ := hF
  have A1 : Hid (∀ o, Below w.heap.size w (w.alloc o)) := fun o => al_T w o
  have hkP := hS.2.1
  rw [okT] at hok
  clear hA hT hN
  rcases hok with ⟨h1, -, -, -⟩ | ⟨h1, rfl, ha, rfl⟩ | ⟨h1, rfl, ha, hb⟩
  · rcases arity_zero h1 with rfl | rfl
    · have HV : Hid (nul (some ⟨1, s, a, b⟩) = true) := by show nul _ = _; rw [nul]; rfl
      clear h1 hS hF
      go_enter Try.func109, Try.ntmps109
      go_wp2
      go_ret
      exact ⟨by rw [HV.out] <;> rfl, A1.out _⟩
    · have HV : Hid (nul (some ⟨2, s, a, b⟩) = false) := by show nul _ = _; rw [nul]; rfl
      clear h1 hS hF
      go_enter Try.func109, Try.ntmps109
      go_wp2
      go_quiet (fail)
      go_wp2
      go_ret
      exact ⟨by rw [HV.out] <;> rfl, (A1.out _).trans (below_drewN (Below.refl _ _) _)⟩
  · obtain ⟨k1, hsub⟩ := hS.one ha
    obtain ⟨m, rfl⟩ : ∃ m, k = m + 1 := ⟨k - 1, by omega⟩
    rcases arity_one h1 with rfl | rfl
    · have HV : Hid (nul (some ⟨6, [], a, none⟩) = true) := by show nul _ = _; rw [nul]; rfl
      clear h1 hS hF hsub
      go_enter Try.func109, Try.ntmps109
      go_wp2
      go_ret
      exact ⟨by rw [HV.out] <;> rfl, A1.out _⟩
    · have HV : Hid (nul (some ⟨7, [], a, none⟩) = !nul a) := by show nul _ = _; rw [nul]; rfl
      obtain ⟨b0, off, rb, rfl, q1, q2, q3, q4⟩ := HT.out m (by omega)
      rw [HN.out m (by omega) a hsub] at q4
      have g1 : ∀ o, (w.alloc o).cell? ⟨b0, off + m, none⟩ = some (.slice (some ⟨rb, 0, none⟩) 1 1) := fun o => ((A1.out o).cell (p := ⟨b0, off + m, none⟩) q1).trans q2
      have g2 : ∀ o, (w.alloc o).cell? ⟨rb, 0, none⟩ = some (.bool (nul a)) := fun o => ((A1.out o).cell (p := ⟨rb, 0, none⟩) q3).trans q4
      clear h1 hS hF hsub q2 q4
      go_enter Try.func109, Try.ntmps109
      go_wp2
      go_ret
      exact ⟨by rw [HV.out] <;> rfl, A1.out _⟩
  · obtain ⟨t1, t2, t3, t4⟩ := hS.two ha hb
    obtain ⟨m, rfl⟩ : ∃ m, k = m + 1 := ⟨k - 1, by omega⟩
    have hpa : 0 < (post a).length := by
      cases a with
      | none => rw [okT] at ha; exact ha.elim
      | some t => exact post_pos t
    obtain ⟨i, hi⟩ : ∃ i, i = m + 1 - 1 - (post b).length := ⟨_, rfl⟩
    have hik : i < m + 1 := by omega
    obtain ⟨b0, off, rb, hoa, q1, q2, q3, q4⟩ := HT.out m (by omega)
    obtain ⟨b0', off', ra, hoa', -, p2, p3, p4⟩ := HT.out i (by omega)
    subst hoa
    cases hoa'
    rw [HN.out m (by omega) b t3] at q4
    rw [← hi] at t4
    rw [HN.out i (by omega) a t4] at p4
    have g1 : ∀ o, (w.alloc o).cell? ⟨b0, off + m, none⟩ = some (.slice (some ⟨rb, 0, none⟩) 1 1) := fun o => ((A1.out o).cell (p := ⟨b0, off + m, none⟩) q1).trans q2
    have g2 : ∀ o, (w.alloc o).cell? ⟨rb, 0, none⟩ = some (.bool (nul b)) := fun o => ((A1.out o).cell (p := ⟨rb, 0, none⟩) q3).trans q4
    have f1 : ∀ o, (w.alloc o).cell? ⟨b0, off + i, none⟩ = some (.slice (some ⟨ra, 0, none⟩) 1 1) := fun o => ((A1.out o).cell (p := ⟨b0, off + i, none⟩) q1).trans p2
    have f2 : ∀ o, (w.alloc o).cell? ⟨ra, 0, none⟩ = some (.bool (nul a)) := fun o => ((A1.out o).cell (p := ⟨ra, 0, none⟩) p3).trans p4
    have hikI : (i : Int) < (m : Int) + 1 := by omega
    have FI : Hid (∀ o, Calls Try.prog 86 #[.slice ao P.length cap, .int .i64 ((m : Int) + 1)] (w.alloc o) fun e w' => e = .returned (.int .i64 (i : Int)) ∧ w' = w.alloc o) := fun o => by
      have := sfirst_any P (m + 1) op [] a b ha hb HS.out ao cap (w.alloc o) hp (ResAt.keepB HA.out (A1.out o))
      rw [← hi] at this
      exact this
    rcases arity_two h1 with rfl | rfl | rfl
    · have HV : Hid (nul (some ⟨3, [], a, b⟩) = (nul a && nul b)) := by show nul _ = _; rw [nul]; rfl
      clear h1 hS hF t1 t2 t3 t4 ha hb hi q2 q4 p2 p4
      go_enter Try.func109, Try.ntmps109
      go_wp2_with fail
      refine Calls.mono (FI.out _) ?_
      rintro e w1 ⟨rfl, rfl⟩
      go_wp2
      go_loopw [21] (fun mid wr => ∃ j : Nat, j ≤ 1 ∧ mid = .int .i64 j ∧ (j = 1 → (nul a && nul b) = false) ∧ wr = w.alloc (.cells #[.int .i64 3, .slice sa 0 sc] 60)) (fun i _ => 1 - (intOf i).toNat)
      case atStart => exact ⟨0, by omega, rfl, by omega, rfl⟩
      case round =>
        obtain ⟨j, hj, rfl, hf, rfl⟩ := hrel
        have HFF : Hid _ := hf
        clear hf
        have hj2 : j = 0 ∨ j = 1 := by omega
        rcases hj2 with rfl | rfl
        · cases hna : nul a
          · rw [hna] at f2
            go_wp2
            go_roundw
            case rel => exact ⟨1, by omega, by go_num, fun _ => by simp, by first | rfl | trivial⟩
            case measure => simp [intOf]
          · rw [hna] at f2
            cases hnb : nul b
            · rw [hnb] at g2
              go_wp2
              go_roundw
              case rel => exact ⟨1, by omega, by go_num, fun _ => by simp, by first | rfl | trivial⟩
              case measure => simp [intOf]
            · rw [hnb] at g2
              go_wp2
              go_ret
              exact ⟨by rw [HV.out, hna, hnb] <;> rfl, A1.out _⟩
        · have hff := HFF.out rfl
          go_wp2
          go_ret
          exact ⟨by rw [HV.out, hff] <;> rfl, A1.out _⟩
    · have HV : Hid (nul (some ⟨4, [], a, b⟩) = (nul a || nul b)) := by show nul _ = _; rw [nul]; rfl
      clear h1 hS hF t1 t2 t3 t4 ha hb hi q2 q4 p2 p4
      cases hna : nul a
      all_goals
        rw [hna] at f2
        go_enter Try.func109, Try.ntmps109
        go_wp2_with fail
        refine Calls.mono (FI.out _) ?_
        rintro e w1 ⟨rfl, rfl⟩
        go_wp2
        go_ret
        exact ⟨by rw [HV.out, hna] <;> rfl, A1.out _⟩
    · have HV : Hid (nul (some ⟨5, [], a, b⟩) = (nul a && nul b)) := by show nul _ = _; rw [nul]; rfl
      clear h1 hS hF t1 t2 t3 t4 ha hb hi q2 q4 p2 p4
      cases hna : nul a
      all_goals
        rw [hna] at f2
        go_enter Try.func109, Try.ntmps109
        go_wp2_with fail
        refine Calls.mono (FI.out _) ?_
        rintro e w1 ⟨rfl, rfl⟩
        go_wp2
        go_ret
        exact ⟨by rw [HV.out, hna] <;> rfl, A1.out _⟩
end
theorem infoB1 : ∃ i, Try.prog.info? 4 = some i ∧ i.zero = some (.bool false) ∧ i.size = 1 ∧ i.bytes = 1 := by
  have h : (Try.prog.info? 4).map (fun i => (i.zero, i.size, i.bytes)) = some (some (.bool false), 1, 1) := by kernel_rfl
  cases hi : Try.prog.info? 4 with
  | none => rw [hi] at h; cases h
  | some i =>
    rw [hi] at h
    simp only [Option.map_some, Option.some.injEq, Prod.mk.injEq] at h
    exact ⟨i, rfl, h.1, h.2.1, h.2.2⟩
theorem make_b1 (w : World) : (Instr.makeSlice 41 (.int .i64 1) (.int .i64 1)).run Try.prog w = .ok (.slice (some ⟨w.heap.size, 0, none⟩) 1 1) (w.alloc (.cells #[.bool false] 4)) := by
  obtain ⟨i0, hi, hz0, hz1, hz2⟩ := infoB1
  have h := run_make (P := Try.prog) w 41 4 i0 (.bool false) Try.underlying41 hi hz0 .i64 .i64 1 1 (by omega) (Int.le_refl _) (by rw [hz2]; omega) (by omega)
  have e : madeCells #[.bool false] 1 = #[.bool false] := Array.ext' (by rw [toList_madeCells_one]; rfl)
  rw [h, hz1]
  show Result.ok _ (w.alloc (.cells (madeCells #[.bool false] 1) 4)) = _
  rw [e]
  rfl
end Go.Proofs.Ytkbijnojmfplpaa

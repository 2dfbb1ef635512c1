/-
  Two lists of nodes the same, in the specification.
-/
import Derived.Test.YtendikiflikobaaT5K
import Derived.Test.YtendikiflikobaaT5T
namespace Go.Proofs.Ytendikiflikobaa
open Go.ChangeShapes Go.WideShapes Go.ChangeAt Go.WideMaps Go.WideElems Go.RowKit
set_option maxRecDepth 100000 in
set_option maxHeartbeats 2000000 in
theorem ssameP_any (P M : List Nd) (a b : Option Addr) (ca cb : Nat) (w : World) (hl : P.length ≤ 10000) (hsz : ∀ j, j < P.length → (nd P j).2.length ≤ 1048576) (ha : ResAt w a P) (hb : ResAt w b M) :
    Calls Try.prog 118 #[.slice a P.length ca, .slice b M.length cb] w fun e w' => e = .returned (.bool (decide (P = M))) ∧ Below w.heap.size w w' := by
  have HA : Hid (ResAt w a P) := ha
  have HB : Hid (ResAt w b M) := hb
  have HSZ : Hid (∀ j, j < P.length → (nd P j).2.length ≤ 1048576) := hsz
  clear ha hb hsz
  by_cases hlen : P.length = M.length
  · have HLE : Hid (P.length = M.length) := hlen
    obtain ⟨n, hn⟩ : ∃ n, n = P.length := ⟨_, rfl⟩
    have HN : Hid (n = P.length) := hn
    have HN2 : Hid (n = M.length) := hn.trans hlen
    rw [← hlen, ← hn]
    rw [← hn] at hl
    clear hlen hn
    go_enter Try.func118, Try.ntmps118
    go_wp2
    go_loopw [13] (fun i wr => ∃ k : Nat, k ≤ n ∧ i = .int .i64 k ∧ (∀ j, j < k → nd P j = nd M j) ∧ Below w.heap.size w wr) (fun i _ => n - (intOf i).toNat)
    case atStart => exact ⟨0, Nat.zero_le _, rfl, fun j hj => absurd hj (by omega), Below.refl _ _⟩
    case round =>
      obtain ⟨k, hk, rfl, hall, hbw⟩ := hrel
      have HALL : Hid (∀ j, j < k → nd P j = nd M j) := hall
      clear hall
      by_cases hlt : k < n
      · obtain ⟨b1, o1, sa, sc, rfl, l1, g10, g11, hs1⟩ := HA.out k (by have := HN.out; omega)
        obtain ⟨b2, o2, sb, sd, rfl, l2, g20, g21, hs2⟩ := HB.out k (by have := HN2.out; omega)
        have f10 : ∀ z : BW wr, z.x.cell? ⟨b1, o1 + k * 2, none⟩ = some (.int .i64 (nd P k).1) := fun z => ((hbw.trans (z.h.mono hbw.size)).cell (p := ⟨b1, o1 + k * 2, none⟩) l1).trans g10
        have f20 : ∀ z : BW wr, z.x.cell? ⟨b2, o2 + k * 2, none⟩ = some (.int .i64 (nd M k).1) := fun z => ((hbw.trans (z.h.mono hbw.size)).cell (p := ⟨b2, o2 + k * 2, none⟩) l2).trans g20
        have f11 : ∀ z : BW wr, z.x.cell? ⟨b1, o1 + k * 2 + 1, none⟩ = some (.slice sa (nd P k).2.length sc) := fun z => ((hbw.trans (z.h.mono hbw.size)).cell (p := ⟨b1, o1 + k * 2 + 1, none⟩) l1).trans g11
        have f21 : ∀ z : BW wr, z.x.cell? ⟨b2, o2 + k * 2 + 1, none⟩ = some (.slice sb (nd M k).2.length sd) := fun z => ((hbw.trans (z.h.mono hbw.size)).cell (p := ⟨b2, o2 + k * 2 + 1, none⟩) l2).trans g21
        have hltI : (k : Int) < (n : Int) := by omega
        have CALL : Hid (∀ w' : World, Below wr.heap.size wr w' → Calls Try.prog 125 #[.slice sa (nd P k).2.length sc, .slice sb (nd M k).2.length sd] w' fun e w'' => e = .returned (.bool (decide ((nd P k).2 = (nd M k).2))) ∧ Below w'.heap.size w' w'') := fun w' hb' => sSame_any _ _ _ _ _ _ w' (HSZ.out k (by have := HN.out; omega)) (hs1.keepB (hbw.trans (hb'.mono hbw.size))) (hs2.keepB (hbw.trans (hb'.mono hbw.size)))
        clear g10 g11 g20 g21 hs1 hs2
        obtain ⟨x, hx⟩ : ∃ x, x = nd P k := ⟨_, rfl⟩
        obtain ⟨y, hy⟩ : ∃ y, y = nd M k := ⟨_, rfl⟩
        rw [← hx] at f10 f11 CALL
        rw [← hy] at f20 f21 CALL
        have HX : Hid (x = nd P k) := hx
        have HY : Hid (y = nd M k) := hy
        obtain ⟨xo, xs⟩ := x
        obtain ⟨yo, ys⟩ := y
        clear hx hy
        have BW0 : Hid (Below w.heap.size w wr) := hbw
        by_cases hxy : xo = yo
        · subst hxy
          by_cases hst : xs = ys
          · subst hst
            rw [decide_eq_true rfl] at CALL
            go_wp2
            have hne := BW.some wr
            refine wp_region_below (by kernel_rfl) (by kernel_rfl) ?_
            repeat (go_big_quiet_step (first | (go_at_call 125; exact BW.call (CALL.out _ (BW.h _)))))
            refine wpQuiet_nil ?_
            rintro _ ⟨⟨wq, hbq⟩, rfl⟩
            have hbz := BW0.out.trans (hbq.mono BW0.out.size)
            go_wp2
            go_roundw
            case rel =>
              refine ⟨k + 1, by omega, by go_num, fun j hj => ?_, hbz⟩
              by_cases e : j = k
              · subst e; rw [← HX.out, ← HY.out]
              · exact HALL.out j (by omega)
            case measure => simp [intOf]; omega
          · rw [decide_eq_false hst] at CALL
            have HNE : Hid (decide (P = M) = false) := decide_eq_false (fun e => by subst e; have := HX.out.trans HY.out.symm; cases this; exact hst rfl)
            go_wp2
            have hne := BW.some wr
            refine wp_region_below (by kernel_rfl) (by kernel_rfl) ?_
            repeat (go_big_quiet_step (first | (go_at_call 125; exact BW.call (CALL.out _ (BW.h _)))))
            refine wpQuiet_nil ?_
            rintro _ ⟨⟨wq, hbq⟩, rfl⟩
            have hbz := BW0.out.trans (hbq.mono BW0.out.size)
            go_wp2
            go_ret
            exact ⟨by rw [HNE.out] <;> rfl, hbz⟩
        · have HNE : Hid (decide (P = M) = false) := decide_eq_false (fun e => by subst e; have := HX.out.trans HY.out.symm; cases this; exact hxy rfl)
          have hbe : (xo == yo) = false := by simpa using hxy
          have hbn : (xo != yo) = true := by simpa using hxy
          go_wp2
          have hne := BW.some wr
          refine wp_region_below (by kernel_rfl) (by kernel_rfl) ?_
          repeat (go_big_quiet_step (first | (go_at_call 125; exact BW.call (CALL.out _ (BW.h _)))))
          refine wpQuiet_nil ?_
          rintro _ ⟨⟨wq, hbq⟩, rfl⟩
          have hbz := BW0.out.trans (hbq.mono BW0.out.size)
          go_wp2
          go_ret
          exact ⟨by rw [HNE.out] <;> rfl, hbz⟩
      · have hkn : k = n := by omega
        have HEQ : Hid (decide (P = M) = true) := decide_eq_true (by
          apply List.ext_getElem HLE.out
          intro j h1 h2
          have := HALL.out j (by have := HN.out; omega)
          simpa [nd, List.getD, h1, h2] using this)
        go_wp2
        go_ret
        exact ⟨by rw [HEQ.out] <;> rfl, hbw⟩
  · have HNE : Hid (decide (P = M) = false) := decide_eq_false (fun e => hlen (by rw [e]))
    have hI : ¬ (P.length : Int) = (M.length : Int) := by omega
    go_enter Try.func118, Try.ntmps118
    go_wp2
    go_ret
    exact ⟨by rw [HNE.out] <;> rfl, Below.refl _ _⟩
end Go.Proofs.Ytendikiflikobaa

/-
  Borders and periods of the specification.
-/
import Derived.Test.YtdhppigjlldfmaaW8J
import Derived.Test.YtdhppigjlldfmaaN3E
import Derived.Test.YtdhppigjlldfmaaAlls
import Derived.Test.YtdhppigjlldfmaaC4A
import Derived.Deep.RegionHeldLaw
import Derived.Deep.RegionLaw
namespace Go.Proofs.Ytdhppigjlldfmaa
open Go.ChangeShapes Go.WideShapes Go.ChangeAt Go.RowKit Go.Maps
theorem own_slice8 {w : World} {base : Nat} {e : TypeId} {size : Nat} {v : Value} {n : Nat} {xs : List Value} (h : w.ownsRow base e size v n xs) : ∃ ao cap, v = .slice ao n cap := by
  rcases h.2 with ⟨rfl, h0⟩ | ⟨g, cap, cur, rfl, -⟩
  · exact ⟨none, 0, by rw [h0]⟩
  · exact ⟨_, _, rfl⟩
set_option maxRecDepth 100000 in
set_option maxHeartbeats 1000000 in
theorem sSame8_any (S M : List Int) (a b : Option Addr) (ca cb : Nat) (w : World) (hl : S.length ≤ 1048576) (ha : IntsAt w a S) (hb : IntsAt w b M) :
    Calls Try.prog 70 #[.slice a S.length ca, .slice b M.length cb] w fun e w' => e = .returned (.bool (decide (S = M))) ∧ Below w.heap.size w w' := by
  have HA : Hid (IntsAt w a S) := ha
  have HB : Hid (IntsAt w b M) := hb
  clear ha hb
  by_cases hlen : S.length = M.length
  · have HLE : Hid (S.length = M.length) := hlen
    obtain ⟨n, hn⟩ : ∃ n, n = S.length := ⟨_, rfl⟩
    have HN : Hid (n = S.length) := hn
    have HN2 : Hid (n = M.length) := hn.trans hlen
    rw [← hlen, ← hn]
    rw [← hn] at hl
    clear hlen hn
    go_enter Try.func70, Try.ntmps70
    go_wp2
    go_loopw [13] (fun i wr => ∃ k : Nat, k ≤ n ∧ i = .int .i64 k ∧ (∀ j, j < k → S.getD j 0 = M.getD j 0) ∧ Below w.heap.size w wr) (fun i _ => n - (intOf i).toNat)
    case atStart => exact ⟨0, Nat.zero_le _, rfl, fun j hj => absurd hj (by omega), Below.refl _ _⟩
    case round =>
      obtain ⟨k, hk, rfl, hall, hbw⟩ := hrel
      have HALL : Hid (∀ j, j < k → S.getD j 0 = M.getD j 0) := hall
      clear hall
      by_cases hlt : k < n
      · obtain ⟨b1, o1, rfl, l1, h1⟩ := HA.out k (by have := HN.out; omega)
        obtain ⟨b2, o2, rfl, l2, h2⟩ := HB.out k (by have := HN2.out; omega)
        have g1 : wr.cell? ⟨b1, o1 + k, none⟩ = some (.int .i64 (S.getD k 0)) := (hbw.cell (p := ⟨b1, o1 + k, none⟩) l1).trans h1
        have g2 : wr.cell? ⟨b2, o2 + k, none⟩ = some (.int .i64 (M.getD k 0)) := (hbw.cell (p := ⟨b2, o2 + k, none⟩) l2).trans h2
        have hltI : (k : Int) < (n : Int) := by omega
        clear h1 h2
        obtain ⟨x, hx⟩ : ∃ x, x = S.getD k 0 := ⟨_, rfl⟩
        obtain ⟨y, hy⟩ : ∃ y, y = M.getD k 0 := ⟨_, rfl⟩
        rw [← hx] at g1
        rw [← hy] at g2
        have HX : Hid (x = S.getD k 0) := hx
        have HY : Hid (y = M.getD k 0) := hy
        clear hx hy
        by_cases hxy : x = y
        · have HXY : Hid (x = y) := hxy
          subst hxy
          go_wp2
          go_quiet (fail)
          go_wp2
          go_roundw
          case rel =>
            refine ⟨k + 1, by omega, by go_num, fun j hj => ?_, below_drewN hbw _⟩
            by_cases e : j = k
            · subst e; rw [← HX.out, ← HY.out]
            · exact HALL.out j (by omega)
          case measure => simp [intOf]; omega
        · have HNE : Hid (decide (S = M) = false) := decide_eq_false (fun e => hxy (by rw [HX.out, HY.out, e]))
          have hbe : (x == y) = false := by simpa using hxy
          go_wp2
          go_quiet (fail)
          go_wp2
          go_ret
          exact ⟨by rw [HNE.out] <;> rfl, below_drewN hbw _⟩
      · have hkn : k = n := by omega
        have HEQ : Hid (decide (S = M) = true) := decide_eq_true (by
          apply List.ext_getElem HLE.out
          intro j h1 h2
          have := HALL.out j (by have := HN.out; omega)
          simpa [List.getD, h1, h2] using this)
        go_wp2
        go_ret
        exact ⟨by rw [HEQ.out] <;> rfl, hbw⟩
  · have HNE : Hid (decide (S = M) = false) := decide_eq_false (fun e => hlen (by rw [e]))
    have hI : ¬ (S.length : Int) = (M.length : Int) := by omega
    go_enter Try.func70, Try.ntmps70
    go_wp2
    go_ret
    exact ⟨by rw [HNE.out] <;> rfl, Below.refl _ _⟩
def okL (L : List Int) : Bool := allG L && decide (L.length ≤ 120)
set_option maxRecDepth 100000 in
set_option maxHeartbeats 1000000 in
theorem slist8_any (L : List Int) (ao : Option Addr) (cap : Nat) (w : World) (hl : L.length ≤ 1048576) (hA : IntsAt w ao L) :
    Calls Try.prog 50 #[.slice ao L.length cap] w fun e w' => e = .returned (.bool (okL L)) ∧ Below w.heap.size w w' := by
  have HALL : Hid (Calls Try.prog 69 #[.slice ao L.length cap] w fun e w' => e = .returned (.bool (allG L && decide (L.length ≤ 1000))) ∧ Below w.heap.size w w') := all_any L ao cap w hl hA
  have HOK : Hid (okL L = ((allG L && decide (L.length ≤ 1000)) && decide (L.length ≤ 120))) := (by
    unfold okL
    cases allG L <;> simp
    intro h
    omega : okL L = ((allG L && decide (L.length ≤ 1000)) && decide (L.length ≤ 120)))
  clear hA
  cases hg : (allG L && decide (L.length ≤ 1000))
  · rw [hg] at HALL HOK
    go_enter Try.func50, Try.ntmps50
    go_wp2_with fail
    refine Calls.mono HALL.out ?_
    rintro e w1 ⟨rfl, b1⟩
    go_wp2
    go_ret
    exact ⟨by rw [HOK.out] <;> rfl, b1⟩
  · rw [hg] at HALL HOK
    by_cases h120 : L.length ≤ 120
    · have HO : Hid (okL L = true) := (by rw [HOK.out]; simp [h120] : okL L = true)
      have hI : decide ((L.length : Int) ≤ 120) = true := decide_eq_true (by omega)
      clear hg h120
      go_enter Try.func50, Try.ntmps50
      go_wp2_with fail
      refine Calls.mono HALL.out ?_
      rintro e w1 ⟨rfl, b1⟩
      go_wp2
      go_ret
      exact ⟨by rw [HO.out] <;> rfl, b1⟩
    · have HO : Hid (okL L = false) := (by rw [HOK.out]; simp [h120] : okL L = false)
      have hI : decide ((L.length : Int) ≤ 120) = false := decide_eq_false (by omega)
      clear hg h120
      go_enter Try.func50, Try.ntmps50
      go_wp2_with fail
      refine Calls.mono HALL.out ?_
      rintro e w1 ⟨rfl, b1⟩
      go_wp2
      go_ret
      exact ⟨by rw [HO.out] <;> rfl, b1⟩
set_option maxRecDepth 100000 in
/-- A piece of a list of ints. -/
theorem cut_ints (ao : Option Addr) (N cap lo hi : Nat) (h1 : lo ≤ hi) (h2 : hi ≤ N) (hc : N ≤ cap) : ∃ A C, (∀ w, (Instr.slice 26 (.slice ao N cap) (some (.int .i64 (lo : Int))) (some (.int .i64 (hi : Int))) none).run Try.prog w = .ok (.slice A (hi - lo) C) w) ∧ ∀ w L, L.length = N → IntsAt w ao L → IntsAt w A ((L.take hi).drop lo) := by
  obtain ⟨i0, hi0, hz0, hz1, hz2⟩ := info_parts Try.info3
  refine ⟨if cap = lo then ao else ao.map (·.add (lo * 1)), cap - lo, fun w => ?_, fun w L hL h j hj => ?_⟩
  · rw [run_slice_lh w 26 ao N cap Try.underlying26 .i64 .i64 (lo : Int) (hi : Int) (by omega) (by omega) (by omega), show Try.prog.elem 26 = 3 by kernel_rfl]
    simp [sizeOf, typeInfo, hi0, hz1, sliced]
  · rw [List.length_drop, List.length_take] at hj
    obtain ⟨b, off, rfl, k2, k3⟩ := h (lo + j) (by omega)
    rw [if_neg (by omega)]
    refine ⟨b, off + lo, by simp [Addr.add], k2, ?_⟩
    rw [show off + lo + j = off + (lo + j) by omega, k3]
    congr 2
    simp only [List.getD, List.getElem?_drop, List.getElem?_take]
    rw [if_pos (by omega)]
set_option maxRecDepth 100000 in
theorem front_ints (b o N cap k : Nat) (hk : k ≤ N) (hc : N ≤ cap) : ∀ w, (Instr.slice 26 (.slice (some ⟨b, o, none⟩) N cap) none (some (.int .i64 (k : Int))) none).run Try.prog w = .ok (.slice (some ⟨b, o, none⟩) k cap) w := fun w => by
  obtain ⟨i0, hi, hz0, hz1, hz2⟩ := info_parts Try.info3
  rw [run_slice_h w 26 (some ⟨b, o, none⟩) N cap Try.underlying26 .i64 (k : Int) (by omega) (by omega), show Try.prog.elem 26 = 3 by kernel_rfl]
  simp [sizeOf, typeInfo, hi, hz1, sliced, Addr.add]
/-- The borders of the first k beginnings. -/
def bordL (L : List Int) (k : Nat) : List Int := (List.range k).map fun j => ((bestK L j j : Nat) : Int)
theorem bordL_len (L : List Int) (k : Nat) : (bordL L k).length = k := by simp [bordL]
theorem bordL_step (L : List Int) (k : Nat) : bordL L (k + 1) = bordL L k ++ [((bestK L k k : Nat) : Int)] := by simp [bordL, List.range_succ]
end Go.Proofs.Ytdhppigjlldfmaa

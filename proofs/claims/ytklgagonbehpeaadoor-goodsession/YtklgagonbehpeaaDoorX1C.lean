/-
  Plain words of buffers; lists that may be cut at a place; GoodBuf of the specification and of the program.
-/
import Derived.Test.YtklgagonbehpeaaDoorX1B
namespace Go.Proofs.YtklgagonbehpeaaDoor
open Go.ChangeShapes Go.WideShapes Go.ChangeAt Go.RowKit
def inBx (lo hi : Int) (L : List Int) : Bool := L.all fun x => decide (lo ≤ x ∧ x ≤ hi)
theorem inBx_iff {lo hi : Int} {L : List Int} : inBx lo hi L = true ↔ ∀ j, j < L.length → lo ≤ L.getD j 0 ∧ L.getD j 0 ≤ hi := by
  unfold inBx
  rw [List.all_eq_true]
  constructor
  · intro h j hj
    exact of_decide_eq_true (h (L.getD j 0) (by simp [List.getD, hj]))
  · intro h x hx
    obtain ⟨j, hj, rfl⟩ := List.mem_iff_getElem.1 hx
    have := h j hj
    exact decide_eq_true (by simpa [List.getD, hj] using this)
theorem inBx_bad {lo hi : Int} {L : List Int} {k : Nat} (h : k < L.length) (hb : ¬ (lo ≤ L.getD k 0 ∧ L.getD k 0 ≤ hi)) : inBx lo hi L = false := by
  rw [Bool.eq_false_iff]
  intro ha
  exact hb (inBx_iff.1 ha k h)
set_option maxRecDepth 100000 in
set_option maxHeartbeats 1000000 in
theorem sallX_any (lo hi : Int) (L : List Int) (ao : Option Addr) (cap : Nat) (w : World) (hl : L.length ≤ 1048576) (hA : IntsAt w ao L) :
    Calls Tryd.prog 27 #[.slice ao L.length cap, .int .i64 lo, .int .i64 hi] w fun e w' => e = .returned (.bool (inBx lo hi L)) ∧ w' = w := by
  have HA : Hid _ := hA
  clear hA
  go_enter Tryd.func27, Tryd.ntmps27
  go_wp2
  go_loopw [11] (fun i wr => ∃ k : Nat, k ≤ L.length ∧ i = .int .i64 k ∧ (∀ j, j < k → lo ≤ L.getD j 0 ∧ L.getD j 0 ≤ hi) ∧ wr = w) (fun i _ => L.length - (intOf i).toNat)
  case atStart => exact ⟨0, Nat.zero_le _, rfl, fun j hj => absurd hj (by omega), rfl⟩
  case round =>
    obtain ⟨k, hk, rfl, hall, rfl⟩ := hrel
    have HALL : Hid _ := hall
    clear hall
    by_cases hlt : k < L.length
    · have hltI : (k : Int) < (L.length : Int) := by omega
      obtain ⟨b1, o1, rfl, l1, h1⟩ := HA.out k hlt
      by_cases hgd : lo ≤ L.getD k 0 ∧ L.getD k 0 ≤ hi
      · have HG : Hid _ := hgd
        have HN : Hid (∀ j, j < k + 1 → lo ≤ L.getD j 0 ∧ L.getD j 0 ≤ hi) := fun j hj => by
          by_cases e : j = k
          · subst e; exact hgd
          · exact HALL.out j (by omega)
        clear hgd
        generalize L.getD k 0 = r at *
        go_wp2_with (go_at_call 21; refine (in_yes HG.out _).mono ?_; rintro e w' ⟨rfl, rfl⟩)
        go_roundw
        case rel => exact ⟨k + 1, by omega, by go_num, HN.out, by first | rfl | trivial⟩
        case measure => simp [intOf]; omega
      · have HG : Hid _ := hgd
        have HB : Hid _ := inBx_bad hlt hgd
        clear hgd
        generalize L.getD k 0 = r at *
        go_wp2_with (go_at_call 21; refine (in_no HG.out _).mono ?_; rintro e w' ⟨rfl, rfl⟩)
        go_ret
        exact ⟨by rw [HB.out]; rfl, rfl⟩
    · obtain rfl : k = L.length := by omega
      have HB : Hid (inBx lo hi L = true) := inBx_iff.2 HALL.out
      go_wp2
      go_ret
      exact ⟨by rw [HB.out]; rfl, rfl⟩
/-- The sum of a list. -/
def sumL : List Int → Int
  | [] => 0
  | x :: r => x + sumL r
theorem sumL_append : ∀ (A B : List Int), sumL (A ++ B) = sumL A + sumL B
  | [], B => by simp [sumL]
  | x :: r, B => by simp [sumL, sumL_append r B]; omega
theorem sumL_snoc (L : List Int) (k : Nat) (h : k < L.length) : sumL (L.take (k + 1)) = sumL (L.take k) + L.getD k 0 := by
  rw [take_snoc L k h, sumL_append]; simp [sumL]
theorem sumL_split (L : List Int) (k : Nat) : sumL (L.take k) + sumL (L.drop k) = sumL L := by
  rw [← sumL_append, List.take_append_drop]
theorem inBx_sum {hi : Int} : ∀ {L : List Int}, inBx 1 hi L = true → 0 ≤ sumL L ∧ sumL L ≤ hi * L.length
  | [], _ => by simp [sumL]
  | x :: r, h => by
    have h2 : (1 ≤ x ∧ x ≤ hi) ∧ inBx 1 hi r = true := by simpa [inBx] using h
    have := inBx_sum h2.2
    simp only [sumL, List.length_cons]
    have e : hi * ((r.length + 1 : Nat) : Int) = hi * r.length + hi := by push_cast; rw [Int.mul_add]; omega
    rw [e]
    omega
theorem inBx_take {lo hi : Int} {L : List Int} (h : inBx lo hi L = true) (k : Nat) : inBx lo hi (L.take k) = true := List.all_eq_true.2 fun r hr => List.all_eq_true.1 h r (List.mem_of_mem_take hr)
theorem inBx_drop {lo hi : Int} {L : List Int} (h : inBx lo hi L = true) (k : Nat) : inBx lo hi (L.drop k) = true := List.all_eq_true.2 fun r hr => List.all_eq_true.1 h r (List.mem_of_mem_drop hr)
theorem inBx_append {lo hi : Int} {A B : List Int} : inBx lo hi (A ++ B) = (inBx lo hi A && inBx lo hi B) := by simp [inBx]
theorem allGx_append (A B : List Int) : allG (A ++ B) = (allG A && allG B) := by simp [allG]
theorem allGx_take {L : List Int} (h : allG L = true) (k : Nat) : allG (L.take k) = true := List.all_eq_true.2 fun r hr => allG_true h r (List.mem_of_mem_take hr)
theorem allGx_drop {L : List Int} (h : allG L = true) (k : Nat) : allG (L.drop k) = true := List.all_eq_true.2 fun r hr => allG_true h r (List.mem_of_mem_drop hr)
/-- Whether a buffer is good. -/
def goodBf (M G : Int) (R L : List Int) : Bool := decide (1 ≤ M ∧ M ≤ 60) && (decide ((R.length : Int) ≤ M) && (allG R && (decide (L.length = R.length) && (inBx 1 1000 L && decide (0 ≤ G ∧ G ≤ 1000000)))))
theorem goodBf_iff {M G : Int} {R L : List Int} : goodBf M G R L = true ↔ (1 ≤ M ∧ M ≤ 60) ∧ (R.length : Int) ≤ M ∧ allG R = true ∧ L.length = R.length ∧ inBx 1 1000 L = true ∧ 0 ≤ G ∧ G ≤ 1000000 := by
  simp [goodBf]
/-- A list that may be cut at each place of it. -/
def Sl (w : World) (a : Option Addr) (ca : Nat) (L : List Int) : Prop := L.length ≤ ca ∧ (∀ x, a = some x → x.spot = none) ∧ IntsAt w a L
theorem Sl.keepB {w w' : World} {a : Option Addr} {ca : Nat} {L : List Int} (h : Sl w a ca L) (hb : Below w.heap.size w w') : Sl w' a ca L := ⟨h.1, h.2.1, h.2.2.keepB hb⟩
theorem Sl.of_own {w : World} {base : Nat} {a : Option Addr} {n cap : Nat} {L : List Int} (h : w.ownsRow base 3 1 (.slice a n cap) n (ints L)) : Sl w a cap L := by
  refine ⟨?_, ?_, own_ints h⟩
  · have hn := (ints_of_own h).1
    rcases h.2 with ⟨h1, h2⟩ | ⟨g, cap', cur, h1, _, _, h2, _⟩
    · omega
    · simp only [Value.slice.injEq, true_and] at h1
      omega
  · intro x hx
    subst hx
    rcases h.2 with ⟨h1, h2⟩ | ⟨g, cap', cur, h1, _, _, h2, _⟩
    · simp at h1
    · simp only [Value.slice.injEq, Option.some.injEq] at h1
      rw [h1.1]
theorem Sl.nil (w : World) : Sl w none 0 [] := ⟨Nat.zero_le _, (fun x h => by cases h), fun j hj => by simp at hj⟩
set_option maxRecDepth 100000 in
theorem Sl.front {w0 : World} {a : Option Addr} {ca : Nat} {L : List Int} (h : Sl w0 a ca L) (k : Nat) (hk : k ≤ L.length) :
    (∀ w, (Instr.slice 24 (.slice a L.length ca) none (some (.int .i64 (k : Int))) none).run Tryd.prog w = .ok (.slice a k ca) w) ∧ Sl w0 a ca (L.take k) := by
  obtain ⟨i0, hi, hz0, hz1, hz2⟩ := info_parts Tryd.info3
  have hc := h.1
  refine ⟨fun w => ?_, by simp; omega, h.2.1, fun j hj => ?_⟩
  · have ha : Option.map (fun x => Addr.add x 0) a = a := by
      cases a with
      | none => rfl
      | some x =>
        have := h.2.1 x rfl
        obtain ⟨b, o, t⟩ := x
        simp only at this
        subst this
        simp [Addr.add]
    rw [run_slice_h w 24 a L.length ca Tryd.underlying24 .i64 (k : Int) (by omega) (by omega), show Tryd.prog.elem 24 = 3 by kernel_rfl]
    simp [sizeOf, typeInfo, hi, hz1, sliced, ha]
  · have hj' : j < k := by simp at hj; omega
    obtain ⟨b, o, he, hl, hcell⟩ := h.2.2 j (by omega)
    refine ⟨b, o, he, hl, ?_⟩
    rw [hcell]
    simp [List.getD, hj']
set_option maxRecDepth 100000 in
theorem Sl.tail {w0 : World} {a : Option Addr} {ca : Nat} {L : List Int} (h : Sl w0 a ca L) (k : Nat) (hk : k ≤ L.length) :
    ∃ A C, (∀ w, (Instr.slice 24 (.slice a L.length ca) (some (.int .i64 (k : Int))) none none).run Tryd.prog w = .ok (.slice A (L.length - k) C) w) ∧ Sl w0 A C (L.drop k) := by
  obtain ⟨i0, hi, hz0, hz1, hz2⟩ := info_parts Tryd.info3
  have hc := h.1
  refine ⟨if ca = k then a else a.map (·.add (k * 1)), ca - k, fun w => ?_, by simp; omega, ?_, fun j hj => ?_⟩
  · rw [run_slice_l w 24 a L.length ca Tryd.underlying24 .i64 (k : Int) (by omega) (by omega), show Tryd.prog.elem 24 = 3 by kernel_rfl]
    simp [sizeOf, typeInfo, hi, hz1, sliced]
  · intro x hx
    by_cases e : ca = k
    · rw [if_pos e] at hx; exact h.2.1 x hx
    · rw [if_neg e] at hx
      cases a with
      | none => cases hx
      | some y =>
        have := h.2.1 y rfl
        obtain ⟨b, o, t⟩ := y
        simp only at this
        subst this
        simp [Addr.add] at hx
        rw [← hx]
        split <;> rfl
  · simp at hj
    obtain ⟨b, off, he, hb, hcell⟩ := h.2.2 (k + j) (by omega)
    rw [if_neg (by omega)]
    subst he
    refine ⟨b, off + k, ?_, hb, ?_⟩
    · have : (⟨b, off, none⟩ : Addr).add (k * 1) = ⟨b, off + k, none⟩ := by rw [Nat.mul_one]; unfold Addr.add; split <;> simp_all
      rw [← this]; rfl
    · rw [Nat.add_assoc, hcell]
      simp [List.getD]
set_option maxRecDepth 100000 in
set_option maxHeartbeats 1000000 in
theorem haveL_any (R L : List Int) (s a : Option Addr) (cs ca : Nat) (w : World) (hR : R.length ≤ 1048576) (hL : L.length ≤ 1048576) (iR : IntsAt w s R) (iL : IntsAt w a L) :
    Calls Tryd.prog 31 #[.slice s R.length cs, .slice a L.length ca] w fun r w' => r = .returned (.bool (allG R && (decide (L.length = R.length) && inBx 1 1000 L))) ∧ w' = w := by
  have HR : Hid _ := iR
  have HL : Hid _ := iL
  clear iR iL
  go_enter Tryd.func31, Tryd.ntmps31
  go_wp2
  go_loopw [9] (fun i wr => ∃ k : Nat, k ≤ L.length ∧ i = .int .i64 k ∧ (∀ j, j < k → 1 ≤ L.getD j 0 ∧ L.getD j 0 ≤ 1000) ∧ wr = w) (fun i _ => L.length - (intOf i).toNat)
  case atStart => exact ⟨0, Nat.zero_le _, rfl, fun j hj => absurd hj (by omega), rfl⟩
  case round =>
    obtain ⟨k, hk, rfl, hall, rfl⟩ := hrel
    have HALL : Hid _ := hall
    clear hall
    by_cases hlt : k < L.length
    · have hltI : (k : Int) < (L.length : Int) := by omega
      obtain ⟨b1, o1, rfl, l1, h1⟩ := HL.out k hlt
      by_cases hgd : 1 ≤ L.getD k 0 ∧ L.getD k 0 ≤ 1000
      · have HN : Hid (∀ j, j < k + 1 → 1 ≤ L.getD j 0 ∧ L.getD j 0 ≤ 1000) := fun j hj => by
          by_cases e : j = k
          · subst e; exact hgd
          · exact HALL.out j (by omega)
        have g1 : ¬ L.getD k 0 < 1 := by omega
        have g2 : ¬ 1000 < L.getD k 0 := by omega
        clear hgd
        generalize L.getD k 0 = r at *
        go_wp2
        go_roundw
        case rel => exact ⟨k + 1, by omega, by go_num, HN.out, by first | rfl | trivial⟩
        case measure => simp [intOf]; omega
      · have HB : Hid (inBx 1 1000 L = false) := inBx_bad hlt hgd
        by_cases g1 : L.getD k 0 < 1
        · clear hgd
          generalize L.getD k 0 = r at *
          go_wp2
          go_ret
          exact ⟨by rw [HB.out, Bool.and_false, Bool.and_false]; rfl, rfl⟩
        · have g2 : 1000 < L.getD k 0 := by omega
          clear hgd
          generalize L.getD k 0 = r at *
          go_wp2
          go_ret
          exact ⟨by rw [HB.out, Bool.and_false, Bool.and_false]; rfl, rfl⟩
    · obtain rfl : k = L.length := by omega
      have HB : Hid (inBx 1 1000 L = true) := inBx_iff.2 HALL.out
      by_cases q : L.length = R.length
      · have q1 : (R.length : Int) = (L.length : Int) := by omega
        have q2 : ((R.length : Int) == (L.length : Int)) = true := by simp; omega
        go_wp2_with (first | (go_at_call 39; refine (iall3_any R s cs _ hR HR.out).mono ?_; rintro r w' ⟨rfl, rfl⟩) | fail)
        go_ret
        exact ⟨by rw [HB.out, decide_eq_true q]; simp, rfl⟩
      · have q1 : ¬ (R.length : Int) = (L.length : Int) := by omega
        have q2 : ((R.length : Int) == (L.length : Int)) = false := by simp; omega
        go_wp2
        go_ret
        exact ⟨by rw [decide_eq_false q]; simp, rfl⟩
set_option maxRecDepth 100000 in
set_option maxHeartbeats 1000000 in
theorem isGone_any (G : Int) (w : World) : Calls Tryd.prog 32 #[.int .i64 G] w fun r w' => r = .returned (.bool (decide (0 ≤ G ∧ G ≤ 1000000))) ∧ w' = w := by
  generalize hq : decide (0 ≤ G ∧ G ≤ 1000000) = q
  have HQ : Hid _ := hq
  clear hq
  by_cases h1 : 0 ≤ G
  · by_cases h2 : G ≤ 1000000
    · go_enter Tryd.func32, Tryd.ntmps32
      go_wp2
      go_ret
      exact ⟨by rw [← HQ.out, decide_eq_true (by omega)]; rfl, rfl⟩
    · go_enter Tryd.func32, Tryd.ntmps32
      go_wp2
      go_ret
      exact ⟨by rw [← HQ.out, decide_eq_false (by omega)]; rfl, rfl⟩
  · go_enter Tryd.func32, Tryd.ntmps32
    go_wp2
    go_ret
    exact ⟨by rw [← HQ.out, decide_eq_false (by omega)]; rfl, rfl⟩
end Go.Proofs.YtklgagonbehpeaaDoor

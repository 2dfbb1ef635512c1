/-
  SetOf of both.
-/
import Derived.Test.YtmmhgeaddldhlaaC4R
import Derived.Test.YtmmhgeaddldhlaaC4Q
import Derived.Laws.MakeOwn
namespace Go.Proofs.Ytmmhgeaddldhlaa
open Go.ChangeShapes Go.WideShapes Go.ChangeAt Go.RowKit
/-- A list of spans in the one form, none beyond what runes are. -/
structure CT (C : List (Int × Int)) : Prop where
  can : Can (-1) C
  top : Top C
theorem CT.bd {C : List (Int × Int)} (h : CT C) : ∀ p ∈ C, 0 ≤ p.1 ∧ p.1 ≤ 1114112 ∧ 0 ≤ p.2 ∧ p.2 ≤ 1114112 := fun p hp => by
  have h1 := h.can.ge hp
  have h2 := h.top p hp
  omega
theorem top_of_mem {C : List (Int × Int)} (hc : Can (-1) C) (h : ∀ x, Mem x C → x ≤ 1114111) : Top C := fun p hp => by
  have h1 := (hc.ge hp).2
  have := h (p.2 - 1) (mem_iff.2 ⟨p, hp, by omega, by omega⟩)
  omega
theorem mem_le {C : List (Int × Int)} (ht : Top C) {x : Int} (h : Mem x C) : x ≤ 1114111 := by
  obtain ⟨p, hp, h1⟩ := mem_iff.1 h
  have := ht p hp
  omega
theorem addS_ct {C : List (Int × Int)} (h : CT C) {lo hi : Int} (h1 : 0 ≤ lo) (h2 : lo ≤ hi) (h3 : hi ≤ 1114111) : CT (addS C lo (hi + 1)) ∧ ∀ x, Mem x (addS C lo (hi + 1)) ↔ Mem x C ∨ (lo ≤ x ∧ x < hi + 1) := by
  obtain ⟨k1, k2⟩ := addS_can (S := C) (c := -1) (lo := lo) (hi := hi + 1) h.can (by omega) (by omega)
  refine ⟨⟨k1, top_of_mem k1 fun x hx => ?_⟩, k2⟩
  rcases (k2 x).1 hx with m | m
  · exact mem_le h.top m
  · omega
theorem addS_len {C : List (Int × Int)} (h : CT C) {lo hi : Int} (h1 : 0 ≤ lo ∧ lo ≤ 1114112) (h2 : 0 ≤ hi ∧ hi ≤ 1114112) : (addS C lo hi).length ≤ C.length + 1 := by
  have := (addF_bd h.bd h1 h2).2.2
  unfold addS insS
  rw [List.length_append, List.length_cons]
  have e : ((addF C lo hi).1.takeWhile (fun p => decide (p.1 < (addF C lo hi).2.1))).length + ((addF C lo hi).1.dropWhile (fun p => decide (p.1 < (addF C lo hi).2.1))).length = (addF C lo hi).1.length := by
    rw [← List.length_append, List.takeWhile_append_dropWhile]
  omega
/-- The set of some runes. -/
def setL (L : List Int) : List (Int × Int) := L.foldl (fun C r => addS C r (r + 1)) []
theorem setL_snoc (L : List Int) (r : Int) : setL (L ++ [r]) = addS (setL L) r (r + 1) := by simp [setL]
theorem setL_facts (L : List Int) (h : ∀ r ∈ L, 0 ≤ r ∧ r ≤ 1114111) (k : Nat) (hk : k ≤ L.length) : CT (setL (L.take k)) ∧ (setL (L.take k)).length ≤ k ∧ ∀ x, Mem x (setL (L.take k)) ↔ x ∈ L.take k := by
  induction k with
  | zero => exact ⟨⟨trivial, fun p hp => by cases hp⟩, Nat.le_refl _, fun x => by simp [setL, Mem]⟩
  | succ k ih =>
    obtain ⟨i1, i2, i3⟩ := ih (by omega)
    have hr := h (L.getD k 0) (by simp [List.getD, show k < L.length by omega])
    rw [take_snoc L k (by omega), setL_snoc]
    obtain ⟨j1, j2⟩ := addS_ct i1 (lo := L.getD k 0) (hi := L.getD k 0) hr.1 (Int.le_refl _) hr.2
    have j3 := addS_len i1 (lo := L.getD k 0) (hi := L.getD k 0 + 1) (by omega) (by omega)
    refine ⟨j1, by omega, fun x => ?_⟩
    rw [j2 x, i3 x, List.mem_append, List.mem_singleton]
    constructor
    · rintro (m | m)
      · exact .inl m
      · exact .inr (by omega)
    · rintro (m | m)
      · exact .inl m
      · exact .inr (by omega)
def setB (L : List Int) : Bool := allG L && decide (L.length ≤ 1000)
theorem setB_true {L : List Int} (h : setB L = true) : allG L = true ∧ L.length ≤ 1000 := by simpa [setB] using h
theorem allG_bd {L : List Int} (h : allG L = true) : ∀ r ∈ L, 0 ≤ r ∧ r ≤ 1114111 := fun r hr => by have := goodB_true (allG_true h r hr); omega
set_option maxRecDepth 100000 in
set_option maxHeartbeats 2000000 in
theorem ssetOf_no (L : List Int) (ao : Option Addr) (cap : Nat) (w : World) (hl : L.length ≤ 1048576) (hg : setB L = false) (hA : IntsAt w ao L) :
    Calls Try.prog 36 #[.slice ao L.length cap] w fun e w' => e = .returned (.tuple #[.slice none 0 0, .bool false]) ∧ Below w.heap.size w w' := by
  have HA : Hid _ := hA
  have HG : Hid ((allG L && decide (L.length ≤ 1000)) = false) := hg
  clear hA hg
  go_enter Try.func36, Try.ntmps36
  go_wp2_with fail
  refine (all_any L ao cap _ hl HA.out).mono ?_
  rintro e w1 ⟨rfl, b1⟩
  rw [HG.out]
  go_wp2
  go_ret2
  exact ⟨rfl, b1⟩
set_option maxRecDepth 100000 in
set_option maxHeartbeats 2000000 in
theorem ssetOf_yes (L : List Int) (ao : Option Addr) (cap : Nat) (w : World) (hg : setB L = true) (hA : IntsAt w ao L) :
    Calls Try.prog 36 #[.slice ao L.length cap] w fun e w' => SetE w w' (setL L) e ∧ Below w.heap.size w w' := by
  have HA : Hid _ := hA
  have HG : Hid ((allG L && decide (L.length ≤ 1000)) = true) := hg
  have HBD : Hid _ := allG_bd (setB_true hg).1
  have hl := (setB_true hg).2
  clear hA hg
  go_enter Try.func36, Try.ntmps36
  go_wp2_with fail
  refine (all_any L ao cap _ (by omega) HA.out).mono ?_
  rintro e w1 ⟨rfl, b1⟩
  rw [HG.out]
  have B1 : Hid _ := b1
  have HA1 : Hid _ := IntsAt.keepB HA.out b1
  clear b1 HA
  go_wp2
  go_loopw [4, 12] (fun v i wr => ∃ k : Nat, k ≤ L.length ∧ i = .int .i64 k ∧ wr.ownsRow w1.heap.size 3 1 v (flS (setL (L.take k))).length (ints (flS (setL (L.take k)))) ∧ Below w1.heap.size w1 wr) (fun _ i _ => L.length - (intOf i).toNat)
  case atStart => exact ⟨0, Nat.zero_le _, rfl, World.ownsRow_nil _ _ _ _, Below.refl _ _⟩
  case round =>
    obtain ⟨k, hk, rfl, hown, hbw⟩ := hrel
    obtain ⟨f1, f2, _⟩ := setL_facts L HBD.out k hk
    by_cases hlt : k < L.length
    · have hltI : (k : Int) < (L.length : Int) := by omega
      obtain ⟨b1, o1, rfl, l1, h1⟩ := HA1.out k hlt
      have hc : wr.cell? ⟨b1, o1 + k, none⟩ = some (.int .i64 (L.getD k 0)) := (hbw.cell (p := ⟨b1, o1 + k, none⟩) l1).trans h1
      have hr := HBD.out (L.getD k 0) (by simp [List.getD, hlt])
      have HST : Hid (setL (L.take (k + 1)) = addS (setL (L.take k)) (L.getD k 0) (L.getD k 0 + 1)) := by show setL (L.take (k + 1)) = _; rw [take_snoc L k hlt, setL_snoc]
      have HCT : Hid _ := f1
      obtain ⟨-, a7, c7, rfl, i7⟩ := ints_of_own hown
      have I7 : Hid _ := i7
      have HB : Hid _ := hbw
      clear h1 hown i7 hbw f1
      generalize L.getD k 0 = r at *
      generalize setL (L.take k) = C at *
      go_wp2_with fail
      refine (sadd_any C r r a7 c7 _ _ rfl (by omega) HCT.out.bd hr hr I7.out).mono ?_
      rintro e w2 ⟨v2, rfl, o2, b2⟩
      have O2 : Hid (w2.ownsRow w1.heap.size 3 1 v2 (flS (addS C r (r + 1))).length (ints (flS (addS C r (r + 1))))) := own_mono o2 HB.out.size
      have B2 : Hid (Below w1.heap.size w1 w2) := HB.out.trans (b2.mono HB.out.size)
      clear o2 b2
      go_wp2
      go_roundw
      case rel => exact ⟨k + 1, by omega, by go_num, by rw [HST.out]; exact O2.out, B2.out⟩
      case measure => simp [intOf]; omega
    · have hkl : k = L.length := by omega
      subst hkl
      rw [List.take_length] at f1 f2 hown
      have HCT : Hid _ := f1
      have OWN : Hid _ := hown
      have HB : Hid (Below w.heap.size w wr) := B1.out.trans (hbw.mono B1.out.size)
      have HB1 : Hid _ := hbw
      clear hown hbw f1
      by_cases h12 : (setL L).length ≤ 12
      · go_wp2_with fail
        refine (smade_yes (setL L) _ _ _ HCT.out.can HCT.out.top h12 OWN.out).mono ?_
        rintro e w3 ⟨rfl, b3⟩
        have O3 : Hid _ := own_mono (World.ownsRow.keepB OWN.out b3) B1.out.size
        have B3 : Hid (Below w.heap.size w w3) := HB.out.trans (b3.mono HB.out.size)
        clear b3
        go_wp2
        go_ret2
        exact ⟨.inl ⟨h12, _, rfl, O3.out⟩, B3.out⟩
      · go_wp2_with fail
        refine (smade_no (setL L) _ _ _ HCT.out.can HCT.out.top (by omega) (by omega) OWN.out).mono ?_
        rintro e w3 ⟨rfl, b3⟩
        have B3 : Hid (Below w.heap.size w w3) := HB.out.trans (b3.mono HB.out.size)
        clear b3
        go_wp2
        go_ret2
        exact ⟨.inr ⟨by omega, rfl⟩, B3.out⟩
/-- The spans of one rune each. -/
def oneL (L : List Int) : List (Int × Int) := L.map fun r => (r, r + 1)
theorem oneL_take (L : List Int) (k : Nat) (h : k < L.length) : oneL (L.take (k + 1)) = oneL (L.take k) ++ [(L.getD k 0, L.getD k 0 + 1)] := by
  rw [take_snoc L k h]
  simp [oneL]
theorem oneL_mem (L : List Int) (x : Int) : Mem x (oneL L) ↔ x ∈ L := by
  rw [mem_iff]
  constructor
  · rintro ⟨p, hp, h1⟩
    simp only [oneL, List.mem_map] at hp
    obtain ⟨r, hr, rfl⟩ := hp
    simp only at h1
    obtain rfl : x = r := by omega
    exact hr
  · intro h
    exact ⟨(x, x + 1), by simp only [oneL, List.mem_map]; exact ⟨x, h, rfl⟩, by simp only; omega⟩
theorem make_spans (w : World) (n : Nat) (hn : n ≤ 1048576) : ∃ w', (Instr.makeSlice 66 (.int .i64 0) (.int .i64 (n : Int))).run Try.prog w = .ok (.slice (some ⟨w.heap.size, 0, none⟩) 0 n) w' ∧ ownS w' w.heap.size (.slice (some ⟨w.heap.size, 0, none⟩) 0 n) [] ∧ Below w.heap.size w w' := by
  obtain ⟨i0, hi, hz0, hz1, hz2⟩ := info62b
  obtain ⟨w1, h1, h2, h3⟩ := run_make_own (P := Try.prog) w w.heap.size 66 60 i0 _ 2 Try.underlying66 hi hz0 hz1 .i64 .i64 n (by rw [hz2]; omega) (by unfold maxLen; omega) (Nat.le_refl _)
  exact ⟨w1, h1, h2, Below.grown (Below.refl _ _) h3 (Nat.le_refl _) (fun g hg => by cases hg)⟩
set_option maxRecDepth 100000 in
set_option maxHeartbeats 2000000 in
theorem isetOf_no (L : List Int) (ao : Option Addr) (cap : Nat) (w : World) (hl : L.length ≤ 1048576) (hg : setB L = false) (hA : IntsAt w ao L) :
    Calls Try.prog 35 #[.slice ao L.length cap] w fun e w' => e = .returned (.tuple #[.slice none 0 0, .bool false]) ∧ Below w.heap.size w w' := by
  have HA : Hid _ := hA
  clear hA
  by_cases h1 : (1000 : Int) < (L.length : Int)
  · clear hg
    go_enter Try.func35, Try.ntmps35
    go_wp2
    go_ret2
    exact ⟨rfl, Below.refl _ _⟩
  · have HG : Hid (allG L = false) := by
      show allG L = false
      cases h : allG L
      · rfl
      · have : setB L = true := by simp [setB, h]; omega
        rw [hg] at this; cases this
    clear hg
    go_enter Try.func35, Try.ntmps35
    go_wp2_with fail
    refine (iall3_any L ao cap _ hl HA.out).mono ?_
    rintro e w1 ⟨rfl, rfl⟩
    rw [HG.out]
    go_wp2
    go_ret2
    exact ⟨rfl, Below.refl _ _⟩
set_option maxRecDepth 100000 in
set_option maxHeartbeats 2000000 in
theorem isetOf_yes (L : List Int) (ao : Option Addr) (cap : Nat) (w : World) (hg : setB L = true) (hA : IntsAt w ao L) :
    Calls Try.prog 35 #[.slice ao L.length cap] w fun e w' => SetE w w' (setL L) e ∧ Below w.heap.size w w' := by
  have HA : Hid _ := hA
  have HG : Hid _ := (setB_true hg).1
  have HBD : Hid _ := allG_bd (setB_true hg).1
  have hl := (setB_true hg).2
  have hl0 : ¬ (1000 : Int) < (L.length : Int) := by omega
  obtain ⟨f1, _, f3⟩ := setL_facts L HBD.out L.length (Nat.le_refl _)
  rw [List.take_length] at f1 f3
  have HCT : Hid _ := f1
  have HMM : Hid (∀ x, Mem x (setL L) ↔ Mem x (oneL L)) := fun x => by rw [f3 x, oneL_mem]
  have HSB : Hid (∀ p ∈ oneL L, -4000000 ≤ p.1 ∧ p.1 ≤ 4000000 ∧ -4000000 ≤ p.2 ∧ p.2 ≤ 4000000) := fun p hp => by
    simp only [oneL, List.mem_map] at hp
    obtain ⟨r, hr, rfl⟩ := hp
    have := HBD.out r hr
    simp only
    omega
  have HSG : Hid (∀ p ∈ oneL L, p.1 < p.2 → -1 < p.1) := fun p hp _ => by
    simp only [oneL, List.mem_map] at hp
    obtain ⟨r, hr, rfl⟩ := hp
    have := HBD.out r hr
    simp only
    omega
  obtain ⟨wm, hmk, hom, hbm⟩ := make_spans w L.length (by omega)
  have OM : Hid _ := hom
  have BM : Hid _ := hbm
  clear hA hg f1 f3 hom hbm
  go_enter Try.func35, Try.ntmps35
  go_wp2_with fail
  refine (iall3_any L ao cap _ (by omega) HA.out).mono ?_
  rintro e w1 ⟨rfl, rfl⟩
  rw [HG.out]
  go_wp2
  go_loopw [4, 20] (fun v i wr => ∃ k : Nat, k ≤ L.length ∧ i = .int .i64 k ∧ ownS wr w1.heap.size v (oneL (L.take k)) ∧ Below w1.heap.size w1 wr) (fun _ i _ => L.length - (intOf i).toNat)
  case atStart => exact ⟨0, Nat.zero_le _, rfl, OM.out, BM.out⟩
  case round =>
    obtain ⟨k, hk, rfl, hown, hbw⟩ := hrel
    have OWN : Hid _ := hown
    have HB : Hid _ := hbw
    have hol : (oneL (L.take k)).length = k := by simp [oneL]; omega
    by_cases hlt : k < L.length
    · have hltI : (k : Int) < (L.length : Int) := by omega
      obtain ⟨b1, o1, rfl, l1, h1⟩ := HA.out k hlt
      have hc : wr.cell? ⟨b1, o1 + k, none⟩ = some (.int .i64 (L.getD k 0)) := (hbw.cell (p := ⟨b1, o1 + k, none⟩) l1).trans h1
      have hr := HBD.out (L.getD k 0) (by simp [List.getD, hlt])
      have HST : Hid _ := oneL_take L k hlt
      obtain ⟨r1, r2⟩ := hr
      have hole : (oneL (L.take k)).length ≤ 1000 := by omega
      clear h1 hown hbw hol
      generalize L.getD k 0 = r at *
      generalize oneL (L.take k) = S at *
      have AL : ∀ o, Below wr.heap.size wr (wr.alloc o) := fun o => (Below.refl _ _).alloc (Nat.le_refl _) o
      go_wp2_with (at_builtin; refine wpS _ rfl _ _ rfl w1.heap.size _ S rfl (World.ownsRow.keepB OWN.out (AL _)) (some ⟨wr.heap.size, 0, none⟩) [(r, r + 1)] 1 1 rfl rfl (spans_new wr _ _ _ _ rfl) ?c1 ?c2 ?_)
      case c1 => omega
      case c2 => have := HB.out.size; simp; omega
      intro v3 w3 hown3 hgrow _
      have B3 : Hid (Below w1.heap.size w1 w3) := Below.grown (HB.out.trans ((AL _).mono HB.out.size)) hgrow (Below.size (HB.out.trans ((AL _).mono HB.out.size))) (fun g hg => (World.ownsRow.lt OWN.out g hg).1)
      clear hgrow
      go_wp2
      go_roundw
      case rel => exact ⟨k + 1, by omega, by go_num, by rw [HST.out]; exact hown3, B3.out⟩
      case measure => simp [intOf]; omega
    · have hkl : k = L.length := by omega
      subst hkl
      rw [List.take_length] at hown hol
      obtain ⟨ao3, cap3, rfl, sp3⟩ := spans_of_own hown
      have SP3 : Hid _ := sp3
      have HOL : Hid ((oneL L).length = L.length) := hol
      clear hown sp3 hbw OWN hol
      go_wp2_with fail
      refine (joinSp' (oneL L) (setL L) ao3 cap3 _ _ (by simp) (by rw [HOL.out]; omega) HSB.out HSG.out HCT.out.can HMM.out SP3.out).mono ?_
      rintro e w4 ⟨hor, b4⟩
      have B4 : Hid (Below w1.heap.size w1 w4) := HB.out.trans (b4.mono HB.out.size)
      clear b4
      obtain ⟨h12, v4, rfl, o4⟩ | ⟨h12, rfl⟩ := hor
      · have O4 : Hid (w4.ownsRow w1.heap.size 3 1 v4 (flS (setL L)).length (ints (flS (setL L)))) := own_mono o4 HB.out.size
        clear o4
        go_wp2
        go_ret2
        exact ⟨.inl ⟨h12, v4, rfl, O4.out⟩, B4.out⟩
      · go_wp2
        go_ret2
        exact ⟨.inr ⟨h12, rfl⟩, B4.out⟩
end Go.Proofs.Ytmmhgeaddldhlaa

/-
  Running a machine of states: plain functions; l6Entry, l6RunDfa, RunDfa of the specification; entryOf, RunDfa of the program.
-/
import Derived.Test.YtnlccplpcbdmnaaM6F
namespace Go.Proofs.Ytnlccplpcbdmnaa
open Go.ChangeShapes Go.WideShapes Go.ChangeAt Go.RowKit
/-- The entry by which a number goes. -/
def entN : List Int → Int → Nat
  | [], _ => 0
  | c :: t, r => if c ≤ r then entN t r + 1 else 0
theorem entN_le : ∀ (C : List Int) (r : Int), entN C r ≤ C.length
  | [], _ => Nat.le_refl _
  | c :: t, r => by
    unfold entN
    have := entN_le t r
    split <;> simp <;> omega
theorem entN_of : ∀ (C : List Int) (r : Int) (k : Nat), k ≤ C.length → (∀ j, j < k → C.getD j 0 ≤ r) → (k = C.length ∨ ¬ C.getD k 0 ≤ r) → entN C r = k
  | [], _, k, hk, _, _ => by simp at hk; subst hk; rfl
  | c :: t, r, 0, _, _, h => by
    rcases h with h | h
    · simp at h
    · simp at h
      simp [entN]
      omega
  | c :: t, r, k + 1, hk, ha, h => by
    have h0 : c ≤ r := by simpa using ha 0 (by omega)
    have := entN_of t r k (by simpa using hk) (fun j hj => by simpa using ha (j + 1) (by omega)) (by
      rcases h with h | h
      · left; simpa using h
      · right; simpa using h)
    simp [entN, h0, this]
/-- The state behind the first k numbers. -/
def runK (C : List Int) (R : Rw) (L : List Int) : Nat → Nat
  | 0 => 0
  | k + 1 => ((rw_ R (runK C R L k)).getD (entN C (L.getD k 0)) 0).toNat
def runB (C : List Int) (R : Rw) (F : List Bool) (L : List Int) : Bool := F.getD (runK C R L L.length) false
theorem runK_lt {C : List Int} {R : Rw} {F : List Bool} (h : goodD C R F = true) (L : List Int) : ∀ k, runK C R L k < R.length
  | 0 => by have := (goodD_true h).1; simp only [runK]; omega
  | k + 1 => by
    obtain ⟨h1, -, -, -, h5⟩ := goodD_true h
    have ih := runK_lt h L k
    obtain ⟨e, hb⟩ := h5 _ ih
    have := hb (entN C (L.getD k 0)) (by have := entN_le C (L.getD k 0); omega)
    simp only [runK]
    omega
theorem runK_step {C : List Int} {R : Rw} {F : List Bool} (h : goodD C R F = true) (L : List Int) (k : Nat) : (rw_ R (runK C R L k)).getD (entN C (L.getD k 0)) 0 = (runK C R L (k + 1) : Nat) ∧ entN C (L.getD k 0) < (rw_ R (runK C R L k)).length := by
  obtain ⟨h1, -, -, -, h5⟩ := goodD_true h
  obtain ⟨e, hb⟩ := h5 _ (runK_lt h L k)
  have hle : entN C (L.getD k 0) < (rw_ R (runK C R L k)).length := by have := entN_le C (L.getD k 0); omega
  have := hb (entN C (L.getD k 0)) hle
  exact ⟨by simp only [runK]; omega, hle⟩
set_option maxRecDepth 100000 in
set_option maxHeartbeats 1000000 in
theorem ient_any (C : List Int) (r : Int) (a : Option Addr) (ca : Nat) (w : World) (hl : C.length ≤ 1048576) (hA : IntsAt w a C) :
    Calls Try.prog 43 #[.slice a C.length ca, .int .i64 r] w fun e w' => e = .returned (.int .i64 (entN C r)) ∧ w' = w := by
  have HA : Hid _ := hA
  clear hA
  go_enter Try.func43, Try.ntmps43
  go_wp2
  go_loopw [5] (fun i wr => ∃ k : Nat, k ≤ C.length ∧ i = .int .i64 k ∧ (∀ j, j < k → C.getD j 0 ≤ r) ∧ wr = w) (fun i _ => C.length - (intOf i).toNat)
  case atStart => exact ⟨0, Nat.zero_le _, rfl, fun j hj => absurd hj (by omega), rfl⟩
  case round =>
    obtain ⟨k, hk, rfl, hall, rfl⟩ := hrel
    have HALL : Hid _ := hall
    clear hall
    by_cases hlt : k < C.length
    · have hltI : (k : Int) < (C.length : Int) := by omega
      obtain ⟨b1, o1, rfl, l1, h1⟩ := HA.out k hlt
      by_cases q : C.getD k 0 ≤ r
      · have HN : Hid (∀ j, j < k + 1 → C.getD j 0 ≤ r) := fun j hj => by
          by_cases e : j = k
          · subst e; exact q
          · exact HALL.out j (by omega)
        generalize C.getD k 0 = x at *
        go_wp2
        go_roundw
        case rel => exact ⟨k + 1, by omega, by go_num, HN.out, by first | rfl | trivial⟩
        case measure => simp [intOf]; omega
      · have HE : Hid (entN C r = k) := entN_of C r k (by omega) HALL.out (.inr q)
        generalize C.getD k 0 = x at *
        go_wp2
        go_ret
        exact ⟨by rw [HE.out]; rfl, rfl⟩
    · obtain rfl : k = C.length := by omega
      have HE : Hid (entN C r = C.length) := entN_of C r _ (Nat.le_refl _) HALL.out (.inl rfl)
      go_wp2
      go_ret
      exact ⟨by rw [HE.out]; rfl, rfl⟩
set_option maxRecDepth 100000 in
set_option maxHeartbeats 1000000 in
theorem sent_any (C : List Int) (r : Int) (a b e : Option Addr) (ca m cb l ce : Nat) (w : World) (hl : C.length ≤ 1048576) (hA : IntsAt w a C) :
    Calls Try.prog 54 #[.agg #[.slice a C.length ca, .slice b m cb, .slice e l ce], .int .i64 r] w fun e w' => e = .returned (.int .i64 (entN C r)) ∧ Below w.heap.size w w' := by
  have HA : Hid _ := hA
  clear hA
  have A1 : ∀ o, Below w.heap.size w (w.alloc o) := fun o => (Below.refl _ _).alloc (Nat.le_refl _) o
  go_enter Try.func54, Try.ntmps54
  go_wp2
  go_loopw [5] (fun i wr => ∃ k : Nat, k ≤ C.length ∧ i = .int .i64 k ∧ (∀ j, j < k → C.getD j 0 ≤ r) ∧ wr.cell? ⟨w.heap.size, 0, none⟩ = some (.slice a C.length ca) ∧ Below w.heap.size w wr) (fun i _ => C.length - (intOf i).toNat)
  case atStart => exact ⟨0, Nat.zero_le _, rfl, fun j hj => absurd hj (by omega), cell_of (heap_last2 _ _ _ rfl) 0, A1 _⟩
  case round =>
    obtain ⟨k, hk, rfl, hall, hc, hbw⟩ := hrel
    have HALL : Hid _ := hall
    have BW0 : Hid _ := hbw
    clear hall hbw
    by_cases hlt : k < C.length
    · have hltI : (k : Int) < (C.length : Int) := by omega
      obtain ⟨b1, o1, rfl, l1, h1⟩ := HA.out k hlt
      have g1 : wr.cell? ⟨b1, o1 + k, none⟩ = some (.int .i64 (C.getD k 0)) := (BW0.out.cell (p := ⟨b1, o1 + k, none⟩) l1).trans h1
      clear h1
      by_cases q : C.getD k 0 ≤ r
      · have HN : Hid (∀ j, j < k + 1 → C.getD j 0 ≤ r) := fun j hj => by
          by_cases e : j = k
          · subst e; exact q
          · exact HALL.out j (by omega)
        have HC : Hid _ := hc
        generalize C.getD k 0 = x at *
        go_wp2
        go_roundw
        case rel => exact ⟨k + 1, by omega, by go_num, HN.out, HC.out, BW0.out⟩
        case measure => simp [intOf]; omega
      · have HE : Hid (entN C r = k) := entN_of C r k (by omega) HALL.out (.inr q)
        generalize C.getD k 0 = x at *
        go_wp2
        go_ret
        exact ⟨by rw [HE.out]; rfl, BW0.out⟩
    · obtain rfl : k = C.length := by omega
      have HE : Hid (entN C r = C.length) := entN_of C r _ (Nat.le_refl _) HALL.out (.inl rfl)
      go_wp2
      go_ret
      exact ⟨by rw [HE.out]; rfl, BW0.out⟩
set_option maxRecDepth 100000 in
set_option maxHeartbeats 2000000 in
theorem srunD_any (C : List Int) (R : Rw) (F : List Bool) (L : List Int) (a b e al : Option Addr) (ca cb ce cl : Nat) (w : World) (hG : goodD C R F = true) (hl : L.length ≤ 1048576) (hA : IntsAt w a C) (hB : RowsAt w b R) (hE : FlagsAt w e F) (hL : IntsAt w al L) :
    Calls Try.prog 41 #[.agg #[.slice a C.length ca, .slice b R.length cb, .slice e F.length ce], .slice al L.length cl] w fun r w' => r = .returned (.bool (runB C R F L)) ∧ Below w.heap.size w w' := by
  have HA : Hid _ := hA
  have HB : Hid _ := hB
  have HE : Hid _ := hE
  have HL : Hid _ := hL
  have HG : Hid _ := hG
  have hC40 : C.length ≤ 1048576 := by have := (goodD_true hG).2.2.1; omega
  have HFR : Hid _ := (goodD_true hG).2.1
  have A1 : ∀ o, Below w.heap.size w (w.alloc o) := fun o => (Below.refl _ _).alloc (Nat.le_refl _) o
  clear hA hB hE hL hG
  go_enter Try.func41, Try.ntmps41
  go_wp2
  go_loopw [5, 10] (fun s i wr => ∃ k : Nat, k ≤ L.length ∧ i = .int .i64 k ∧ s = .int .i64 (runK C R L k : Nat) ∧ wr.heap[w.heap.size]? = some (.cells #[.slice a C.length ca, .slice b R.length cb, .slice e F.length ce] 29) ∧ Below w.heap.size w wr) (fun _ i _ => L.length - (intOf i).toNat)
  case atStart => exact ⟨0, Nat.zero_le _, rfl, rfl, heap_last2 _ _ _ rfl, A1 _⟩
  case round =>
    obtain ⟨k, hk, rfl, rfl, hbl, hbw⟩ := hrel
    have BW0 : Hid _ := hbw
    have HBL : Hid _ := hbl
    have hszr : w.heap.size < wr.heap.size := (Array.getElem?_eq_some_iff.1 hbl).1
    clear hbw hbl
    have hsl := runK_lt HG.out L k
    by_cases hlt : k < L.length
    · have hltI : (k : Int) < (L.length : Int) := by omega
      obtain ⟨b1, o1, rfl, l1, h1⟩ := HL.out k hlt
      have gL : wr.cell? ⟨b1, o1 + k, none⟩ = some (.int .i64 (L.getD k 0)) := (BW0.out.cell (p := ⟨b1, o1 + k, none⟩) l1).trans h1
      obtain ⟨b2, o2, sa, sc, rfl, l2, h2, iS⟩ := HB.out _ hsl
      obtain ⟨hst, hen⟩ := runK_step HG.out L k
      obtain ⟨b3, o3, rfl, l3, h3⟩ := iS _ hen
      rw [hst] at h3
      have lw2 : b2 < wr.heap.size := Nat.lt_of_lt_of_le l2 BW0.out.size
      have lw3 : b3 < wr.heap.size := Nat.lt_of_lt_of_le l3 BW0.out.size
      have IA : Hid (∀ y : BW wr, IntsAt y.x a C) := fun y => (IntsAt.keepB HA.out BW0.out).keepB y.h
      have g0 : ∀ y : BW wr, y.x.cell? ⟨w.heap.size, 0, none⟩ = some (.slice a C.length ca) := fun y => cell_of ((y.h.block _ hszr).trans HBL.out) 0
      have g1 : ∀ y : BW wr, y.x.cell? ⟨w.heap.size, 1, none⟩ = some (.slice (some ⟨b2, o2, none⟩) R.length cb) := fun y => cell_of ((y.h.block _ hszr).trans HBL.out) 1
      have g2 : ∀ y : BW wr, y.x.cell? ⟨w.heap.size, 2, none⟩ = some (.slice e F.length ce) := fun y => cell_of ((y.h.block _ hszr).trans HBL.out) 2
      have g3 : ∀ y : BW wr, y.x.cell? ⟨b2, o2 + runK C R L k, none⟩ = some (.slice (some ⟨b3, o3, none⟩) (rw_ R (runK C R L k)).length sc) := fun y => (y.h.cell (p := ⟨b2, o2 + runK C R L k, none⟩) lw2).trans ((BW0.out.cell (p := ⟨b2, o2 + runK C R L k, none⟩) l2).trans h2)
      have g4 : ∀ y : BW wr, y.x.cell? ⟨b3, o3 + entN C (L.getD k 0), none⟩ = some (.int .i64 (runK C R L (k + 1) : Nat)) := fun y => (y.h.cell (p := ⟨b3, o3 + entN C (L.getD k 0), none⟩) lw3).trans ((BW0.out.cell (p := ⟨b3, o3 + entN C (L.getD k 0), none⟩) l3).trans h3)
      clear h1 h2 h3 iS hst
      generalize hx : L.getD k 0 = x at *
      have HENT : Hid (∀ y : BW wr, Calls Try.prog 54 #[.agg #[.slice a C.length ca, .slice (some ⟨b2, o2, none⟩) R.length cb, .slice e F.length ce], .int .i64 x] y.x fun e w' => e = .returned (.int .i64 (entN C x : Nat)) ∧ Below y.x.heap.size y.x w') := fun y => sent_any C x _ _ _ _ _ _ _ _ _ hC40 (IA.out y)
      generalize hn : entN C x = n at *
      generalize hm : runK C R L (k + 1) = m at *
      generalize hs : runK C R L k = s at *
      generalize hq : (rw_ R s).length = q at *
      have HX : Hid _ := hx
      have HN : Hid _ := hn
      have HM : Hid _ := hm
      clear hx hn hm hs hq
      have hslI : (s : Int) < (R.length : Int) := by omega
      have henI : (n : Int) < (q : Int) := by omega
      go_wp2
      have hne := BW.some wr
      refine wp_region_below (by kernel_rfl) (by kernel_rfl) ?_
      repeat (go_big_quiet_step (first | (go_at_call 54; exact BW.call (HENT.out _))))
      rintro w2 ⟨⟨w2', b2⟩, hw⟩
      obtain rfl : w2 = w2' := hw
      have HBL2 : Hid _ := (b2.block _ hszr).trans HBL.out
      have B2 : Hid (Below w.heap.size w w2) := BW0.out.trans (b2.mono BW0.out.size)
      clear b2 g0 g1 g2 g3 g4
      go_wp2
      go_roundw
      case rel => exact ⟨k + 1, by omega, by go_num, by rw [HM.out], HBL2.out, B2.out⟩
      case measure => simp [intOf]; omega
    · obtain rfl : k = L.length := by omega
      have hsF : runK C R L L.length < F.length := by rw [HFR.out]; exact hsl
      obtain ⟨b3, o3, rfl, l3, h3⟩ := HE.out _ hsF
      have g2 : wr.cell? ⟨w.heap.size, 2, none⟩ = some (.slice (some ⟨b3, o3, none⟩) F.length ce) := cell_of HBL.out 2
      have g3 : wr.cell? ⟨b3, o3 + runK C R L L.length, none⟩ = some (.bool (runB C R F L)) := (BW0.out.cell (p := ⟨b3, o3 + runK C R L L.length, none⟩) l3).trans h3
      clear h3
      generalize hres : runB C R F L = res at *
      have HRES : Hid _ := hres
      clear hres
      generalize runK C R L L.length = s at *
      have hsI : (s : Int) < (F.length : Int) := by omega
      go_wp2
      go_ret
      exact ⟨by rw [HRES.out]; rfl, BW0.out⟩
def okD (C : List Int) (R : Rw) (F : List Bool) (L : List Int) : Bool := goodD C R F && (allG L && decide (L.length ≤ 1000))
set_option maxRecDepth 100000 in
set_option maxHeartbeats 2000000 in
theorem sRun_any (C : List Int) (R : Rw) (F : List Bool) (L : List Int) (a b e al : Option Addr) (ca cb ce cl : Nat) (w : World) (hs : szD C R F ≤ 1048576) (hl : L.length ≤ 1048576) (hA : IntsAt w a C) (hB : RowsAt w b R) (hE : FlagsAt w e F) (hL : IntsAt w al L) :
    Calls Try.prog 13 #[.agg #[.slice a C.length ca, .slice b R.length cb, .slice e F.length ce], .slice al L.length cl] w fun r w' => r = .returned (.tuple #[.bool (okD C R F L && runB C R F L), .bool (okD C R F L)]) ∧ Below w.heap.size w w' := by
  have HA : Hid _ := hA
  have HB : Hid _ := hB
  have HE : Hid _ := hE
  have HL : Hid _ := hL
  have HS : Hid _ := hs
  have A1 : ∀ o, Below w.heap.size w (w.alloc o) := fun o => (Below.refl _ _).alloc (Nat.le_refl _) o
  have HSG : Hid _ := fun o => sgoodD_any C R F a b e ca cb ce (w.alloc o) hs (IntsAt.keepB hA (A1 o)) (RowsAt.keepB hB (A1 o))
  have HOK : Hid (okD C R F L = (goodD C R F && (allG L && decide (L.length ≤ 1000)))) := rfl
  clear hA hB hE hL hs
  cases hg : goodD C R F
  · have HG : Hid _ := hg
    clear hg
    go_enter Try.func13, Try.ntmps13
    go_wp2_with fail
    refine Calls.mono (HSG.out _) ?_
    rintro r w1 ⟨rfl, b1⟩
    have B1 : Hid (Below w.heap.size w w1) := (A1 _).trans (b1.mono (by simp))
    clear b1
    rw [HG.out]
    go_wp2
    go_ret2
    exact ⟨by rw [HOK.out, HG.out]; rfl, B1.out⟩
  · have HG : Hid _ := hg
    clear hg
    go_enter Try.func13, Try.ntmps13
    go_wp2_with fail
    refine Calls.mono (HSG.out _) ?_
    rintro r w1 ⟨rfl, b1⟩
    have hbl : w1.heap[w.heap.size]? = some (.cells #[.slice a C.length ca, .slice b R.length cb, .slice e F.length ce] 29) := (b1.block w.heap.size (by simp)).trans (heap_last2 _ _ _ rfl)
    have hs1 : w.heap.size < w1.heap.size := Nat.lt_of_lt_of_le (by simp) b1.size
    have B1 : Hid (Below w.heap.size w w1) := (A1 _).trans (b1.mono (by simp))
    clear b1
    rw [HG.out]
    go_wp2_with fail
    refine (all_any L al cl _ hl (IntsAt.keepB HL.out B1.out)).mono ?_
    rintro r w2 ⟨rfl, b2⟩
    have hbl2 := (b2.block w.heap.size hs1).trans hbl
    have B2 : Hid (Below w.heap.size w w2) := B1.out.trans (b2.mono B1.out.size)
    clear b2 hbl
    have g0 : w2.cell? ⟨w.heap.size, 0, none⟩ = some (.slice a C.length ca) := cell_of hbl2 0
    have g1 : w2.cell? ⟨w.heap.size, 1, none⟩ = some (.slice b R.length cb) := cell_of hbl2 1
    have g2 : w2.cell? ⟨w.heap.size, 2, none⟩ = some (.slice e F.length ce) := cell_of hbl2 2
    clear hbl2
    cases hal : (allG L && decide (L.length ≤ 1000))
    · have HAL : Hid _ := hal
      clear hal
      go_wp2
      go_ret2
      exact ⟨by rw [HOK.out, HG.out, HAL.out]; rfl, B2.out⟩
    · have HAL : Hid _ := hal
      clear hal
      go_wp2_with fail
      refine (srunD_any C R F L a b e al ca cb ce cl _ HG.out hl (IntsAt.keepB HA.out B2.out) (RowsAt.keepB HB.out B2.out) (FlagsAt.keepB HE.out B2.out) (IntsAt.keepB HL.out B2.out)).mono ?_
      rintro r w3 ⟨rfl, b3⟩
      have B3 : Hid (Below w.heap.size w w3) := B2.out.trans (b3.mono B2.out.size)
      clear b3
      go_wp2
      go_ret2
      exact ⟨by rw [HOK.out, HG.out, HAL.out]; rfl, B3.out⟩
set_option maxRecDepth 100000 in
set_option maxHeartbeats 2000000 in
theorem iRun_any (C : List Int) (R : Rw) (F : List Bool) (L : List Int) (a b e al : Option Addr) (ca cb ce cl : Nat) (w : World) (hs : szD C R F ≤ 1048576) (hl : L.length ≤ 1048576) (hA : IntsAt w a C) (hB : RowsAt w b R) (hE : FlagsAt w e F) (hL : IntsAt w al L) :
    Calls Try.prog 15 #[.agg #[.slice a C.length ca, .slice b R.length cb, .slice e F.length ce], .slice al L.length cl] w fun r w' => r = .returned (.tuple #[.bool (okD C R F L && runB C R F L), .bool (okD C R F L)]) ∧ Below w.heap.size w w' := by
  have HA : Hid _ := hA
  have HB : Hid _ := hB
  have HE : Hid _ := hE
  have HL : Hid _ := hL
  have HS : Hid _ := hs
  have A1 : ∀ o, Below w.heap.size w (w.alloc o) := fun o => (Below.refl _ _).alloc (Nat.le_refl _) o
  have HSG : Hid _ := fun o => igoodD_any C R F a b e ca cb ce (w.alloc o) hs (IntsAt.keepB hA (A1 o)) (RowsAt.keepB hB (A1 o))
  have HOK : Hid (okD C R F L = (goodD C R F && (allG L && decide (L.length ≤ 1000)))) := rfl
  clear hA hB hE hL hs
  go_enter Try.func15, Try.ntmps15
  go_wp2_with fail
  refine Calls.mono (HSG.out _) ?_
  rintro r w1 ⟨rfl, b1⟩
  have hbl : w1.heap[w.heap.size]? = some (.cells #[.slice a C.length ca, .slice b R.length cb, .slice e F.length ce] 29) := (b1.block w.heap.size (by simp)).trans (heap_last2 _ _ _ rfl)
  have hs1 : w.heap.size < w1.heap.size := Nat.lt_of_lt_of_le (by simp) b1.size
  have B1 : Hid (Below w.heap.size w w1) := (A1 _).trans (b1.mono (by simp))
  have HBL1 : Hid _ := hbl
  clear b1 hbl
  cases hg : goodD C R F
  · have HG : Hid _ := hg
    clear hg
    go_wp2
    go_ret2
    exact ⟨by rw [HOK.out, HG.out]; rfl, B1.out⟩
  have HG : Hid (goodD C R F = true) := hg
  clear hg
  by_cases h1000 : L.length ≤ 1000
  case neg =>
    have h1' : (1000 : Int) < (L.length : Int) := by omega
    have HD : Hid _ := decide_eq_false h1000
    go_wp2
    go_ret2
    exact ⟨by rw [HOK.out, HG.out, HD.out, Bool.and_false]; rfl, B1.out⟩
  have h1' : ¬ (1000 : Int) < (L.length : Int) := by omega
  have HD : Hid (decide (L.length ≤ 1000) = true) := decide_eq_true h1000
  cases hal : allG L
  · have HAL : Hid _ := hal
    clear hal
    go_wp2_with (first | (go_at_call 42; refine (iall3_any L al cl _ hl (IntsAt.keepB HL.out B1.out)).mono ?_; rintro r w2 ⟨rfl, rfl⟩; rw [HAL.out]) | fail)
    go_ret2
    exact ⟨by rw [HOK.out, HG.out, HAL.out]; rfl, B1.out⟩
  have HAL : Hid (allG L = true) := hal
  clear hal
  have hC40 : C.length ≤ 1048576 := by have := (goodD_true HG.out).2.2.1; omega
  have HFR : Hid _ := (goodD_true HG.out).2.1
  go_wp2_with (first | (go_at_call 42; refine (iall3_any L al cl _ hl (IntsAt.keepB HL.out B1.out)).mono ?_; rintro r w2 ⟨rfl, rfl⟩; rw [HAL.out]) | fail)
  go_loopw [6, 24] (fun s i wr => ∃ k : Nat, k ≤ L.length ∧ i = .int .i64 k ∧ s = .int .i64 (runK C R L k : Nat) ∧ wr.heap[w.heap.size]? = some (.cells #[.slice a C.length ca, .slice b R.length cb, .slice e F.length ce] 29) ∧ Below w.heap.size w wr) (fun _ i _ => L.length - (intOf i).toNat)
  case atStart => exact ⟨0, Nat.zero_le _, rfl, rfl, HBL1.out, B1.out⟩
  case round =>
    obtain ⟨k, hk, rfl, rfl, hbl, hbw⟩ := hrel
    have BW0 : Hid _ := hbw
    have HBL : Hid _ := hbl
    have hszr : w.heap.size < wr.heap.size := (Array.getElem?_eq_some_iff.1 hbl).1
    clear hbw hbl
    have hsl := runK_lt HG.out L k
    by_cases hlt : k < L.length
    · have hltI : (k : Int) < (L.length : Int) := by omega
      obtain ⟨b1, o1, rfl, l1, h1⟩ := HL.out k hlt
      have gL : wr.cell? ⟨b1, o1 + k, none⟩ = some (.int .i64 (L.getD k 0)) := (BW0.out.cell (p := ⟨b1, o1 + k, none⟩) l1).trans h1
      obtain ⟨b2, o2, sa, sc, rfl, l2, h2, iS⟩ := HB.out _ hsl
      obtain ⟨hst, hen⟩ := runK_step HG.out L k
      obtain ⟨b3, o3, rfl, l3, h3⟩ := iS _ hen
      rw [hst] at h3
      have lw2 : b2 < wr.heap.size := Nat.lt_of_lt_of_le l2 BW0.out.size
      have lw3 : b3 < wr.heap.size := Nat.lt_of_lt_of_le l3 BW0.out.size
      have IA : Hid (∀ y : BW wr, IntsAt y.x a C) := fun y => (IntsAt.keepB HA.out BW0.out).keepB y.h
      have g0 : ∀ y : BW wr, y.x.cell? ⟨w.heap.size, 0, none⟩ = some (.slice a C.length ca) := fun y => cell_of ((y.h.block _ hszr).trans HBL.out) 0
      have g1 : ∀ y : BW wr, y.x.cell? ⟨w.heap.size, 1, none⟩ = some (.slice (some ⟨b2, o2, none⟩) R.length cb) := fun y => cell_of ((y.h.block _ hszr).trans HBL.out) 1
      have g3 : ∀ y : BW wr, y.x.cell? ⟨b2, o2 + runK C R L k, none⟩ = some (.slice (some ⟨b3, o3, none⟩) (rw_ R (runK C R L k)).length sc) := fun y => (y.h.cell (p := ⟨b2, o2 + runK C R L k, none⟩) lw2).trans ((BW0.out.cell (p := ⟨b2, o2 + runK C R L k, none⟩) l2).trans h2)
      have g4 : ∀ y : BW wr, y.x.cell? ⟨b3, o3 + entN C (L.getD k 0), none⟩ = some (.int .i64 (runK C R L (k + 1) : Nat)) := fun y => (y.h.cell (p := ⟨b3, o3 + entN C (L.getD k 0), none⟩) lw3).trans ((BW0.out.cell (p := ⟨b3, o3 + entN C (L.getD k 0), none⟩) l3).trans h3)
      clear h1 h2 h3 iS hst
      generalize hx : L.getD k 0 = x at *
      have HENT : Hid (∀ y : BW wr, Calls Try.prog 43 #[.slice a C.length ca, .int .i64 x] y.x fun e w' => e = .returned (.int .i64 (entN C x : Nat)) ∧ w' = y.x) := fun y => ient_any C x _ _ _ hC40 (IA.out y)
      generalize hn : entN C x = n at *
      generalize hm : runK C R L (k + 1) = m at *
      generalize hs : runK C R L k = s at *
      generalize hq : (rw_ R s).length = q at *
      have HX : Hid _ := hx
      have HN : Hid _ := hn
      have HM : Hid _ := hm
      clear hx hn hm hs hq
      have hslI : (s : Int) < (R.length : Int) := by omega
      have henI : (n : Int) < (q : Int) := by omega
      go_wp2
      have hne := BW.some wr
      refine wp_region_below (by kernel_rfl) (by kernel_rfl) ?_
      repeat (go_big_quiet_step (first | (go_at_call 43; exact BW.same (HENT.out _))))
      rintro w2 ⟨⟨w2', b2⟩, hw⟩
      obtain rfl : w2 = w2' := hw
      have HBL2 : Hid _ := (b2.block _ hszr).trans HBL.out
      have B2 : Hid (Below w.heap.size w w2) := BW0.out.trans (b2.mono BW0.out.size)
      clear b2 g0 g1 g3 g4
      go_wp2
      go_roundw
      case rel => exact ⟨k + 1, by omega, by go_num, by rw [HM.out], HBL2.out, B2.out⟩
      case measure => simp [intOf]; omega
    · obtain rfl : k = L.length := by omega
      have hsF : runK C R L L.length < F.length := by rw [HFR.out]; exact hsl
      obtain ⟨b3, o3, rfl, l3, h3⟩ := HE.out _ hsF
      have g2 : wr.cell? ⟨w.heap.size, 2, none⟩ = some (.slice (some ⟨b3, o3, none⟩) F.length ce) := cell_of HBL.out 2
      have g3 : wr.cell? ⟨b3, o3 + runK C R L L.length, none⟩ = some (.bool (runB C R F L)) := (BW0.out.cell (p := ⟨b3, o3 + runK C R L L.length, none⟩) l3).trans h3
      clear h3
      generalize hres : runB C R F L = res at *
      have HRES : Hid _ := hres
      clear hres
      generalize runK C R L L.length = s at *
      have hsI : (s : Int) < (F.length : Int) := by omega
      go_wp2
      go_ret2
      exact ⟨by rw [HOK.out, HG.out, HAL.out, HD.out, HRES.out]; rfl, BW0.out⟩
end Go.Proofs.Ytnlccplpcbdmnaa

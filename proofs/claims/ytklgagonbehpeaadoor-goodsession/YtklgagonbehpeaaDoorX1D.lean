/-
  GoodBuf of the specification and of the program.
-/
import Derived.Test.YtklgagonbehpeaaDoorX1C
namespace Go.Proofs.YtklgagonbehpeaaDoor
open Go.ChangeShapes Go.WideShapes Go.ChangeAt Go.RowKit
set_option maxRecDepth 100000 in
set_option maxHeartbeats 2000000 in
theorem sgoodBf_any (M G : Int) (R L : List Int) (s a : Option Addr) (cs ca : Nat) (w : World) (hR : R.length ≤ 1048576) (hL : L.length ≤ 1048576) (iR : IntsAt w s R) (iL : IntsAt w a L) :
    Calls Tryd.prog 12 #[.agg #[.int .i64 M, .slice s R.length cs, .slice a L.length ca, .int .i64 G]] w fun r w' => r = .returned (.bool (goodBf M G R L)) ∧ Below w.heap.size w w' := by
  have A1 : ∀ o, Below w.heap.size w (w.alloc o) := fun o => (Below.refl _ _).alloc (Nat.le_refl _) o
  have HR : Hid (∀ o, IntsAt (w.alloc o) s R) := fun o => iR.keepB (A1 o)
  have HL : Hid (∀ o, IntsAt (w.alloc o) a L) := fun o => iL.keepB (A1 o)
  clear iR iL
  by_cases h1 : 1 ≤ M ∧ M ≤ 60
  case neg =>
    have hG : goodBf M G R L = false := by unfold goodBf; rw [decide_eq_false h1]; simp
    have HG : Hid _ := hG
    clear hG
    have J1 : Hid (¬ ((1:Int) ≤ M ∧ M ≤ 60)) := h1
    clear h1
    go_enter Tryd.func12, Tryd.ntmps12
    go_wp2_with (first | (go_at_call 21; refine (in_no J1.out _).mono ?_; rintro r w' ⟨rfl, rfl⟩; clear J1) | fail)
    go_ret
    exact ⟨by rw [HG.out]; rfl, A1 _⟩
  by_cases h2 : (R.length : Int) ≤ M
  case neg =>
    have hG : goodBf M G R L = false := by unfold goodBf; rw [decide_eq_true h1, decide_eq_false h2]; simp
    have HG : Hid _ := hG
    clear hG
    have J1 : Hid ((1:Int) ≤ M ∧ M ≤ 60) := h1
    have j2 : ¬ (R.length : Int) ≤ M := h2
    clear h1 h2
    go_enter Tryd.func12, Tryd.ntmps12
    go_wp2_with (first | (go_at_call 21; refine (in_yes J1.out _).mono ?_; rintro r w' ⟨rfl, rfl⟩; clear J1) | fail)
    go_ret
    exact ⟨by rw [HG.out]; rfl, A1 _⟩
  cases h3 : allG R
  case false =>
    have hG : goodBf M G R L = false := by unfold goodBf; rw [decide_eq_true h1, decide_eq_true h2, h3]; simp
    have HG : Hid _ := hG
    clear hG
    have J1 : Hid ((1:Int) ≤ M ∧ M ≤ 60) := h1
    have j2 : (R.length : Int) ≤ M := h2
    have j3 : (allG R && decide (R.length ≤ 1000)) = false := by rw [h3]; rfl
    have J3 : Hid _ := j3
    clear j3
    clear h1 h2 h3
    go_enter Tryd.func12, Tryd.ntmps12
    go_wp2_with (first | (go_at_call 21; refine (in_yes J1.out _).mono ?_; rintro r w' ⟨rfl, rfl⟩; clear J1) | (go_at_call 26; refine (all_any R s cs _ hR (HR.out _)).mono ?_; rintro r w1 ⟨rfl, b1⟩; rw [J3.out]; have hb1 : w1.heap[w.heap.size]? = some (.cells #[.int .i64 M, .slice s R.length cs, .slice a L.length ca, .int .i64 G] 32) := (b1.block w.heap.size (by simp)).trans (heap_lastB _ _ _ rfl); have q1 : w1.cell? ⟨w.heap.size, 1, none⟩ = some (.slice s R.length cs) := cell_ofB hb1 1; have q2 : w1.cell? ⟨w.heap.size, 2, none⟩ = some (.slice a L.length ca) := cell_ofB hb1 2; have q3 : w1.cell? ⟨w.heap.size, 3, none⟩ = some (.int .i64 G) := cell_ofB hb1 3; have WB : Hid (Below w.heap.size w w1) := (A1 _).trans (b1.mono (by simp)); have HL1 : Hid (IntsAt w1 a L) := IntsAt.keepB (HL.out _) b1; clear b1 hb1) | fail)
    go_ret
    exact ⟨by rw [HG.out]; rfl, WB.out⟩
  by_cases h4 : L.length = R.length
  case neg =>
    have hG : goodBf M G R L = false := by unfold goodBf; rw [decide_eq_true h1, decide_eq_true h2, h3, decide_eq_false h4]; simp
    have HG : Hid _ := hG
    clear hG
    have J1 : Hid ((1:Int) ≤ M ∧ M ≤ 60) := h1
    have j2 : (R.length : Int) ≤ M := h2
    have j3 : (allG R && decide (R.length ≤ 1000)) = true := by rw [h3, decide_eq_true (by omega)]; rfl
    have J3 : Hid _ := j3
    clear j3
    have j4 : ((L.length : Int) == (R.length : Int)) = false := by simp; omega
    have j4b : ¬ (L.length : Int) = (R.length : Int) := by omega
    clear h1 h2 h3 h4
    go_enter Tryd.func12, Tryd.ntmps12
    go_wp2_with (first | (go_at_call 21; refine (in_yes J1.out _).mono ?_; rintro r w' ⟨rfl, rfl⟩; clear J1) | (go_at_call 26; refine (all_any R s cs _ hR (HR.out _)).mono ?_; rintro r w1 ⟨rfl, b1⟩; rw [J3.out]; have hb1 : w1.heap[w.heap.size]? = some (.cells #[.int .i64 M, .slice s R.length cs, .slice a L.length ca, .int .i64 G] 32) := (b1.block w.heap.size (by simp)).trans (heap_lastB _ _ _ rfl); have q1 : w1.cell? ⟨w.heap.size, 1, none⟩ = some (.slice s R.length cs) := cell_ofB hb1 1; have q2 : w1.cell? ⟨w.heap.size, 2, none⟩ = some (.slice a L.length ca) := cell_ofB hb1 2; have q3 : w1.cell? ⟨w.heap.size, 3, none⟩ = some (.int .i64 G) := cell_ofB hb1 3; have WB : Hid (Below w.heap.size w w1) := (A1 _).trans (b1.mono (by simp)); have HL1 : Hid (IntsAt w1 a L) := IntsAt.keepB (HL.out _) b1; clear b1 hb1) | fail)
    go_ret
    exact ⟨by rw [HG.out]; rfl, WB.out⟩
  cases h5 : inBx 1 1000 L
  case false =>
    have hG : goodBf M G R L = false := by unfold goodBf; rw [decide_eq_true h1, decide_eq_true h2, h3, decide_eq_true h4, h5]; simp
    have HG : Hid _ := hG
    clear hG
    have J1 : Hid ((1:Int) ≤ M ∧ M ≤ 60) := h1
    have j2 : (R.length : Int) ≤ M := h2
    have j3 : (allG R && decide (R.length ≤ 1000)) = true := by rw [h3, decide_eq_true (by omega)]; rfl
    have J3 : Hid _ := j3
    clear j3
    have j4 : ((L.length : Int) == (R.length : Int)) = true := by simp; omega
    have j4b : (L.length : Int) = (R.length : Int) := by omega
    have J5 : Hid (inBx 1 1000 L = false) := h5
    clear h1 h2 h3 h4 h5
    go_enter Tryd.func12, Tryd.ntmps12
    go_wp2_with (first | (go_at_call 21; refine (in_yes J1.out _).mono ?_; rintro r w' ⟨rfl, rfl⟩; clear J1) | (go_at_call 26; refine (all_any R s cs _ hR (HR.out _)).mono ?_; rintro r w1 ⟨rfl, b1⟩; rw [J3.out]; have hb1 : w1.heap[w.heap.size]? = some (.cells #[.int .i64 M, .slice s R.length cs, .slice a L.length ca, .int .i64 G] 32) := (b1.block w.heap.size (by simp)).trans (heap_lastB _ _ _ rfl); have q1 : w1.cell? ⟨w.heap.size, 1, none⟩ = some (.slice s R.length cs) := cell_ofB hb1 1; have q2 : w1.cell? ⟨w.heap.size, 2, none⟩ = some (.slice a L.length ca) := cell_ofB hb1 2; have q3 : w1.cell? ⟨w.heap.size, 3, none⟩ = some (.int .i64 G) := cell_ofB hb1 3; have WB : Hid (Below w.heap.size w w1) := (A1 _).trans (b1.mono (by simp)); have HL1 : Hid (IntsAt w1 a L) := IntsAt.keepB (HL.out _) b1; clear b1 hb1) | (go_at_call 27; refine (sallX_any 1 1000 L a ca _ hL HL1.out).mono ?_; rintro r w' ⟨rfl, rfl⟩; rw [J5.out]) | fail)
    go_ret
    exact ⟨by rw [HG.out]; rfl, WB.out⟩
  by_cases h6 : 0 ≤ G ∧ G ≤ 1000000
  case neg =>
    have hG : goodBf M G R L = false := by unfold goodBf; rw [decide_eq_true h1, decide_eq_true h2, h3, decide_eq_true h4, h5, decide_eq_false h6]; simp
    have HG : Hid _ := hG
    clear hG
    have J1 : Hid ((1:Int) ≤ M ∧ M ≤ 60) := h1
    have j2 : (R.length : Int) ≤ M := h2
    have j3 : (allG R && decide (R.length ≤ 1000)) = true := by rw [h3, decide_eq_true (by omega)]; rfl
    have J3 : Hid _ := j3
    clear j3
    have j4 : ((L.length : Int) == (R.length : Int)) = true := by simp; omega
    have j4b : (L.length : Int) = (R.length : Int) := by omega
    have J5 : Hid (inBx 1 1000 L = true) := h5
    have J6 : Hid (¬ ((0:Int) ≤ G ∧ G ≤ 1000000)) := h6
    clear h1 h2 h3 h4 h5 h6
    go_enter Tryd.func12, Tryd.ntmps12
    go_wp2_with (first | (go_at_call 21; refine (in_yes J1.out _).mono ?_; rintro r w' ⟨rfl, rfl⟩; clear J1) | (go_at_call 26; refine (all_any R s cs _ hR (HR.out _)).mono ?_; rintro r w1 ⟨rfl, b1⟩; rw [J3.out]; have hb1 : w1.heap[w.heap.size]? = some (.cells #[.int .i64 M, .slice s R.length cs, .slice a L.length ca, .int .i64 G] 32) := (b1.block w.heap.size (by simp)).trans (heap_lastB _ _ _ rfl); have q1 : w1.cell? ⟨w.heap.size, 1, none⟩ = some (.slice s R.length cs) := cell_ofB hb1 1; have q2 : w1.cell? ⟨w.heap.size, 2, none⟩ = some (.slice a L.length ca) := cell_ofB hb1 2; have q3 : w1.cell? ⟨w.heap.size, 3, none⟩ = some (.int .i64 G) := cell_ofB hb1 3; have WB : Hid (Below w.heap.size w w1) := (A1 _).trans (b1.mono (by simp)); have HL1 : Hid (IntsAt w1 a L) := IntsAt.keepB (HL.out _) b1; clear b1 hb1) | (go_at_call 27; refine (sallX_any 1 1000 L a ca _ hL HL1.out).mono ?_; rintro r w' ⟨rfl, rfl⟩; rw [J5.out]) | (go_at_call 21; refine (in_no J6.out _).mono ?_; rintro r w' ⟨rfl, rfl⟩) | fail)
    go_ret
    exact ⟨by rw [HG.out]; rfl, WB.out⟩
  have hG : goodBf M G R L = true := by unfold goodBf; rw [decide_eq_true h1, decide_eq_true h2, h3, decide_eq_true h4, h5, decide_eq_true h6]; simp
  have HG : Hid _ := hG
  clear hG
  have J1 : Hid ((1:Int) ≤ M ∧ M ≤ 60) := h1
  have j2 : (R.length : Int) ≤ M := h2
  have j3 : (allG R && decide (R.length ≤ 1000)) = true := by rw [h3, decide_eq_true (by omega)]; rfl
  have J3 : Hid _ := j3
  clear j3
  have j4 : ((L.length : Int) == (R.length : Int)) = true := by simp; omega
  have j4b : (L.length : Int) = (R.length : Int) := by omega
  have J5 : Hid (inBx 1 1000 L = true) := h5
  have J6 : Hid ((0:Int) ≤ G ∧ G ≤ 1000000) := h6
  clear h1 h2 h3 h4 h5 h6
  go_enter Tryd.func12, Tryd.ntmps12
  go_wp2_with (first | (go_at_call 21; refine (in_yes J1.out _).mono ?_; rintro r w' ⟨rfl, rfl⟩; clear J1) | (go_at_call 26; refine (all_any R s cs _ hR (HR.out _)).mono ?_; rintro r w1 ⟨rfl, b1⟩; rw [J3.out]; have hb1 : w1.heap[w.heap.size]? = some (.cells #[.int .i64 M, .slice s R.length cs, .slice a L.length ca, .int .i64 G] 32) := (b1.block w.heap.size (by simp)).trans (heap_lastB _ _ _ rfl); have q1 : w1.cell? ⟨w.heap.size, 1, none⟩ = some (.slice s R.length cs) := cell_ofB hb1 1; have q2 : w1.cell? ⟨w.heap.size, 2, none⟩ = some (.slice a L.length ca) := cell_ofB hb1 2; have q3 : w1.cell? ⟨w.heap.size, 3, none⟩ = some (.int .i64 G) := cell_ofB hb1 3; have WB : Hid (Below w.heap.size w w1) := (A1 _).trans (b1.mono (by simp)); have HL1 : Hid (IntsAt w1 a L) := IntsAt.keepB (HL.out _) b1; clear b1 hb1) | (go_at_call 27; refine (sallX_any 1 1000 L a ca _ hL HL1.out).mono ?_; rintro r w' ⟨rfl, rfl⟩; rw [J5.out]) | (go_at_call 21; refine (in_yes J6.out _).mono ?_; rintro r w' ⟨rfl, rfl⟩) | fail)
  go_ret
  exact ⟨by rw [HG.out]; rfl, WB.out⟩
set_option maxRecDepth 100000 in
set_option maxHeartbeats 2000000 in
theorem igoodBf_any (M G : Int) (R L : List Int) (s a : Option Addr) (cs ca : Nat) (w : World) (hR : R.length ≤ 1048576) (hL : L.length ≤ 1048576) (iR : IntsAt w s R) (iL : IntsAt w a L) :
    Calls Tryd.prog 16 #[.agg #[.int .i64 M, .slice s R.length cs, .slice a L.length ca, .int .i64 G]] w fun r w' => r = .returned (.bool (goodBf M G R L)) ∧ Below w.heap.size w w' := by
  have A1 : ∀ o, Below w.heap.size w (w.alloc o) := fun o => (Below.refl _ _).alloc (Nat.le_refl _) o
  have HR : Hid (∀ o, IntsAt (w.alloc o) s R) := fun o => iR.keepB (A1 o)
  have HL : Hid (∀ o, IntsAt (w.alloc o) a L) := fun o => iL.keepB (A1 o)
  clear iR iL
  by_cases h1 : 1 ≤ M ∧ M ≤ 60
  case neg =>
    by_cases h1a : (1:Int) ≤ M
    · have hG : goodBf M G R L = false := by unfold goodBf; rw [decide_eq_false h1]; simp
      have HG : Hid _ := hG
      clear hG
      have j1 : ¬ M ≤ 60 := by omega
      clear h1
      go_enter Tryd.func16, Tryd.ntmps16
      go_wp2_with (first | fail)
      go_ret
      exact ⟨by rw [HG.out]; rfl, A1 _⟩
    · have hG : goodBf M G R L = false := by unfold goodBf; rw [decide_eq_false h1]; simp
      have HG : Hid _ := hG
      clear hG
      have j1 : ¬ (1:Int) ≤ M := h1a
      clear h1 h1a
      go_enter Tryd.func16, Tryd.ntmps16
      go_wp2_with (first | fail)
      go_ret
      exact ⟨by rw [HG.out]; rfl, A1 _⟩
  by_cases h2 : (R.length : Int) ≤ M
  case neg =>
    have hG : goodBf M G R L = false := by unfold goodBf; rw [decide_eq_true h1, decide_eq_false h2]; simp
    have HG : Hid _ := hG
    clear hG
    have j1a : (1:Int) ≤ M := h1.1
    have j1b : M ≤ 60 := h1.2
    have j2 : ¬ (R.length : Int) ≤ M := h2
    clear h1 h2
    go_enter Tryd.func16, Tryd.ntmps16
    go_wp2_with (first | fail)
    go_ret
    exact ⟨by rw [HG.out]; rfl, A1 _⟩
  cases h3 : allG R
  case false =>
    have hG : goodBf M G R L = false := by unfold goodBf; rw [decide_eq_true h1, decide_eq_true h2, h3]; simp
    have HG : Hid _ := hG
    clear hG
    have j1a : (1:Int) ≤ M := h1.1
    have j1b : M ≤ 60 := h1.2
    have j2 : (R.length : Int) ≤ M := h2
    have j3 : (allG R && (decide (L.length = R.length) && inBx 1 1000 L)) = false := by rw [h3]; simp
    have J3 : Hid _ := j3
    clear j3
    clear h1 h2 h3
    go_enter Tryd.func16, Tryd.ntmps16
    go_wp2_with (first | (go_at_call 31; refine (haveL_any R L s a cs ca _ hR hL (HR.out _) (HL.out _)).mono ?_; rintro r w' ⟨rfl, rfl⟩; rw [J3.out]) | fail)
    go_ret
    exact ⟨by rw [HG.out]; rfl, A1 _⟩
  by_cases h4 : L.length = R.length
  case neg =>
    have hG : goodBf M G R L = false := by unfold goodBf; rw [decide_eq_true h1, decide_eq_true h2, h3, decide_eq_false h4]; simp
    have HG : Hid _ := hG
    clear hG
    have j1a : (1:Int) ≤ M := h1.1
    have j1b : M ≤ 60 := h1.2
    have j2 : (R.length : Int) ≤ M := h2
    have j3 : (allG R && (decide (L.length = R.length) && inBx 1 1000 L)) = false := by rw [h3, decide_eq_false h4]; simp
    have J3 : Hid _ := j3
    clear j3
    clear h1 h2 h3 h4
    go_enter Tryd.func16, Tryd.ntmps16
    go_wp2_with (first | (go_at_call 31; refine (haveL_any R L s a cs ca _ hR hL (HR.out _) (HL.out _)).mono ?_; rintro r w' ⟨rfl, rfl⟩; rw [J3.out]) | fail)
    go_ret
    exact ⟨by rw [HG.out]; rfl, A1 _⟩
  cases h5 : inBx 1 1000 L
  case false =>
    have hG : goodBf M G R L = false := by unfold goodBf; rw [decide_eq_true h1, decide_eq_true h2, h3, decide_eq_true h4, h5]; simp
    have HG : Hid _ := hG
    clear hG
    have j1a : (1:Int) ≤ M := h1.1
    have j1b : M ≤ 60 := h1.2
    have j2 : (R.length : Int) ≤ M := h2
    have j3 : (allG R && (decide (L.length = R.length) && inBx 1 1000 L)) = false := by rw [h3, decide_eq_true h4, h5]; simp
    have J3 : Hid _ := j3
    clear j3
    clear h1 h2 h3 h4 h5
    go_enter Tryd.func16, Tryd.ntmps16
    go_wp2_with (first | (go_at_call 31; refine (haveL_any R L s a cs ca _ hR hL (HR.out _) (HL.out _)).mono ?_; rintro r w' ⟨rfl, rfl⟩; rw [J3.out]) | fail)
    go_ret
    exact ⟨by rw [HG.out]; rfl, A1 _⟩
  by_cases h6 : 0 ≤ G ∧ G ≤ 1000000
  case neg =>
    have hG : goodBf M G R L = false := by unfold goodBf; rw [decide_eq_true h1, decide_eq_true h2, h3, decide_eq_true h4, h5, decide_eq_false h6]; simp
    have HG : Hid _ := hG
    clear hG
    have j1a : (1:Int) ≤ M := h1.1
    have j1b : M ≤ 60 := h1.2
    have j2 : (R.length : Int) ≤ M := h2
    have J6 : Hid (decide (0 ≤ G ∧ G ≤ 1000000) = false) := decide_eq_false h6
    have j3 : (allG R && (decide (L.length = R.length) && inBx 1 1000 L)) = true := by rw [h3, decide_eq_true h4, h5]; simp
    have J3 : Hid _ := j3
    clear j3
    clear h1 h2 h3 h4 h5 h6
    go_enter Tryd.func16, Tryd.ntmps16
    go_wp2_with (first | (go_at_call 31; refine (haveL_any R L s a cs ca _ hR hL (HR.out _) (HL.out _)).mono ?_; rintro r w' ⟨rfl, rfl⟩; rw [J3.out]) | (go_at_call 32; refine (isGone_any G _).mono ?_; rintro r w' ⟨rfl, rfl⟩; rw [J6.out]) | fail)
    go_ret
    exact ⟨by rw [HG.out]; rfl, A1 _⟩
  have hG : goodBf M G R L = true := by unfold goodBf; rw [decide_eq_true h1, decide_eq_true h2, h3, decide_eq_true h4, h5, decide_eq_true h6]; simp
  have HG : Hid _ := hG
  clear hG
  have j1a : (1:Int) ≤ M := h1.1
  have j1b : M ≤ 60 := h1.2
  have j2 : (R.length : Int) ≤ M := h2
  have J6 : Hid (decide (0 ≤ G ∧ G ≤ 1000000) = true) := decide_eq_true h6
  have j3 : (allG R && (decide (L.length = R.length) && inBx 1 1000 L)) = true := by rw [h3, decide_eq_true h4, h5]; simp
  have J3 : Hid _ := j3
  clear j3
  clear h1 h2 h3 h4 h5 h6
  go_enter Tryd.func16, Tryd.ntmps16
  go_wp2_with (first | (go_at_call 31; refine (haveL_any R L s a cs ca _ hR hL (HR.out _) (HL.out _)).mono ?_; rintro r w' ⟨rfl, rfl⟩; rw [J3.out]) | (go_at_call 32; refine (isGone_any G _).mono ?_; rintro r w' ⟨rfl, rfl⟩; rw [J6.out]) | fail)
  go_ret
  exact ⟨by rw [HG.out]; rfl, A1 _⟩
end Go.Proofs.YtklgagonbehpeaaDoor

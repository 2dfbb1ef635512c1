/-
  Buffers: the bytes ahead of a place in the specification; ByteOf of both.
-/
import Derived.Test.YtklgagonbehpeaaX1F
namespace Go.Proofs.Ytklgagonbehpeaa
open Go.ChangeShapes Go.WideShapes Go.ChangeAt Go.RowKit
set_option maxRecDepth 100000 in
set_option maxHeartbeats 2000000 in
theorem sbyte_any (M G : Int) (v0 : Value) (L : List Int) (a : Option Addr) (ca : Nat) (k : Nat) (w : World) (hl : L.length ≤ 1048576) (hk : k ≤ L.length) (hL : inBx 1 1000 L = true) (hG : 0 ≤ G ∧ G ≤ 1000000) (hA : Sl w a ca L) :
    Calls Try.prog 54 #[.agg #[.int .i64 M, v0, .slice a L.length ca, .int .i64 G], .int .i64 k] w fun r w' => r = .returned (.int .i64 (G + sumL (L.take k))) ∧ Below w.heap.size w w' := by
  have A1 : ∀ o, Below w.heap.size w (w.alloc o) := fun o => (Below.refl _ _).alloc (Nat.le_refl _) o
  obtain ⟨hf, iT⟩ := hA.front k hk
  have HA : Hid (∀ o, IntsAt (w.alloc o) a L) := fun o => IntsAt.keepB hA.2.2 (A1 o)
  have hs : ∀ j, j ≤ k → 0 ≤ sumL (L.take j) ∧ sumL (L.take j) ≤ 1000 * 1048576 := fun j hj => by
    have h1 := inBx_sum (inBx_take hL j)
    have h2 : ((L.take j).length : Int) ≤ 1048576 := by simp; omega
    omega
  have HS : Hid _ := hs
  clear hA iT hL hs
  go_enter Try.func54, Try.ntmps54
  go_wp2
  go_loopw [5, 15] (fun s i wr => ∃ j : Nat, j ≤ k ∧ i = .int .i64 j ∧ s = .int .i64 (G + sumL (L.take j)) ∧ wr = w.alloc (.cells #[.int .i64 M, v0, .slice a L.length ca, .int .i64 G] 26)) (fun _ i _ => k - (intOf i).toNat)
  case atStart => exact ⟨0, Nat.zero_le _, rfl, by simp [sumL], rfl⟩
  case round =>
    obtain ⟨j, hj, rfl, rfl, rfl⟩ := hrel
    by_cases hlt : j < k
    · have hltI : (j : Int) < (k : Int) := by omega
      obtain ⟨b1, o1, rfl, l1, h1⟩ := HA.out (.cells #[.int .i64 M, v0, .slice a L.length ca, .int .i64 G] 26) j (by omega)
      have e1 := sumL_snoc L j (by omega)
      have x1 := HS.out j (by omega)
      have x2 := HS.out (j + 1) (by omega)
      have E1 : Hid _ := e1
      have hw : IntKind.i64.wrap (G + sumL (L.take j) + L.getD j 0) = G + sumL (L.take j) + L.getD j 0 := IntWalk.i64_in _ (by omega)
      clear e1 x1 x2
      generalize L.getD j 0 = x at *
      generalize sumL (L.take j) = y at *
      go_wp2
      go_roundw
      case rel => exact ⟨j + 1, by omega, by go_num, by rw [E1.out]; first | rfl | (rw [hw, Int.add_assoc]) | (congr 1; omega), by first | rfl | trivial⟩
      case measure => simp [intOf]; omega
    · obtain rfl : j = k := by omega
      go_wp2
      go_ret
      exact ⟨rfl, A1 _⟩
set_option maxRecDepth 100000 in
set_option maxHeartbeats 2000000 in
theorem sByteOf_yes (M G : Int) (R L : List Int) (s a : Option Addr) (cs ca : Nat) (k : Nat) (w : World) (hR : R.length ≤ 1048576) (hL : L.length ≤ 1048576) (iR : IntsAt w s R) (iL : Sl w a ca L) (hg : goodBf M G R L = true) (hk : k ≤ R.length) :
    Calls Try.prog 23 #[.agg #[.int .i64 M, .slice s R.length cs, .slice a L.length ca, .int .i64 G], .int .i64 k] w fun r w' => r = .returned (.tuple #[.int .i64 (G + sumL (L.take k)), .bool true]) ∧ Below w.heap.size w w' := by
  have A1 : ∀ o, Below w.heap.size w (w.alloc o) := fun o => (Below.refl _ _).alloc (Nat.le_refl _) o
  have HR : Hid (∀ o, IntsAt (w.alloc o) s R) := fun o => iR.keepB (A1 o)
  have HL : Hid (∀ o, Sl (w.alloc o) a ca L) := fun o => iL.keepB (A1 o)
  have HG : Hid _ := hg
  have HI : Hid ((0:Int) ≤ (k:Int) ∧ (k:Int) ≤ (R.length : Int)) := ⟨by omega, by omega⟩
  clear iR iL hg
  go_enter Try.func23, Try.ntmps23
  go_wp2_with fail
  refine (sgoodBf_any M G R L s a cs ca _ hR hL (HR.out _) (HL.out _).2.2).mono ?_
  rintro r w1 ⟨rfl, b1⟩
  rw [HG.out]
  have hb0 : w1.heap[w.heap.size]? = some (.cells #[.int .i64 M, .slice s R.length cs, .slice a L.length ca, .int .i64 G] 26) := (b1.block w.heap.size (by simp)).trans (heap_lastB _ _ _ rfl)
  have B1 : Hid (Below w.heap.size w w1) := (A1 _).trans (b1.mono (by simp))
  have HL1 : Hid (Sl w1 a ca L) := (HL.out _).keepB b1
  have c0 : w1.cell? ⟨w.heap.size, 0, none⟩ = some (.int .i64 M) := cell_ofB hb0 0
  have c1 : w1.cell? ⟨w.heap.size, 1, none⟩ = some (.slice s R.length cs) := cell_ofB hb0 1
  have c2 : w1.cell? ⟨w.heap.size, 2, none⟩ = some (.slice a L.length ca) := cell_ofB hb0 2
  have c3 : w1.cell? ⟨w.heap.size, 3, none⟩ = some (.int .i64 G) := cell_ofB hb0 3
  clear b1 hb0 HR HL
  go_wp2_with (first | (go_at_call 49; refine (in_yes HI.out _).mono ?_; rintro r w' ⟨rfl, rfl⟩) | fail)
  obtain ⟨g1, g2, g3, g4, g5, g6⟩ := goodBf_iff.1 HG.out
  refine (sbyte_any M G (.slice s R.length cs) L a ca k _ hL (by omega) g5 g6 HL1.out).mono ?_
  rintro r w2 ⟨rfl, b2⟩
  have B2 : Hid (Below w.heap.size w w2) := B1.out.trans (b2.mono B1.out.size)
  clear b2 g1 g2 g3 g4 g5 g6
  go_wp2
  go_ret2
  exact ⟨rfl, B2.out⟩
set_option maxRecDepth 100000 in
set_option maxHeartbeats 2000000 in
theorem sByteOf_no (M G : Int) (R L : List Int) (s a : Option Addr) (cs ca : Nat) (k : Int) (w : World) (hR : R.length ≤ 1048576) (hL : L.length ≤ 1048576) (iR : IntsAt w s R) (iL : IntsAt w a L) (hg : ¬ (goodBf M G R L = true ∧ 0 ≤ k ∧ k ≤ R.length)) :
    Calls Try.prog 23 #[.agg #[.int .i64 M, .slice s R.length cs, .slice a L.length ca, .int .i64 G], .int .i64 k] w fun r w' => r = .returned (.tuple #[.int .i64 0, .bool false]) ∧ Below w.heap.size w w' := by
  have A1 : ∀ o, Below w.heap.size w (w.alloc o) := fun o => (Below.refl _ _).alloc (Nat.le_refl _) o
  have HR : Hid (∀ o, IntsAt (w.alloc o) s R) := fun o => iR.keepB (A1 o)
  have HL : Hid (∀ o, IntsAt (w.alloc o) a L) := fun o => iL.keepB (A1 o)
  clear iR iL
  cases hq : goodBf M G R L
  · have HG : Hid _ := hq
    clear hg hq
    go_enter Try.func23, Try.ntmps23
    go_wp2_with fail
    refine (sgoodBf_any M G R L s a cs ca _ hR hL (HR.out _) (HL.out _)).mono ?_
    rintro r w1 ⟨rfl, b1⟩
    rw [HG.out]
    have B1 : Hid (Below w.heap.size w w1) := (A1 _).trans (b1.mono (by simp))
    clear b1
    go_wp2
    go_ret2
    exact ⟨rfl, B1.out⟩
  · have HG : Hid _ := hq
    have HI : Hid (¬ ((0:Int) ≤ k ∧ k ≤ (R.length : Int))) := fun h => hg ⟨hq, h⟩
    clear hg hq
    go_enter Try.func23, Try.ntmps23
    go_wp2_with fail
    refine (sgoodBf_any M G R L s a cs ca _ hR hL (HR.out _) (HL.out _)).mono ?_
    rintro r w1 ⟨rfl, b1⟩
    rw [HG.out]
    have hb0 : w1.heap[w.heap.size]? = some (.cells #[.int .i64 M, .slice s R.length cs, .slice a L.length ca, .int .i64 G] 26) := (b1.block w.heap.size (by simp)).trans (heap_lastB _ _ _ rfl)
    have c1 : w1.cell? ⟨w.heap.size, 1, none⟩ = some (.slice s R.length cs) := cell_ofB hb0 1
    have B1 : Hid (Below w.heap.size w w1) := (A1 _).trans (b1.mono (by simp))
    clear b1 hb0
    go_wp2_with (first | (go_at_call 49; refine (in_no HI.out _).mono ?_; rintro r w' ⟨rfl, rfl⟩) | fail)
    go_ret2
    exact ⟨rfl, B1.out⟩
set_option maxRecDepth 100000 in
set_option maxHeartbeats 2000000 in
theorem iByteOf_yes (M G : Int) (R L : List Int) (s a : Option Addr) (cs ca : Nat) (k : Nat) (w : World) (hR : R.length ≤ 1048576) (hL : L.length ≤ 1048576) (iR : IntsAt w s R) (iL : IntsAt w a L) (hg : goodBf M G R L = true) (hk : k ≤ R.length) :
    Calls Try.prog 22 #[.agg #[.int .i64 M, .slice s R.length cs, .slice a L.length ca, .int .i64 G], .int .i64 k] w fun r w' => r = .returned (.tuple #[.int .i64 (G + sumL (L.take k)), .bool true]) ∧ Below w.heap.size w w' := by
  have A1 : ∀ o, Below w.heap.size w (w.alloc o) := fun o => (Below.refl _ _).alloc (Nat.le_refl _) o
  have HR : Hid (∀ o, IntsAt (w.alloc o) s R) := fun o => iR.keepB (A1 o)
  have HL : Hid (∀ o, IntsAt (w.alloc o) a L) := fun o => iL.keepB (A1 o)
  have HG : Hid _ := hg
  have hq : decide ((0:Int) ≤ (k:Int) ∧ (k:Int) ≤ (R.length : Int)) = true := decide_eq_true ⟨by omega, by omega⟩
  have HQ : Hid _ := hq
  clear iR iL hg hq
  go_enter Try.func22, Try.ntmps22
  go_wp2_with fail
  refine (ownOf_yes M G R L s a cs ca _ hR hL (HR.out _) (HL.out _) HG.out).mono ?_
  rintro r w1 ⟨z0, z1, y0, y1, rfl, o1, b1⟩
  have hs1 : w.heap.size < w1.heap.size := Nat.lt_of_lt_of_le (by simp) b1.size
  have B1 : Hid (Below w.heap.size w w1) := (A1 _).trans (b1.mono (by simp))
  have A2 : ∀ o, Below w1.heap.size w1 (w1.alloc o) := fun o => (Below.refl _ _).alloc (Nat.le_refl _) o
  have O1 : Hid (Own3 w1 (w.heap.size + 1) w1.heap.size (.slice z0 R.length y0) (.slice z1 L.length y1) (.slice none 0 0) R L []) := by have hq := o1; simp only [World.alloc, Array.size_push] at hq; exact hq
  have HO : Hid (OB (w1.alloc (.cells #[.int .i64 M, .slice z0 R.length y0, .slice z1 L.length y1, .int .i64 G] 66)) w1.heap.size M G (.slice z0 R.length y0) (.slice z1 L.length y1)) := heap_lastB _ _ _ rfl
  have HS : Hid (∀ o, Sl (w1.alloc o) z1 y1 L) := fun o => (Sl.of_own O1.out.1.2.1).keepB (A2 o)
  have B2 : Hid (∀ o, Below w.heap.size w (w1.alloc o)) := fun o => B1.out.trans ((A2 o).mono B1.out.size)
  obtain ⟨g1, g2, g3, g4, g5, g6⟩ := goodBf_iff.1 HG.out
  have G5 : Hid _ := g5
  have G6 : Hid _ := g6
  have hkL : k ≤ L.length := by omega
  clear o1 b1 A2 HR HL g1 g2 g3 g4 g5 g6
  go_wp2_with (first
    | (go_at_call 50; refine (ihas_any _ M G _ R _ _ (k : Int) _ HO.out).mono ?_; rintro r w' ⟨rfl, rfl⟩; rw [HQ.out])
    | (go_at_call 53; refine (ibyte_any _ M G _ L _ _ k _ hL hkL G5.out G6.out HO.out (HS.out _)).mono ?_; rintro r w' ⟨rfl, rfl⟩)
    | fail)
  go_ret2
  exact ⟨rfl, B2.out _⟩
set_option maxRecDepth 100000 in
set_option maxHeartbeats 2000000 in
theorem iByteOf_no (M G : Int) (R L : List Int) (s a : Option Addr) (cs ca : Nat) (k : Int) (w : World) (hR : R.length ≤ 1048576) (hL : L.length ≤ 1048576) (iR : IntsAt w s R) (iL : IntsAt w a L) (hg : ¬ (goodBf M G R L = true ∧ 0 ≤ k ∧ k ≤ R.length)) :
    Calls Try.prog 22 #[.agg #[.int .i64 M, .slice s R.length cs, .slice a L.length ca, .int .i64 G], .int .i64 k] w fun r w' => r = .returned (.tuple #[.int .i64 0, .bool false]) ∧ Below w.heap.size w w' := by
  have A1 : ∀ o, Below w.heap.size w (w.alloc o) := fun o => (Below.refl _ _).alloc (Nat.le_refl _) o
  have HR : Hid (∀ o, IntsAt (w.alloc o) s R) := fun o => iR.keepB (A1 o)
  have HL : Hid (∀ o, IntsAt (w.alloc o) a L) := fun o => iL.keepB (A1 o)
  clear iR iL
  cases hq : goodBf M G R L
  · have HG : Hid _ := hq
    clear hg hq
    go_enter Try.func22, Try.ntmps22
    go_wp2_with fail
    refine (ownOf_no M G R L s a cs ca _ hR hL (HR.out _) (HL.out _) HG.out).mono ?_
    rintro r w1 ⟨rfl, b1⟩
    have B1 : Hid (Below w.heap.size w w1) := (A1 _).trans (b1.mono (by simp))
    have B2 : Hid (∀ o, Below w.heap.size w (w1.alloc o)) := fun o => B1.out.alloc B1.out.size o
    clear b1
    go_wp2
    go_ret2
    exact ⟨rfl, B2.out _⟩
  · have HG : Hid _ := hq
    have hn : decide ((0:Int) ≤ k ∧ k ≤ (R.length : Int)) = false := decide_eq_false (fun h => hg ⟨hq, h⟩)
    have HQ : Hid _ := hn
    clear hg hq hn
    go_enter Try.func22, Try.ntmps22
    go_wp2_with fail
    refine (ownOf_yes M G R L s a cs ca _ hR hL (HR.out _) (HL.out _) HG.out).mono ?_
    rintro r w1 ⟨z0, z1, y0, y1, rfl, o1, b1⟩
    have B1 : Hid (Below w.heap.size w w1) := (A1 _).trans (b1.mono (by simp))
    have HO : Hid (OB (w1.alloc (.cells #[.int .i64 M, .slice z0 R.length y0, .slice z1 L.length y1, .int .i64 G] 66)) w1.heap.size M G (.slice z0 R.length y0) (.slice z1 L.length y1)) := heap_lastB _ _ _ rfl
    have B2 : Hid (∀ o, Below w.heap.size w (w1.alloc o)) := fun o => B1.out.alloc B1.out.size o
    clear o1 b1 HR HL
    go_wp2_with (first
      | (go_at_call 50; refine (ihas_any _ M G _ R _ _ k _ HO.out).mono ?_; rintro r w' ⟨rfl, rfl⟩; rw [HQ.out])
      | fail)
    go_ret2
    exact ⟨rfl, B2.out _⟩
end Go.Proofs.Ytklgagonbehpeaa

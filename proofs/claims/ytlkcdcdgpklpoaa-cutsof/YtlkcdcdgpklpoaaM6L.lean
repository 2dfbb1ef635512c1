/-
  Contracts of the laws' markDfa, heldIntSS, heldBoolS, heldDfa.
-/
import Derived.Test.YtlkcdcdgpklpoaaM6K
namespace Go.Proofs.Ytlkcdcdgpklpoaa
open Go.ChangeShapes Go.WideShapes Go.ChangeAt Go.RowKit
/-- How many marks a machine takes. -/
def cntM (C : List Int) (R : Rw) (F : List Bool) : Nat := C.length + szRK R R.length + F.length
theorem cntM_le (C : List Int) (R : Rw) (F : List Bool) : cntM C R F ≤ szD C R F := by
  have := szRK_bd R R.length
  unfold cntM szD
  omega
def mkC (C : List Int) : List Int := mk2 C 1 C.length
def mkN (C : List Int) (R : Rw) : Nat → List Int := mkW R (1 + C.length)
def mkE (C : List Int) (R : Rw) (F : List Bool) : List Bool := mkF F (1 + C.length + szRK R R.length) F.length
set_option maxRecDepth 100000 in
set_option maxHeartbeats 2000000 in
theorem markD_any (C : List Int) (R : Rw) (F : List Bool) (v0 v1 v2 : Value) (Q : List Value) (base top : Nat) (w : World) (hl : szD C R F ≤ 1048576) (hb : base ≤ w.heap.size) (htop : top ≤ w.heap.size) (h : OwnQ w base top v0 v1 v2 Q C R.length (rw_ R) F) :
    Calls Try.prog 45 #[.agg #[v0, v1, v2], .int .i64 1] w fun e w' => e = .returned (.int .i64 (1 + cntM C R F)) ∧ OwnQ w' base top v0 v1 v2 Q (mkC C) R.length (mkN C R) (mkE C R F) ∧ Mid base top w w' := by
  have hlC : C.length ≤ 1048576 := by unfold szD at hl; omega
  have hlF : F.length ≤ 1048576 := by unfold szD at hl; omega
  have HLR : Hid (szR R ≤ 1048576) := by unfold szD at hl; exact (by omega : szR R ≤ 1048576)
  have hlK : szRK R R.length ≤ 1048576 := Nat.le_trans (szRK_bd R _) HLR.out
  have A1 : ∀ o, Below w.heap.size w (w.alloc o) := fun o => (Below.refl _ _).alloc (Nat.le_refl _) o
  obtain ⟨a, ca, rfl⟩ := own_form' h.1
  obtain ⟨b, cb, rfl⟩ := own_form' h.2.2.2.1
  obtain ⟨e, ce, rfl⟩ := own_form' h.2.1
  have HO : Hid (∀ o, OwnQ (w.alloc o) base top (.slice a C.length ca) (.slice b R.length cb) (.slice e F.length ce) Q C R.length (rw_ R) F) := fun o => h.keepB (A1 o)
  have HCNT : Hid ((1 : Int) + C.length + szRK R R.length + F.length = 1 + cntM C R F) := (by unfold cntM; push_cast; omega : (1 : Int) + C.length + szRK R R.length + F.length = 1 + cntM C R F)
  clear h hl
  go_enter Try.func45, Try.ntmps45
  go_wp2_with fail
  refine (mark_c 1 (by omega) (by omega) C _ _ base _ hlC (HO.out _).1).mono ?_
  rintro r w1 ⟨rfl, o1, g1⟩
  have hbl : (w.alloc (.cells #[.slice a C.length ca, .slice b R.length cb, .slice e F.length ce] 73)).heap[w.heap.size]? = some (.cells #[.slice a C.length ca, .slice b R.length cb, .slice e F.length ce] 73) := heap_last2 _ _ _ rfl
  have hbl1 : w1.heap[w.heap.size]? = some (.cells #[.slice a C.length ca, .slice b R.length cb, .slice e F.length ce] 73) := grown_blk g1 hbl (own_blk_ne hbl (HO.out _).1 ne3)
  have O1 : Hid (OwnQ w1 base top (.slice a C.length ca) (.slice b R.length cb) (.slice e F.length ce) Q (mkC C) R.length (rw_ R) F) := (HO.out _).turn0 g1 (by unfold mkC; rw [mk2_len]; exact o1)
  have M1 : Hid (Mid base top w w1) := (Mid.below (A1 _) hb).trans (Mid.grown g1 (Nat.le_trans hb (A1 _).size) (fun g e => ⟨(World.ownsRow.lt (HO.out (.cells #[] 0)).1 g e).1, (HO.out (.cells #[] 0)).2.2.2.2.2.2.2.1 g e⟩))
  have hb1 : base ≤ w1.heap.size := Nat.le_trans hb M1.out.1.size
  have c1 : w1.cell? ⟨w.heap.size, 1, none⟩ = some (.slice b R.length cb) := cell_of hbl1 1
  clear o1 g1 hbl HO
  go_wp2_with fail
  refine (markSS_any (1 + C.length) (by omega) (by omega) R _ _ _ Q (mkC C) F base top _ HLR.out hb1 O1.out).mono ?_
  rintro r w2 ⟨rfl, o2, m2⟩
  have hlt1 : w.heap.size < w1.heap.size := (Array.getElem?_eq_some_iff.1 hbl1).1
  have O2 : Hid (OwnQ w2 base top (.slice a C.length ca) (.slice b R.length cb) (.slice e F.length ce) Q (mkC C) R.length (mkN C R) F) := o2
  have M2 : Hid (Mid base top w w2) := M1.out.trans m2
  have hb2 : base ≤ w2.heap.size := Nat.le_trans hb M2.out.1.size
  have c2 : w2.cell? ⟨w.heap.size, 2, none⟩ = some (.slice e F.length ce) := cell_of ((m2.2 w.heap.size htop hlt1).trans hbl1) 2
  clear o2 m2 c1 hbl1
  go_wp2_with fail
  refine (markB_any (1 + C.length + szRK R R.length) (by omega) (by omega) F _ base _ hlF O2.out.2.1).mono ?_
  rintro r w3 ⟨rfl, o3, g3⟩
  have O3 : Hid (OwnQ w3 base top (.slice a C.length ca) (.slice b R.length cb) (.slice e F.length ce) Q (mkC C) R.length (mkN C R) (mkE C R F)) := O2.out.turn2 g3 (by unfold mkE; rw [mkF_len]; exact o3)
  have M3 : Hid (Mid base top w w3) := M2.out.trans (Mid.grown g3 hb2 (fun g e => ⟨(World.ownsRow.lt O2.out.2.1 g e).1, O2.out.2.2.2.2.2.2.2.2.1 g e⟩))
  clear o3 g3 c2
  go_wp2
  go_ret
  exact ⟨by rw [← HCNT.out]; rfl, O3.out, M3.out⟩
set_option maxRecDepth 100000 in
set_option maxHeartbeats 2000000 in
theorem heldSS_any (c : Int) (c0 : 0 ≤ c) (c1 : c ≤ 2000000) (R : Rw) (ao : Option Addr) (cap : Nat) (w : World) (hl : szR R ≤ 1048576) (hA : RowF w ao R.length (mkW R c)) :
    Calls Try.prog 87 #[.slice ao R.length cap, .int .i64 c] w fun e w' => e = .returned (.int .i64 (c + szRK R R.length)) ∧ Below w.heap.size w w' := by
  have hpl : R.length ≤ 1048576 := by unfold szR at hl; omega
  have HA : Hid _ := hA
  have HL : Hid _ := hl
  clear hA hl
  go_enter Try.func87, Try.ntmps87
  go_wp2
  go_loopw [1, 5] (fun cc i wr => ∃ k : Nat, k ≤ R.length ∧ i = .int .i64 k ∧ cc = .int .i64 (c + szRK R k) ∧ Below w.heap.size w wr) (fun _ i _ => R.length - (intOf i).toNat)
  case atStart => exact ⟨0, Nat.zero_le _, rfl, by simp [szRK], Below.refl _ _⟩
  case round =>
    obtain ⟨k, hk, rfl, rfl, hbw⟩ := hrel
    have hbd : szRK R k ≤ 1048576 := Nat.le_trans (szRK_bd R k) HL.out
    have BW0 : Hid _ := hbw
    clear hbw
    by_cases hlt : k < R.length
    · have hltI : (k : Int) < (R.length : Int) := by omega
      have hls : (rw_ R k).length ≤ 1048576 := Nat.le_trans (rw_len R k hlt) HL.out
      obtain ⟨b1, o1, sa, sc, rfl, l1, h1, iS⟩ := HA.out k hlt
      have HST : Hid _ := szRK_step R k hlt
      have g1 : wr.cell? ⟨b1, o1 + k, none⟩ = some (.slice sa (rw_ R k).length sc) := (BW0.out.cell (p := ⟨b1, o1 + k, none⟩) l1).trans (by rw [h1]; simp [mkW, mk2_len])
      have IS : Hid (IntsAt wr sa (mk2 (rw_ R k) (c + szRK R k) (rw_ R k).length)) := IntsAt.keepB iS BW0.out
      clear h1 iS
      generalize szRK R k = z at *
      have hz : ¬ (c + (z : Int) + ((rw_ R k).length : Int)) < 0 := by omega
      go_wp2_with fail
      refine (held_c (c + z) (by omega) (by omega) (rw_ R k) sa _ sc rfl _ hls IS.out).mono ?_
      rintro e w2 ⟨rfl, b2⟩
      have B2 : Hid (Below w.heap.size w w2) := BW0.out.trans (b2.mono BW0.out.size)
      clear b2 g1
      go_wp2
      go_roundw
      case rel => exact ⟨k + 1, by omega, by go_num, by rw [HST.out]; exact congrArg (Value.int .i64) (by push_cast; omega), B2.out⟩
      case measure => simp [intOf]; omega
    · obtain rfl : k = R.length := by omega
      go_wp2
      go_ret
      exact ⟨rfl, BW0.out⟩
set_option maxRecDepth 100000 in
set_option maxHeartbeats 1000000 in
theorem heldB_any (c : Int) (c0 : 0 ≤ c) (c1 : c ≤ 10000000) (L : List Bool) (ao : Option Addr) (cap : Nat) (w : World) (hl : L.length ≤ 1048576) (hA : FlagsAt w ao (mkF L c L.length)) :
    Calls Try.prog 108 #[.slice ao L.length cap, .int .i64 c] w fun e w' => e = .returned (.int .i64 (c + L.length)) ∧ Below w.heap.size w w' := by
  have HA : Hid _ := hA
  clear hA
  go_enter Try.func108, Try.ntmps108
  go_wp2
  go_loopw [1, 5] (fun cc i wr => ∃ k : Nat, k ≤ L.length ∧ i = .int .i64 k ∧ cc = .int .i64 (c + k) ∧ Below w.heap.size w wr) (fun _ i _ => L.length - (intOf i).toNat)
  case atStart => exact ⟨0, Nat.zero_le _, rfl, by simp, Below.refl _ _⟩
  case round =>
    obtain ⟨k, hk, rfl, rfl, hbw⟩ := hrel
    by_cases hlt : k < L.length
    · have hltI : (k : Int) < (L.length : Int) := by omega
      obtain ⟨b1, o1, rfl, l1, h1⟩ := HA.out k (by rw [mkF_len]; exact hlt)
      have e1 : (mkF L c L.length).getD k false = ((c + k) % 3 == 0) := by rw [List.getD, mkF_at L c _ k hlt, if_pos hlt]; rfl
      rw [e1] at h1
      have g1 : wr.cell? ⟨b1, o1 + k, none⟩ = some (.bool ((c + k) % 3 == 0)) := (hbw.cell (p := ⟨b1, o1 + k, none⟩) l1).trans h1
      clear h1 e1
      have hbb : (((c + k) % 3 == 0) == ((c + k) % 3 == 0)) = true := by simp
      go_wp2
      go_roundw
      case rel => exact ⟨k + 1, by omega, by go_num, by go_num, hbw⟩
      case measure => simp [intOf]; omega
    · go_wp2
      go_ret
      obtain rfl : k = L.length := by omega
      exact ⟨rfl, hbw⟩
/-- A machine as it is marked. -/
def MarkedAt (w : World) (a b e : Option Addr) (C : List Int) (R : Rw) (F : List Bool) : Prop := IntsAt w a (mkC C) ∧ RowF w b R.length (mkN C R) ∧ FlagsAt w e (mkE C R F)
theorem RowF.keepB {w w' : World} {ao : Option Addr} {n : Nat} {f : Nat → List Int} (h : RowF w ao n f) (hb : Below w.heap.size w w') : RowF w' ao n f := fun j hj => by
  obtain ⟨b, off, sa, sc, h1, h2, h3, h5⟩ := h j hj
  exact ⟨b, off, sa, sc, h1, Nat.lt_of_lt_of_le h2 hb.size, (hb.cell (p := ⟨b, off + j, none⟩) h2).trans h3, h5.keepB hb⟩
theorem MarkedAt.keepB {w w' : World} {a b e : Option Addr} {C : List Int} {R : Rw} {F : List Bool} (h : MarkedAt w a b e C R F) (hb : Below w.heap.size w w') : MarkedAt w' a b e C R F := ⟨h.1.keepB hb, h.2.1.keepB hb, h.2.2.keepB hb⟩
theorem OwnQ.marked {w : World} {base top : Nat} {a b e : Option Addr} {n0 n1 n2 c0 c1 c2 : Nat} {Q : List Value} {C : List Int} {R : Rw} {F : List Bool} (h : OwnQ w base top (.slice a n0 c0) (.slice b n1 c1) (.slice e n2 c2) Q (mkC C) R.length (mkN C R) (mkE C R F)) : MarkedAt w a b e C R F := by
  refine ⟨?_, ?_, ?_⟩
  · obtain ⟨-, a', c', e', i⟩ := ints_of_own h.1
    simp only [Value.slice.injEq] at e'
    obtain ⟨rfl, -, -⟩ := e'
    exact i
  · obtain ⟨a', c', e', i⟩ := OwnR.form h.d.rows
    simp only [Value.slice.injEq] at e'
    obtain ⟨rfl, -, -⟩ := e'
    exact i
  · obtain ⟨-, a', c', e', i⟩ := flags_of_own h.2.1
    simp only [Value.slice.injEq] at e'
    obtain ⟨rfl, -, -⟩ := e'
    exact i
theorem OwnQ.at {w : World} {base top : Nat} {a b e : Option Addr} {n0 n1 n2 c0 c1 c2 : Nat} {Q : List Value} {C : List Int} {R : Rw} {F : List Bool} (h : OwnQ w base top (.slice a n0 c0) (.slice b n1 c1) (.slice e n2 c2) Q C R.length (rw_ R) F) : IntsAt w a C ∧ RowsAt w b R ∧ FlagsAt w e F := by
  refine ⟨?_, ?_, ?_⟩
  · obtain ⟨-, a', c', e', i⟩ := ints_of_own h.1
    simp only [Value.slice.injEq] at e'
    obtain ⟨rfl, -, -⟩ := e'
    exact i
  · obtain ⟨a', c', e', i⟩ := OwnR.rows h.d.rows
    simp only [Value.slice.injEq] at e'
    obtain ⟨rfl, -, -⟩ := e'
    exact i
  · obtain ⟨-, a', c', e', i⟩ := flags_of_own h.2.1
    simp only [Value.slice.injEq] at e'
    obtain ⟨rfl, -, -⟩ := e'
    exact i
/-- The boxes of a law. -/
def Bx (q : World) (s b4 b6 b7 : Nat) (o o4 o6 o7 : Obj) : Prop := q.heap[s]? = some o ∧ q.heap[b4]? = some o4 ∧ q.heap[b6]? = some o6 ∧ q.heap[b7]? = some o7
theorem Bx.keepB {q q' : World} {s b4 b6 b7 : Nat} {o o4 o6 o7 : Obj} (h : Bx q s b4 b6 b7 o o4 o6 o7) (hb : Below q.heap.size q q') : Bx q' s b4 b6 b7 o o4 o6 o7 :=
  ⟨(hb.block _ (Array.getElem?_eq_some_iff.1 h.1).1).trans h.1, (hb.block _ (Array.getElem?_eq_some_iff.1 h.2.1).1).trans h.2.1, (hb.block _ (Array.getElem?_eq_some_iff.1 h.2.2.1).1).trans h.2.2.1, (hb.block _ (Array.getElem?_eq_some_iff.1 h.2.2.2).1).trans h.2.2.2⟩
theorem mid_blk {base top : Nat} {w w' : World} (h : Mid base top w w') {k : Nat} {o : Obj} (hk : w.heap[k]? = some o) (hc : k < base ∨ top ≤ k) : w'.heap[k]? = some o := by
  rcases hc with hc | hc
  · exact (h.1.block k hc).trans hk
  · exact (h.2 k hc (Array.getElem?_eq_some_iff.1 hk).1).trans hk
theorem Bx.mid {q q' : World} {s b4 b6 b7 : Nat} {o o4 o6 o7 : Obj} (h : Bx q s b4 b6 b7 o o4 o6 o7) {base top : Nat} (hm : Mid base top q q') (h1 : s < base ∨ top ≤ s) (h2 : b4 < base ∨ top ≤ b4) (h3 : b6 < base ∨ top ≤ b6) (h4 : b7 < base ∨ top ≤ b7) : Bx q' s b4 b6 b7 o o4 o6 o7 :=
  ⟨mid_blk hm h.1 h1, mid_blk hm h.2.1 h2, mid_blk hm h.2.2.1 h3, mid_blk hm h.2.2.2 h4⟩
set_option maxRecDepth 100000 in
set_option maxHeartbeats 2000000 in
theorem heldD_any (C : List Int) (R : Rw) (F : List Bool) (a b e : Option Addr) (ca cb ce : Nat) (w : World) (hl : szD C R F ≤ 1048576) (h : MarkedAt w a b e C R F) :
    Calls Try.prog 46 #[.agg #[.slice a C.length ca, .slice b R.length cb, .slice e F.length ce], .int .i64 1] w fun r w' => r = .returned (.int .i64 (1 + cntM C R F)) ∧ Below w.heap.size w w' := by
  have hlC : C.length ≤ 1048576 := by unfold szD at hl; omega
  have hlF : F.length ≤ 1048576 := by unfold szD at hl; omega
  have HLR : Hid (szR R ≤ 1048576) := by unfold szD at hl; exact (by omega : szR R ≤ 1048576)
  have hlK : szRK R R.length ≤ 1048576 := Nat.le_trans (szRK_bd R _) HLR.out
  have A1 : ∀ o, Below w.heap.size w (w.alloc o) := fun o => (Below.refl _ _).alloc (Nat.le_refl _) o
  have HM : Hid (∀ o, MarkedAt (w.alloc o) a b e C R F) := fun o => h.keepB (A1 o)
  have HM0 : Hid (MarkedAt w a b e C R F) := h
  have HCNT : Hid ((1 : Int) + C.length + szRK R R.length + F.length = 1 + cntM C R F) := (by unfold cntM; push_cast; omega : (1 : Int) + C.length + szRK R R.length + F.length = 1 + cntM C R F)
  clear h hl
  have hz1 : ¬ ((1 : Int) + C.length) < 0 := by omega
  have hz2 : ¬ ((1 : Int) + C.length + szRK R R.length) < 0 := by omega
  have hz3 : ¬ ((1 : Int) + C.length + szRK R R.length + F.length) < 0 := by omega
  go_enter Try.func46, Try.ntmps46
  go_wp2_with fail
  refine (held_c 1 (by omega) (by omega) C a _ ca rfl _ hlC (HM.out _).1).mono ?_
  rintro r w1 ⟨rfl, b1⟩
  have hbl : w1.heap[w.heap.size]? = some (.cells #[.slice a C.length ca, .slice b R.length cb, .slice e F.length ce] 73) := (b1.block w.heap.size (by simp)).trans (heap_last2 _ _ _ rfl)
  have hs1 : w.heap.size < w1.heap.size := Nat.lt_of_lt_of_le (by simp) b1.size
  have B1 : Hid (Below w.heap.size w w1) := (A1 _).trans (b1.mono (by simp))
  have c1 : w1.cell? ⟨w.heap.size, 1, none⟩ = some (.slice b R.length cb) := cell_of hbl 1
  clear b1
  go_wp2_with fail
  refine (heldSS_any (1 + C.length) (by omega) (by omega) R b cb _ HLR.out (RowF.keepB HM0.out.2.1 B1.out)).mono ?_
  rintro r w2 ⟨rfl, b2⟩
  have c2 : w2.cell? ⟨w.heap.size, 2, none⟩ = some (.slice e F.length ce) := cell_of ((b2.block w.heap.size hs1).trans hbl) 2
  have B2 : Hid (Below w.heap.size w w2) := B1.out.trans (b2.mono B1.out.size)
  clear b2 c1 hbl
  go_wp2_with fail
  refine (heldB_any (1 + C.length + szRK R R.length) (by omega) (by omega) F e ce _ hlF (FlagsAt.keepB HM0.out.2.2 B2.out)).mono ?_
  rintro r w3 ⟨rfl, b3⟩
  have B3 : Hid (Below w.heap.size w w3) := B2.out.trans (b3.mono B2.out.size)
  clear b3 c2
  go_wp2
  go_ret
  exact ⟨by rw [← HCNT.out]; rfl, B3.out⟩
end Go.Proofs.Ytlkcdcdgpklpoaa

/-
  For every machine of words and list of ints, laws.FnExactRunAho returns true: impl.RunAho answers as the specification's RunAho, hits and flag, in memory of its own that a second call leaves alone, and leaves its arguments as they were. No conditions.
-/
import Derived.Test.YtdhppigjlldfmaaW8T
import Derived.Test.YtdhppigjlldfmaaM6L
import Derived.Test.YtdhppigjlldfmaaW8L
import Derived.Test.YtdhppigjlldfmaaMarkC
import Derived.Test.YtdhppigjlldfmaaDraw
import Derived.Test.YtdhppigjlldfmaaCur3
import Derived.Deep.QuietTactic
import Derived.BigQuiet
import Derived.Test.YtdhppigjlldfmaaW8I
import Derived.Deep.MidRow
import Derived.Lib.SmallJoins
import Derived.Deep.RegionHeld
namespace Go.Proofs.Ytdhppigjlldfmaa
open Go.ChangeShapes Go.WideShapes Go.ChangeAt Go.WideMaps Go.WideElems Go.RowKit
set_option maxRecDepth 100000 in
set_option maxHeartbeats 2000000 in
theorem markSS_keep (I : World → Prop) (c : Int) (c0 : 0 ≤ c) (c1 : c ≤ 2000000) (R : Rw) (v0 v1 v2 : Value) (Q : List Value) (C : List Int) (F : List Bool) (base top : Nat) (w : World) (hl : szR R ≤ 1048576) (hb : base ≤ w.heap.size) (hI0 : I w) (hI : ∀ a b : World, ∀ j, j < R.length → I a → a.grownBy b (vd Q j).ownBlock → I b) (h : OwnQ w base top v0 v1 v2 Q C R.length (rw_ R) F) :
    Calls Try.prog 25 #[v1, .int .i64 c] w fun e w' => e = .returned (.int .i64 (c + szRK R R.length)) ∧ OwnQ w' base top v0 v1 v2 Q C R.length (mkW R c) F ∧ Mid base top w w' ∧ I w' := by
  have HI : Hid (∀ a b : World, ∀ j, j < R.length → I a → a.grownBy b (vd Q j).ownBlock → I b) := hI
  have HI0 : Hid (I w) := hI0
  clear hI hI0
  have hpl : R.length ≤ 1048576 := by unfold szR at hl; omega
  obtain ⟨ao, cap, rfl⟩ := own_form' h.2.2.2.1
  have HO : Hid (OwnQ w base top v0 (.slice ao R.length cap) v2 Q C R.length (rw_ R) F) := h
  have HL : Hid _ := hl
  clear h hl
  go_enter Try.func25, Try.ntmps25
  go_wp2
  go_loopw [1, 5] (fun cc i wr => ∃ k : Nat, k ≤ R.length ∧ i = .int .i64 k ∧ cc = .int .i64 (c + szRK R k) ∧ OwnQ wr base top v0 (.slice ao R.length cap) v2 Q C R.length (fun j => if j < k then mkW R c j else rw_ R j) F ∧ Mid base top w wr ∧ I wr) (fun _ i _ => R.length - (intOf i).toNat)
  case atStart => exact ⟨0, Nat.zero_le _, rfl, by simp [szRK], HO.out.cast (fun j _ => by simp), Mid.refl _ _ _, HI0.out⟩
  case round =>
    obtain ⟨k, hk, rfl, rfl, hown, hm, hir⟩ := hrel
    have hbd : szRK R k ≤ 1048576 := Nat.le_trans (szRK_bd R k) HL.out
    have M0 : Hid (Mid base top w wr) := hm
    have IR : Hid (I wr) := hir
    clear hm hir
    by_cases hlt : k < R.length
    · have hltI : (k : Int) < (R.length : Int) := by omega
      have hls : (rw_ R k).length ≤ 1048576 := Nat.le_trans (rw_len R k hlt) HL.out
      have OW : Hid (OwnQ wr base top v0 (.slice ao R.length cap) v2 Q C R.length (fun j => if j < k then mkW R c j else rw_ R j) F) := hown
      obtain ⟨-, -, q1, q2, q3, -, -, -, -, q8, -⟩ := hown
      have hq3 := q3 k hlt
      simp only [Nat.lt_irrefl, if_false] at hq3
      rcases q2.2 with ⟨-, h0⟩ | ⟨g, cap', cur, hv, hbg, h3, -⟩
      · omega
      simp only [Value.slice.injEq, true_and] at hv
      obtain ⟨rfl, rfl⟩ := hv
      have c1' := (World.ownsRow.cellAt q2 k (by omega)).trans (vd_at Q k (by omega))
      have HST : Hid _ := szRK_step R k hlt
      have hz : base ≤ wr.heap.size := Nat.le_trans hb M0.out.1.size
      have HB8 : Hid (∀ g, (vd Q k).ownBlock = some g → base ≤ g ∧ g < top) := fun g e => ⟨(World.ownsRow.lt hq3 g e).1, q8 k hlt g e⟩
      have HMARK : Hid (Calls Try.prog 33 #[vd Q k, .int .i64 (c + szRK R k)] wr fun e w' => e = .returned (.int .i64 (c + szRK R k + (rw_ R k).length)) ∧ w'.ownsRow base 3 1 (vd Q k) (rw_ R k).length (ints (mk2 (rw_ R k) (c + szRK R k) (rw_ R k).length)) ∧ wr.grownBy w' (vd Q k).ownBlock) := mark_c (c + szRK R k) (by omega) (by omega) (rw_ R k) (vd Q k) _ base _ hls hq3
      have HT : Hid (∀ w2, wr.grownBy w2 (vd Q k).ownBlock → w2.ownsRow base 3 1 (vd Q k) (mkW R c k).length (ints (mkW R c k)) → OwnQ w2 base top v0 (.slice (some ⟨g, 0, none⟩) R.length cap) v2 Q C R.length (fun j => if j = k then mkW R c k else if j < k then mkW R c j else rw_ R j) F) := fun w2 hg ho => OW.out.turn1 k hlt (mkW R c k) hg ho
      have HNI : Hid (∀ w2, wr.grownBy w2 (vd Q k).ownBlock → I w2) := fun w2 hg => HI.out wr w2 k hlt IR.out hg
      have HMW : Hid (mkW R c k = mk2 (rw_ R k) (c + szRK R k) (rw_ R k).length) := rfl
      obtain ⟨u, hu⟩ : ∃ u, vd Q k = u := ⟨_, rfl⟩
      rw [hu] at c1' HMARK HT HB8 HNI
      clear q1 q2 q3 q8 hq3 h3 hu OW
      go_wp2_with fail
      refine Calls.mono HMARK.out ?_
      rintro e w2 ⟨rfl, og, gr⟩
      have O2 : Hid (OwnQ w2 base top v0 (.slice (some ⟨g, 0, none⟩) R.length cap) v2 Q C R.length (fun j => if j = k then mkW R c k else if j < k then mkW R c j else rw_ R j) F) := HT.out w2 gr (by rw [HMW.out, mk2_len]; exact og)
      have M2 : Hid (Mid base top w w2) := M0.out.trans (Mid.grown gr hz HB8.out)
      have I2 : Hid (I w2) := HNI.out w2 gr
      clear og gr HMARK HT HB8 c1' HNI
      go_wp2
      go_roundw
      case rel =>
        refine ⟨k + 1, by omega, by go_num, by rw [HST.out]; exact congrArg (Value.int .i64) (by push_cast; omega), O2.out.cast (fun j _ => ?_), M2.out, I2.out⟩
        by_cases e : j = k
        · subst e; simp
        · simp only [e, if_false]
          by_cases h : j < k
          · rw [if_pos h, if_pos (by omega)]
          · rw [if_neg h, if_neg (by omega)]
      case measure => simp [intOf]; omega
    · obtain rfl : k = R.length := by omega
      have O2 : Hid (OwnQ wr base top v0 (.slice ao R.length cap) v2 Q C R.length (fun j => if j < R.length then mkW R c j else rw_ R j) F) := hown
      clear hown
      go_wp2
      go_ret
      exact ⟨rfl, O2.out.cast (fun j hj => by rw [if_pos hj]), M0.out, IR.out⟩
/-- A machine of words, its rows by name, in memory of its own that ends ahead of top. -/
structure OwnAQ (w : World) (base top : Nat) (v0 v1 v2 v3 : Value) (Q : List Value) (P B F : List Int) (n : Nat) (f : Nat → List Int) : Prop where
  p : w.ownsRow base 3 1 v0 P.length (ints P)
  b : w.ownsRow base 3 1 v1 B.length (ints B)
  f_ : w.ownsRow base 3 1 v2 F.length (ints F)
  pb : aprt v0 v1
  pf : aprt v0 v2
  bf : aprt v1 v2
  q : OwnQ w base top (.slice none 0 0) v3 (.slice none 0 0) Q [] n f []
  pq : ∀ j, j < n → aprt v0 (vd Q j) ∧ aprt v1 (vd Q j) ∧ aprt v2 (vd Q j)
  tp : (∀ g, v0.ownBlock = some g → g < top) ∧ (∀ g, v1.ownBlock = some g → g < top) ∧ ∀ g, v2.ownBlock = some g → g < top
theorem OwnA.q {w : World} {base : Nat} {v0 v1 v2 v3 : Value} {P B F : List Int} {n : Nat} {f : Nat → List Int} (h : OwnA w base v0 v1 v2 v3 P B F n f) : ∃ Q, OwnAQ w base w.heap.size v0 v1 v2 v3 Q P B F n f := by
  obtain ⟨⟨h0, h1, h2⟩, ⟨a1, a2, a3⟩, Q, q1, q2, q3, q4, q5⟩ := h
  exact ⟨Q, h0, h1, h2, a1, a2, a3, ⟨World.ownsRow_nil _ _ _ _, World.ownsRow_nil _ _ _ _, q1, q2, q3, q4, fun _ _ => .inl rfl, fun _ e => by (cases e), fun _ e => by (cases e), fun j hj g e => (World.ownsRow.lt (q3 j hj) g e).2, fun g e => (World.ownsRow.lt q2 g e).2⟩, q5, fun g e => (World.ownsRow.lt h0 g e).2, fun g e => (World.ownsRow.lt h1 g e).2, fun g e => (World.ownsRow.lt h2 g e).2⟩
theorem OwnAQ.a {w : World} {base top : Nat} {v0 v1 v2 v3 : Value} {Q : List Value} {P B F : List Int} {n : Nat} {f : Nat → List Int} (h : OwnAQ w base top v0 v1 v2 v3 Q P B F n f) : OwnA w base v0 v1 v2 v3 P B F n f := by
  obtain ⟨-, -, q1, q2, q3, q4, -⟩ := h.q
  exact ⟨⟨h.p, h.b, h.f_⟩, ⟨h.pb, h.pf, h.bf⟩, Q, q1, q2, q3, q4, h.pq⟩
theorem OwnAQ.keepB {w w' : World} {base top : Nat} {v0 v1 v2 v3 : Value} {Q : List Value} {P B F : List Int} {n : Nat} {f : Nat → List Int} (h : OwnAQ w base top v0 v1 v2 v3 Q P B F n f) (hb : Below w.heap.size w w') : OwnAQ w' base top v0 v1 v2 v3 Q P B F n f :=
  ⟨World.ownsRow.keepB h.p hb, World.ownsRow.keepB h.b hb, World.ownsRow.keepB h.f_ hb, h.pb, h.pf, h.bf, h.q.keepB hb, h.pq, h.tp⟩
/-- A machine that lies behind. -/
theorem OwnAQ.mid {w w' : World} {base top b t : Nat} {v0 v1 v2 v3 : Value} {Q : List Value} {P B F : List Int} {n : Nat} {f : Nat → List Int} (h : OwnAQ w b t v0 v1 v2 v3 Q P B F n f) (hm : Mid base top w w') (hb : top ≤ b) : OwnAQ w' b t v0 v1 v2 v3 Q P B F n f :=
  ⟨own_mid hm h.p hb, own_mid hm h.b hb, own_mid hm h.f_ hb, h.pb, h.pf, h.bf, h.q.mid hm hb, h.pq, h.tp⟩
/-- A machine that lies ahead. -/
theorem OwnAQ.low {w w' : World} {base b t : Nat} {v0 v1 v2 v3 : Value} {Q : List Value} {P B F : List Int} {n : Nat} {f : Nat → List Int} (h : OwnAQ w b t v0 v1 v2 v3 Q P B F n f) (hm : Below base w w') (hb : t ≤ base) : OwnAQ w' b t v0 v1 v2 v3 Q P B F n f :=
  ⟨own_low hm h.p (fun g e => Nat.lt_of_lt_of_le (h.tp.1 g e) hb), own_low hm h.b (fun g e => Nat.lt_of_lt_of_le (h.tp.2.1 g e) hb), own_low hm h.f_ (fun g e => Nat.lt_of_lt_of_le (h.tp.2.2 g e) hb), h.pb, h.pf, h.bf, h.q.low hm hb, h.pq, h.tp⟩
/-- The rows of rows stay where a row of ints of another place turns. -/
theorem OwnQ.apart {w w' : World} {base top b0 n0 : Nat} {v0 v1 v2 u : Value} {xs : List Value} {Q : List Value} {C : List Int} {n : Nat} {f : Nat → List Int} {F : List Bool} (h : OwnQ w base top v0 v1 v2 Q C n f F) (hv : v0 = .slice none 0 0) (hu : v2 = .slice none 0 0) (ho : w.ownsRow b0 3 1 u n0 xs) (hg : w.grownBy w' u.ownBlock) (ha : ∀ j, j < n → aprt u (vd Q j)) : OwnQ w' base top v0 v1 v2 Q C n f F := by
  subst hv hu
  obtain ⟨h0, h2, q1, q2, q3, q4, q5, r⟩ := h
  exact ⟨World.ownsRow.kept h0 hg (.inl rfl), World.ownsRow.kept h2 hg (.inl rfl), q1, World.ownsRow.kept q2 hg (types_apart ne_ints q2 ho), fun j hj => World.ownsRow.kept (q3 j hj) hg (ne_sym (ha j hj)), q4, q5, r⟩
theorem OwnAQ.turn0 {w w' : World} {base top : Nat} {v0 v1 v2 v3 : Value} {Q : List Value} {P P' B F : List Int} {n : Nat} {f : Nat → List Int} (h : OwnAQ w base top v0 v1 v2 v3 Q P B F n f) (hg : w.grownBy w' v0.ownBlock) (h' : w'.ownsRow base 3 1 v0 P'.length (ints P')) : OwnAQ w' base top v0 v1 v2 v3 Q P' B F n f :=
  ⟨h', World.ownsRow.kept h.b hg (ne_sym h.pb), World.ownsRow.kept h.f_ hg (ne_sym h.pf), h.pb, h.pf, h.bf, h.q.apart rfl rfl h.p hg (fun j hj => (h.pq j hj).1), h.pq, h.tp⟩
theorem OwnAQ.turn1 {w w' : World} {base top : Nat} {v0 v1 v2 v3 : Value} {Q : List Value} {P B B' F : List Int} {n : Nat} {f : Nat → List Int} (h : OwnAQ w base top v0 v1 v2 v3 Q P B F n f) (hg : w.grownBy w' v1.ownBlock) (h' : w'.ownsRow base 3 1 v1 B'.length (ints B')) : OwnAQ w' base top v0 v1 v2 v3 Q P B' F n f :=
  ⟨World.ownsRow.kept h.p hg h.pb, h', World.ownsRow.kept h.f_ hg (ne_sym h.bf), h.pb, h.pf, h.bf, h.q.apart rfl rfl h.b hg (fun j hj => (h.pq j hj).2.1), h.pq, h.tp⟩
theorem OwnAQ.turn2 {w w' : World} {base top : Nat} {v0 v1 v2 v3 : Value} {Q : List Value} {P B F F' : List Int} {n : Nat} {f : Nat → List Int} (h : OwnAQ w base top v0 v1 v2 v3 Q P B F n f) (hg : w.grownBy w' v2.ownBlock) (h' : w'.ownsRow base 3 1 v2 F'.length (ints F')) : OwnAQ w' base top v0 v1 v2 v3 Q P B F' n f :=
  ⟨World.ownsRow.kept h.p hg h.pf, World.ownsRow.kept h.b hg h.bf, h', h.pb, h.pf, h.bf, h.q.apart rfl rfl h.f_ hg (fun j hj => (h.pq j hj).2.2), h.pq, h.tp⟩
theorem neA : (3 : TypeId) ≠ 28 := by decide
/-- How many marks a machine takes. -/
def cntA (P B F : List Int) (R : Rw) : Nat := P.length + B.length + F.length + szRK R R.length
def mkP (P : List Int) : List Int := mk2 P 1 P.length
def mkBy (P B : List Int) : List Int := mk2 B (1 + P.length) B.length
def mkFl (P B F : List Int) : List Int := mk2 F (1 + P.length + B.length) F.length
def mkEn (P B F : List Int) (R : Rw) : Nat → List Int := mkW R (1 + P.length + B.length + F.length)
set_option maxRecDepth 100000 in
set_option maxHeartbeats 2000000 in
theorem markA_any (P B F : List Int) (R : Rw) (v0 v1 v2 v3 : Value) (Q : List Value) (base top : Nat) (w : World) (hl : szA P B F R ≤ 1048576) (hb : base ≤ w.heap.size) (h : OwnAQ w base top v0 v1 v2 v3 Q P B F R.length (rw_ R)) :
    Calls Try.prog 26 #[.agg #[v0, v1, v2, v3], .int .i64 1] w fun e w' => e = .returned (.int .i64 (1 + cntA P B F R)) ∧ OwnAQ w' base top v0 v1 v2 v3 Q (mkP P) (mkBy P B) (mkFl P B F) R.length (mkEn P B F R) ∧ Mid base top w w' := by
  have hlP : P.length ≤ 1048576 := by unfold szA at hl; omega
  have hlB : B.length ≤ 1048576 := by unfold szA at hl; omega
  have hlF : F.length ≤ 1048576 := by unfold szA at hl; omega
  have hlsum : P.length + B.length + F.length ≤ 1048576 := by unfold szA at hl; omega
  have HLR : Hid (szR R ≤ 1048576) := by unfold szA at hl; exact (by omega : szR R ≤ 1048576)
  have hlK : szRK R R.length ≤ 1048576 := Nat.le_trans (szRK_bd R _) HLR.out
  have A1 : ∀ o, Below w.heap.size w (w.alloc o) := fun o => (Below.refl _ _).alloc (Nat.le_refl _) o
  obtain ⟨a, ca, rfl⟩ := own_form' h.p
  obtain ⟨b, cb, rfl⟩ := own_form' h.b
  obtain ⟨c, cc, rfl⟩ := own_form' h.f_
  obtain ⟨e, ce, rfl⟩ := own_form' h.q.2.2.2.1
  have HO : Hid (∀ o, OwnAQ (w.alloc o) base top (.slice a P.length ca) (.slice b B.length cb) (.slice c F.length cc) (.slice e R.length ce) Q P B F R.length (rw_ R)) := fun o => h.keepB (A1 o)
  have HCNT : Hid ((1 : Int) + P.length + B.length + F.length + szRK R R.length = 1 + cntA P B F R) := (by unfold cntA; push_cast; omega : (1 : Int) + P.length + B.length + F.length + szRK R R.length = 1 + cntA P B F R)
  clear h hl
  go_enter Try.func26, Try.ntmps26
  go_wp2_with fail
  refine (mark_c 1 (by omega) (by omega) P _ _ base _ hlP (HO.out _).p).mono ?_
  rintro r w1 ⟨rfl, o1, g1⟩
  have hbl : (w.alloc (.cells #[.slice a P.length ca, .slice b B.length cb, .slice c F.length cc, .slice e R.length ce] 28)).heap[w.heap.size]? = some (.cells #[.slice a P.length ca, .slice b B.length cb, .slice c F.length cc, .slice e R.length ce] 28) := heap_last2 _ _ _ rfl
  have hbl1 := grown_blk g1 hbl (own_blk_ne hbl (HO.out _).p neA)
  have O1 : Hid (OwnAQ w1 base top (.slice a P.length ca) (.slice b B.length cb) (.slice c F.length cc) (.slice e R.length ce) Q (mkP P) B F R.length (rw_ R)) := (HO.out _).turn0 g1 (by unfold mkP; rw [mk2_len]; exact o1)
  have M1 : Hid (Mid base top w w1) := (Mid.below (A1 _) hb).trans (Mid.grown g1 (Nat.le_trans hb (A1 _).size) (fun g e => ⟨(World.ownsRow.lt (HO.out (.cells #[] 0)).p g e).1, (HO.out (.cells #[] 0)).tp.1 g e⟩))
  have hb1 : base ≤ w1.heap.size := Nat.le_trans hb M1.out.1.size
  have c1 : w1.cell? ⟨w.heap.size, 1, none⟩ = some (.slice b B.length cb) := cell_of hbl1 1
  have HBL1 : Hid _ := hbl1
  clear o1 g1 hbl HO hbl1
  go_wp2_with fail
  refine (mark_c (1 + P.length) (by omega) (by omega) B _ _ base _ hlB O1.out.b).mono ?_
  rintro r w2 ⟨rfl, o2, g2⟩
  have hbl2 := grown_blk g2 HBL1.out (own_blk_ne HBL1.out O1.out.b neA)
  have O2 : Hid (OwnAQ w2 base top (.slice a P.length ca) (.slice b B.length cb) (.slice c F.length cc) (.slice e R.length ce) Q (mkP P) (mkBy P B) F R.length (rw_ R)) := O1.out.turn1 g2 (by unfold mkBy; rw [mk2_len]; exact o2)
  have M2 : Hid (Mid base top w w2) := M1.out.trans (Mid.grown g2 hb1 (fun g e => ⟨(World.ownsRow.lt O1.out.b g e).1, O1.out.tp.2.1 g e⟩))
  have hb2 : base ≤ w2.heap.size := Nat.le_trans hb M2.out.1.size
  have c2 : w2.cell? ⟨w.heap.size, 2, none⟩ = some (.slice c F.length cc) := cell_of hbl2 2
  have HBL2 : Hid _ := hbl2
  clear o2 g2 hbl2 c1
  go_wp2_with fail
  refine (mark_c (1 + P.length + B.length) (by omega) (by omega) F _ _ base _ hlF O2.out.f_).mono ?_
  rintro r w3 ⟨rfl, o3, g3⟩
  have hbl3 := grown_blk g3 HBL2.out (own_blk_ne HBL2.out O2.out.f_ neA)
  have O3 : Hid (OwnAQ w3 base top (.slice a P.length ca) (.slice b B.length cb) (.slice c F.length cc) (.slice e R.length ce) Q (mkP P) (mkBy P B) (mkFl P B F) R.length (rw_ R)) := O2.out.turn2 g3 (by unfold mkFl; rw [mk2_len]; exact o3)
  have M3 : Hid (Mid base top w w3) := M2.out.trans (Mid.grown g3 hb2 (fun g e => ⟨(World.ownsRow.lt O2.out.f_ g e).1, O2.out.tp.2.2 g e⟩))
  have hb3 : base ≤ w3.heap.size := Nat.le_trans hb M3.out.1.size
  have c3 : w3.cell? ⟨w.heap.size, 3, none⟩ = some (.slice e R.length ce) := cell_of hbl3 3
  clear o3 g3 hbl3 c2
  have HI : Hid (∀ x y : World, ∀ j, j < R.length → (x.ownsRow base 3 1 (.slice a P.length ca) (mkP P).length (ints (mkP P)) ∧ x.ownsRow base 3 1 (.slice b B.length cb) (mkBy P B).length (ints (mkBy P B)) ∧ x.ownsRow base 3 1 (.slice c F.length cc) (mkFl P B F).length (ints (mkFl P B F))) → x.grownBy y (vd Q j).ownBlock → (y.ownsRow base 3 1 (.slice a P.length ca) (mkP P).length (ints (mkP P)) ∧ y.ownsRow base 3 1 (.slice b B.length cb) (mkBy P B).length (ints (mkBy P B)) ∧ y.ownsRow base 3 1 (.slice c F.length cc) (mkFl P B F).length (ints (mkFl P B F)))) := fun x y j hj hx hg =>
    ⟨World.ownsRow.kept hx.1 hg (O3.out.pq j hj).1, World.ownsRow.kept hx.2.1 hg (O3.out.pq j hj).2.1, World.ownsRow.kept hx.2.2 hg (O3.out.pq j hj).2.2⟩
  go_wp2_with fail
  refine (markSS_keep (fun x => x.ownsRow base 3 1 (.slice a P.length ca) (mkP P).length (ints (mkP P)) ∧ x.ownsRow base 3 1 (.slice b B.length cb) (mkBy P B).length (ints (mkBy P B)) ∧ x.ownsRow base 3 1 (.slice c F.length cc) (mkFl P B F).length (ints (mkFl P B F))) (1 + P.length + B.length + F.length) (by omega) (by omega) R _ _ _ Q [] [] base top _ HLR.out hb3 ⟨O3.out.p, O3.out.b, O3.out.f_⟩ HI.out O3.out.q).mono ?_
  rintro r w4 ⟨rfl, o4, m4, i4⟩
  have O4 : Hid (OwnAQ w4 base top (.slice a P.length ca) (.slice b B.length cb) (.slice c F.length cc) (.slice e R.length ce) Q (mkP P) (mkBy P B) (mkFl P B F) R.length (mkEn P B F R)) := ⟨i4.1, i4.2.1, i4.2.2, O3.out.pb, O3.out.pf, O3.out.bf, o4, O3.out.pq, O3.out.tp⟩
  have M4 : Hid (Mid base top w w4) := M3.out.trans m4
  clear o4 m4 i4 c3
  go_wp2
  go_ret
  exact ⟨by rw [← HCNT.out]; rfl, O4.out, M4.out⟩
end Go.Proofs.Ytdhppigjlldfmaa
namespace Go.Proofs.Ytdhppigjlldfmaa
open Go.ChangeShapes Go.WideShapes Go.ChangeAt Go.RowKit Go.Maps
def perB (L : List Int) : Bool := okL L && decide (L.length ≠ 0)
def perV (L : List Int) : Int := if perB L = true then (L.length : Int) - (bestK L (L.length - 1) (L.length - 1) : Nat) else 0
theorem bord_last {L : List Int} (h0 : L.length ≠ 0) : (bordL L L.length).getD (L.length - 1) 0 = (bestK L (L.length - 1) (L.length - 1) : Nat) := by
  have h : L.length - 1 < L.length := by omega
  simp [bordL, List.getD, h]
end Go.Proofs.Ytdhppigjlldfmaa
namespace Go.Proofs.Ytdhppigjlldfmaa
open Go.ChangeShapes Go.WideShapes Go.ChangeAt Go.RowKit Go.Maps
def wordB (M : List Int) : Bool := allG M && decide (1 ≤ M.length ∧ M.length ≤ 40)
theorem wordB_true {M : List Int} (h : wordB M = true) : allG M = true ∧ 1 ≤ M.length ∧ M.length ≤ 40 := by
  unfold wordB at h
  simpa [Bool.and_eq_true] using h
/-- Does a word begin at a place. -/
def begB8 (L M : List Int) (j : Nat) : Bool := decide ((L.drop j).take M.length = M)
/-- The places among the first k at which a word begins. -/
def plc (L M : List Int) (k : Nat) : List Int := ((List.range k).filter (begB8 L M)).map fun j => ((j : Nat) : Int)
theorem plc_yes {L M : List Int} {k : Nat} (h : begB8 L M k = true) : plc L M (k + 1) = plc L M k ++ [(k : Int)] := by simp [plc, List.range_succ, List.filter_append, h]
theorem plc_no {L M : List Int} {k : Nat} (h : begB8 L M k = false) : plc L M (k + 1) = plc L M k := by simp [plc, List.range_succ, List.filter_append, h]
theorem plc_len (L M : List Int) : ∀ k, (plc L M k).length ≤ k
  | 0 => by simp [plc]
  | k + 1 => by
    have := plc_len L M k
    cases h : begB8 L M k with
    | false => rw [plc_no h]; omega
    | true => rw [plc_yes h, List.length_append, List.length_singleton]; omega
def okP (L M : List Int) : Bool := okL L && wordB M
def plA (L M : List Int) : List Int := if okP L M = true then plc L M (L.length + 1 - M.length) else []
theorem okP_no {L M : List Int} (h : okP L M = false) : okP L M = false ∧ plA L M = [] := ⟨h, by unfold plA; rw [h]; rfl⟩
theorem okP_yes {L M : List Int} (h : okP L M = true) : okP L M = true ∧ plA L M = plc L M (L.length + 1 - M.length) := ⟨h, by unfold plA; rw [h]; rfl⟩
theorem plA_len (L M : List Int) (hl : L.length ≤ 1048576) : (plA L M).length ≤ 1048576 := by
  unfold plA
  split
  · rename_i h
    unfold okP at h
    rw [Bool.and_eq_true] at h
    have h1 := (okL_true h.1).2
    have := plc_len L M (L.length + 1 - M.length)
    omega
  · exact Nat.zero_le _
set_option maxRecDepth 100000 in
set_option maxHeartbeats 1000000 in
theorem sword_any (L : List Int) (ao : Option Addr) (cap : Nat) (w : World) (hl : L.length ≤ 1048576) (hA : IntsAt w ao L) :
    Calls Try.prog 39 #[.slice ao L.length cap] w fun e w' => e = .returned (.bool (wordB L)) ∧ Below w.heap.size w w' := by
  have HALL : Hid (Calls Try.prog 69 #[.slice ao L.length cap] w fun e w' => e = .returned (.bool (allG L && decide (L.length ≤ 1000))) ∧ Below w.heap.size w w') := all_any L ao cap w hl hA
  have HOK : Hid (wordB L = ((allG L && decide (L.length ≤ 1000)) && decide ((1 : Int) ≤ (L.length : Int) ∧ (L.length : Int) ≤ 40))) := (by
    unfold wordB
    cases allG L with
    | false => rfl
    | true =>
      by_cases h : 1 ≤ L.length ∧ L.length ≤ 40
      · rw [decide_eq_true h, decide_eq_true (show L.length ≤ 1000 by omega), decide_eq_true (show (1 : Int) ≤ (L.length : Int) ∧ (L.length : Int) ≤ 40 by omega)]; rfl
      · rw [decide_eq_false h, decide_eq_false (show ¬ ((1 : Int) ≤ (L.length : Int) ∧ (L.length : Int) ≤ 40) by omega), Bool.and_false, Bool.and_false] : wordB L = ((allG L && decide (L.length ≤ 1000)) && decide ((1 : Int) ≤ (L.length : Int) ∧ (L.length : Int) ≤ 40)))
  clear hA
  cases hg : (allG L && decide (L.length ≤ 1000))
  · rw [hg] at HALL HOK
    go_enter Try.func39, Try.ntmps39
    go_wp2_with fail
    refine Calls.mono HALL.out ?_
    rintro e w1 ⟨rfl, b1⟩
    go_wp2
    go_ret
    exact ⟨by rw [HOK.out] <;> rfl, b1⟩
  · rw [hg] at HALL HOK
    go_enter Try.func39, Try.ntmps39
    go_wp2_with fail
    refine Calls.mono HALL.out ?_
    rintro e w1 ⟨rfl, b1⟩
    have B1 : Hid (Below w.heap.size w w1) := b1
    clear b1
    go_wp2_with fail
    refine (in_any _ _ _ _).mono ?_
    rintro e w2 ⟨rfl, rfl⟩
    go_wp2
    go_ret
    exact ⟨by rw [HOK.out]; exact ret_bool (by rw [Bool.true_and, Bool.decide_and]), B1.out⟩
/-- The state behind the first k runes. -/
def stN (Q : List Sq) (E : Ed) (L : List Int) : Nat → Nat
  | 0 => 0
  | k + 1 => stepN Q E (stN Q E L k) (L.getD k 0)
theorem stepF_same {Q Q' : List Sq} (h : SameQ Q Q') (E : Ed) (r : Int) : ∀ f s, stepF Q' E r f s = stepF Q E r f s
  | 0, _ => rfl
  | f + 1, s => by
    have e : failN Q' s = failN Q s := by unfold failN; rw [(h.2 s).2.2.2]
    rw [stepF, stepF, e]
    cases E s r with
    | some j => rfl
    | none =>
      dsimp only
      rw [stepF_same h E r f]
theorem stepN_same {Q Q' : List Sq} (h : SameQ Q Q') (E : Ed) (s : Nat) (r : Int) : stepN Q' E s r = stepN Q E s r := stepF_same h E r _ _
theorem run_longest {Q : List Sq} {E : Ed} {S : Nat → Lst} (h : TrieOk Q E S) {x : Lst} {s : Nat} (hs : Longest Q.length S x s) (r : Int) : Longest Q.length S (x ++ [r]) (stepN Q E s r) := by
  obtain ⟨s1, s2, s3⟩ := hs
  obtain ⟨l1, l2, l3⟩ := step_longest h r s s1
  refine ⟨l1, l2.trans (suf_both s2 r), fun i hi hsuf => ?_⟩
  by_cases hi0 : S i = []
  · rw [hi0]; exact Nat.zero_le _
  · obtain ⟨u, hu, hu2⟩ := suf_snoc hsuf hi0
    have i0 : 0 < i := by
      rcases Nat.eq_zero_or_pos i with rfl | h0
      · exact absurd h.root hi0
      · exact h0
    obtain ⟨p, b, hp, hpb⟩ := h.up i i0 hi
    have hpb' := hpb
    rw [hu] at hpb
    obtain ⟨rfl, rfl⟩ := snoc_inj hpb
    refine l3 i hi ?_
    rw [hu]
    exact suf_both (List.suffix_of_suffix_length_le hu2 s2 (s3 p (by omega) hu2)) r
theorem stN_longest {Q : List Sq} {E : Ed} {S : Nat → Lst} (h : TrieOk Q E S) (L : List Int) : ∀ k, k ≤ L.length → Longest Q.length S (L.take k) (stN Q E L k)
  | 0, _ => by
    refine ⟨h.inv.1, by rw [stN, h.root]; exact List.nil_suffix, fun i hi hs => ?_⟩
    rw [List.take_zero] at hs
    rw [List.suffix_nil.1 hs]
    exact Nat.zero_le _
  | k + 1, hk => by
    rw [take_snocI L k (by omega)]
    exact run_longest h (stN_longest h L k (by omega)) _
/-- The whole word's state is met just where the word ends. -/
theorem st_word (M L : List Int) (r : Int) (h40 : M.length ≤ 40) (k : Nat) (hk : k ≤ L.length) : stN (outT [M] r 120).1 (outT [M] r 120).2.1 L k ≤ M.length ∧ (stN (outT [M] r 120).1 (outT [M] r 120).2.1 L k = M.length ↔ M <:+ L.take k) := by
  obtain ⟨h1, -, h3⟩ := one_run M r 120
  rw [show min 120 M.length = M.length by omega] at h1
  obtain ⟨l1, l2, l3⟩ := stN_longest h3 L k hk
  refine ⟨by omega, fun e => ?_, fun hs => ?_⟩
  · rw [e] at l2
    simpa using l2
  · have := l3 M.length (by omega) (by simpa using hs)
    simp only [List.length_take] at this
    omega
theorem suf_beg {L M : List Int} {i : Nat} (hi : i < L.length) : (M <:+ L.take (i + 1)) ↔ (M.length ≤ i + 1 ∧ begB8 L M (i + 1 - M.length) = true) := by
  have l2 : (L.take (i + 1)).length = i + 1 := by rw [List.length_take]; omega
  unfold begB8
  rw [decide_eq_true_eq]
  constructor
  · intro h
    have hl := h.length_le
    rw [l2] at hl
    refine ⟨hl, ?_⟩
    have := List.suffix_iff_eq_drop.1 h
    rw [l2, List.drop_take, show i + 1 - (i + 1 - M.length) = M.length by omega] at this
    exact this.symm
  · rintro ⟨hl, h⟩
    rw [List.suffix_iff_eq_drop, l2, List.drop_take, show i + 1 - (i + 1 - M.length) = M.length by omega]
    exact h.symm
end Go.Proofs.Ytdhppigjlldfmaa
namespace Go.Proofs.Ytdhppigjlldfmaa
open Go.ChangeShapes Go.WideShapes Go.ChangeAt Go.RowKit Go.Maps
set_option maxRecDepth 100000 in
set_option maxHeartbeats 1000000 in
theorem iword_any (L : List Int) (ao : Option Addr) (cap : Nat) (w : World) (hl : L.length ≤ 1048576) (hA : IntsAt w ao L) :
    Calls Try.prog 37 #[.slice ao L.length cap] w fun e w' => e = .returned (.bool (wordB L)) ∧ w' = w := by
  have HALL : Hid (Calls Try.prog 65 #[.slice ao L.length cap] w fun e w' => e = .returned (.bool (allG L)) ∧ w' = w) := iall3_any L ao cap w hl hA
  clear hA
  by_cases h0 : L.length = 0
  · have HO : Hid (wordB L = false) := (by unfold wordB; rw [decide_eq_false (by omega), Bool.and_false] : wordB L = false)
    have hI : ¬ 0 < L.length := by omega
    clear h0
    go_enter Try.func37, Try.ntmps37
    go_wp2
    go_ret
    exact ⟨by rw [HO.out] <;> rfl, rfl⟩
  · have hI : 0 < L.length := by omega
    by_cases h40 : L.length ≤ 40
    · have HO : Hid (wordB L = allG L) := (by unfold wordB; rw [decide_eq_true (by omega), Bool.and_true] : wordB L = allG L)
      have hI2 : decide ((L.length : Int) ≤ 40) = true := decide_eq_true (by omega)
      clear h0 h40
      generalize hga : allG L = ga at HALL HO
      cases ga
      all_goals
        go_enter Try.func37, Try.ntmps37
        go_wp2_with fail
        refine Calls.mono HALL.out ?_
        rintro e w1 ⟨rfl, rfl⟩
        go_wp2
        go_ret
        exact ⟨by rw [HO.out] <;> rfl, rfl⟩
    · have HO : Hid (wordB L = false) := (by unfold wordB; rw [decide_eq_false (by omega), Bool.and_false] : wordB L = false)
      have hI2 : decide ((L.length : Int) ≤ 40) = false := decide_eq_false (by omega)
      clear h0 h40
      go_enter Try.func37, Try.ntmps37
      go_wp2
      go_ret
      exact ⟨by rw [HO.out] <;> rfl, rfl⟩
set_option maxRecDepth 100000 in
set_option maxHeartbeats 4000000 in
theorem iplacesOf_any (L M : List Int) (ao bo : Option Addr) (ca cb : Nat) (w : World) (hl : L.length ≤ 1048576) (hm : M.length ≤ 1048576) (hA : IntsAt w ao L) (hB : IntsAt w bo M) :
    Calls Try.prog 14 #[.slice ao L.length ca, .slice bo M.length cb] w fun e w' => ∃ v, e = .returned (.tuple #[v, .bool (okP L M)]) ∧ w'.ownsRow w.heap.size 3 1 v (plA L M).length (ints (plA L M)) ∧ Below w.heap.size w w' := by
  have HLI : Hid (Calls Try.prog 47 #[.slice ao L.length ca] w fun e w' => e = .returned (.bool (okL L)) ∧ w' = w) := istream_any L ao ca w hl hA
  have HWO : Hid (Calls Try.prog 37 #[.slice bo M.length cb] w fun e w' => e = .returned (.bool (wordB M)) ∧ w' = w) := iword_any M bo cb w hm hB
  have HA : Hid _ := hA
  cases hg : okL L
  · have HP : Hid (okP L M = false ∧ plA L M = []) := okP_no (by unfold okP; rw [hg]; rfl)
    rw [hg] at HLI
    clear hg hA hB
    go_enter Try.func14, Try.ntmps14
    go_wp2_with fail
    refine Calls.mono HLI.out ?_
    rintro e w1 ⟨rfl, rfl⟩
    go_wp2
    go_ret2
    exact ⟨_, by rw [HP.out.1] <;> rfl, by rw [HP.out.2]; exact World.ownsRow_nil _ _ _ _, Below.refl _ _⟩
  · rw [hg] at HLI
    cases hw : wordB M
    · have HP : Hid (okP L M = false ∧ plA L M = []) := okP_no (by unfold okP; rw [hg, hw]; rfl)
      rw [hw] at HWO
      clear hg hw hA hB
      go_enter Try.func14, Try.ntmps14
      go_wp2_with fail
      refine Calls.mono HLI.out ?_
      rintro e w1 ⟨rfl, rfl⟩
      go_wp2_with fail
      refine Calls.mono HWO.out ?_
      rintro e w2 ⟨rfl, rfl⟩
      go_wp2
      go_ret2
      exact ⟨_, by rw [HP.out.1] <;> rfl, by rw [HP.out.2]; exact World.ownsRow_nil _ _ _ _, Below.refl _ _⟩
    · have HP : Hid (okP L M = true ∧ plA L M = plc L M (L.length + 1 - M.length)) := okP_yes (by unfold okP; rw [hg, hw]; rfl)
      rw [hw] at HWO
      obtain ⟨hall, h120⟩ := okL_true hg
      obtain ⟨hallM, h1, h40⟩ := wordB_true hw
      have HALLG : Hid (allG L = true) := hall
      have HT2 : Hid _ := fun o => trieOf_any (-1) [M] (some ⟨w.heap.size, 0, none⟩) 1 (w.alloc (.cells #[.slice bo M.length cb] o)) (fun j hj => by
        obtain rfl : j = 0 := by simp at hj; omega
        exact ⟨w.heap.size, 0, bo, cb, rfl, by simp, cell_of (heap_last2 w _ _ rfl) 0, IntsAt.keepB hB (al_W w _)⟩) (by simp) (one_wf hallM) (fun k => by
        cases k with
        | zero => show M.length ≤ _; omega
        | succ k => exact Nat.zero_le _)
      have HTO : Hid (∀ o, Calls Try.prog 38 #[.int .i64 (-1), .slice (some ⟨w.heap.size, 0, none⟩) 1 1] (w.alloc (.cells #[.slice bo M.length cb] o)) fun e w' => ∃ tb Q', e = .returned (.pointer (some ⟨tb, 0, none⟩)) ∧ SameQ (outT [M] (-1) 120).1 Q' ∧ TrieAt w' (w.alloc (.cells #[.slice bo M.length cb] o)).heap.size tb Q' (outT [M] (-1) 120).2.1 ∧ EndsW w' (w.alloc (.cells #[.slice bo M.length cb] o)).heap.size Q' (endsK [M] (-1) 1) ∧ Below (w.alloc (.cells #[.slice bo M.length cb] o)).heap.size (w.alloc (.cells #[.slice bo M.length cb] o)) w') := HT2.out
      obtain ⟨r1, -, r3⟩ := one_run M (-1) 120
      rw [show min 120 M.length = M.length by omega] at r1
      have HR1 : Hid ((outT [M] (-1) 120).1.length = M.length + 1) := r1
      have HR3 : Hid (FailOk (outT [M] (-1) 120).1) := r3.inv.2.1
      have HSTW : Hid (∀ k, k ≤ L.length → stN (outT [M] (-1) 120).1 (outT [M] (-1) 120).2.1 L k ≤ M.length ∧ (stN (outT [M] (-1) 120).1 (outT [M] (-1) 120).2.1 L k = M.length ↔ M <:+ L.take k)) := fun k hk => st_word M L (-1) h40 k hk
      generalize hQ0 : (outT [M] (-1) 120).1 = Q0 at HTO HR1 HR3 HSTW
      generalize hE0 : (outT [M] (-1) 120).2.1 = E0 at HTO HSTW
      obtain ⟨n, hn⟩ : ∃ n, n = L.length := ⟨_, rfl⟩
      obtain ⟨m, hmM⟩ : ∃ m, m = M.length := ⟨_, rfl⟩
      have HN : Hid (n = L.length) := hn
      have HMM : Hid (m = M.length) := hmM
      rw [← hn] at HLI h120 HP ⊢
      rw [← hmM] at HWO h1 h40 HP HTO HR1 ⊢
      clear hg hw hn hmM hl hm hA hB hall hallM r1 r3 hQ0 hE0 HT2
      go_enter Try.func14, Try.ntmps14
      go_wp2_with fail
      refine Calls.mono HLI.out ?_
      rintro e w1 ⟨rfl, rfl⟩
      go_wp2_with fail
      refine Calls.mono HWO.out ?_
      rintro e w2 ⟨rfl, rfl⟩
      go_wp2_with fail
      refine Calls.mono (HTO.out _) ?_
      rintro e w4 ⟨tb, Q', rfl, hs, hT, -, b4⟩
      have SQ : Hid (SameQ Q0 Q') := hs
      have T4 : Hid (TrieAt w4 (w2.alloc (.cells #[.slice bo m cb] 26)).heap.size tb Q' E0) := hT
      have B4 : Hid (Below w2.heap.size w2 w4) := (al_W w2 _).trans (b4.mono (al_W w2 _).size)
      clear hs hT b4
      go_wp2
      go_loopw [24, 7, 8] (fun i v s wr => ∃ k : Nat, k ≤ n ∧ i = .int .i64 k ∧ s = .int .i64 (stN Q0 E0 L k : Nat) ∧ wr.ownsRow w2.heap.size 3 1 v (plc L M (k + 1 - m)).length (ints (plc L M (k + 1 - m))) ∧ TrieAt wr (w2.alloc (.cells #[.slice bo m cb] 26)).heap.size tb Q' E0 ∧ Below w2.heap.size w2 wr) (fun i _ _ _ => n - (intOf i).toNat)
      case atStart => exact ⟨0, Nat.zero_le _, rfl, rfl, by rw [show 0 + 1 - m = 0 by omega]; exact World.ownsRow_nil _ _ _ _, T4.out, B4.out⟩
      case round =>
        obtain ⟨k, hk, rfl, rfl, hO, hT, hB9⟩ := hrel
        obtain ⟨av, cv, rfl⟩ := own_slice hO
        have HO : Hid _ := hO
        have HTT : Hid _ := hT
        have HB9 : Hid (Below w2.heap.size w2 wr) := hB9
        clear hO hT hB9 T4 B4
        by_cases hlt : k < n
        · have hltI : (k : Int) < (n : Int) := by omega
          obtain ⟨b1, o1, rfl, l1, g1⟩ := HA.out k (by have := HN.out; omega)
          have g1' : wr.cell? ⟨b1, o1 + k, none⟩ = some (.int .i64 (L.getD k 0)) := (HB9.out.cell (p := ⟨b1, o1 + k, none⟩) l1).trans g1
          have hkL : k < L.length := by have := HN.out; omega
          have HGW : wf64 (L.getD k 0) := goodB_wf (allG_at HALLG.out hkL)
          obtain ⟨hs1, -⟩ := HSTW.out k (by omega)
          obtain ⟨hs2, hs3⟩ := HSTW.out (k + 1) (by omega)
          have HSTEP : Hid (Calls Try.prog 49 #[.pointer (some ⟨tb, 0, none⟩), .int .i64 (stN Q0 E0 L k : Nat), .int .i64 (L.getD k 0)] wr fun e w' => e = .returned (.int .i64 (stN Q0 E0 L (k + 1) : Nat)) ∧ w' = wr) := by
            have := step_any _ tb (stN Q0 E0 L k) (L.getD k 0) Q' E0 wr HTT.out (fun j j0 hj => by rw [SQ.out.1] at hj; rw [(SQ.out.2 j).2.2.2]; exact HR3.out j j0 hj) (by rw [SQ.out.1, HR1.out]; have := HMM.out; omega) (by rw [SQ.out.1, HR1.out]; omega) HGW
            rw [stepN_same SQ.out] at this
            exact this
          have hsb := suf_beg (L := L) (M := M) hkL
          generalize hx : L.getD k 0 = x at g1' HSTEP
          generalize hst : stN Q0 E0 L k = st at HSTEP hs1
          generalize hst2 : stN Q0 E0 L (k + 1) = st2 at HSTEP hs2 hs3
          have HST2 : Hid _ := hst2
          rw [← HMM.out] at hs2 hs3 hsb
          by_cases he : st2 = m
          · have heb : ((st2 : Int) == (m : Int)) = true := by simp [he]
            obtain ⟨hle, hbg⟩ := hsb.1 (hs3.1 he)
            have HPL : Hid ((plc L M (k + 1 + 1 - m)).length = (plc L M (k + 1 - m)).length + 1 ∧ ints (plc L M (k + 1 + 1 - m)) = ints (plc L M (k + 1 - m)) ++ ints [(k : Int) + 1 - m]) := by
              have e : k + 1 + 1 - m = (k + 1 - m) + 1 := by omega
              have e2 : ((k + 1 - m : Nat) : Int) = (k : Int) + 1 - m := by omega
              rw [e, plc_yes hbg, e2]
              exact ⟨by rw [List.length_append, List.length_singleton], by simp [ints]⟩
            have hw1 : IntKind.i64.wrap ((k : Int) + 1) = (k : Int) + 1 := IntWalk.i64_in _ (by omega)
            have hw2 : IntKind.i64.wrap ((k : Int) + 1 - m) = (k : Int) + 1 - m := IntWalk.i64_in _ (by omega)
            have HLN : Hid ((plc L M (k + 1 - m)).length ≤ 1000) := Nat.le_trans (plc_len L M _) (by omega)
            have EO : Hid (∀ o, (wr.alloc o).ownsRow w2.heap.size 3 1 (.slice av (plc L M (k + 1 - m)).length cv) (plc L M (k + 1 - m)).length (ints (plc L M (k + 1 - m)))) := fun o => World.ownsRow.keepB HO.out (al_W _ o)
            have HZ : Hid (∀ o, w2.heap.size ≤ (wr.alloc o).heap.size) := fun o => Nat.le_trans HB9.out.size (al_W wr o).size
            have PUSH : Hid (∀ o v' w3, w3.ownsRow w2.heap.size 3 1 v' ((plc L M (k + 1 - m)).length + 1) (ints (plc L M (k + 1 - m)) ++ ints [(k : Int) + 1 - m]) → (wr.alloc o).grownBy w3 (Value.ownBlock (.slice av (plc L M (k + 1 - m)).length cv)) → w3.ownsRow w2.heap.size 3 1 v' (plc L M (k + 1 + 1 - m)).length (ints (plc L M (k + 1 + 1 - m))) ∧ TrieAt w3 (w2.alloc (.cells #[.slice bo m cb] 26)).heap.size tb Q' E0 ∧ Below w2.heap.size w2 w3) := fun o v' w3 hr hg =>
              ⟨by rw [HPL.out.1, HPL.out.2]; exact hr, TrieAt.turn (TrieAt.keepB HTT.out (al_W wr o)) hg (fun B hB' => by
                obtain ⟨cs, hcs⟩ := own_is (EO.out o) hB'
                exact ⟨cs, _, hcs, by decide, by decide⟩), Below.grown (HB9.out.trans ((al_W wr o).mono HB9.out.size)) hg (HZ.out o) (fun B hB' => (World.ownsRow.lt HO.out B hB').1)⟩
            clear hs1 hs2 hs3 hsb hbg he hx hst hst2 HGW g1 l1
            go_wp2_with fail
            refine Calls.mono HSTEP.out ?_
            rintro e w3 ⟨rfl, rfl⟩
            go_wp2_with (at_builtin; refine wpA _ rfl (.tmp 37) (.tmp 43) rfl w2.heap.size (.slice av (plc L M (k + 1 - m)).length cv) (plc L M (k + 1 - m)).length (ints (plc L M (k + 1 - m))) rfl (EO.out _) (some ⟨w3.heap.size, 0, none⟩) [(k : Int) + 1 - m] 1 1 rfl rfl (ints_new _ _ 3 _ rfl) (by have := HLN.out; omega) (HZ.out _) ?_; intro v' w5 hr hg hat; have RS : Hid _ := PUSH.out _ v' w5 hr hg; clear hr hg hat)
            go_wp2
            go_roundw
            case rel => exact ⟨k + 1, by omega, by go_num, by rw [HST2.out], RS.out⟩
            case measure => simp [intOf]; omega
          · have heb : ((st2 : Int) == (m : Int)) = false := by simp; omega
            have HPL : Hid (plc L M (k + 1 + 1 - m) = plc L M (k + 1 - m)) := by
              show _ = _
              by_cases hmk : m ≤ k + 1
              · have e : k + 1 + 1 - m = (k + 1 - m) + 1 := by omega
                rw [e]
                refine plc_no ?_
                cases hb : begB8 L M (k + 1 - m) with
                | false => rfl
                | true => exact absurd (hs3.2 (hsb.2 ⟨hmk, hb⟩)) he
              · rw [show k + 1 + 1 - m = 0 by omega, show k + 1 - m = 0 by omega]
            have RS : Hid (wr.ownsRow w2.heap.size 3 1 (.slice av (plc L M (k + 1 - m)).length cv) (plc L M (k + 1 + 1 - m)).length (ints (plc L M (k + 1 + 1 - m))) ∧ TrieAt wr (w2.alloc (.cells #[.slice bo m cb] 26)).heap.size tb Q' E0 ∧ Below w2.heap.size w2 wr) := ⟨by rw [HPL.out]; exact HO.out, HTT.out, HB9.out⟩
            clear hs1 hs2 hs3 hsb he hx hst hst2 HGW g1 l1
            go_wp2_with fail
            refine Calls.mono HSTEP.out ?_
            rintro e w3 ⟨rfl, rfl⟩
            go_wp2
            go_roundw
            case rel => exact ⟨k + 1, by omega, by go_num, by rw [HST2.out], RS.out⟩
            case measure => simp [intOf]; omega
        · obtain rfl : k = n := by omega
          have HR : Hid (wr.ownsRow w2.heap.size 3 1 (.slice av (plc L M (k + 1 - m)).length cv) (plA L M).length (ints (plA L M))) := by rw [HP.out.2]; exact HO.out
          go_wp2
          go_ret2
          exact ⟨_, by rw [HP.out.1] <;> rfl, HR.out, HB9.out⟩
end Go.Proofs.Ytdhppigjlldfmaa
namespace Go.Proofs.Ytdhppigjlldfmaa
open Go.ChangeShapes Go.WideShapes Go.ChangeAt Go.RowKit
def smallDL : List Int := [97, 98, 97, 98, 99, 12354]
theorem amongS (W0 : World) (S : Nat) (hS : S = W0.heap.size) (B b : Nat) (ao : Option Addr) (n cap k : Nat) (hk : k ≤ 900) (h : Cur W0 B b ao n cap k) :
    Calls Try.prog 54 #[.pointer (some ⟨b, 0, none⟩), .slice (some ⟨S, 0, none⟩) 6 6] (W0.alloc (.cells #[.int .i64 97, .int .i64 98, .int .i64 97, .int .i64 98, .int .i64 99, .int .i64 12354] 3)) fun e w' => ∃ (r : Int) (k' : Nat), e = .returned (.int .i64 r) ∧ k' ≤ k + 2 ∧ Cur w' B b ao n cap k' ∧ W0.grownBy w' (some b) := by
  subst hS
  have hb : b < W0.heap.size := Nat.lt_of_lt_of_le h.lt h.le
  have HV := vals_new W0 b hb _ (ints smallDL) rfl 3
  have HB : Below W0.heap.size W0 (W0.alloc (.cells (ints smallDL).toArray 3)) := (Below.refl _ _).alloc (Nat.le_refl _) _
  refine (among_any smallDL _ 6 B b ao n cap k _ hk (by decide) (by decide) HV (Cur.below h HB)).mono ?_
  rintro e w1 ⟨r, k', rfl, -, hk', C1, g1⟩
  exact ⟨r, k', rfl, hk', C1, grown_trans' (grown_of_below HB (some b)) g1⟩
set_option maxRecDepth 100000 in
set_option maxHeartbeats 1000000 in
theorem csmall_any (M : Nat) (B b : Nat) (ao : Option Addr) (n cap k : Nat) (w : World) (hM : M ≤ 100) (hk : k ≤ 500) (h : Cur w B b ao n cap k) :
    Calls Try.prog 45 #[.pointer (some ⟨b, 0, none⟩), .int .i64 M] w fun e w' => ∃ (v : Value) (L : List Int) (k' : Nat), e = .returned v ∧ L.length ≤ M ∧ k' ≤ k + 2 + 2 * M ∧ Cur w' B b ao n cap k' ∧ w'.ownsRow w.heap.size 3 1 v L.length (ints L) ∧ w.grownBy w' (some b) := by
  obtain ⟨i0, hi, hz0, hz1, hz2⟩ := info_parts Try.info3
  have hbw : b < w.heap.size := Nat.lt_of_lt_of_le h.lt h.le
  have HBW : Hid _ := h.le
  have HC : Hid _ := h
  clear h
  go_enter Try.func45, Try.ntmps45
  go_wp2_with fail
  refine (pick_any ((M : Int) + 1) B b ao n cap k _ (by omega) HC.out).mono ?_
  rintro e w1 ⟨r, k1, rfl, p0, p1, hk1, C1, g1⟩
  obtain ⟨m0, rfl⟩ := Int.eq_ofNat_of_zero_le p0
  have hm0 : m0 ≤ M := by omega
  have HC1 : Hid _ := C1
  have G1 : Hid _ := g1
  clear C1 g1 p0 p1
  go_wp2
  go_loopw [5, 6] (fun v i wr => ∃ (m k' : Nat) (L : List Int), i = .int .i64 m ∧ L.length + m ≤ M ∧ k' + 2 * m ≤ k + 2 + 2 * M ∧ Cur wr B b ao n cap k' ∧ wr.ownsRow w.heap.size 3 1 v L.length (ints L) ∧ w.grownBy wr (some b)) (fun _ i _ => (intOf i).toNat)
  case atStart => exact ⟨m0, k1, [], rfl, by simpa using hm0, by omega, HC1.out, World.ownsRow_nil _ _ _ _, G1.out⟩
  case round =>
    obtain ⟨m, k', L, rfl, hlm, hk', C2, own2, g2⟩ := hrel
    have HC2 : Hid _ := C2
    have OW2 : Hid _ := own2
    have G2 : Hid _ := g2
    clear C2 own2 g2
    by_cases hlt : 0 < m
    · have hltI : (0 : Int) < (m : Int) := by omega
      obtain ⟨m', rfl⟩ : ∃ m', m = m' + 1 := ⟨m - 1, by omega⟩
      go_wp2_with fail
      refine (amongS _ _ rfl B b ao n cap k' (by omega) HC2.out).mono ?_
      rintro e w3 ⟨x, k3, rfl, hk3, C3, g3⟩
      have hown3 := World.ownsRow.kept OW2.out g3 (own_ne_cur OW2.out hbw)
      have HC3 : Hid _ := C3
      have G3 : Hid _ := grown_trans' G2.out g3
      have hsz : w.heap.size ≤ w3.heap.size := G3.out.size
      clear C3 g3
      go_wp2_with (at_builtin; refine wpList_append_own _ rfl _ _ 26 rfl w.heap.size 3 i0 (.int .i64 0) 1 8 Try.underlying26 hi hz0 hz1 hz2 rfl (by decide) _ _ _ rfl (hown3.alloc _) ⟨w3.heap.size, 0, none⟩ 1 1 [.int .i64 x] rfl rfl ?c1 ?c2 ?c3 ?c4 ?c5 ?_)
      case c1 => exact cell_one_new _ _ _
      case c2 => intro u hu; simp at hu; subst hu; rfl
      case c3 => unfold maxLen; omega
      case c4 => omega
      case c5 => simp; omega
      intro v' w4 hown4 hgrow _
      have hal : Below w3.heap.size w3 (w3.alloc (.cells #[.int .i64 x] 3)) := (Below.refl _ _).alloc (Nat.le_refl _) _
      have HC4 : Hid (Cur w4 B b ao n cap k3) := Cur.grown (Cur.below HC3.out hal) hgrow (fun g hg => by have := (hown3.lt g hg).1; have := HBW.out; omega)
      have G4 : Hid (w.grownBy w4 (some b)) := by
        have ga := grown_trans' G3.out (grown_of_below hal (some b))
        exact ⟨hgrow.os.trans ga.os, hgrow.tape.trans ga.tape, hgrow.output.trans ga.output, Nat.le_trans ga.size hgrow.size, fun i hi hn => (hgrow.block i (Nat.lt_of_lt_of_le hi ga.size) (fun e => by have := (hown3.lt i e.symm).1; omega)).trans (ga.block i hi hn)⟩
      have OW4 : Hid (w4.ownsRow w.heap.size 3 1 v' (L ++ [x]).length (ints (L ++ [x]))) := by
        show w4.ownsRow w.heap.size 3 1 v' (L ++ [x]).length (ints (L ++ [x]))
        simpa [ints] using hown4
      clear hown4 hgrow hown3 hal
      go_wp2
      go_roundw
      case rel => exact ⟨m', k3, L ++ [x], by go_num, by simp; omega, by omega, HC4.out, OW4.out, G4.out⟩
      case measure => simp [intOf]
    · obtain rfl : m = 0 := by omega
      go_wp2
      go_ret
      exact ⟨_, L, k', rfl, by omega, by omega, HC2.out, OW2.out, G2.out⟩
set_option maxRecDepth 100000 in
/-- An own row behind which ints are laid is still read where it stood. -/
theorem run_append_keep (w : World) (base : Nat) (ty : TypeId) (g n cp : Nat) (L : List Int) (hL : L.length = n) (hown : w.ownsRow base 3 1 (.slice (some ⟨g, 0, none⟩) n cp) n (ints L)) (gb go' : Nat) (M : List Int) (m cap : Nat) (hm : m = M.length) (hA : IntsAt w (some ⟨gb, go', none⟩) M) (hlen : n + m ≤ 4000000) (hbase : base ≤ w.heap.size) :
    ∃ v' w', (Builtin.append_ #[26, 26] ty #[.slice (some ⟨g, 0, none⟩) n cp, .slice (some ⟨gb, go', none⟩) m cap]).run Try.prog w = .ok v' w' ∧ w'.ownsRow base 3 1 v' (n + m) (ints L ++ ints M) ∧ w.grownBy w' (some g) ∧ IntsAt w' (some ⟨g, 0, none⟩) L := by
  obtain ⟨v', w', hr, ho, hg, hat⟩ := run_append_ints w base ty _ n (ints L) hown (some ⟨gb, go', none⟩) M m cap hm hA hlen hbase
  refine ⟨v', w', hr, ho, hg, ?_⟩
  obtain ⟨i0, hi, hz0, hz1, hz2⟩ := info_parts Try.info3
  have hlI : (ints M).length = m * 1 := by simp [ints, hm]
  have hlL : (ints L).length = n := by simp [ints, hL]
  have hnews : ∀ j u, (ints M)[j]? = some u → w.cell? ((⟨gb, go', none⟩ : Addr).add j) = some u := fun j u hj => by
    have hjl : j < M.length := by
      have := (List.getElem?_eq_some_iff.1 hj).1
      simpa [ints] using this
    obtain ⟨b, off, e, -, h3⟩ := hA j hjl
    simp only [Option.some.injEq, Addr.mk.injEq, and_true] at e
    obtain ⟨rfl, rfl⟩ := e
    have e2 : u = .int .i64 (M.getD j 0) := by
      simp only [ints, List.getElem?_map, List.getElem?_eq_getElem hjl, Option.map_some, Option.some.injEq] at hj
      rw [← hj]
      simp [List.getD, hjl]
    rw [e2, ← h3]
    congr 1
    unfold Addr.add
    split
    · simp
    · rfl
  have hone : ∀ u ∈ ints M, u.oneCell' = true := fun u hu => by
    obtain ⟨x, -, rfl⟩ := List.mem_map.1 hu
    rfl
  have lt := World.ownsRow.lt hown g rfl
  have keep : (∀ j, j < n → w'.cell? ⟨g, j, none⟩ = w.cell? ⟨g, j, none⟩) → IntsAt w' (some ⟨g, 0, none⟩) L := fun h j hj => by
    refine ⟨g, 0, rfl, Nat.lt_of_lt_of_le lt.2 hg.size, ?_⟩
    rw [Nat.zero_add, h j (by omega), World.ownsRow.cellAt hown j (by omega)]
    simp [ints, List.getD, hj]
  by_cases hroom : n + m ≤ cp
  · rcases hown.2 with ⟨h, -⟩ | ⟨g', c', cur, e, k1, k2, k3, k4, k5, k6⟩
    · cases h
    · simp only [Value.slice.injEq, Option.some.injEq, Addr.mk.injEq, and_true, true_and] at e
      obtain ⟨rfl, rfl⟩ := e
      have hr2 := run_append_room_cells (P := Try.prog) w 26 ty 3 i0 Try.underlying26 hi g 0 n cp ⟨gb, go', none⟩ m cap (ints M) (by rw [hz1]; exact hlI) hnews hone hroom (fun j hj => by
        have : 0 + n * 1 + j < cur.size := by rw [hlI] at hj; omega
        rw [cell_of k2, hz1, Array.getElem?_eq_getElem this]
        rfl) (fun j hj => frozen_of_row w _ _ _ _ k2)
      rw [hr] at hr2
      simp only [Result.ok.injEq] at hr2
      obtain ⟨rfl, -⟩ := hr2
      refine keep fun j hj => ?_
      rw [World.ownsRow.cellAt ho j (by omega), World.ownsRow.cellAt hown j (by omega), List.getElem?_append_left (by omega)]
  · have holds : ∀ j u, (ints L)[j]? = some u → w.cell? ((⟨g, 0, none⟩ : Addr).add j) = some u := hown.cells (g := g) rfl
    obtain ⟨v2, w2, hr2, -, hg2⟩ := run_append_arg_grows (P := Try.prog) w 26 ty 3 i0 (.int .i64 0) 1 8 Try.underlying26 hi hz0 hz1 hz2 rfl (by decide) ⟨g, 0, none⟩ n cp (ints L) hown.1 holds ⟨gb, go', none⟩ m cap (ints M) hlI hnews (by omega) (by unfold maxLen; omega) (by omega)
    rw [hr] at hr2
    simp only [Result.ok.injEq] at hr2
    obtain ⟨rfl, rfl⟩ := hr2
    exact keep fun j _ => World.cell?_of_block (hg2.block g lt.2 (by simp))
theorem wpK (w : World) {ops : Array Oper} {rest : List Oper} {o : Oper} {a : Act} {Q : Exit → Act → World → Prop} (hgd : o.guard = none) (s x : Operand)
    (ho : o.op = .call { callee := .builtin .append, args := #[s, x], argTypes := #[26, 26] })
    (base : Nat) (g n cp : Nat) (L : List Int) (hL : L.length = n) (hs : a.eval s = .slice (some ⟨g, 0, none⟩) n cp) (hown : w.ownsRow base 3 1 (.slice (some ⟨g, 0, none⟩) n cp) n (ints L)) (gb go' : Nat) (M : List Int) (m cap : Nat) (hx : a.eval x = .slice (some ⟨gb, go', none⟩) m cap) (hm : m = M.length) (hA : IntsAt w (some ⟨gb, go', none⟩) M)
    (hlen : n + m ≤ 4000000) (hbase : base ≤ w.heap.size)
    (h : ∀ v' w', w'.ownsRow base 3 1 v' (n + m) (ints L ++ ints M) → w.grownBy w' (some g) → IntsAt w' (some ⟨g, 0, none⟩) L → wpList Try.prog ops Q rest (a.put o.dst v') w') :
    wpList Try.prog ops Q (o :: rest) a w := by
  refine wpList_plain hgd fun K hK => ?_
  obtain ⟨v', w', hr, h2, h3, h5⟩ := run_append_keep w base o.type g n cp L hL hown gb go' M m cap hm hA hlen hbase
  unfold Oper.wp execOp
  simp only [ho, resolve, invoke, builtin, Sem.run_bind, Sem.run_pure, Result.andThen_ok, List.map_toArray, List.map_cons, List.map_nil, hs, hx, hr]
  exact hK _ _ (h v' w' h2 h3 h5)
/-- A cursor and a row, behind an append to the row. -/
theorem cur_app {w0 w w' : World} {B b k base : Nat} {ao : Option Addr} {n cap : Nat} {v : Value} {m : Nat} {xs : List Value} (hC : Cur w B b ao n cap k) (hg0 : w0.grownBy w (some b)) (ho : w.ownsRow base 3 1 v m xs) (hB : B ≤ base) (hb0 : w0.heap.size ≤ base) (hg : w.grownBy w' v.ownBlock) : Cur w' B b ao n cap k ∧ w0.grownBy w' (some b) :=
  ⟨Cur.grown hC hg (fun g e => by have := (World.ownsRow.lt ho g e).1; omega), ⟨hg.os.trans hg0.os, hg.tape.trans hg0.tape, hg.output.trans hg0.output, Nat.le_trans hg0.size hg.size, fun i hi hn => (hg.block i (Nat.lt_of_lt_of_le hi hg0.size) (fun e => by have := (World.ownsRow.lt ho i e.symm).1; omega)).trans (hg0.block i hi hn)⟩⟩
end Go.Proofs.Ytdhppigjlldfmaa
namespace Go.Proofs.Ytdhppigjlldfmaa
open Go.ChangeShapes Go.WideShapes Go.ChangeAt Go.WideMaps Go.WideElems Go.RowKit
theorem getD_q {L : List Int} {k : Nat} (h : k < L.length) : L[k]? = some (L.getD k 0) := by simp [List.getD, h]
/-- A beginning ends the list just where the list has the period. -/
theorem suf_per {L : List Int} {q : Nat} (hq : q ≤ L.length) : L.take (L.length - q) <:+ L ↔ ∀ k, q ≤ k → k < L.length → L.getD k 0 = L.getD (k - q) 0 := by
  have l1 : (L.take (L.length - q)).length = L.length - q := by rw [List.length_take]; omega
  rw [List.suffix_iff_eq_drop, l1, show L.length - (L.length - q) = q by omega]
  constructor
  · intro h k h1 h2
    have e : (L.take (L.length - q))[k - q]? = (L.drop q)[k - q]? := by rw [h]
    rw [List.getElem?_take, if_pos (by omega), List.getElem?_drop, show q + (k - q) = k by omega, getD_q h2, getD_q (by omega)] at e
    exact (Option.some.inj e).symm
  · intro h
    apply List.ext_getElem?
    intro i
    by_cases hi : i < L.length - q
    · rw [List.getElem?_take, if_pos hi, List.getElem?_drop, getD_q (by omega), getD_q (by omega), h (q + i) (by omega) (by omega), show q + i - q = i by omega]
    · rw [List.getElem?_eq_none (by omega), List.getElem?_eq_none (by rw [List.length_drop]; omega)]
theorem per_parts {L : List Int} (h : perB L = true) : ∃ p : Nat, perV L = (p : Int) ∧ 1 ≤ p ∧ p ≤ L.length ∧ (∀ k, p ≤ k → k < L.length → L.getD k 0 = L.getD (k - p) 0) ∧ ∀ q, 1 ≤ q → q < p → ¬ ∀ k, q ≤ k → k < L.length → L.getD k 0 = L.getD (k - q) 0 := by
  have h0 : L.length ≠ 0 := by
    unfold perB at h
    simp only [Bool.and_eq_true, decide_eq_true_eq] at h
    exact h.2
  have hb := bestK_le L (L.length - 1) (L.length - 1)
  obtain ⟨i1, i2⟩ := bestK_is L (L.length - 1) (by omega) (L.length - 1) (Nat.le_refl _)
  unfold perV
  rw [if_pos h]
  rw [show L.length - 1 + 1 = L.length by omega, List.take_length] at i1 i2
  generalize bestK L (L.length - 1) (L.length - 1) = b at *
  refine ⟨L.length - b, by omega, by omega, by omega, ?_, fun q q1 q2 hq => ?_⟩
  · exact (suf_per (by omega)).1 (by rw [show L.length - (L.length - b) = b by omega]; exact i1)
  · have := i2 (L.length - q) (by omega) ((suf_per (by omega)).2 hq)
    omega
theorem plA_at (T M : List Int) (i : Nat) (hi : i < (plA T M).length) : ∃ j : Nat, (plA T M).getD i 0 = (j : Int) ∧ j + M.length ≤ T.length ∧ (T.take (j + M.length)).drop j = M := by
  unfold plA at hi ⊢
  split at hi
  · rename_i ho
    rw [if_pos ho]
    have hm : (plc T M (T.length + 1 - M.length)).getD i 0 ∈ plc T M (T.length + 1 - M.length) := List.mem_of_getElem? (getD_q hi)
    generalize (plc T M (T.length + 1 - M.length)).getD i 0 = x at hm ⊢
    unfold plc at hm
    obtain ⟨j, hj, rfl⟩ := List.mem_map.1 hm
    obtain ⟨hj, hb⟩ := List.mem_filter.1 hj
    have := List.mem_range.1 hj
    refine ⟨j, rfl, by omega, ?_⟩
    rw [List.drop_take, show j + M.length - j = M.length by omega]
    exact of_decide_eq_true hb
  · simp at hi
end Go.Proofs.Ytdhppigjlldfmaa
namespace Go.Proofs.Ytdhppigjlldfmaa
open Go.ChangeShapes Go.WideShapes Go.ChangeAt Go.WideMaps Go.WideElems Go.RowKit
/-- What a good machine keeps at a state that is not the first. -/
def okSt (P B F : List Int) (k : Nat) : Prop := (0 ≤ P.getD k 0 ∧ P.getD k 0 ≤ (k : Int) - 1) ∧ goodB (B.getD k 0) = true ∧ (0 ≤ F.getD k 0 ∧ F.getD k 0 ≤ (k : Int) - 1) ∧ ∀ i, 1 ≤ i → i < k → ¬ (P.getD i 0 = P.getD k 0 ∧ B.getD i 0 = B.getD k 0)
def noTwin (P B : List Int) (k m : Nat) : Prop := ∀ j, 1 ≤ j → j < m → ¬ (P.getD j 0 = P.getD k 0 ∧ B.getD j 0 = B.getD k 0)
def okA (P B F : List Int) (R : Rw) : Prop := (1 ≤ P.length ∧ P.length ≤ 100) ∧ (B.length = P.length ∧ F.length = P.length ∧ R.length = P.length) ∧ (P.getD 0 0 = -1 ∧ B.getD 0 0 = -1 ∧ F.getD 0 0 = 0) ∧ ∀ k, k < P.length → risB 0 7 (rw_ R k) = true ∧ (0 < k → okSt P B F k)
open Classical in
/-- Whether a machine of words is good. -/
noncomputable def goodA (P B F : List Int) (R : Rw) : Bool := decide (okA P B F R)
theorem goodA_yes {P B F : List Int} {R : Rw} (h : okA P B F R) : goodA P B F R = true := @decide_eq_true _ (Classical.propDecidable _) h
theorem goodA_no {P B F : List Int} {R : Rw} (h : ¬ okA P B F R) : goodA P B F R = false := @decide_eq_false _ (Classical.propDecidable _) h
theorem goodA_true {P B F : List Int} {R : Rw} (h : goodA P B F R = true) : okA P B F R := @of_decide_eq_true _ (Classical.propDecidable _) h
set_option maxRecDepth 100000 in
set_option maxHeartbeats 4000000 in
theorem sgoodA_any (P B F : List Int) (R : Rw) (a b c e : Option Addr) (ca cb cc ce : Nat) (w : World) (hl : szA P B F R ≤ 1048576) (hA : IntsAt w a P) (hB : IntsAt w b B) (hC : IntsAt w c F) (hE : RowsAt w e R) :
    Calls Try.prog 20 #[.agg #[.slice a P.length ca, .slice b B.length cb, .slice c F.length cc, .slice e R.length ce]] w fun r w' => r = .returned (.bool (goodA P B F R)) ∧ Below w.heap.size w w' := by
  have HA : Hid _ := hA
  have HB : Hid _ := hB
  have HC : Hid _ := hC
  have HE : Hid _ := hE
  have HLR : Hid (szR R ≤ 1048576) := by unfold szA at hl; exact (by omega : szR R ≤ 1048576)
  have hlP : P.length ≤ 1048576 := by unfold szA at hl; omega
  clear hA hB hC hE hl
  have A1 : ∀ o, Below w.heap.size w (w.alloc o) := fun o => (Below.refl _ _).alloc (Nat.le_refl _) o
  by_cases h1 : 1 ≤ P.length ∧ P.length ≤ 100
  case neg =>
    have HG : Hid (goodA P B F R = false) := goodA_no fun h => h1 h.1
    have HI : Hid (¬ ((1 : Int) ≤ (P.length : Int) ∧ (P.length : Int) ≤ 100)) := fun h => h1 (by omega)
    clear h1
    go_enter Try.func20, Try.ntmps20
    go_wp2_with (first | (go_at_call 57; refine (in_no HI.out _).mono ?_; rintro r w' ⟨rfl, rfl⟩) | fail)
    go_ret
    exact ⟨by rw [HG.out]; rfl, A1 _⟩
  have HI : Hid ((1 : Int) ≤ (P.length : Int) ∧ (P.length : Int) ≤ 100) := by exact (by omega : (1 : Int) ≤ (P.length : Int) ∧ (P.length : Int) ≤ 100)
  by_cases h2 : B.length = P.length
  case neg =>
    have HG : Hid (goodA P B F R = false) := goodA_no fun h => h2 h.2.1.1
    have q1 : ((B.length : Int) == (P.length : Int)) = false := by simp; omega
    have q2 : ¬ (B.length : Int) = (P.length : Int) := by omega
    have q3 : decide ((B.length : Int) = (P.length : Int)) = false := decide_eq_false q2
    go_enter Try.func20, Try.ntmps20
    go_wp2_with (first | (go_at_call 57; refine (in_yes HI.out _).mono ?_; rintro r w' ⟨rfl, rfl⟩) | fail)
    go_ret
    exact ⟨by rw [HG.out]; rfl, A1 _⟩
  rw [h2]
  have H2 : Hid (B.length = P.length) := h2
  clear h2
  by_cases h3 : F.length = P.length
  case neg =>
    have HG : Hid (goodA P B F R = false) := goodA_no fun h => h3 h.2.1.2.1
    have q1 : ((F.length : Int) == (P.length : Int)) = false := by simp; omega
    have q2 : ¬ (F.length : Int) = (P.length : Int) := by omega
    have q3 : decide ((F.length : Int) = (P.length : Int)) = false := decide_eq_false q2
    go_enter Try.func20, Try.ntmps20
    go_wp2_with (first | (go_at_call 57; refine (in_yes HI.out _).mono ?_; rintro r w' ⟨rfl, rfl⟩) | fail)
    go_ret
    exact ⟨by rw [HG.out]; rfl, A1 _⟩
  rw [h3]
  have H3 : Hid (F.length = P.length) := h3
  clear h3
  by_cases h4 : R.length = P.length
  case neg =>
    have HG : Hid (goodA P B F R = false) := goodA_no fun h => h4 h.2.1.2.2
    have q1 : ((R.length : Int) == (P.length : Int)) = false := by simp; omega
    have q2 : ¬ (R.length : Int) = (P.length : Int) := by omega
    have q3 : decide ((R.length : Int) = (P.length : Int)) = false := decide_eq_false q2
    go_enter Try.func20, Try.ntmps20
    go_wp2_with (first | (go_at_call 57; refine (in_yes HI.out _).mono ?_; rintro r w' ⟨rfl, rfl⟩) | fail)
    go_ret
    exact ⟨by rw [HG.out]; rfl, A1 _⟩
  rw [h4]
  have H4 : Hid (R.length = P.length) := h4
  clear h4
  have h0 : (0 : Int) < (P.length : Int) := by omega
  have h0n : 0 < P.length := by omega
  obtain ⟨pb, po, rfl, pl, pc⟩ := HA.out 0 h0n
  have pg : ∀ o, (w.alloc o).cell? ⟨pb, po, none⟩ = some (.int .i64 (P.getD 0 0)) := fun o => ((A1 o).cell (p := ⟨pb, po, none⟩) pl).trans pc
  clear pc
  by_cases h5 : P.getD 0 0 = (-1)
  case neg =>
    have HG : Hid (goodA P B F R = false) := goodA_no fun h => h5 h.2.2.1.1
    generalize P.getD 0 0 = x at *
    have q1 : (x == (-1)) = false := by simpa using h5
    have q3 : decide (x = (-1)) = false := decide_eq_false h5
    go_enter Try.func20, Try.ntmps20
    go_wp2_with (first | (go_at_call 57; refine (in_yes HI.out _).mono ?_; rintro r w' ⟨rfl, rfl⟩) | fail)
    go_ret
    exact ⟨by rw [HG.out]; rfl, A1 _⟩
  rw [h5] at pg
  have H5 : Hid (P.getD 0 0 = (-1)) := h5
  clear h5
  obtain ⟨qb, qo, rfl, ql, qc⟩ := HB.out 0 (by rw [H2.out]; exact h0n)
  have qg : ∀ o, (w.alloc o).cell? ⟨qb, qo, none⟩ = some (.int .i64 (B.getD 0 0)) := fun o => ((A1 o).cell (p := ⟨qb, qo, none⟩) ql).trans qc
  clear qc
  by_cases h6 : B.getD 0 0 = (-1)
  case neg =>
    have HG : Hid (goodA P B F R = false) := goodA_no fun h => h6 h.2.2.1.2.1
    generalize B.getD 0 0 = x at *
    have q1 : (x == (-1)) = false := by simpa using h6
    have q3 : decide (x = (-1)) = false := decide_eq_false h6
    go_enter Try.func20, Try.ntmps20
    go_wp2_with (first | (go_at_call 57; refine (in_yes HI.out _).mono ?_; rintro r w' ⟨rfl, rfl⟩) | fail)
    go_ret
    exact ⟨by rw [HG.out]; rfl, A1 _⟩
  rw [h6] at qg
  have H6 : Hid (B.getD 0 0 = (-1)) := h6
  clear h6
  obtain ⟨fb, fo, rfl, fl, fc⟩ := HC.out 0 (by rw [H3.out]; exact h0n)
  have fg : ∀ o, (w.alloc o).cell? ⟨fb, fo, none⟩ = some (.int .i64 (F.getD 0 0)) := fun o => ((A1 o).cell (p := ⟨fb, fo, none⟩) fl).trans fc
  clear fc
  by_cases h7 : F.getD 0 0 = 0
  case neg =>
    have HG : Hid (goodA P B F R = false) := goodA_no fun h => h7 h.2.2.1.2.2
    generalize F.getD 0 0 = x at *
    have q1 : (x == 0) = false := by simpa using h7
    have q3 : decide (x = 0) = false := decide_eq_false h7
    go_enter Try.func20, Try.ntmps20
    go_wp2_with (first | (go_at_call 57; refine (in_yes HI.out _).mono ?_; rintro r w' ⟨rfl, rfl⟩) | fail)
    go_ret
    exact ⟨by rw [HG.out]; rfl, A1 _⟩
  rw [h7] at fg
  have H7 : Hid (F.getD 0 0 = 0) := h7
  clear h7
  go_enter Try.func20, Try.ntmps20
  go_wp2_with (first | (go_at_call 57; refine (in_yes HI.out _).mono ?_; rintro r w' ⟨rfl, rfl⟩) | fail)
  clear pg qg fg
  go_loopw [55] (fun i wr => ∃ k : Nat, k ≤ P.length ∧ i = .int .i64 k ∧ (∀ j, j < k → risB 0 7 (rw_ R j) = true ∧ (0 < j → okSt P B F j)) ∧ wr.heap[w.heap.size]? = some (.cells #[.slice (some ⟨pb, po, none⟩) P.length ca, .slice (some ⟨qb, qo, none⟩) P.length cb, .slice (some ⟨fb, fo, none⟩) P.length cc, .slice e P.length ce] 28) ∧ Below w.heap.size w wr) (fun i _ => P.length - (intOf i).toNat)
  case atStart => exact ⟨0, Nat.zero_le _, rfl, fun j hj => absurd hj (by omega), heap_last2 _ _ _ rfl, A1 _⟩
  case round =>
    obtain ⟨k, hk, rfl, hall, hbl, hbw⟩ := hrel
    obtain ⟨w1, hw1⟩ : ∃ w1, w1 = wr := ⟨_, rfl⟩
    subst hw1
    have HALL : Hid _ := hall
    have BW : Hid (Below w.heap.size w w1) := hbw
    have d0 : w1.cell? ⟨w.heap.size, 0, none⟩ = some (.slice (some ⟨pb, po, none⟩) P.length ca) := cell_of hbl 0
    have d1 : w1.cell? ⟨w.heap.size, 1, none⟩ = some (.slice (some ⟨qb, qo, none⟩) P.length cb) := cell_of hbl 1
    have d2 : w1.cell? ⟨w.heap.size, 2, none⟩ = some (.slice (some ⟨fb, fo, none⟩) P.length cc) := cell_of hbl 2
    have d3 : w1.cell? ⟨w.heap.size, 3, none⟩ = some (.slice e P.length ce) := cell_of hbl 3
    have HBL : Hid _ := hbl
    clear hall hbw hbl
    by_cases hlt : k < P.length
    · have hltI : (k : Int) < (P.length : Int) := by omega
      have hkR : k < R.length := by rw [H4.out]; exact hlt
      obtain ⟨eb, eo, sa, sc, rfl, l1, c1, iS⟩ := HE.out k hkR
      have hls : (rw_ R k).length ≤ 1048576 := Nat.le_trans (rw_len R k hkR) HLR.out
      have g1 : w1.cell? ⟨eb, eo + k, none⟩ = some (.slice sa (rw_ R k).length sc) := (BW.out.cell (p := ⟨eb, eo + k, none⟩) l1).trans c1
      have HRI : Hid (Calls Try.prog 59 #[.slice sa (rw_ R k).length sc, .int .i64 0, .int .i64 7] w1 fun e w' => e = .returned (.bool (risB 0 7 (rw_ R k))) ∧ w' = w1) := sris_any 0 7 (rw_ R k) _ _ _ hls (IntsAt.keepB iS BW.out)
      clear c1 iS
      cases q0 : risB 0 7 (rw_ R k) with
      | false =>
        rw [q0] at HRI
        have HG : Hid (goodA P B F R = false) := goodA_no fun h => by have := (h.2.2.2 k hlt).1; rw [q0] at this; cases this
        clear q0
        go_wp2_with fail
        refine Calls.mono HRI.out ?_
        rintro r w' ⟨rfl, rfl⟩
        go_wp2
        go_ret
        exact ⟨by rw [HG.out] <;> rfl, BW.out⟩
      | true =>
        rw [q0] at HRI
        by_cases hk0 : k = 0
        · have HN : Hid (∀ j, j < k + 1 → risB 0 7 (rw_ R j) = true ∧ (0 < j → okSt P B F j)) := fun j hj => by
            obtain rfl : j = k := by omega
            exact ⟨q0, fun h => absurd h (by omega)⟩
          have hk0I : ((k : Int) == 0) = true := by simp; omega
          have hk0K : decide ((k : Int) = 0) = true := decide_eq_true (by omega)
          clear q0 hk0
          go_wp2_with fail
          refine Calls.mono HRI.out ?_
          rintro r w' ⟨rfl, rfl⟩
          go_wp2
          go_roundw
          case rel => exact ⟨k + 1, by omega, by go_num, HN.out, HBL.out, BW.out⟩
          case measure => simp [intOf]; omega
        · have Q0 : Hid (risB 0 7 (rw_ R k) = true) := q0
          have hk0I : ((k : Int) == 0) = false := by simp; omega
          have hk0J : ¬ (k : Int) = 0 := by omega
          have hwk : IntKind.i64.wrap ((k : Int) - 1) = (k : Int) - 1 := IntWalk.i64_in _ (by omega)
          clear q0
          obtain ⟨pb', po', pe, pl', pc⟩ := HA.out k hlt
          cases pe
          have gp : w1.cell? ⟨pb, po + k, none⟩ = some (.int .i64 (P.getD k 0)) := (BW.out.cell (p := ⟨pb, po + k, none⟩) pl').trans pc
          obtain ⟨qb', qo', qe, ql', qc⟩ := HB.out k (by rw [H2.out]; exact hlt)
          cases qe
          have gq : w1.cell? ⟨qb, qo + k, none⟩ = some (.int .i64 (B.getD k 0)) := (BW.out.cell (p := ⟨qb, qo + k, none⟩) ql').trans qc
          obtain ⟨fb', fo', fe, fl', fc⟩ := HC.out k (by rw [H3.out]; exact hlt)
          cases fe
          have gf : w1.cell? ⟨fb, fo + k, none⟩ = some (.int .i64 (F.getD k 0)) := (BW.out.cell (p := ⟨fb, fo + k, none⟩) fl').trans fc
          have HIP : Hid (Calls Try.prog 57 #[.int .i64 (P.getD k 0), .int .i64 0, .int .i64 ((k : Int) - 1)] w1 fun e w' => e = .returned (.bool (decide (0 ≤ P.getD k 0 ∧ P.getD k 0 ≤ (k : Int) - 1))) ∧ w' = w1) := in_any _ _ _ _
          have HIF : Hid (Calls Try.prog 57 #[.int .i64 (F.getD k 0), .int .i64 0, .int .i64 ((k : Int) - 1)] w1 fun e w' => e = .returned (.bool (decide (0 ≤ F.getD k 0 ∧ F.getD k 0 ≤ (k : Int) - 1))) ∧ w' = w1) := in_any _ _ _ _
          have HGR : Hid (Calls Try.prog 58 #[.int .i64 (B.getD k 0)] w1 fun e w' => e = .returned (.bool (goodB (B.getD k 0))) ∧ w' = w1) := good_any _ _
          clear pc qc fc
          by_cases q1 : 0 ≤ P.getD k 0 ∧ P.getD k 0 ≤ (k : Int) - 1
          case neg =>
            have HG : Hid (goodA P B F R = false) := goodA_no fun h => q1 ((h.2.2.2 k hlt).2 (by omega)).1
            rw [decide_eq_false q1] at HIP
            generalize P.getD k 0 = x at gp HIP
            clear q1 gq gf HIF HGR
            go_wp2_with fail
            refine Calls.mono HRI.out ?_
            rintro r w' ⟨rfl, rfl⟩
            go_wp2_with fail
            refine Calls.mono HIP.out ?_
            rintro r w' ⟨rfl, rfl⟩
            go_wp2
            go_ret
            exact ⟨by rw [HG.out] <;> rfl, BW.out⟩
          cases q2 : goodB (B.getD k 0)
          case false =>
            have HG : Hid (goodA P B F R = false) := goodA_no fun h => by
              have := ((h.2.2.2 k hlt).2 (by omega)).2.1
              rw [q2] at this
              cases this
            rw [decide_eq_true q1] at HIP
            rw [q2] at HGR
            generalize P.getD k 0 = x at gp HIP
            generalize B.getD k 0 = y at gq HGR
            clear q1 q2 gf HIF
            go_wp2_with fail
            refine Calls.mono HRI.out ?_
            rintro r w' ⟨rfl, rfl⟩
            go_wp2_with fail
            refine Calls.mono HIP.out ?_
            rintro r w' ⟨rfl, rfl⟩
            go_wp2_with fail
            refine Calls.mono HGR.out ?_
            rintro r w' ⟨rfl, rfl⟩
            go_wp2
            go_ret
            exact ⟨by rw [HG.out] <;> rfl, BW.out⟩
          by_cases q3 : 0 ≤ F.getD k 0 ∧ F.getD k 0 ≤ (k : Int) - 1
          case neg =>
            have HG : Hid (goodA P B F R = false) := goodA_no fun h => q3 ((h.2.2.2 k hlt).2 (by omega)).2.2.1
            rw [decide_eq_true q1] at HIP
            rw [q2] at HGR
            rw [decide_eq_false q3] at HIF
            generalize P.getD k 0 = x at gp HIP
            generalize B.getD k 0 = y at gq HGR
            generalize F.getD k 0 = z at gf HIF
            clear q1 q2 q3
            go_wp2_with fail
            refine Calls.mono HRI.out ?_
            rintro r w' ⟨rfl, rfl⟩
            go_wp2_with fail
            refine Calls.mono HIP.out ?_
            rintro r w' ⟨rfl, rfl⟩
            go_wp2_with fail
            refine Calls.mono HGR.out ?_
            rintro r w' ⟨rfl, rfl⟩
            go_wp2_with fail
            refine Calls.mono HIF.out ?_
            rintro r w' ⟨rfl, rfl⟩
            go_wp2
            go_ret
            exact ⟨by rw [HG.out] <;> rfl, BW.out⟩
          rw [decide_eq_true q1] at HIP
          rw [q2] at HGR
          rw [decide_eq_true q3] at HIF
          have Q1 : Hid _ := q1
          have Q2 : Hid _ := q2
          have Q3 : Hid _ := q3
          generalize hx : P.getD k 0 = x at gp HIP
          generalize hy : B.getD k 0 = y at gq HGR
          generalize hz : F.getD k 0 = z at gf HIF
          have HX : Hid _ := hx
          have HY : Hid _ := hy
          clear q1 q2 q3 hx hy hz
          go_wp2_with fail
          refine Calls.mono HRI.out ?_
          rintro r w' ⟨rfl, rfl⟩
          go_wp2_with fail
          refine Calls.mono HIP.out ?_
          rintro r w' ⟨rfl, rfl⟩
          go_wp2_with fail
          refine Calls.mono HGR.out ?_
          rintro r w' ⟨rfl, rfl⟩
          go_wp2_with fail
          refine Calls.mono HIF.out ?_
          rintro r w' ⟨rfl, rfl⟩
          go_wp2
          clear d0 d1 d2 d3 g1 gp gq gf HRI HIP HIF HGR
          go_loopw [5] (fun i wr => ∃ m : Nat, 1 ≤ m ∧ m ≤ k ∧ i = .int .i64 m ∧ noTwin P B k m ∧ wr.heap[w.heap.size]? = some (.cells #[.slice (some ⟨pb, po, none⟩) P.length ca, .slice (some ⟨qb, qo, none⟩) P.length cb, .slice (some ⟨fb, fo, none⟩) P.length cc, .slice (some ⟨eb, eo, none⟩) P.length ce] 28) ∧ Below w.heap.size w wr) (fun i _ => k - (intOf i).toNat)
          case atStart => exact ⟨1, Nat.le_refl _, by omega, rfl, fun j j1 j2 => absurd j2 (by omega), HBL.out, BW.out⟩
          case round =>
            obtain ⟨m, hm1, hm2, rfl, hno, hbl, hbw⟩ := hrel
            have HNO : Hid _ := hno
            have BW2 : Hid (Below w.heap.size w wr) := hbw
            have d0 : wr.cell? ⟨w.heap.size, 0, none⟩ = some (.slice (some ⟨pb, po, none⟩) P.length ca) := cell_of hbl 0
            have d1 : wr.cell? ⟨w.heap.size, 1, none⟩ = some (.slice (some ⟨qb, qo, none⟩) P.length cb) := cell_of hbl 1
            have HBL2 : Hid _ := hbl
            clear hno hbw hbl
            by_cases hmk : m < k
            · have hmI : (m : Int) < (k : Int) := by omega
              have hmJ : (m : Int) < (P.length : Int) := by omega
              obtain ⟨pb', po', pe, pl1, pc1⟩ := HA.out k hlt
              cases pe
              have gp : wr.cell? ⟨pb, po + k, none⟩ = some (.int .i64 (P.getD k 0)) := (BW2.out.cell (p := ⟨pb, po + k, none⟩) pl1).trans pc1
              obtain ⟨pb', po', pe, pl2, pc2⟩ := HA.out m (by omega)
              cases pe
              have gp2 : wr.cell? ⟨pb, po + m, none⟩ = some (.int .i64 (P.getD m 0)) := (BW2.out.cell (p := ⟨pb, po + m, none⟩) pl2).trans pc2
              obtain ⟨qb', qo', qe, ql1, qc1⟩ := HB.out k (by rw [H2.out]; exact hlt)
              cases qe
              have gq : wr.cell? ⟨qb, qo + k, none⟩ = some (.int .i64 (B.getD k 0)) := (BW2.out.cell (p := ⟨qb, qo + k, none⟩) ql1).trans qc1
              obtain ⟨qb', qo', qe, ql2, qc2⟩ := HB.out m (by rw [H2.out]; omega)
              cases qe
              have gq2 : wr.cell? ⟨qb, qo + m, none⟩ = some (.int .i64 (B.getD m 0)) := (BW2.out.cell (p := ⟨qb, qo + m, none⟩) ql2).trans qc2
              clear pc1 pc2 qc1 qc2
              by_cases e1 : P.getD m 0 = P.getD k 0
              · by_cases e2 : B.getD m 0 = B.getD k 0
                · have HG : Hid (goodA P B F R = false) := goodA_no fun h => ((h.2.2.2 k hlt).2 (by omega)).2.2.2 m hm1 hmk ⟨e1, e2⟩
                  rw [e1] at gp2
                  rw [e2] at gq2
                  generalize P.getD k 0 = s at gp gp2
                  generalize B.getD k 0 = t at gq gq2
                  clear e1 e2
                  go_wp2
                  go_quiet (fail)
                  go_wp2
                  go_ret
                  exact ⟨by rw [HG.out] <;> rfl, below_drewN BW2.out _⟩
                · have HN : Hid (noTwin P B k (m + 1)) := fun j j1 j2 h => by
                    by_cases ej : j = m
                    · exact e2 (ej ▸ h.2)
                    · exact HNO.out j j1 (by omega) h
                  rw [e1] at gp2
                  generalize P.getD k 0 = s at gp gp2
                  generalize B.getD k 0 = t at gq e2
                  generalize B.getD m 0 = u at gq2 e2
                  have e2b : decide (u = t) = false := decide_eq_false e2
                  have e2c : (u == t) = false := by simpa using e2
                  clear e1
                  go_wp2
                  go_quiet (fail)
                  go_wp2
                  go_roundw
                  case rel => exact ⟨m + 1, by omega, by omega, by go_num, HN.out, HBL2.out, below_drewN BW2.out _⟩
                  case measure => simp [intOf]; omega
              · have HN : Hid (noTwin P B k (m + 1)) := fun j j1 j2 h => by
                  by_cases ej : j = m
                  · exact e1 (ej ▸ h.1)
                  · exact HNO.out j j1 (by omega) h
                generalize P.getD k 0 = s at gp e1
                generalize P.getD m 0 = u at gp2 e1
                have e1b : decide (u = s) = false := decide_eq_false e1
                have e1c : (u == s) = false := by simpa using e1
                clear gq gq2
                go_wp2
                go_quiet (fail)
                go_wp2
                go_roundw
                case rel => exact ⟨m + 1, by omega, by omega, by go_num, HN.out, HBL2.out, below_drewN BW2.out _⟩
                case measure => simp [intOf]; omega
            · obtain rfl : m = k := by omega
              have hmI : ¬ (m : Int) < (m : Int) := by omega
              have HN : Hid (∀ j, j < m + 1 → risB 0 7 (rw_ R j) = true ∧ (0 < j → okSt P B F j)) := fun j hj => by
                by_cases ej : j = m
                · subst ej
                  exact ⟨Q0.out, fun _ => ⟨Q1.out, Q2.out, Q3.out, HNO.out⟩⟩
                · exact HALL.out j (by omega)
              go_wp2
              go_roundw
              case rel => exact ⟨m + 1, by omega, by go_num, HN.out, HBL2.out, BW2.out⟩
              case measure => simp [intOf]; omega
    · obtain rfl : k = P.length := by omega
      have hltI : ¬ (P.length : Int) < (P.length : Int) := by omega
      have HG : Hid (goodA P B F R = true) := goodA_yes ⟨h1, ⟨H2.out, H3.out, H4.out⟩, ⟨H5.out, H6.out, H7.out⟩, HALL.out⟩
      go_wp2
      go_ret
      exact ⟨by rw [HG.out] <;> rfl, BW.out⟩
end Go.Proofs.Ytdhppigjlldfmaa
namespace Go.Proofs.Ytdhppigjlldfmaa
open Go.ChangeShapes Go.WideShapes Go.ChangeAt Go.WideMaps Go.WideElems Go.RowKit
/-- Whether a state is as a good machine's. -/
def stB (P B F : List Int) (k : Nat) : Bool :=
  if k = 0 then decide (P.getD k 0 = -1) && (decide (B.getD k 0 = -1) && decide (F.getD k 0 = 0))
  else decide (0 ≤ P.getD k 0 ∧ P.getD k 0 < (k : Int)) && (goodB (B.getD k 0) && decide (0 ≤ F.getD k 0 ∧ F.getD k 0 < (k : Int)))
theorem amongB {r n : Int} (hn : 0 ≤ n ∧ n ≤ 1000000) (w : World) :
    Calls Try.prog 55 #[.int .i64 r, .int .i64 0, .int .i64 n] w fun e w' => e = .returned (.bool (decide (0 ≤ r ∧ r < n))) ∧ w' = w := by
  by_cases h : 0 ≤ r ∧ r < n
  · rw [decide_eq_true h]
    exact (among_yes (by omega) (by omega) w).mono fun _ _ ⟨h1, h2⟩ => ⟨h1, h2.symm⟩
  · rw [decide_eq_false h]
    exact (among_no (by omega) (by omega) w).mono fun _ _ ⟨h1, h2⟩ => ⟨h1, h2.symm⟩
set_option maxRecDepth 100000 in
set_option maxHeartbeats 2000000 in
theorem isState_any (P B F : List Int) (a b c e : Option Addr) (n ca cb cc ne ce : Nat) (k : Nat) (w : World) (h1 : n = P.length) (h2 : n = B.length) (h3 : n = F.length) (hk : k < n) (hn : n ≤ 100000) (hA : IntsAt w a P) (hB : IntsAt w b B) (hC : IntsAt w c F) :
    Calls Try.prog 72 #[.agg #[.slice a n ca, .slice b n cb, .slice c n cc, .slice e ne ce], .int .i64 k] w fun r w' => r = .returned (.bool (stB P B F k)) ∧ Below w.heap.size w w' := by
  have A1 : ∀ o, Below w.heap.size w (w.alloc o) := fun o => (Below.refl _ _).alloc (Nat.le_refl _) o
  obtain ⟨pb, po, rfl, pl, pc⟩ := hA k (by omega)
  obtain ⟨qb, qo, rfl, ql, qc⟩ := hB k (by omega)
  obtain ⟨fb, fo, rfl, fl, fc⟩ := hC k (by omega)
  have gp : ∀ o, (w.alloc o).cell? ⟨pb, po + k, none⟩ = some (.int .i64 (P.getD k 0)) := fun o => ((A1 o).cell (p := ⟨pb, po + k, none⟩) pl).trans pc
  have gq : ∀ o, (w.alloc o).cell? ⟨qb, qo + k, none⟩ = some (.int .i64 (B.getD k 0)) := fun o => ((A1 o).cell (p := ⟨qb, qo + k, none⟩) ql).trans qc
  have gf : ∀ o, (w.alloc o).cell? ⟨fb, fo + k, none⟩ = some (.int .i64 (F.getD k 0)) := fun o => ((A1 o).cell (p := ⟨fb, fo + k, none⟩) fl).trans fc
  clear hA hB hC pc qc fc h1 h2 h3
  have hkI : (k : Int) < (n : Int) := by omega
  unfold stB
  generalize P.getD k 0 = x at gp ⊢
  generalize B.getD k 0 = y at gq ⊢
  generalize F.getD k 0 = z at gf ⊢
  have BD : Hid (∀ o m, Below w.heap.size w ((w.alloc o).drewN m)) := fun o m => below_drewN (A1 o) _
  by_cases hk0 : k = 0
  · have hk0I : ((k : Int) == 0) = true := by simp; omega
    have hk0K : decide ((k : Int) = 0) = true := decide_eq_true (by omega)
    rw [if_pos hk0]
    clear hk0
    by_cases e1 : x = -1
    · by_cases e2 : y = -1
      · by_cases e3 : z = 0
        · subst e1 e2 e3
          go_enter Try.func72, Try.ntmps72
          go_wp2
          go_quiet (fail)
          go_wp2
          go_ret
          exact ⟨rfl, BD.out _ _⟩
        · subst e1 e2
          have e3b : (z == 0) = false := by simpa using e3
          have e3c : decide (z = 0) = false := decide_eq_false e3
          rw [e3c]
          go_enter Try.func72, Try.ntmps72
          go_wp2
          go_quiet (fail)
          go_wp2
          go_ret
          exact ⟨rfl, BD.out _ _⟩
      · subst e1
        have e2b : (y == -1) = false := by simpa using e2
        have e2c : decide (y = -1) = false := decide_eq_false e2
        rw [e2c]
        go_enter Try.func72, Try.ntmps72
        go_wp2
        go_quiet (fail)
        go_wp2
        go_ret
        exact ⟨rfl, BD.out _ _⟩
    · have e1b : (x == -1) = false := by simpa using e1
      have e1c : decide (x = -1) = false := decide_eq_false e1
      rw [e1c]
      go_enter Try.func72, Try.ntmps72
      go_wp2
      go_quiet (fail)
      go_wp2
      go_ret
      exact ⟨rfl, BD.out _ _⟩
  · have hk0I : ((k : Int) == 0) = false := by simp; omega
    have hk0K : decide ((k : Int) = 0) = false := decide_eq_false (by omega)
    have hk0J : ¬ (k : Int) = 0 := by omega
    rw [if_neg hk0]
    clear hk0
    have HP : Hid (∀ w', Calls Try.prog 55 #[.int .i64 x, .int .i64 0, .int .i64 k] w' fun e w'' => e = .returned (.bool (decide (0 ≤ x ∧ x < (k : Int)))) ∧ w'' = w') := fun w' => amongB (by omega) w'
    have HF : Hid (∀ w', Calls Try.prog 55 #[.int .i64 z, .int .i64 0, .int .i64 k] w' fun e w'' => e = .returned (.bool (decide (0 ≤ z ∧ z < (k : Int)))) ∧ w'' = w') := fun w' => amongB (by omega) w'
    have HG : Hid (∀ w', Calls Try.prog 56 #[.int .i64 y] w' fun e w'' => e = .returned (.bool (goodB y)) ∧ w'' = w') := fun w' => igood_any y w'
    generalize decide (0 ≤ x ∧ x < (k : Int)) = q1 at HP ⊢
    generalize decide (0 ≤ z ∧ z < (k : Int)) = q3 at HF ⊢
    generalize goodB y = q2 at HG ⊢
    cases q1
    · go_enter Try.func72, Try.ntmps72
      go_wp2
      go_quiet (fail)
      go_wp2_with fail
      refine Calls.mono (HP.out _) ?_
      rintro e w1 ⟨rfl, rfl⟩
      go_wp2
      go_ret
      exact ⟨rfl, BD.out _ _⟩
    · cases q2
      · go_enter Try.func72, Try.ntmps72
        go_wp2
        go_quiet (fail)
        go_wp2_with fail
        refine Calls.mono (HP.out _) ?_
        rintro e w1 ⟨rfl, rfl⟩
        go_wp2_with fail
        refine Calls.mono (HG.out _) ?_
        rintro e w1 ⟨rfl, rfl⟩
        go_wp2
        go_ret
        exact ⟨rfl, BD.out _ _⟩
      · go_enter Try.func72, Try.ntmps72
        go_wp2
        go_quiet (fail)
        go_wp2_with fail
        refine Calls.mono (HP.out _) ?_
        rintro e w1 ⟨rfl, rfl⟩
        go_wp2_with fail
        refine Calls.mono (HG.out _) ?_
        rintro e w1 ⟨rfl, rfl⟩
        go_wp2_with fail
        refine Calls.mono (HF.out _) ?_
        rintro e w1 ⟨rfl, rfl⟩
        go_wp2
        go_ret
        exact ⟨by cases q3 <;> rfl, BD.out _ _⟩
set_option maxRecDepth 100000 in
set_option maxHeartbeats 2000000 in
theorem bits_any (L : List Int) (ao : Option Addr) (n cap : Nat) (w : World) (hn : n = L.length) (hl : L.length ≤ 1048576) (hA : IntsAt w ao L) :
    Calls Try.prog 71 #[.slice ao n cap, .int .i64 8] w fun e w' => (∃ x, e = .returned (.tuple #[.int .u64 x, .bool (risB 0 7 L)])) ∧ w' = w := by
  have HA : Hid _ := hA
  clear hA
  subst hn
  go_enter Try.func71, Try.ntmps71
  go_wp2
  go_loopw [6, 7, 12] (fun bv hv i wr => ∃ (k : Nat) (x h : Int), k ≤ L.length ∧ i = .int .i64 k ∧ bv = .int .u64 x ∧ hv = .int .i64 h ∧ h = (if k = 0 then -1 else L.getD (k - 1) 0) ∧ (∀ j, j < k → okR 0 7 L j) ∧ -1 ≤ h ∧ h ≤ 7 ∧ wr = w) (fun _ _ i _ => L.length - (intOf i).toNat)
  case atStart => exact ⟨0, 0, -1, Nat.zero_le _, rfl, rfl, rfl, rfl, fun j hj => absurd hj (by omega), by omega, by omega, rfl⟩
  case round =>
    obtain ⟨k, x, h, hk, rfl, rfl, rfl, hh, hall, hm1, hm7, rfl⟩ := hrel
    have HALL : Hid _ := hall
    have HH : Hid _ := hh
    clear hall hh
    by_cases hlt : k < L.length
    · have hltI : (k : Int) < (L.length : Int) := by omega
      obtain ⟨b1, o1, rfl, l1, g1⟩ := HA.out k hlt
      by_cases q1 : L.getD k 0 ≤ h
      · have HR : Hid (risB 0 7 L = false) := risB_bad hlt fun ⟨⟨h1, _⟩, h3⟩ => by
          have := HH.out
          split at this
          · omega
          · have := h3 (by omega); omega
        generalize L.getD k 0 = y at g1 q1
        go_wp2
        go_ret2
        exact ⟨⟨0, by rw [HR.out] <;> rfl⟩, rfl⟩
      · by_cases q2 : 8 ≤ L.getD k 0
        · have HR : Hid (risB 0 7 L = false) := risB_bad hlt fun ⟨⟨_, h2⟩, _⟩ => by omega
          generalize L.getD k 0 = y at g1 q1 q2
          have q1b : decide (y ≤ h) = false := decide_eq_false q1
          go_wp2
          go_ret2
          exact ⟨⟨0, by rw [HR.out] <;> rfl⟩, rfl⟩
        · have HN : Hid (∀ j, j < k + 1 → okR 0 7 L j) := fun j hj => by
            by_cases ej : j = k
            · subst ej
              have := HH.out
              refine ⟨by omega, fun h0 => ?_⟩
              rw [if_neg (by omega)] at this
              omega
            · exact HALL.out j (by omega)
          have HY : Hid (L.getD (k + 1 - 1) 0 = L.getD k 0) := (by rw [Nat.add_sub_cancel] : L.getD (k + 1 - 1) 0 = L.getD k 0)
          generalize L.getD k 0 = y at g1 q1 q2 HY
          have q1b : decide (y ≤ h) = false := decide_eq_false q1
          have q2b : decide (8 ≤ y) = false := decide_eq_false q2
          have hy0 : 0 ≤ y := by omega
          go_wp2
          go_roundw
          case rel => exact ⟨k + 1, _, y, by omega, by go_num, rfl, rfl, by rw [if_neg (by omega), HY.out], HN.out, by omega, by omega, by first | rfl | trivial⟩
          case measure => simp [intOf]; omega
    · obtain rfl : k = L.length := by omega
      have hltI : ¬ (L.length : Int) < (L.length : Int) := by omega
      have HR : Hid (risB 0 7 L = true) := decide_eq_true HALL.out
      go_wp2
      go_ret2
      exact ⟨⟨x, by rw [HR.out] <;> rfl⟩, rfl⟩
end Go.Proofs.Ytdhppigjlldfmaa
namespace Go.Proofs.Ytdhppigjlldfmaa
open Go.ChangeShapes Go.WideShapes Go.ChangeAt Go.WideMaps Go.WideElems Go.RowKit
/-- The states that the first k states of a machine give. -/
def rdQ (P B F : List Int) (V : Nat → Value) : Nat → List Sq
  | 0 => [⟨-1, -1, 0, 0, .slice none 0 0⟩]
  | k + 1 => if k = 0 then [⟨-1, -1, 0, 0, V 0⟩] else rdQ P B F V k ++ [⟨P.getD k 0, B.getD k 0, (sq (rdQ P B F V k) (P.getD k 0).toNat).l + 1, F.getD k 0, V k⟩]
/-- .. and the edges. -/
def rdE (P B : List Int) : Nat → Ed
  | 0 => noE
  | k + 1 => if k = 0 then noE else upE (rdE P B k) (P.getD k 0) (B.getD k 0) k
theorem rdQ_one (P B F : List Int) (V : Nat → Value) : rdQ P B F V 1 = [⟨-1, -1, 0, 0, V 0⟩] := rfl
theorem rdE_one (P B : List Int) : rdE P B 1 = noE := rfl
theorem rdQ_step (P B F : List Int) (V : Nat → Value) {k : Nat} (h : 0 < k) : rdQ P B F V (k + 1) = rdQ P B F V k ++ [⟨P.getD k 0, B.getD k 0, (sq (rdQ P B F V k) (P.getD k 0).toNat).l + 1, F.getD k 0, V k⟩] := by
  rw [rdQ, if_neg (by omega)]
theorem rdE_step (P B : List Int) {k : Nat} (h : 0 < k) : rdE P B (k + 1) = upE (rdE P B k) (P.getD k 0) (B.getD k 0) k := by
  rw [rdE, if_neg (by omega)]
theorem rdQ_len (P B F : List Int) (V : Nat → Value) : ∀ k, 0 < k → (rdQ P B F V k).length = k
  | k + 1, _ => by
    by_cases h : k = 0
    · subst h; rfl
    · rw [rdQ_step _ _ _ _ (by omega), List.length_append, rdQ_len P B F V k (by omega)]
      rfl
theorem rdE_some (P B : List Int) (f b : Int) (j : Nat) : ∀ k, rdE P B k f b = some j → 1 ≤ j ∧ j < k ∧ P.getD j 0 = f ∧ B.getD j 0 = b
  | 0, h => by cases h
  | k + 1, h => by
    by_cases h0 : k = 0
    · subst h0; cases h
    · rw [rdE_step _ _ (by omega)] at h
      unfold upE at h
      split at h
      · rename_i e
        cases h
        exact ⟨by omega, by omega, e.1.symm, e.2.symm⟩
      · obtain ⟨h1, h2, h3⟩ := rdE_some P B f b j k h
        exact ⟨h1, by omega, h3⟩
theorem rdE_none (P B : List Int) (f b : Int) : ∀ k, rdE P B k f b = none → ∀ j, 1 ≤ j → j < k → ¬ (P.getD j 0 = f ∧ B.getD j 0 = b)
  | 0, _, j, _, h2 => absurd h2 (by omega)
  | k + 1, h, j, h1, h2 => by
    by_cases h0 : k = 0
    · omega
    · rw [rdE_step _ _ (by omega)] at h
      unfold upE at h
      split at h
      · cases h
      · rename_i ne
        by_cases e : j = k
        · subst e
          exact fun ⟨a, b⟩ => ne ⟨a.symm, b.symm⟩
        · exact rdE_none P B f b k h j h1 (by omega)
/-- How long the lists are. -/
theorem rdQ_l (P B F : List Int) (V : Nat → Value) : ∀ k, (∀ j, 0 < j → j < k → 0 ≤ P.getD j 0 ∧ P.getD j 0 ≤ (j : Int) - 1) → ∀ j, j < (rdQ P B F V k).length → 0 ≤ (sq (rdQ P B F V k) j).l ∧ (sq (rdQ P B F V k) j).l ≤ j
  | 0, _, j, hj => by
    obtain rfl : j = 0 := by simp [rdQ] at hj; exact hj
    exact ⟨Int.le_refl _, Int.le_refl _⟩
  | k + 1, hp, j, hj => by
    by_cases h0 : k = 0
    · subst h0
      obtain rfl : j = 0 := by simp [rdQ] at hj; exact hj
      exact ⟨Int.le_refl _, Int.le_refl _⟩
    · have hl := rdQ_len P B F V k (by omega)
      have ih := rdQ_l P B F V k fun j h1 h2 => hp j h1 (by omega)
      rw [rdQ_step _ _ _ _ (by omega)] at hj ⊢
      rw [List.length_append, List.length_singleton, hl] at hj
      by_cases e : j < k
      · rw [sq_old _ _ _ (by omega)]
        exact ih j (by omega)
      · obtain rfl : j = k := by omega
        have hs := sq_new (rdQ P B F V j) ⟨P.getD j 0, B.getD j 0, (sq (rdQ P B F V j) (P.getD j 0).toNat).l + 1, F.getD j 0, V j⟩
        rw [hl] at hs
        rw [hs]
        have h1 := hp j (by omega) (by omega)
        have h2 := ih (P.getD j 0).toNat (by omega)
        dsimp only
        omega
theorem goodB_bd {x : Int} (h : goodB x = true) : 0 ≤ x ∧ x ≤ 1114111 := by
  unfold goodB at h
  have := of_decide_eq_true h
  omega
/-- A good machine's state at k, told by the program's words. -/
theorem stB_ok {P B F : List Int} {k : Nat} (h0 : 0 < k) (h : stB P B F k = true) (hn : noTwin P B k k) : okSt P B F k := by
  unfold stB at h
  rw [if_neg (by omega)] at h
  simp only [Bool.and_eq_true, decide_eq_true_eq] at h
  exact ⟨by omega, h.2.1, by omega, hn⟩
theorem stB_of {P B F : List Int} {k : Nat} (h0 : 0 < k) (h : okSt P B F k) : stB P B F k = true := by
  unfold stB
  rw [if_neg (by omega)]
  obtain ⟨h1, h2, h3, -⟩ := h
  simp only [Bool.and_eq_true, decide_eq_true_eq]
  exact ⟨by omega, h2, by omega⟩
theorem stB_0 {P B F : List Int} : stB P B F 0 = true ↔ P.getD 0 0 = -1 ∧ B.getD 0 0 = -1 ∧ F.getD 0 0 = 0 := by
  unfold stB
  rw [if_pos rfl]
  simp only [Bool.and_eq_true, decide_eq_true_eq]
end Go.Proofs.Ytdhppigjlldfmaa
namespace Go.Proofs.Ytdhppigjlldfmaa
open Go.ChangeShapes Go.WideShapes Go.ChangeAt Go.WideMaps Go.WideElems Go.RowKit
/-- Where the words that end at the states lie. -/
def EndsV (w : World) (V : Nat → Value) (R : Rw) (n : Nat) : Prop := ∀ j, j < n → ∃ x cap, V j = .slice x (rw_ R j).length cap ∧ IntsAt w x (rw_ R j)
set_option maxRecDepth 100000 in
set_option maxHeartbeats 8000000 in
theorem readA_any (P B F : List Int) (R : Rw) (a b c e : Option Addr) (ca cb cc ce : Nat) (w : World) (hl : szA P B F R ≤ 1048576) (hA : IntsAt w a P) (hB : IntsAt w b B) (hC : IntsAt w c F) (hE : RowsAt w e R) :
    Calls Try.prog 46 #[.agg #[.slice a P.length ca, .slice b B.length cb, .slice c F.length cc, .slice e R.length ce]] w fun r w' => ((goodA P B F R = false ∧ r = .returned (.tuple #[.pointer none, .bool false])) ∨ (goodA P B F R = true ∧ ∃ tb V, r = .returned (.tuple #[.pointer (some ⟨tb, 0, none⟩), .bool true]) ∧ TrieAt w' (w.heap.size + 1) tb (rdQ P B F V P.length) (rdE P B P.length) ∧ EndsV w' V R P.length)) ∧ Below w.heap.size w w' := by
  have HA : Hid _ := hA
  have HB : Hid _ := hB
  have HC : Hid _ := hC
  have HE : Hid _ := hE
  have HLR : Hid (szR R ≤ 1048576) := by unfold szA at hl; exact (by omega : szR R ≤ 1048576)
  have hlP : P.length ≤ 1048576 := by unfold szA at hl; omega
  clear hA hB hC hE hl
  have A1 : ∀ o, Below w.heap.size w (w.alloc o) := fun o => (Below.refl _ _).alloc (Nat.le_refl _) o
  by_cases h1 : 1 ≤ P.length
  case neg =>
    have HG : Hid (goodA P B F R = false) := goodA_no fun h => h1 h.1.1
    have q1 : (P.length : Int) < 1 := by omega
    go_enter Try.func46, Try.ntmps46
    go_wp2
    go_ret2
    exact ⟨.inl ⟨HG.out, rfl⟩, A1 _⟩
  have p1 : ¬ (P.length : Int) < 1 := by omega
  have p1b : decide ((P.length : Int) < 1) = false := decide_eq_false p1
  by_cases h2 : P.length ≤ 100
  case neg =>
    have HG : Hid (goodA P B F R = false) := goodA_no fun h => h2 h.1.2
    have q1 : (100 : Int) < (P.length : Int) := by omega
    go_enter Try.func46, Try.ntmps46
    go_wp2
    go_ret2
    exact ⟨.inl ⟨HG.out, rfl⟩, A1 _⟩
  have p2 : ¬ (100 : Int) < (P.length : Int) := by omega
  have p2b : decide ((100 : Int) < (P.length : Int)) = false := decide_eq_false p2
  by_cases h3 : B.length = P.length
  case neg =>
    have HG : Hid (goodA P B F R = false) := goodA_no fun h => h3 h.2.1.1
    have q1 : ((B.length : Int) == (P.length : Int)) = false := by simp; omega
    have q2 : ¬ (B.length : Int) = (P.length : Int) := by omega
    have q3 : decide ((B.length : Int) = (P.length : Int)) = false := decide_eq_false q2
    go_enter Try.func46, Try.ntmps46
    go_wp2
    go_ret2
    exact ⟨.inl ⟨HG.out, rfl⟩, A1 _⟩
  rw [h3]
  have H3 : Hid (B.length = P.length) := h3
  clear h3
  by_cases h4 : F.length = P.length
  case neg =>
    have HG : Hid (goodA P B F R = false) := goodA_no fun h => h4 h.2.1.2.1
    have q1 : ((F.length : Int) == (P.length : Int)) = false := by simp; omega
    have q2 : ¬ (F.length : Int) = (P.length : Int) := by omega
    have q3 : decide ((F.length : Int) = (P.length : Int)) = false := decide_eq_false q2
    go_enter Try.func46, Try.ntmps46
    go_wp2
    go_ret2
    exact ⟨.inl ⟨HG.out, rfl⟩, A1 _⟩
  rw [h4]
  have H4 : Hid (F.length = P.length) := h4
  clear h4
  by_cases h5 : R.length = P.length
  case neg =>
    have HG : Hid (goodA P B F R = false) := goodA_no fun h => h5 h.2.1.2.2
    have q1 : ((R.length : Int) == (P.length : Int)) = false := by simp; omega
    have q2 : ¬ (R.length : Int) = (P.length : Int) := by omega
    have q3 : decide ((R.length : Int) = (P.length : Int)) = false := decide_eq_false q2
    go_enter Try.func46, Try.ntmps46
    go_wp2
    go_ret2
    exact ⟨.inl ⟨HG.out, rfl⟩, A1 _⟩
  rw [h5]
  have H5 : Hid (R.length = P.length) := h5
  clear h5
  obtain ⟨eb, eo, sa0, sc0, rfl, el0, -, -⟩ := HE.out 0 (by rw [H5.out]; omega)
  have HV : Hid (∀ j, j < P.length → ∃ x cap, w.cell? ⟨eb, eo + j, none⟩ = some (.slice x (rw_ R j).length cap) ∧ (w.cell? ⟨eb, eo + j, none⟩).getD (.slice none 0 0) = .slice x (rw_ R j).length cap ∧ IntsAt w x (rw_ R j)) := fun j hj => by
    obtain ⟨eb', eo', sa, sc, e1, -, c1, i1⟩ := HE.out j (by rw [H5.out]; exact hj)
    cases e1
    exact ⟨sa, sc, c1, by rw [c1]; rfl, i1⟩
  obtain ⟨V, hV⟩ : ∃ V : Nat → Value, V = fun j => (w.cell? ⟨eb, eo + j, none⟩).getD (.slice none 0 0) := ⟨_, rfl⟩
  have HV2 : Hid (∀ j, j < P.length → ∃ x cap, w.cell? ⟨eb, eo + j, none⟩ = some (.slice x (rw_ R j).length cap) ∧ V j = .slice x (rw_ R j).length cap ∧ IntsAt w x (rw_ R j)) := fun j hj => by rw [hV]; exact HV.out j hj
  have EL : Hid (eb < w.heap.size) := el0
  clear hV HV el0
  go_enter Try.func46, Try.ntmps46
  go_wp2_with fail
  refine (newTrie_any (-1) _).mono ?_
  rintro r w1 ⟨tb, rfl, t1, b1⟩
  rw [show (w.alloc (.cells #[.slice a P.length ca, .slice b P.length cb, .slice c P.length cc, .slice (some ⟨eb, eo, none⟩) P.length ce] 28)).heap.size = w.heap.size + 1 by simp] at t1
  have hbl1 : w1.heap[w.heap.size]? = some (.cells #[.slice a P.length ca, .slice b P.length cb, .slice c P.length cc, .slice (some ⟨eb, eo, none⟩) P.length ce] 28) := (b1.block w.heap.size (by simp)).trans (heap_last2 _ _ _ rfl)
  have T1 : Hid (TrieAt w1 (w.heap.size + 1) tb (rdQ P B F V 0) (rdE P B 0)) := t1
  have B1 : Hid (Below w.heap.size w w1) := (A1 _).trans (b1.mono (A1 _).size)
  have d3 : w1.cell? ⟨w.heap.size, 3, none⟩ = some (.slice (some ⟨eb, eo, none⟩) P.length ce) := cell_of hbl1 3
  have HBL1 : Hid _ := hbl1
  clear t1 b1 hbl1 A1
  go_wp2
  go_loopw [47] (fun i wr => ∃ k : Nat, k ≤ P.length ∧ i = .int .i64 k ∧ (∀ j, j < k → risB 0 7 (rw_ R j) = true ∧ stB P B F j = true ∧ noTwin P B j j) ∧ TrieAt wr (w.heap.size + 1) tb (rdQ P B F V k) (rdE P B k) ∧ wr.heap[w.heap.size]? = some (.cells #[.slice a P.length ca, .slice b P.length cb, .slice c P.length cc, .slice (some ⟨eb, eo, none⟩) P.length ce] 28) ∧ Below w.heap.size w wr) (fun i _ => P.length - (intOf i).toNat)
  case atStart => exact ⟨0, Nat.zero_le _, rfl, fun j hj => absurd hj (by omega), T1.out, HBL1.out, B1.out⟩
  case round =>
    obtain ⟨k, hk, rfl, hall, ht, hbl, hbw⟩ := hrel
    obtain ⟨w2, hw2⟩ : ∃ w2, w2 = wr := ⟨_, rfl⟩
    subst hw2
    have HALL : Hid _ := hall
    have T2 : Hid _ := ht
    have BW : Hid (Below w.heap.size w w2) := hbw
    have d0 : w2.cell? ⟨w.heap.size, 0, none⟩ = some (.slice a P.length ca) := cell_of hbl 0
    have d1 : w2.cell? ⟨w.heap.size, 1, none⟩ = some (.slice b P.length cb) := cell_of hbl 1
    have d2 : w2.cell? ⟨w.heap.size, 2, none⟩ = some (.slice c P.length cc) := cell_of hbl 2
    have d3' : w2.cell? ⟨w.heap.size, 3, none⟩ = some (.slice (some ⟨eb, eo, none⟩) P.length ce) := cell_of hbl 3
    have HBL : Hid _ := hbl
    clear hall ht hbw hbl d3
    by_cases hlt : k < P.length
    · have hltI : (k : Int) < (P.length : Int) := by omega
      obtain ⟨x, xc, hc, hVk, iX⟩ := HV2.out k hlt
      have hls : (rw_ R k).length ≤ 1048576 := Nat.le_trans (rw_len R k (by rw [H5.out]; exact hlt)) HLR.out
      have g1 : w2.cell? ⟨eb, eo + k, none⟩ = some (.slice x (rw_ R k).length xc) := (BW.out.cell (p := ⟨eb, eo + k, none⟩) EL.out).trans hc
      have HBI : Hid _ := bits_any (rw_ R k) x _ xc w2 rfl hls (IntsAt.keepB iX BW.out)
      have HIX : Hid _ := iX
      have HVK : Hid _ := hVk
      clear hc iX hVk
      cases q0 : risB 0 7 (rw_ R k) with
      | false =>
        rw [q0] at HBI
        have HG : Hid (goodA P B F R = false) := goodA_no fun h => by have := (h.2.2.2 k hlt).1; rw [q0] at this; cases this
        clear q0
        go_wp2_with fail
        refine Calls.mono HBI.out ?_
        rintro r w' ⟨⟨z, rfl⟩, rfl⟩
        go_wp2
        go_ret2
        exact ⟨.inl ⟨HG.out, rfl⟩, BW.out⟩
      | true =>
        rw [q0] at HBI
        have Q0 : Hid (risB 0 7 (rw_ R k) = true) := q0
        have HIS : Hid _ := isState_any P B F a b c (some ⟨eb, eo, none⟩) P.length ca cb cc P.length ce k w2 rfl H3.out.symm H4.out.symm hlt (by omega) (IntsAt.keepB HA.out BW.out) (IntsAt.keepB HB.out BW.out) (IntsAt.keepB HC.out BW.out)
        clear q0
        cases q1 : stB P B F k with
        | false =>
          rw [q1] at HIS
          have HG : Hid (goodA P B F R = false) := goodA_no fun h => by
            by_cases h0 : k = 0
            · subst h0
              rw [stB_0.2 h.2.2.1] at q1
              cases q1
            · rw [stB_of (by omega) ((h.2.2.2 k hlt).2 (by omega))] at q1
              cases q1
          clear q1
          go_wp2_with fail
          refine Calls.mono HBI.out ?_
          rintro r w' ⟨⟨z, rfl⟩, rfl⟩
          go_wp2_with fail
          refine Calls.mono HIS.out ?_
          rintro r w3 ⟨rfl, b3⟩
          have B3 : Hid (Below w.heap.size w w3) := BW.out.trans (b3.mono BW.out.size)
          clear b3
          go_wp2
          go_ret2
          exact ⟨.inl ⟨HG.out, rfl⟩, B3.out⟩
        | true =>
          rw [q1] at HIS
          have Q1 : Hid (stB P B F k = true) := q1
          clear q1
          go_wp2_with fail
          refine Calls.mono HBI.out ?_
          rintro r w' ⟨⟨z, rfl⟩, rfl⟩
          go_wp2_with fail
          refine Calls.mono HIS.out ?_
          rintro r w3 ⟨rfl, b3⟩
          have B3 : Hid (Below w.heap.size w w3) := BW.out.trans (b3.mono BW.out.size)
          have hbl3 : w3.heap[w.heap.size]? = some (.cells #[.slice a P.length ca, .slice b P.length cb, .slice c P.length cc, .slice (some ⟨eb, eo, none⟩) P.length ce] 28) := (b3.block w.heap.size (Array.getElem?_eq_some_iff.1 HBL.out).1).trans HBL.out
          have T3 : Hid (TrieAt w3 (w.heap.size + 1) tb (rdQ P B F V k) (rdE P B k)) := TrieAt.keepB T2.out b3
          clear b3 d0 d1 d2 d3' g1
          by_cases h0 : k = 0
          · have hk0I : ((k : Int) == 0) = true := by simp; omega
            have hk0K : decide ((k : Int) = 0) = true := decide_eq_true (by omega)
            have HK0 : Hid (k = 0) := h0
            obtain ⟨g, cap, m, e1, e2, e3, e4, e5, e6, e7⟩ := T3.out.form' (by rw [h0]; simp [rdQ])
            have lq : (rdQ P B F V k).length = 1 := by rw [h0]; rfl
            have st := TrieAt.setEnd T3.out.lt.1 e7 e3 e6 e4 0 (.slice x (rw_ R k).length xc)
            rw [show (0 * 5 + 4 : Nat) = 4 by rfl] at st
            have c5 := (e5 0 (by omega)).2.2.2.2
            rw [show (0 * 5 + 4 : Nat) = 4 by rfl] at c5
            obtain ⟨cs, hcs⟩ := own_is e6 (B := g) rfl
            have fz : w3.frozen? ⟨g, 4, none⟩ = false := frozen_of_row w3 _ _ _ _ hcs
            have c0 : w3.cell? ⟨tb, 0, none⟩ = some (.slice (some ⟨g, 0, none⟩) (rdQ P B F V k).length cap) := cell_of e3 0
            rw [lq] at c0
            have TN : Hid (TrieAt (w3.setCell ⟨g, 4, none⟩ (.slice x (rw_ R k).length xc)) (w.heap.size + 1) tb (rdQ P B F V (k + 1)) (rdE P B (k + 1))) := by
              have := st.1
              rw [← HVK.out] at this ⊢
              subst h0
              exact this
            have hgs : w.heap.size ≠ g := by omega
            have BN : Hid ((w3.setCell ⟨g, 4, none⟩ (.slice x (rw_ R k).length xc)).heap[w.heap.size]? = some (.cells #[.slice a P.length ca, .slice b P.length cb, .slice c P.length cc, .slice (some ⟨eb, eo, none⟩) P.length ce] 28)) := (blk_oth w3 g 4 w.heap.size _ (fun e => hgs e.symm)).trans hbl3
            have BBN : Hid (Below w.heap.size w (w3.setCell ⟨g, 4, none⟩ (.slice x (rw_ R k).length xc))) := Below.grown B3.out (grown_set w3 _ _ _) B3.out.size (fun i e => by have := Option.some.inj e; omega)
            have HN : Hid (∀ j, j < k + 1 → risB 0 7 (rw_ R j) = true ∧ stB P B F j = true ∧ noTwin P B j j) := fun j hj => by
              obtain rfl : j = k := by omega
              exact ⟨Q0.out, Q1.out, fun i i1 i2 => absurd i2 (by omega)⟩
            clear e3 e4 e5 e6 st lq h0
            go_wp2
            go_roundw
            case rel => exact ⟨k + 1, by omega, by go_num, HN.out, TN.out, BN.out, BBN.out⟩
            case measure => simp [intOf]; omega
          · have hk0I : ((k : Int) == 0) = false := by simp; omega
            have hk0J : ¬ (k : Int) = 0 := by omega
            have hk0K : decide ((k : Int) = 0) = false := decide_eq_false hk0J
            have hkpos : 0 < k := by omega
            have HSB : Hid (okA P B F R → okSt P B F k) := fun h => (h.2.2.2 k hlt).2 hkpos
            have HBD : Hid ((0 ≤ P.getD k 0 ∧ P.getD k 0 < (k : Int)) ∧ goodB (B.getD k 0) = true ∧ 0 ≤ F.getD k 0 ∧ F.getD k 0 < (k : Int)) := by
              have := Q1.out
              unfold stB at this
              rw [if_neg (by omega)] at this
              simp only [Bool.and_eq_true, decide_eq_true_eq] at this
              exact ⟨this.1, this.2.1, this.2.2⟩
            have al3 := al_W w3 (.cells #[.int .i64 0, .int .i64 0] 73)
            have B4 : Hid (Below w.heap.size w (w3.alloc (.cells #[.int .i64 0, .int .i64 0] 73))) := B3.out.trans (al3.mono B3.out.size)
            have hbl4 := (al3.block w.heap.size (Array.getElem?_eq_some_iff.1 hbl3).1).trans hbl3
            obtain ⟨pb, po, rfl, pl, pc⟩ := (IntsAt.keepB HA.out B4.out) k hlt
            obtain ⟨qb, qo, rfl, ql, qc⟩ := (IntsAt.keepB HB.out B4.out) k (by rw [H3.out]; exact hlt)
            obtain ⟨fb, fo, rfl, fl, fc⟩ := (IntsAt.keepB HC.out B4.out) k (by rw [H4.out]; exact hlt)
            have d0 := cell_of hbl4 0
            have d1 := cell_of hbl4 1
            have d2 := cell_of hbl4 2
            simp only [List.getElem?_toArray, List.getElem?_cons_zero, List.getElem?_cons_succ] at d0 d1 d2
            obtain ⟨X, hX⟩ : ∃ X, X = P.getD k 0 := ⟨_, rfl⟩
            obtain ⟨Y, hY⟩ : ∃ Y, Y = B.getD k 0 := ⟨_, rfl⟩
            obtain ⟨Z, hZ⟩ : ∃ Z, Z = F.getD k 0 := ⟨_, rfl⟩
            obtain ⟨_, _, pe, pl', pc'⟩ := (IntsAt.keepB HA.out B3.out) k hlt
            cases pe
            obtain ⟨_, _, qe, ql', qc'⟩ := (IntsAt.keepB HB.out B3.out) k (by rw [H3.out]; exact hlt)
            cases qe
            have d0' := cell_of hbl3 0
            have d1' := cell_of hbl3 1
            simp only [List.getElem?_toArray, List.getElem?_cons_zero, List.getElem?_cons_succ] at d0' d1'
            rw [← hX] at pc pc'
            rw [← hY] at qc qc'
            rw [← hZ] at fc
            have HX : Hid (X = P.getD k 0) := hX
            have HY : Hid (Y = B.getD k 0) := hY
            have HZ : Hid (Z = F.getD k 0) := hZ
            have HB4 : Hid _ := hbl4
            have e0 : (w3.alloc (.cells #[.int .i64 0, .int .i64 0] 73)).cell? ⟨w3.heap.size, 0, none⟩ = some (.int .i64 0) := cell_of (heap_last2 _ _ _ rfl) 0
            have e1 : (w3.alloc (.cells #[.int .i64 0, .int .i64 0] 73)).cell? ⟨w3.heap.size, 1, none⟩ = some (.int .i64 0) := cell_of (heap_last2 _ _ _ rfl) 1
            have z0 : (w3.alloc (.cells #[.int .i64 0, .int .i64 0] 73)).frozen? ⟨w3.heap.size, 0, none⟩ = false := frozen_of_row _ _ _ _ _ (heap_last2 _ _ _ rfl)
            have z1 : (w3.alloc (.cells #[.int .i64 0, .int .i64 0] 73)).frozen? ⟨w3.heap.size, 1, none⟩ = false := frozen_of_row _ _ _ _ _ (heap_last2 _ _ _ rfl)
            have HB3 : Hid _ := hbl3
            clear hX hY hZ hbl3 hbl4 al3
            obtain ⟨f, hf⟩ : ∃ f : Nat, X = (f : Int) := ⟨X.toNat, by have := HBD.out.1.1; have := HX.out; omega⟩
            subst hf
            go_wp2
            go_region
            clear d0 d1 d0' d1' pc pc' qc qc' fc e0 e1 z0 z1 d2
            have b6 : Below w3.heap.size w3 (w3.alloc (.cells #[.int .i64 f, .int .i64 Y] 73)).drew.drew := (al_W w3 _).drew.drew
            have t6 := TrieAt.keepB T3.out b6
            have hx6 : (w3.alloc (.cells #[.int .i64 f, .int .i64 Y] 73)).drew.drew.heap[w3.heap.size]? = some (.cells #[.int .i64 f, .int .i64 Y] 73) := heap_last2 w3 _ _ rfl
            have hbl6 := (b6.block w.heap.size (Array.getElem?_eq_some_iff.1 HB3.out).1).trans HB3.out
            have BW6 : Hid (Below w.heap.size w (w3.alloc (.cells #[.int .i64 f, .int .i64 Y] 73)).drew.drew) := B3.out.trans (b6.mono B3.out.size)
            have lq := rdQ_len P B F V k hkpos
            obtain ⟨g, cap, m, hg1, hg2, hblt, hE, hc⟩ := t6.form (by omega)
            have HYB := goodB_bd (HY.out ▸ HBD.out.2.1)
            have hYw : wf64 Y := WalkArith.wf_i64 (by omega)
            have hfk : f < k := by have := HBD.out.1.2; have := HX.out; omega
            have hfw : wf64 (f : Int) := WalkArith.wf_i64 (by omega)
            have s6 : (w3.alloc (.cells #[.int .i64 f, .int .i64 Y] 73)).drew.drew.cell? ⟨tb, 1, none⟩ = some (.map (some m)) ∧ (w3.alloc (.cells #[.int .i64 f, .int .i64 Y] 73)).drew.drew.cell? ⟨w3.heap.size, 0, none⟩ = some (.int .i64 f) ∧ (w3.alloc (.cells #[.int .i64 f, .int .i64 Y] 73)).drew.drew.cell? ⟨w3.heap.size, 1, none⟩ = some (.int .i64 Y) := ⟨cell_of hblt 1, cell_of hx6 0, cell_of hx6 1⟩
            cases he : rdE P B k f Y with
            | some j =>
              have HG : Hid (goodA P B F R = false) := goodA_no fun h => by
                obtain ⟨j1, j2, j3, j4⟩ := rdE_some P B _ _ _ _ he
                exact (HSB.out h).2.2.2 j j1 j2 ⟨by rw [j3]; exact HX.out, by rw [j4]; exact HY.out⟩
              have hl := hE.yes hfw hYw he
              clear he hE hc hblt hx6 hbl6 t6 b6
              go_wp2
              go_region_held (fun w' => w'.cell? ⟨tb, 1, none⟩ = some (.map (some m)) ∧ w'.cell? ⟨w3.heap.size, 0, none⟩ = some (.int .i64 f) ∧ w'.cell? ⟨w3.heap.size, 1, none⟩ = some (.int .i64 Y)) (first | assumption) (fail)
              go_wp2
              go_ret2
              exact ⟨.inl ⟨HG.out, rfl⟩, BW6.out⟩
            | none =>
              have HTW : Hid (noTwin P B k k) := fun j j1 j2 h => rdE_none P B _ _ _ he j j1 j2 ⟨h.1.trans HX.out.symm, h.2.trans HY.out.symm⟩
              have hl := hE.no hfw hYw he
              have T7 : Hid (TrieAt (w3.alloc (.cells #[.int .i64 f, .int .i64 Y] 73)).drew.drew.drew (w.heap.size + 1) tb (rdQ P B F V k) (rdE P B k)) := TrieAt.keepB T3.out b6.drew
              have hlev := rdQ_l P B F V k (fun j j0 j1 => by
                have := (stB_ok j0 (HALL.out j j1).2.1 (HALL.out j j1).2.2).1
                exact this) f (by omega)
              have HADD : Hid (Calls Try.prog 73 #[.pointer (some ⟨tb, 0, none⟩), .agg #[.int .i64 f, .int .i64 Y], .int .i64 Z, .slice x (rw_ R k).length xc] (w3.alloc (.cells #[.int .i64 f, .int .i64 Y] 73)).drew.drew.drew fun e w' => e = .returned (.int .i64 (rdQ P B F V k).length) ∧ TrieAt w' (w.heap.size + 1) tb (rdQ P B F V k ++ [⟨f, Y, (sq (rdQ P B F V k) f).l + 1, Z, .slice x (rw_ R k).length xc⟩]) (upE (rdE P B k) f Y (rdQ P B F V k).length) ∧ Below (w.heap.size + 1) (w3.alloc (.cells #[.int .i64 f, .int .i64 Y] 73)).drew.drew.drew w' ∧ KeepI (w3.alloc (.cells #[.int .i64 f, .int .i64 Y] 73)).drew.drew.drew w') := add_any (w.heap.size + 1) tb f Y Z x (rw_ R k).length xc (rdQ P B F V k) (rdE P B k) _ T7.out (by omega) (by omega) hYw ⟨hlev.1, by have := hlev.2; omega⟩
              have d2 : (w3.alloc (.cells #[.int .i64 f, .int .i64 Y] 73)).drew.drew.drew.cell? ⟨w.heap.size, 2, none⟩ = some (.slice (some ⟨fb, fo, none⟩) P.length cc) := cell_of hbl6 2
              have HB6 : Hid _ := hbl6
              obtain ⟨_, _, fe, fl', fc⟩ := (IntsAt.keepB HC.out BW6.out.drew) k (by rw [H4.out]; exact hlt)
              cases fe
              rw [← HZ.out] at fc
              have BW7 : Hid _ := BW6.out.drew
              clear he hE hc hblt hx6 hbl6 t6 b6 hlev
              go_wp2
              go_region_held (fun w' => w'.cell? ⟨tb, 1, none⟩ = some (.map (some m)) ∧ w'.cell? ⟨w3.heap.size, 0, none⟩ = some (.int .i64 f) ∧ w'.cell? ⟨w3.heap.size, 1, none⟩ = some (.int .i64 Y)) (first | assumption) (fail)
              go_wp2
              have x0 := s6.2.1
              have x1 := s6.2.2
              go_region_law (first
                | (go_simp
                   go_at_call 73
                   (with_reducible refine Calls.mono HADD.out ?_)
                   rintro e w8 ⟨rfl, t8, b8, -⟩
                   have T8 : Hid (TrieAt w8 (w.heap.size + 1) tb (rdQ P B F V k ++ [⟨f, Y, (sq (rdQ P B F V k) f).l + 1, Z, .slice x (rw_ R k).length xc⟩]) (upE (rdE P B k) f Y (rdQ P B F V k).length)) := t8
                   have B8 : Hid (Below (w.heap.size + 1) (w3.alloc (.cells #[.int .i64 f, .int .i64 Y] 73)).drew.drew.drew w8) := b8
                   clear t8 b8
                   dsimp only))
              all_goals
                have TN : Hid (TrieAt w8 (w.heap.size + 1) tb (rdQ P B F V (k + 1)) (rdE P B (k + 1))) := by
                  have := T8.out
                  rw [lq] at this
                  rw [rdQ_step _ _ _ _ hkpos, rdE_step _ _ hkpos, ← HX.out, ← HY.out, ← HZ.out, HVK.out]
                  exact this
                have BN : Hid (w8.heap[w.heap.size]? = some (.cells #[.slice (some ⟨pb, po, none⟩) P.length ca, .slice (some ⟨qb, qo, none⟩) P.length cb, .slice (some ⟨fb, fo, none⟩) P.length cc, .slice (some ⟨eb, eo, none⟩) P.length ce] 28)) := (B8.out.block w.heap.size (by omega)).trans HB6.out
                have BBN : Hid (Below w.heap.size w w8) := BW7.out.trans (B8.out.mono (by omega))
                have HN : Hid (∀ j, j < k + 1 → risB 0 7 (rw_ R j) = true ∧ stB P B F j = true ∧ noTwin P B j j) := fun j hj => by
                  by_cases ej : j = k
                  · subst ej
                    exact ⟨Q0.out, Q1.out, HTW.out⟩
                  · exact HALL.out j (by omega)
                go_wp2
                go_roundw
                case rel => exact ⟨k + 1, by omega, by go_num, HN.out, TN.out, BN.out, BBN.out⟩
                case measure => simp [intOf]; omega
    · obtain rfl : k = P.length := by omega
      have hltI : ¬ (P.length : Int) < (P.length : Int) := by omega
      have HG : Hid (goodA P B F R = true) := goodA_yes ⟨⟨h1, h2⟩, ⟨H3.out, H4.out, H5.out⟩, stB_0.1 (HALL.out 0 (by omega)).2.1, fun j hj => ⟨(HALL.out j hj).1, fun j0 => stB_ok j0 (HALL.out j hj).2.1 (HALL.out j hj).2.2⟩⟩
      have END : Hid (EndsV w2 V R P.length) := fun j hj => by
        obtain ⟨x, cap, -, hv, ix⟩ := HV2.out j hj
        exact ⟨x, cap, hv, IntsAt.keepB ix BW.out⟩
      go_wp2
      go_ret2
      exact ⟨.inr ⟨HG.out, tb, by first | exact ⟨V, rfl, T2.out, END.out⟩ | exact ⟨rfl, V, T2.out, END.out⟩⟩, BW.out⟩
end Go.Proofs.Ytdhppigjlldfmaa
namespace Go.Proofs.Ytdhppigjlldfmaa
open Go.ChangeShapes Go.WideShapes Go.ChangeAt Go.WideMaps Go.WideElems Go.RowKit
set_option maxRecDepth 100000 in
theorem igoodA_any (P B F : List Int) (R : Rw) (a b c e : Option Addr) (ca cb cc ce : Nat) (w : World) (hl : szA P B F R ≤ 1048576) (hA : IntsAt w a P) (hB : IntsAt w b B) (hC : IntsAt w c F) (hE : RowsAt w e R) :
    Calls Try.prog 13 #[.agg #[.slice a P.length ca, .slice b B.length cb, .slice c F.length cc, .slice e R.length ce]] w fun r w' => r = .returned (.bool (goodA P B F R)) ∧ Below w.heap.size w w' := by
  have HR : Hid (∀ o, Calls Try.prog 46 #[.agg #[.slice a P.length ca, .slice b B.length cb, .slice c F.length cc, .slice e R.length ce]] (w.alloc o) fun r w' => ((goodA P B F R = false ∧ r = .returned (.tuple #[.pointer none, .bool false])) ∨ (goodA P B F R = true ∧ ∃ tb, r = .returned (.tuple #[.pointer (some ⟨tb, 0, none⟩), .bool true]))) ∧ Below w.heap.size w w') := fun o => (readA_any P B F R a b c e ca cb cc ce (w.alloc o) hl (IntsAt.keepB hA (al_W w o)) (IntsAt.keepB hB (al_W w o)) (IntsAt.keepB hC (al_W w o)) (RowsAt.keepB hE (al_W w o))).mono fun r w' ⟨h, bb⟩ => ⟨by
    rcases h with h | ⟨h1, tb, V, h2, -⟩
    · exact .inl h
    · exact .inr ⟨h1, tb, h2⟩, (al_W w o).trans (bb.mono (al_W w o).size)⟩
  clear hA hB hC hE hl
  go_enter Try.func13, Try.ntmps13
  go_wp2_with fail
  refine Calls.mono (HR.out _) ?_
  rintro r w1 ⟨h, b1⟩
  have B1 : Hid (Below w.heap.size w w1) := b1
  clear b1
  rcases h with ⟨hg, rfl⟩ | ⟨hg, tb, rfl⟩
  all_goals
    have HG : Hid _ := hg
    clear hg
    go_wp2
    go_ret
    exact ⟨by rw [HG.out] <;> rfl, B1.out⟩
end Go.Proofs.Ytdhppigjlldfmaa
namespace Go.Proofs.Ytdhppigjlldfmaa
open Go.ChangeShapes Go.WideShapes Go.ChangeAt Go.WideMaps Go.WideElems Go.RowKit
theorem rdQ_at (P B F : List Int) (V : Nat → Value) (j : Nat) (hj : 0 < j) : ∀ k, j < k → sq (rdQ P B F V k) j = ⟨P.getD j 0, B.getD j 0, (sq (rdQ P B F V j) (P.getD j 0).toNat).l + 1, F.getD j 0, V j⟩
  | 0, h => absurd h (by omega)
  | k + 1, h => by
    have hl := rdQ_len P B F V k (by omega)
    rw [rdQ_step _ _ _ _ (by omega)]
    by_cases e : j < k
    · rw [sq_old _ _ _ (by omega)]
      exact rdQ_at P B F V j hj k e
    · obtain rfl : j = k := by omega
      have hs := sq_new (rdQ P B F V j) ⟨P.getD j 0, B.getD j 0, (sq (rdQ P B F V j) (P.getD j 0).toNat).l + 1, F.getD j 0, V j⟩
      rwa [hl] at hs
theorem okA_fail {P B F : List Int} {R : Rw} (h : okA P B F R) (V : Nat → Value) : FailOk (rdQ P B F V P.length) := fun j j0 jl => by
  rw [rdQ_len _ _ _ _ _ (by have := h.1.1; omega)] at jl
  rw [rdQ_at P B F V j j0 _ jl]
  have := ((h.2.2.2 j jl).2 j0).2.2.1
  dsimp only
  omega
theorem okA_edge {P B F : List Int} {R : Rw} (h : okA P B F R) {f b : Int} (hf : 0 ≤ f) {j : Nat} (hj : j < P.length) (h1 : P.getD j 0 = f) (h2 : B.getD j 0 = b) : rdE P B P.length f b = some j := by
  have j0 : 0 < j := by
    rcases Nat.eq_zero_or_pos j with e | e
    · subst e
      have := h.2.2.1.1
      omega
    · exact e
  cases he : rdE P B P.length f b with
  | none => exact absurd ⟨h1, h2⟩ (rdE_none P B f b _ he j j0 hj)
  | some i =>
    obtain ⟨i1, i2, i3, i4⟩ := rdE_some P B f b i _ he
    rcases Nat.lt_trichotomy i j with e | e | e
    · exact absurd ⟨i3.trans h1.symm, i4.trans h2.symm⟩ (((h.2.2.2 j hj).2 j0).2.2.2 i i1 e)
    · rw [e]
    · exact absurd ⟨h1.trans i3.symm, h2.trans i4.symm⟩ (((h.2.2.2 i i2).2 (by omega)).2.2.2 j j0 e)
theorem okA_none {P B F : List Int} {R : Rw} (_h : okA P B F R) {f b : Int} (hn : ∀ j, j < P.length → ¬ (P.getD j 0 = f ∧ B.getD j 0 = b)) : rdE P B P.length f b = none := by
  cases he : rdE P B P.length f b with
  | none => rfl
  | some i =>
    obtain ⟨i1, i2, i3, i4⟩ := rdE_some P B f b i _ he
    exact absurd ⟨i3, i4⟩ (hn i i2)
def noEdge (P B : List Int) (s : Nat) (r : Int) (k : Nat) : Prop := ∀ j, j < k → ¬ (P.getD j 0 = (s : Int) ∧ B.getD j 0 = r)
set_option maxRecDepth 100000 in
set_option maxHeartbeats 4000000 in
theorem sstep_any (P B F : List Int) (R : Rw) (hok : okA P B F R) (V : Nat → Value) (r : Int) : ∀ (d s : Nat), s < d → s < P.length → ∀ (a b c e : Option Addr) (ca cb cc ne ce : Nat) (w : World), IntsAt w a P → IntsAt w b B → IntsAt w c F →
    Calls Try.prog 51 #[.agg #[.slice a P.length ca, .slice b P.length cb, .slice c P.length cc, .slice e ne ce], .int .i64 s, .int .i64 r] w fun x w' => x = .returned (.int .i64 (stepN (rdQ P B F V P.length) (rdE P B P.length) s r)) ∧ Below w.heap.size w w'
  | 0, _, h, _ => fun _ _ _ _ _ _ _ _ _ _ _ _ _ => absurd h (by omega)
  | d + 1, s, hd, hs => fun a b c e ca cb cc ne ce w hA hB hC => by
    have HIH : Hid (∀ s', s' < d → s' < P.length → ∀ (a b c e : Option Addr) (ca cb cc ne ce : Nat) (w : World), IntsAt w a P → IntsAt w b B → IntsAt w c F → Calls Try.prog 51 #[.agg #[.slice a P.length ca, .slice b P.length cb, .slice c P.length cc, .slice e ne ce], .int .i64 s', .int .i64 r] w fun x w' => x = .returned (.int .i64 (stepN (rdQ P B F V P.length) (rdE P B P.length) s' r)) ∧ Below w.heap.size w w') := fun s' h1 h2 => sstep_any P B F R hok V r d s' h1 h2
    have HOK : Hid _ := hok
    have A1 := al_W w (.cells #[.slice a P.length ca, .slice b P.length cb, .slice c P.length cc, .slice e ne ce] 28)
    have h0 : 0 < P.length := by omega
    obtain ⟨pb, po, rfl, -, -⟩ := hA 0 h0
    obtain ⟨qb, qo, rfl, -, -⟩ := hB 0 (by rw [hok.2.1.1]; exact h0)
    obtain ⟨fb, fo, rfl, -, -⟩ := hC 0 (by rw [hok.2.1.2.1]; exact h0)
    have HA : Hid _ := IntsAt.keepB hA A1
    have HB : Hid _ := IntsAt.keepB hB A1
    have HC : Hid _ := IntsAt.keepB hC A1
    have hbl : (w.alloc (.cells #[.slice (some ⟨pb, po, none⟩) P.length ca, .slice (some ⟨qb, qo, none⟩) P.length cb, .slice (some ⟨fb, fo, none⟩) P.length cc, .slice e ne ce] 28)).heap[w.heap.size]? = some (.cells #[.slice (some ⟨pb, po, none⟩) P.length ca, .slice (some ⟨qb, qo, none⟩) P.length cb, .slice (some ⟨fb, fo, none⟩) P.length cc, .slice e ne ce] 28) := heap_last2 _ _ _ rfl
    have HBL : Hid _ := hbl
    have HA1 : Hid _ := A1
    have H2 : Hid (B.length = P.length ∧ F.length = P.length) := ⟨hok.2.1.1, hok.2.1.2.1⟩
    have hn : P.length ≤ 100 := hok.1.2
    clear hA hB hC hbl A1 hok
    go_enter Try.func51, Try.ntmps51
    go_wp2
    go_loopw [11] (fun i wr => ∃ k : Nat, k ≤ P.length ∧ i = .int .i64 k ∧ noEdge P B s r k ∧ wr = w.alloc (.cells #[.slice (some ⟨pb, po, none⟩) P.length ca, .slice (some ⟨qb, qo, none⟩) P.length cb, .slice (some ⟨fb, fo, none⟩) P.length cc, .slice e ne ce] 28)) (fun i _ => P.length - (intOf i).toNat)
    case atStart => exact ⟨0, Nat.zero_le _, rfl, fun j hj => absurd hj (by omega), rfl⟩
    case round =>
      obtain ⟨k, hk, rfl, hno, rfl⟩ := hrel
      have HNO : Hid _ := hno
      clear hno
      have d0 := cell_of HBL.out 0
      have d1 := cell_of HBL.out 1
      have d2 := cell_of HBL.out 2
      have d3 := cell_of HBL.out 3
      simp only [List.getElem?_toArray, List.getElem?_cons_zero, List.getElem?_cons_succ] at d0 d1 d2 d3
      by_cases hlt : k < P.length
      · have hltI : (k : Int) < (P.length : Int) := by omega
        obtain ⟨_, _, pe, -, pc⟩ := HA.out k hlt
        cases pe
        obtain ⟨_, _, qe, -, qc⟩ := HB.out k (by rw [H2.out.1]; exact hlt)
        cases qe
        by_cases e1 : P.getD k 0 = (s : Int)
        · by_cases e2 : B.getD k 0 = r
          · have HST : Hid (stepN (rdQ P B F V P.length) (rdE P B P.length) s r = k) := stepN_yes (okA_edge HOK.out (by omega) hlt e1 e2)
            rw [e1] at pc
            rw [e2] at qc
            clear e1 e2
            go_wp2
            go_ret
            exact ⟨by rw [HST.out] <;> rfl, HA1.out⟩
          · have HN : Hid (noEdge P B s r (k + 1)) := fun j hj h => by
              by_cases ej : j = k
              · exact e2 (ej ▸ h.2)
              · exact HNO.out j (by omega) h
            rw [e1] at pc
            generalize B.getD k 0 = y at qc e2
            have e2b : decide (y = r) = false := decide_eq_false e2
            have e2c : (y == r) = false := by simpa using e2
            clear e1
            go_wp2
            go_roundw
            case rel => exact ⟨k + 1, by omega, by go_num, HN.out, by first | rfl | trivial⟩
            case measure => simp [intOf]; omega
        · have HN : Hid (noEdge P B s r (k + 1)) := fun j hj h => by
            by_cases ej : j = k
            · exact e1 (ej ▸ h.1)
            · exact HNO.out j (by omega) h
          generalize P.getD k 0 = x at pc e1
          have e1b : decide (x = (s : Int)) = false := decide_eq_false e1
          have e1c : (x == (s : Int)) = false := by simpa using e1
          clear qc
          go_wp2
          go_roundw
          case rel => exact ⟨k + 1, by omega, by go_num, HN.out, by first | rfl | trivial⟩
          case measure => simp [intOf]; omega
      · obtain rfl : k = P.length := by omega
        have hltI : ¬ (P.length : Int) < (P.length : Int) := by omega
        have he := okA_none HOK.out HNO.out
        by_cases hs0 : s = 0
        · have hs0I : ((s : Int) == 0) = true := by simp; omega
          have hs0K : decide ((s : Int) = 0) = true := decide_eq_true (by omega)
          have HST : Hid (stepN (rdQ P B F V P.length) (rdE P B P.length) s r = 0) := by
            subst hs0
            exact stepN_zero he
          clear he hs0
          go_wp2
          go_ret
          exact ⟨by rw [HST.out] <;> rfl, HA1.out⟩
        · have hs0I : ((s : Int) == 0) = false := by simp; omega
          have hs0J : ¬ (s : Int) = 0 := by omega
          have hs0K : decide ((s : Int) = 0) = false := decide_eq_false hs0J
          have hlq := rdQ_len P B F V P.length (by omega)
          obtain ⟨f1, f2⟩ := (okA_fail HOK.out V).lt (s := s) (by omega) (by omega)
          have HST : Hid (stepN (rdQ P B F V P.length) (rdE P B P.length) s r = stepN (rdQ P B F V P.length) (rdE P B P.length) (failN (rdQ P B F V P.length) s) r) := stepN_back (okA_fail HOK.out V) (by omega) (by omega) he
          rw [rdQ_at P B F V s (by omega) _ hs] at f2
          dsimp only at f2
          generalize failN (rdQ P B F V P.length) s = fs at f1 f2 HST
          have hsI : (s : Int) < (P.length : Int) := by omega
          obtain ⟨_, _, fe, -, fc⟩ := HC.out s (by rw [H2.out.2]; exact hs)
          cases fe
          rw [← f2] at fc
          have HREC : Hid _ := fun (w' : World) (hw : w' = (w.alloc (.cells #[.slice (some ⟨pb, po, none⟩) P.length ca, .slice (some ⟨qb, qo, none⟩) P.length cb, .slice (some ⟨fb, fo, none⟩) P.length cc, .slice e ne ce] 28)).drew) => HIH.out fs (by omega) (by omega) (some ⟨pb, po, none⟩) (some ⟨qb, qo, none⟩) (some ⟨fb, fo, none⟩) e ca cb cc ne ce w' (hw ▸ IntsAt.keepB HA.out (Below.refl _ _).drew) (hw ▸ IntsAt.keepB HB.out (Below.refl _ _).drew) (hw ▸ IntsAt.keepB HC.out (Below.refl _ _).drew)
          have HR2 : Hid (Calls Try.prog 51 #[.agg #[.slice (some ⟨pb, po, none⟩) P.length ca, .slice (some ⟨qb, qo, none⟩) P.length cb, .slice (some ⟨fb, fo, none⟩) P.length cc, .slice e ne ce], .int .i64 fs, .int .i64 r] (w.alloc (.cells #[.slice (some ⟨pb, po, none⟩) P.length ca, .slice (some ⟨qb, qo, none⟩) P.length cb, .slice (some ⟨fb, fo, none⟩) P.length cc, .slice e ne ce] 28)).drew fun x w' => x = .returned (.int .i64 (stepN (rdQ P B F V P.length) (rdE P B P.length) fs r)) ∧ Below w.heap.size w w') := (HREC.out _ rfl).mono fun x w' ⟨h1, h2⟩ => ⟨h1, HA1.out.drew.trans (h2.mono HA1.out.drew.size)⟩
          clear he hs0 HREC f1 f2 hlq
          go_wp2
          go_region_law (first
            | (go_simp
               go_at_call 51
               (with_reducible refine Calls.mono HR2.out ?_)
               rintro x w3 ⟨rfl, b3⟩
               have B3 : Hid (Below w.heap.size w w3) := b3
               clear b3
               dsimp only))
          all_goals
            go_wp2
            go_ret
            exact ⟨by rw [HST.out] <;> rfl, B3.out⟩
end Go.Proofs.Ytdhppigjlldfmaa
namespace Go.Proofs.Ytdhppigjlldfmaa
open Go.ChangeShapes Go.WideShapes Go.ChangeAt Go.WideMaps Go.WideElems Go.RowKit
theorem sq_none {Q : List Sq} {j : Nat} (h : Q.length ≤ j) : sq Q j = ⟨0, 0, 0, 0, .slice none 0 0⟩ := by
  unfold sq
  simp [List.getD, List.getElem?_eq_none h]
theorem rdQ_key (P B F : List Int) (V V' : Nat → Value) : ∀ n, 0 < n → ∀ j, j < n → (sq (rdQ P B F V' n) j).f = (sq (rdQ P B F V n) j).f ∧ (sq (rdQ P B F V' n) j).b = (sq (rdQ P B F V n) j).b ∧ (sq (rdQ P B F V' n) j).l = (sq (rdQ P B F V n) j).l ∧ (sq (rdQ P B F V' n) j).q = (sq (rdQ P B F V n) j).q
  | n + 1, _, j, hj => by
    by_cases n0 : n = 0
    · subst n0
      obtain rfl : j = 0 := by omega
      exact ⟨rfl, rfl, rfl, rfl⟩
    · have h0 : 0 < n := by omega
      have ih := rdQ_key P B F V V' n h0
      have l1 := rdQ_len P B F V n h0
      have l2 := rdQ_len P B F V' n h0
      rw [rdQ_step _ _ _ _ h0, rdQ_step _ _ _ _ h0]
      by_cases e : j < n
      · rw [sq_old _ _ _ (by omega), sq_old _ _ _ (by omega)]
        exact ih j e
      · obtain rfl : j = n := by omega
        have s1 := sq_new (rdQ P B F V j) ⟨P.getD j 0, B.getD j 0, (sq (rdQ P B F V j) (P.getD j 0).toNat).l + 1, F.getD j 0, V j⟩
        have s2 := sq_new (rdQ P B F V' j) ⟨P.getD j 0, B.getD j 0, (sq (rdQ P B F V' j) (P.getD j 0).toNat).l + 1, F.getD j 0, V' j⟩
        rw [l1] at s1
        rw [l2] at s2
        rw [s1, s2]
        refine ⟨rfl, rfl, ?_, rfl⟩
        dsimp only
        by_cases e2 : (P.getD j 0).toNat < j
        · rw [(ih _ e2).2.2.1]
        · have d1 : sq (rdQ P B F V j) (P.getD j 0).toNat = ⟨0, 0, 0, 0, .slice none 0 0⟩ := sq_none (show (rdQ P B F V j).length ≤ (P.getD j 0).toNat by omega)
          have d2 : sq (rdQ P B F V' j) (P.getD j 0).toNat = ⟨0, 0, 0, 0, .slice none 0 0⟩ := sq_none (show (rdQ P B F V' j).length ≤ (P.getD j 0).toNat by omega)
          rw [d1, d2]
theorem rdQ_same (P B F : List Int) (V V' : Nat → Value) (n : Nat) (hn : 0 < n) : SameQ (rdQ P B F V n) (rdQ P B F V' n) := by
  have key := rdQ_key P B F V V' n hn
  have l1 := rdQ_len P B F V n hn
  have l2 := rdQ_len P B F V' n hn
  refine ⟨by rw [l1, l2], fun j => ?_⟩
  by_cases e : j < n
  · exact key j e
  · have d1 : sq (rdQ P B F V n) j = ⟨0, 0, 0, 0, .slice none 0 0⟩ := sq_none (show (rdQ P B F V n).length ≤ j by omega)
    have d2 : sq (rdQ P B F V' n) j = ⟨0, 0, 0, 0, .slice none 0 0⟩ := sq_none (show (rdQ P B F V' n).length ≤ j by omega)
    rw [d1, d2]
    exact ⟨rfl, rfl, rfl, rfl⟩
def nV : Nat → Value := fun _ => .slice none 0 0
noncomputable def stK (P B F : List Int) (R : Rw) (s r : Int) : Bool := goodA P B F R && (decide (0 ≤ s ∧ s < P.length) && goodB r)
noncomputable def stR (P B F : List Int) (R : Rw) (s r : Int) : Int := if stK P B F R s r = true then (stepN (rdQ P B F nV P.length) (rdE P B P.length) s.toNat r : Nat) else 0
theorem st_no {P B F : List Int} {R : Rw} {s r : Int} (h : stK P B F R s r = false) : stK P B F R s r = false ∧ stR P B F R s r = 0 := ⟨h, by unfold stR; rw [h]; rfl⟩
theorem st_yes {P B F : List Int} {R : Rw} {s : Nat} {r : Int} (h : stK P B F R s r = true) : stK P B F R s r = true ∧ stR P B F R s r = (stepN (rdQ P B F nV P.length) (rdE P B P.length) s r : Nat) := ⟨h, by unfold stR; rw [if_pos h]; simp⟩
set_option maxRecDepth 100000 in
set_option maxHeartbeats 4000000 in
theorem sstepA_any (P B F : List Int) (R : Rw) (s r : Int) (a b c e : Option Addr) (ca cb cc ce : Nat) (w : World) (hl : szA P B F R ≤ 1048576) (hA : IntsAt w a P) (hB : IntsAt w b B) (hC : IntsAt w c F) (hE : RowsAt w e R) :
    Calls Try.prog 18 #[.agg #[.slice a P.length ca, .slice b B.length cb, .slice c F.length cc, .slice e R.length ce], .int .i64 s, .int .i64 r] w fun x w' => x = .returned (.tuple #[.int .i64 (stR P B F R s r), .bool (stK P B F R s r)]) ∧ Below w.heap.size w w' := by
  have HS : Hid (∀ o, Calls Try.prog 20 #[.agg #[.slice a P.length ca, .slice b B.length cb, .slice c F.length cc, .slice e R.length ce]] (w.alloc o) fun r w' => r = .returned (.bool (goodA P B F R)) ∧ Below (w.alloc o).heap.size (w.alloc o) w') := fun o => sgoodA_any P B F R a b c e ca cb cc ce (w.alloc o) hl (IntsAt.keepB hA (al_W w o)) (IntsAt.keepB hB (al_W w o)) (IntsAt.keepB hC (al_W w o)) (RowsAt.keepB hE (al_W w o))
  have HA : Hid _ := hA
  have HB : Hid _ := hB
  have HC : Hid _ := hC
  have hlP : P.length ≤ 1048576 := by unfold szA at hl; omega
  clear hA hB hC hE hl
  cases hg : goodA P B F R with
  | false =>
    have HK : Hid (stK P B F R s r = false ∧ stR P B F R s r = 0) := st_no (by unfold stK; rw [hg]; rfl)
    rw [hg] at HS
    clear hg
    go_enter Try.func18, Try.ntmps18
    go_wp2_with fail
    refine Calls.mono (HS.out _) ?_
    rintro x w1 ⟨rfl, b1⟩
    have B1 : Hid (Below w.heap.size w w1) := (al_W w _).trans (b1.mono (al_W w _).size)
    clear b1
    go_wp2
    go_ret2
    exact ⟨by rw [HK.out.1, HK.out.2] <;> rfl, B1.out⟩
  | true =>
    have hok := goodA_true hg
    rw [hg] at HS
    rw [hok.2.1.1, hok.2.1.2.1] at HS ⊢
    have HOK : Hid _ := hok
    by_cases hin : 0 ≤ s ∧ s < (P.length : Int)
    · obtain ⟨sn, rfl⟩ : ∃ sn : Nat, s = (sn : Int) := ⟨s.toNat, by omega⟩
      have HIN : Hid (∀ w, Calls Try.prog 57 #[.int .i64 sn, .int .i64 0, .int .i64 ((P.length : Int) - 1)] w fun e w' => e = .returned (.bool true) ∧ w = w') := fun w => in_yes (by omega) w
      have hw1 : IntKind.i64.wrap ((P.length : Int) - 1) = (P.length : Int) - 1 := IntWalk.i64_in _ (by omega)
      have HGR : Hid (∀ w, Calls Try.prog 58 #[.int .i64 r] w fun e w' => e = .returned (.bool (goodB r)) ∧ w' = w) := fun w => good_any r w
      cases hr : goodB r with
      | false =>
        have HK : Hid (stK P B F R sn r = false ∧ stR P B F R sn r = 0) := st_no (by unfold stK; rw [hr]; simp)
        rw [hr] at HGR
        clear hg hr hok
        go_enter Try.func18, Try.ntmps18
        go_wp2_with fail
        refine Calls.mono (HS.out _) ?_
        rintro x w1 ⟨rfl, b1⟩
        have hbl1 := (b1.block w.heap.size (by simp)).trans (heap_last2 w _ _ rfl)
        have d0 := cell_of hbl1 0
        simp only [List.getElem?_toArray, List.getElem?_cons_zero] at d0
        have B1 : Hid (Below w.heap.size w w1) := (al_W w _).trans (b1.mono (al_W w _).size)
        clear b1 hbl1
        go_wp2_with fail
        refine Calls.mono (HIN.out _) ?_
        rintro x w' ⟨rfl, rfl⟩
        go_wp2_with fail
        refine Calls.mono (HGR.out _) ?_
        rintro x w' ⟨rfl, rfl⟩
        go_wp2
        go_ret2
        exact ⟨by rw [HK.out.1, HK.out.2] <;> rfl, B1.out⟩
      | true =>
        have HK : Hid (stK P B F R sn r = true ∧ stR P B F R sn r = (stepN (rdQ P B F nV P.length) (rdE P B P.length) sn r : Nat)) := st_yes (by unfold stK; rw [hg, hr, decide_eq_true hin]; rfl)
        rw [hr] at HGR
        have HSN : Hid (sn < P.length) := by exact (by omega : sn < P.length)
        clear hg hr hok
        go_enter Try.func18, Try.ntmps18
        go_wp2_with fail
        refine Calls.mono (HS.out _) ?_
        rintro x w1 ⟨rfl, b1⟩
        have hbl1 := (b1.block w.heap.size (by simp)).trans (heap_last2 w _ _ rfl)
        have d0 := cell_of hbl1 0
        have d1 := cell_of hbl1 1
        have d2 := cell_of hbl1 2
        have d3 := cell_of hbl1 3
        simp only [List.getElem?_toArray, List.getElem?_cons_zero, List.getElem?_cons_succ] at d0 d1 d2 d3
        have B1 : Hid (Below w.heap.size w w1) := (al_W w _).trans (b1.mono (al_W w _).size)
        clear b1 hbl1
        go_wp2_with fail
        refine Calls.mono (HIN.out _) ?_
        rintro x w' ⟨rfl, rfl⟩
        go_wp2_with fail
        refine Calls.mono (HGR.out _) ?_
        rintro x w' ⟨rfl, rfl⟩
        go_wp2_with fail
        refine Calls.mono (sstep_any P B F R HOK.out nV r (sn + 1) sn (by omega) HSN.out _ _ _ _ _ _ _ _ _ _ (IntsAt.keepB HA.out B1.out) (IntsAt.keepB HB.out B1.out) (IntsAt.keepB HC.out B1.out)) ?_
        rintro x w2 ⟨rfl, b2⟩
        have B2 : Hid (Below w.heap.size w w2) := B1.out.trans (b2.mono B1.out.size)
        clear b2
        go_wp2
        go_ret2
        exact ⟨by rw [HK.out.1, HK.out.2] <;> rfl, B2.out⟩
    · have HK : Hid (stK P B F R s r = false ∧ stR P B F R s r = 0) := st_no (by unfold stK; rw [decide_eq_false hin]; simp)
      have HIN : Hid (∀ w, Calls Try.prog 57 #[.int .i64 s, .int .i64 0, .int .i64 ((P.length : Int) - 1)] w fun e w' => e = .returned (.bool false) ∧ w = w') := fun w => in_no (by omega) w
      have hw1 : IntKind.i64.wrap ((P.length : Int) - 1) = (P.length : Int) - 1 := IntWalk.i64_in _ (by omega)
      clear hg hok hin
      go_enter Try.func18, Try.ntmps18
      go_wp2_with fail
      refine Calls.mono (HS.out _) ?_
      rintro x w1 ⟨rfl, b1⟩
      have hbl1 := (b1.block w.heap.size (by simp)).trans (heap_last2 w _ _ rfl)
      have d0 := cell_of hbl1 0
      simp only [List.getElem?_toArray, List.getElem?_cons_zero] at d0
      have B1 : Hid (Below w.heap.size w w1) := (al_W w _).trans (b1.mono (al_W w _).size)
      clear b1 hbl1
      go_wp2_with fail
      refine Calls.mono (HIN.out _) ?_
      rintro x w' ⟨rfl, rfl⟩
      go_wp2
      go_ret2
      exact ⟨by rw [HK.out.1, HK.out.2] <;> rfl, B1.out⟩
set_option maxRecDepth 100000 in
set_option maxHeartbeats 4000000 in
theorem istepA_any (P B F : List Int) (R : Rw) (s r : Int) (a b c e : Option Addr) (ca cb cc ce : Nat) (w : World) (hl : szA P B F R ≤ 1048576) (hA : IntsAt w a P) (hB : IntsAt w b B) (hC : IntsAt w c F) (hE : RowsAt w e R) :
    Calls Try.prog 17 #[.agg #[.slice a P.length ca, .slice b B.length cb, .slice c F.length cc, .slice e R.length ce], .int .i64 s, .int .i64 r] w fun x w' => x = .returned (.tuple #[.int .i64 (stR P B F R s r), .bool (stK P B F R s r)]) ∧ Below w.heap.size w w' := by
  have HS : Hid (∀ o, Calls Try.prog 46 #[.agg #[.slice a P.length ca, .slice b B.length cb, .slice c F.length cc, .slice e R.length ce]] (w.alloc o) fun r w' => ((goodA P B F R = false ∧ r = .returned (.tuple #[.pointer none, .bool false])) ∨ (goodA P B F R = true ∧ ∃ tb V, r = .returned (.tuple #[.pointer (some ⟨tb, 0, none⟩), .bool true]) ∧ TrieAt w' ((w.alloc o).heap.size + 1) tb (rdQ P B F V P.length) (rdE P B P.length) ∧ EndsV w' V R P.length)) ∧ Below (w.alloc o).heap.size (w.alloc o) w') := fun o => readA_any P B F R a b c e ca cb cc ce (w.alloc o) hl (IntsAt.keepB hA (al_W w o)) (IntsAt.keepB hB (al_W w o)) (IntsAt.keepB hC (al_W w o)) (RowsAt.keepB hE (al_W w o))
  clear hA hB hC hE hl
  go_enter Try.func17, Try.ntmps17
  go_wp2_with fail
  refine Calls.mono (HS.out _) ?_
  rintro x w1 ⟨hx, b1⟩
  have B1 : Hid (Below w.heap.size w w1) := (al_W w _).trans (b1.mono (al_W w _).size)
  clear b1
  rcases hx with ⟨hg, rfl⟩ | ⟨hg, tb, V, rfl, ht, -⟩
  · have HK : Hid (stK P B F R s r = false ∧ stR P B F R s r = 0) := st_no (by unfold stK; rw [hg]; rfl)
    clear hg
    go_wp2
    go_ret2
    exact ⟨by rw [HK.out.1, HK.out.2] <;> rfl, B1.out⟩
  · have hok := goodA_true hg
    have hlq := rdQ_len P B F V P.length (by have := hok.1.1; omega)
    obtain ⟨g, cap, m, -, -, hblt, -, -⟩ := ht.form (by rw [hlq]; have := hok.1.1; omega)
    have t0 := cell_of hblt 0
    simp only [List.getElem?_toArray, List.getElem?_cons_zero] at t0
    rw [hlq] at t0
    have HT : Hid _ := ht
    have hn : P.length ≤ 100 := hok.1.2
    clear hblt ht
    by_cases hin : 0 ≤ s ∧ s < (P.length : Int)
    · obtain ⟨sn, rfl⟩ : ∃ sn : Nat, s = (sn : Int) := ⟨s.toNat, by omega⟩
      have HIN : Hid (∀ w, Calls Try.prog 55 #[.int .i64 sn, .int .i64 0, .int .i64 P.length] w fun e w' => e = .returned (.bool true) ∧ w' = w) := fun w => by
        have := amongB (r := sn) (n := P.length) (by omega) w
        rwa [decide_eq_true hin] at this
      have HGR : Hid (∀ w, Calls Try.prog 56 #[.int .i64 r] w fun e w' => e = .returned (.bool (goodB r)) ∧ w' = w) := fun w => igood_any r w
      cases hr : goodB r with
      | false =>
        have HK : Hid (stK P B F R sn r = false ∧ stR P B F R sn r = 0) := st_no (by unfold stK; rw [hr]; simp)
        rw [hr] at HGR
        clear hg hr hok hin hlq
        go_wp2_with fail
        refine Calls.mono (HIN.out _) ?_
        rintro x w' ⟨rfl, rfl⟩
        go_wp2_with fail
        refine Calls.mono (HGR.out _) ?_
        rintro x w' ⟨rfl, rfl⟩
        go_wp2
        go_ret2
        exact ⟨by rw [HK.out.1, HK.out.2] <;> rfl, B1.out⟩
      | true =>
        have HK : Hid (stK P B F R sn r = true ∧ stR P B F R sn r = (stepN (rdQ P B F V P.length) (rdE P B P.length) sn r : Nat)) := by
          have h := st_yes (P := P) (B := B) (F := F) (R := R) (s := sn) (r := r) (by unfold stK; rw [hg, hr, decide_eq_true hin]; rfl)
          refine ⟨h.1, h.2.trans ?_⟩
          rw [stepN_same (rdQ_same P B F nV V P.length (by omega))]
        rw [hr] at HGR
        have hgr := goodB_bd hr
        have HST : Hid _ := step_any _ tb sn r (rdQ P B F V P.length) (rdE P B P.length) w1 HT.out (okA_fail hok V) (by omega) (by omega) (WalkArith.wf_i64 (by omega))
        clear hg hr hok hin hlq hgr
        go_wp2_with fail
        refine Calls.mono (HIN.out _) ?_
        rintro x w' ⟨rfl, rfl⟩
        go_wp2_with fail
        refine Calls.mono (HGR.out _) ?_
        rintro x w' ⟨rfl, rfl⟩
        go_wp2_with fail
        refine Calls.mono HST.out ?_
        rintro x w' ⟨rfl, rfl⟩
        go_wp2
        go_ret2
        exact ⟨by rw [HK.out.1, HK.out.2] <;> rfl, B1.out⟩
    · have HK : Hid (stK P B F R s r = false ∧ stR P B F R s r = 0) := st_no (by unfold stK; rw [decide_eq_false hin]; simp)
      have HIN : Hid (∀ w, Calls Try.prog 55 #[.int .i64 s, .int .i64 0, .int .i64 P.length] w fun e w' => e = .returned (.bool false) ∧ w' = w) := fun w => by
        have := amongB (r := s) (n := P.length) (by omega) w
        rwa [decide_eq_false hin] at this
      clear hg hok hin hlq
      go_wp2_with fail
      refine Calls.mono (HIN.out _) ?_
      rintro x w' ⟨rfl, rfl⟩
      go_wp2
      go_ret2
      exact ⟨by rw [HK.out.1, HK.out.2] <;> rfl, B1.out⟩
end Go.Proofs.Ytdhppigjlldfmaa
namespace Go.Proofs.Ytdhppigjlldfmaa
open Go.ChangeShapes Go.WideShapes Go.ChangeAt Go.WideMaps Go.WideElems Go.RowKit
theorem rdQ_0 (P B F : List Int) (V : Nat → Value) : ∀ k, 0 < k → sq (rdQ P B F V k) 0 = ⟨-1, -1, 0, 0, V 0⟩
  | k + 1, _ => by
    by_cases h : k = 0
    · subst h; rfl
    · rw [rdQ_step _ _ _ _ (by omega), sq_old _ _ _ (by rw [rdQ_len _ _ _ _ _ (by omega)]; omega)]
      exact rdQ_0 P B F V k (by omega)
/-- How long the list of a state is. -/
def lev (P B F : List Int) (j : Nat) : Int := (sq (rdQ P B F nV P.length) j).l
theorem lev_0 (P B F : List Int) (h : 0 < P.length) : lev P B F 0 = 0 := by
  unfold lev
  rw [rdQ_0 _ _ _ _ _ h]
theorem lev_step {P B F : List Int} {R : Rw} (h : okA P B F R) {j : Nat} (j0 : 0 < j) (hj : j < P.length) : lev P B F j = lev P B F (P.getD j 0).toNat + 1 := by
  have hp := ((h.2.2.2 j hj).2 j0).1
  unfold lev
  rw [rdQ_at P B F nV j j0 _ hj]
  dsimp only
  have hf : (P.getD j 0).toNat < j := by omega
  generalize (P.getD j 0).toNat = f at hf
  rcases Nat.eq_zero_or_pos f with e | e
  · subst e
    rw [rdQ_0 _ _ _ _ _ j0, rdQ_0 _ _ _ _ _ (by omega)]
  · rw [rdQ_at P B F nV f e _ hf, rdQ_at P B F nV f e _ (by omega)]
theorem lev_bd {P B F : List Int} {R : Rw} (h : okA P B F R) {j : Nat} (hj : j < P.length) : 0 ≤ lev P B F j ∧ lev P B F j ≤ j :=
  rdQ_l P B F nV P.length (fun i i0 hi => ((h.2.2.2 i hi).2 i0).1) j (by rw [rdQ_len _ _ _ _ _ (by omega)]; exact hj)
set_option maxRecDepth 100000 in
set_option maxHeartbeats 2000000 in
theorem slong_any (P B F : List Int) (R : Rw) (hok : okA P B F R) (k : Nat) (hk : k < P.length) (a b c e : Option Addr) (ca nb cb nc cc ne ce : Nat) (w : World) (hA : IntsAt w a P) :
    Calls Try.prog 75 #[.agg #[.slice a P.length ca, .slice b nb cb, .slice c nc cc, .slice e ne ce], .int .i64 k] w fun x w' => x = .returned (.int .i64 (lev P B F k)) ∧ Below w.heap.size w w' := by
  have A1 := al_W w (.cells #[.slice a P.length ca, .slice b nb cb, .slice c nc cc, .slice e ne ce] 28)
  have HA : Hid _ := IntsAt.keepB hA A1
  have HA1 : Hid _ := A1
  have HOK : Hid _ := hok
  have hn : P.length ≤ 100 := hok.1.2
  obtain ⟨T, hT⟩ : ∃ T, T = lev P B F k := ⟨_, rfl⟩
  have hTb := lev_bd hok hk
  rw [← hT] at hTb ⊢
  have HT : Hid _ := hT
  have d0 := cell_of (heap_last2 w (.cells #[.slice a P.length ca, .slice b nb cb, .slice c nc cc, .slice e ne ce] 28) _ rfl) 0
  simp only [List.getElem?_toArray, List.getElem?_cons_zero] at d0
  clear hA A1 hT hok
  go_enter Try.func75, Try.ntmps75
  go_wp2
  go_loopw [1, 5] (fun kv nv wr => ∃ (j m : Nat), j < P.length ∧ kv = .int .i64 j ∧ nv = .int .i64 m ∧ (m : Int) + lev P B F j = T ∧ m ≤ 100 ∧ wr = w.alloc (.cells #[.slice a P.length ca, .slice b nb cb, .slice c nc cc, .slice e ne ce] 28)) (fun kv _ _ => (intOf kv).toNat)
  case atStart => exact ⟨k, 0, hk, rfl, rfl, by rw [HT.out]; simp, by omega, rfl⟩
  case round =>
    obtain ⟨j, m, hj, rfl, rfl, hm, hm1, rfl⟩ := hrel
    have HM : Hid _ := hm
    clear hm
    by_cases h0 : 0 < j
    · have h0I : (0 : Int) < (j : Int) := by omega
      have hjI : (j : Int) < (P.length : Int) := by omega
      obtain ⟨b1, o1, rfl, l1, g1⟩ := HA.out j hj
      have hp := ((HOK.out.2.2.2 j hj).2 h0).1
      have hst := lev_step HOK.out h0 hj
      obtain ⟨p, hpp⟩ : ∃ p : Nat, P.getD j 0 = (p : Int) := ⟨(P.getD j 0).toNat, by omega⟩
      rw [hpp] at g1 hp hst
      rw [Int.toNat_natCast] at hst
      have hpl : p < P.length := by omega
      have hpj : p < j := by omega
      have hlb := lev_bd HOK.out hpl
      have hm2 : m + 1 ≤ 100 := by have := HM.out; omega
      have HN : Hid (((m + 1 : Nat) : Int) + lev P B F p = T) := (by have := HM.out; omega : ((m + 1 : Nat) : Int) + lev P B F p = T)
      clear hst hlb hpp hp
      go_wp2
      go_roundw
      case rel => exact ⟨p, m + 1, hpl, rfl, by go_num, HN.out, hm2, by first | rfl | trivial⟩
      case measure => simp [intOf]; omega
    · have h0I : ¬ (0 : Int) < (j : Int) := by omega
      have HE : Hid ((m : Int) = T) := by
        have := HM.out
        obtain rfl : j = 0 := by omega
        rw [lev_0 P B F hj] at this
        show (m : Int) = T
        omega
      go_wp2
      go_ret
      exact ⟨by rw [← HE.out] <;> rfl, HA1.out⟩
end Go.Proofs.Ytdhppigjlldfmaa
namespace Go.Proofs.Ytdhppigjlldfmaa
open Go.ChangeShapes Go.WideShapes Go.ChangeAt Go.WideMaps Go.WideElems Go.RowKit
def hasB (L : List Int) (r : Int) : Bool := decide (∃ j, j < L.length ∧ L.getD j 0 = r)
set_option maxRecDepth 100000 in
theorem shas_any (L : List Int) (r : Int) (ao : Option Addr) (n cap : Nat) (w : World) (hn : n = L.length) (hl : L.length ≤ 1048576) (hA : IntsAt w ao L) :
    Calls Try.prog 74 #[.slice ao n cap, .int .i64 r] w fun e w' => e = .returned (.bool (hasB L r)) ∧ w' = w := by
  have HA : Hid _ := hA
  clear hA
  subst hn
  go_enter Try.func74, Try.ntmps74
  go_wp2
  go_loopw [9] (fun i wr => ∃ k : Nat, k ≤ L.length ∧ i = .int .i64 k ∧ (∀ j, j < k → ¬ L.getD j 0 = r) ∧ wr = w) (fun i _ => L.length - (intOf i).toNat)
  case atStart => exact ⟨0, Nat.zero_le _, rfl, fun j hj => absurd hj (by omega), rfl⟩
  case round =>
    obtain ⟨k, hk, rfl, hno, rfl⟩ := hrel
    have HNO : Hid _ := hno
    clear hno
    by_cases hlt : k < L.length
    · have hltI : (k : Int) < (L.length : Int) := by omega
      obtain ⟨b1, o1, rfl, l1, g1⟩ := HA.out k hlt
      by_cases e1 : L.getD k 0 = r
      · have HG : Hid (hasB L r = true) := decide_eq_true ⟨k, hlt, e1⟩
        rw [e1] at g1
        clear e1
        go_wp2
        go_ret
        exact ⟨by rw [HG.out] <;> rfl, rfl⟩
      · have HN : Hid (∀ j, j < k + 1 → ¬ L.getD j 0 = r) := fun j hj h => by
          by_cases ej : j = k
          · exact e1 (ej ▸ h)
          · exact HNO.out j (by omega) h
        generalize L.getD k 0 = x at g1 e1
        have e1b : decide (x = r) = false := decide_eq_false e1
        have e1c : (x == r) = false := by simpa using e1
        go_wp2
        go_roundw
        case rel => exact ⟨k + 1, by omega, by go_num, HN.out, by first | rfl | trivial⟩
        case measure => simp [intOf]; omega
    · obtain rfl : k = L.length := by omega
      have hltI : ¬ (L.length : Int) < (L.length : Int) := by omega
      have HG : Hid (hasB L r = false) := decide_eq_false fun ⟨j, hj, h⟩ => HNO.out j hj h
      go_wp2
      go_ret
      exact ⟨by rw [HG.out] <;> rfl, rfl⟩
/-- How long a word is, by the first k states. -/
def wlK (P B F : List Int) (R : Rw) (no : Int) : Nat → Int
  | 0 => -1
  | k + 1 => if hasB (rw_ R k) no = true ∧ (wlK P B F R no k < 0 ∨ lev P B F k < wlK P B F R no k) then lev P B F k else wlK P B F R no k
theorem wlK_bd {P B F : List Int} {R : Rw} (h : okA P B F R) (no : Int) : ∀ k, k ≤ P.length → -1 ≤ wlK P B F R no k ∧ wlK P B F R no k ≤ 100
  | 0, _ => by simp [wlK]
  | k + 1, hk => by
    have ih := wlK_bd h no k (by omega)
    have hb := lev_bd h (j := k) (by omega)
    have hn := h.1.2
    rw [wlK]
    split
    · omega
    · exact ih
set_option maxRecDepth 100000 in
set_option maxHeartbeats 4000000 in
theorem swlong_any (P B F : List Int) (R : Rw) (hok : okA P B F R) (no : Int) (a b c e : Option Addr) (ca nb cb nc cc ce : Nat) (w : World) (hlr : szR R ≤ 1048576) (hA : IntsAt w a P) (hE : RowsAt w e R) :
    Calls Try.prog 52 #[.agg #[.slice a P.length ca, .slice b nb cb, .slice c nc cc, .slice e P.length ce], .int .i64 no] w fun x w' => x = .returned (.int .i64 (wlK P B F R no P.length)) ∧ Below w.heap.size w w' := by
  have HA : Hid _ := hA
  have HE : Hid _ := hE
  have HOK : Hid _ := hok
  have HLR : Hid _ := hlr
  have hR := hok.2.1.2.2
  have hn := hok.1.2
  have h0 := hok.1.1
  obtain ⟨eb, eo, sa0, sc0, rfl, el0, -, -⟩ := HE.out 0 (by omega)
  have HRL : Hid (R.length = P.length) := hR
  clear hA hE hok hlr el0 hR
  have A1 := al_W w (.cells #[.slice a P.length ca, .slice b nb cb, .slice c nc cc, .slice (some ⟨eb, eo, none⟩) P.length ce] 28)
  have d0 := cell_of (heap_last2 w (.cells #[.slice a P.length ca, .slice b nb cb, .slice c nc cc, .slice (some ⟨eb, eo, none⟩) P.length ce] 28) _ rfl) 3
  simp only [List.getElem?_toArray, List.getElem?_cons_zero, List.getElem?_cons_succ] at d0
  have HA1 : Hid _ := A1
  clear A1
  go_enter Try.func52, Try.ntmps52
  go_wp2
  go_loopw [5, 11] (fun bv i wr => ∃ k : Nat, k ≤ P.length ∧ i = .int .i64 k ∧ bv = .int .i64 (wlK P B F R no k) ∧ wr.heap[w.heap.size]? = some (.cells #[.slice a P.length ca, .slice b nb cb, .slice c nc cc, .slice (some ⟨eb, eo, none⟩) P.length ce] 28) ∧ Below w.heap.size w wr) (fun _ i _ => P.length - (intOf i).toNat)
  case atStart => exact ⟨0, Nat.zero_le _, rfl, rfl, heap_last2 _ _ _ rfl, HA1.out⟩
  case round =>
    obtain ⟨k, hk, rfl, rfl, hbl, hbw⟩ := hrel
    obtain ⟨w2, hw2⟩ : ∃ w2, w2 = wr := ⟨_, rfl⟩
    subst hw2
    have BW : Hid (Below w.heap.size w w2) := hbw
    have HBL : Hid _ := hbl
    clear hbw d0
    by_cases hlt : k < P.length
    · have hltI : (k : Int) < (P.length : Int) := by omega
      obtain ⟨_, _, x, xc, xe, l1, c1, iX⟩ := HE.out k (by rw [HRL.out]; exact hlt)
      cases xe
      have g1 : w2.cell? ⟨eb, eo + k, none⟩ = some (.slice x (rw_ R k).length xc) := (BW.out.cell (p := ⟨eb, eo + k, none⟩) l1).trans c1
      have HH : Hid (Calls Try.prog 74 #[.slice x (rw_ R k).length xc, .int .i64 no] w2 fun e w' => e = .returned (.bool (hasB (rw_ R k) no)) ∧ w' = w2) := shas_any (rw_ R k) no x _ xc w2 rfl (Nat.le_trans (rw_len R k (by rw [HRL.out]; exact hlt)) HLR.out) (IntsAt.keepB iX BW.out)
      clear c1 iX
      have hwb := wlK_bd HOK.out no k hk
      have hst : wlK P B F R no (k + 1) = if hasB (rw_ R k) no = true ∧ (wlK P B F R no k < 0 ∨ lev P B F k < wlK P B F R no k) then lev P B F k else wlK P B F R no k := rfl
      cases hb : hasB (rw_ R k) no with
      | false =>
        rw [hb] at HH
        have HN : Hid (wlK P B F R no (k + 1) = wlK P B F R no k) := hst.trans (if_neg fun h => by rw [hb] at h; cases h.1)
        generalize wlK P B F R no k = bst at *
        clear hst hbl hb
        go_wp2_with fail
        refine Calls.mono HH.out ?_
        rintro r w' ⟨rfl, rfl⟩
        go_wp2
        go_roundw
        case rel => exact ⟨k + 1, by omega, by go_num, by rw [HN.out], HBL.out, BW.out⟩
        case measure => simp [intOf]; omega
      | true =>
        rw [hb] at HH
        have d20 := cell_of hbl 0
        have d21 := cell_of hbl 1
        have d22 := cell_of hbl 2
        have d23 := cell_of hbl 3
        simp only [List.getElem?_toArray, List.getElem?_cons_zero, List.getElem?_cons_succ] at d20 d21 d22 d23
        have HL2 : Hid (Calls Try.prog 75 #[.agg #[.slice a P.length ca, .slice b nb cb, .slice c nc cc, .slice (some ⟨eb, eo, none⟩) P.length ce], .int .i64 k] w2 fun x w' => x = .returned (.int .i64 (lev P B F k)) ∧ Below w2.heap.size w2 w') := slong_any P B F R HOK.out k hlt a b c (some ⟨eb, eo, none⟩) ca nb cb nc cc P.length ce _ (IntsAt.keepB HA.out BW.out)
        by_cases q1 : wlK P B F R no k < 0
        · have HN : Hid (wlK P B F R no (k + 1) = lev P B F k) := hst.trans (if_pos ⟨hb, .inl q1⟩)
          generalize wlK P B F R no k = bst at *
          clear hst hb hwb
          go_wp2_with fail
          refine Calls.mono HH.out ?_
          rintro r w' ⟨rfl, rfl⟩
          go_wp2_with fail
          refine Calls.mono HL2.out ?_
          rintro r w3 ⟨rfl, b3⟩
          have B3 : Hid (Below w.heap.size w w3) := BW.out.trans (b3.mono BW.out.size)
          have BN : Hid (w3.heap[w.heap.size]? = some (.cells #[.slice a P.length ca, .slice b nb cb, .slice c nc cc, .slice (some ⟨eb, eo, none⟩) P.length ce] 28)) := (b3.block w.heap.size (Array.getElem?_eq_some_iff.1 HBL.out).1).trans HBL.out
          clear b3 hbl
          go_wp2
          go_roundw
          case rel => exact ⟨k + 1, by omega, by go_num, by rw [HN.out], BN.out, B3.out⟩
          case measure => simp [intOf]; omega
        · have q1b : decide (wlK P B F R no k < 0) = false := decide_eq_false q1
          by_cases q2 : lev P B F k < wlK P B F R no k
          · have HN : Hid (wlK P B F R no (k + 1) = lev P B F k) := hst.trans (if_pos ⟨hb, .inr q2⟩)
            generalize wlK P B F R no k = bst at *
            clear hst hb hwb
            go_wp2_with fail
            refine Calls.mono HH.out ?_
            rintro r w' ⟨rfl, rfl⟩
            go_wp2_with fail
            refine Calls.mono HL2.out ?_
            rintro r w3 ⟨rfl, b3⟩
            have B3 : Hid (Below w.heap.size w w3) := BW.out.trans (b3.mono BW.out.size)
            have hbl3 : w3.heap[w.heap.size]? = some (.cells #[.slice a P.length ca, .slice b nb cb, .slice c nc cc, .slice (some ⟨eb, eo, none⟩) P.length ce] 28) := (b3.block w.heap.size (Array.getElem?_eq_some_iff.1 HBL.out).1).trans HBL.out
            have d30 := cell_of hbl3 0
            have d31 := cell_of hbl3 1
            have d32 := cell_of hbl3 2
            have d33 := cell_of hbl3 3
            simp only [List.getElem?_toArray, List.getElem?_cons_zero, List.getElem?_cons_succ] at d30 d31 d32 d33
            have HBL3 : Hid _ := hbl3
            clear b3 hbl3 hbl
            go_wp2_with fail
            refine Calls.mono (slong_any P B F R HOK.out k hlt a b c (some ⟨eb, eo, none⟩) ca nb cb nc cc P.length ce _ (IntsAt.keepB HA.out B3.out)) ?_
            rintro r w4 ⟨rfl, b4⟩
            have B4 : Hid (Below w.heap.size w w4) := B3.out.trans (b4.mono B3.out.size)
            have BN : Hid (w4.heap[w.heap.size]? = some (.cells #[.slice a P.length ca, .slice b nb cb, .slice c nc cc, .slice (some ⟨eb, eo, none⟩) P.length ce] 28)) := (b4.block w.heap.size (Array.getElem?_eq_some_iff.1 HBL3.out).1).trans HBL3.out
            clear b4
            go_wp2
            go_roundw
            case rel => exact ⟨k + 1, by omega, by go_num, by rw [HN.out], BN.out, B4.out⟩
            case measure => simp [intOf]; omega
          · have q2b : decide (lev P B F k < wlK P B F R no k) = false := decide_eq_false q2
            have HN : Hid (wlK P B F R no (k + 1) = wlK P B F R no k) := hst.trans (if_neg fun h => by rcases h.2 with h | h <;> omega)
            generalize wlK P B F R no k = bst at *
            clear hst hb hwb
            go_wp2_with fail
            refine Calls.mono HH.out ?_
            rintro r w' ⟨rfl, rfl⟩
            go_wp2_with fail
            refine Calls.mono HL2.out ?_
            rintro r w3 ⟨rfl, b3⟩
            have B3 : Hid (Below w.heap.size w w3) := BW.out.trans (b3.mono BW.out.size)
            have BN : Hid (w3.heap[w.heap.size]? = some (.cells #[.slice a P.length ca, .slice b nb cb, .slice c nc cc, .slice (some ⟨eb, eo, none⟩) P.length ce] 28)) := (b3.block w.heap.size (Array.getElem?_eq_some_iff.1 HBL.out).1).trans HBL.out
            clear b3 hbl
            go_wp2
            go_roundw
            case rel => exact ⟨k + 1, by omega, by go_num, by rw [HN.out], BN.out, B3.out⟩
            case measure => simp [intOf]; omega
    · obtain rfl : k = P.length := by omega
      have hltI : ¬ (P.length : Int) < (P.length : Int) := by omega
      go_wp2
      go_ret
      exact ⟨rfl, BW.out⟩
end Go.Proofs.Ytdhppigjlldfmaa
namespace Go.Proofs.Ytdhppigjlldfmaa
open Go.ChangeShapes Go.WideShapes Go.ChangeAt Go.WideMaps Go.WideElems Go.RowKit
/-- A hit: a word's number, from where, to where. -/
structure Ht where
  n : Int
  f : Int
  t : Int
def fl3 : List Ht → List Value
  | [] => []
  | h :: r => .int .i64 h.n :: .int .i64 h.f :: .int .i64 h.t :: fl3 r
theorem fl3_len (H : List Ht) : (fl3 H).length = H.length * 3 := by
  induction H with
  | nil => rfl
  | cons q r ih => simp [fl3, ih]; omega
theorem fl3_append (A B : List Ht) : fl3 (A ++ B) = fl3 A ++ fl3 B := by
  induction A with
  | nil => rfl
  | cons q r ih => simp [fl3, ih]
def hh (H : List Ht) (j : Nat) : Ht := H.getD j ⟨0, 0, 0⟩
theorem fl3_at : ∀ (H : List Ht) (j : Nat), j < H.length → (fl3 H)[j * 3]? = some (.int .i64 (hh H j).n) ∧ (fl3 H)[j * 3 + 1]? = some (.int .i64 (hh H j).f) ∧ (fl3 H)[j * 3 + 2]? = some (.int .i64 (hh H j).t)
  | [], j, h => by simp at h
  | q :: r, 0, _ => ⟨rfl, rfl, rfl⟩
  | q :: r, j + 1, h => by
    have := fl3_at r j (by simp at h; omega)
    rw [show (j + 1) * 3 = j * 3 + 1 + 1 + 1 by omega]
    simpa [fl3, hh] using this
/-- A list of hits where a slice begins. -/
def HitsAt (w : World) (ao : Option Addr) (H : List Ht) : Prop := ∀ j, j < H.length → ∃ b off, ao = some ⟨b, off, none⟩ ∧ b < w.heap.size ∧ w.cell? ⟨b, off + j * 3, none⟩ = some (.int .i64 (hh H j).n) ∧ w.cell? ⟨b, off + j * 3 + 1, none⟩ = some (.int .i64 (hh H j).f) ∧ w.cell? ⟨b, off + j * 3 + 2, none⟩ = some (.int .i64 (hh H j).t)
theorem HitsAt.keepB {w w' : World} {ao : Option Addr} {H : List Ht} (h : HitsAt w ao H) (hb : Below w.heap.size w w') : HitsAt w' ao H := fun j hj => by
  obtain ⟨b, off, he, hl, c1, c2, c3⟩ := h j hj
  exact ⟨b, off, he, Nat.lt_of_lt_of_le hl hb.size, (hb.cell (p := ⟨b, off + j * 3, none⟩) hl).trans c1, (hb.cell (p := ⟨b, off + j * 3 + 1, none⟩) hl).trans c2, (hb.cell (p := ⟨b, off + j * 3 + 2, none⟩) hl).trans c3⟩
/-- .. in memory of its own. -/
def OwnH (w : World) (base : Nat) (v : Value) (H : List Ht) : Prop := w.ownsRow base 41 3 v H.length (fl3 H)
theorem OwnH.keepB {w w' : World} {base : Nat} {v : Value} {H : List Ht} (h : OwnH w base v H) (hb : Below w.heap.size w w') : OwnH w' base v H := World.ownsRow.keepB h hb
theorem OwnH.form {w : World} {base : Nat} {v : Value} {H : List Ht} (h : OwnH w base v H) : ∃ ao cap, v = .slice ao H.length cap ∧ HitsAt w ao H := by
  rcases h.2 with ⟨rfl, h0⟩ | ⟨g, cap, cur, rfl, h2, h3, h4⟩
  · exact ⟨none, 0, by rw [h0], fun j hj => by omega⟩
  · refine ⟨_, _, rfl, fun j hj => ⟨g, 0, rfl, (Array.getElem?_eq_some_iff.1 h3).1, ?_⟩⟩
    obtain ⟨f1, f2, f3⟩ := fl3_at H j hj
    rw [Nat.zero_add]
    exact ⟨(World.ownsRow.cellAt h _ (by omega)).trans f1, (World.ownsRow.cellAt h _ (by omega)).trans f2, (World.ownsRow.cellAt h _ (by omega)).trans f3⟩
theorem infoHit : ∃ i, Try.prog.info? 41 = some i ∧ i.zero = some (.agg #[.int .i64 0, .int .i64 0, .int .i64 0]) ∧ i.size = 3 ∧ i.bytes = 24 := by
  have h : (Try.prog.info? 41).map (fun i => (i.zero, i.size, i.bytes)) = some (some (.agg #[.int .i64 0, .int .i64 0, .int .i64 0]), 3, 24) := by kernel_rfl
  cases hi : Try.prog.info? 41 with
  | none => rw [hi] at h; cases h
  | some i =>
    rw [hi] at h
    simp only [Option.map_some, Option.some.injEq, Prod.mk.injEq] at h
    exact ⟨i, rfl, h.1, h.2.1, h.2.2⟩
theorem run_append_hit (w : World) (base : Nat) (ty : TypeId) (v : Value) (H : List Ht) (hown : OwnH w base v H) (B cap : Nat) (x y z : Int)
    (hb : w.heap[B]? = some (.cells #[.int .i64 x, .int .i64 y, .int .i64 z] 41)) (hlen : H.length ≤ 1000000) (hbase : base ≤ w.heap.size) :
    ∃ v' w', (Builtin.append_ #[34, 34] ty #[v, .slice (some ⟨B, 0, none⟩) 1 cap]).run Try.prog w = .ok v' w' ∧ OwnH w' base v' (H ++ [⟨x, y, z⟩]) ∧ w.grownBy w' v.ownBlock := by
  obtain ⟨i0, hi, hz0, hz1, hz2⟩ := infoHit
  obtain ⟨v', w', h1', h2', h3', -, -⟩ := run_append_own_at (P := Try.prog) w base 34 ty 41 i0 (.agg #[.int .i64 0, .int .i64 0, .int .i64 0]) 3 24 Try.underlying34 hi hz0 hz1 hz2 rfl (by decide) v H.length (fl3 H) hown ⟨B, 0, none⟩ 1 cap [.int .i64 x, .int .i64 y, .int .i64 z] rfl (fun j u hj => by
    rcases j with _ | _ | _ | j
    · simp at hj; subst hj; simpa [Addr.add] using cell_of hb 0
    · simp at hj; subst hj; simpa [Addr.add] using cell_of hb 1
    · simp at hj; subst hj; simpa [Addr.add] using cell_of hb 2
    · simp at hj) (fun u hu => by simp at hu; rcases hu with rfl | rfl | rfl <;> rfl) (by unfold maxLen; omega) (by omega) hbase
  refine ⟨v', w', h1', ?_, h3'⟩
  unfold OwnH
  rw [fl3_append, List.length_append]
  exact h2'
theorem wpH (w : World) {ops : Array Oper} {rest : List Oper} {o : Oper} {a : Act} {Q : Exit → Act → World → Prop} (hgd : o.guard = none) (s x : Operand)
    (ho : o.op = .call { callee := .builtin .append, args := #[s, x], argTypes := #[34, 34] })
    (base : Nat) (v : Value) (H : List Ht) (hs : a.eval s = v) (hown : OwnH w base v H) (B cap : Nat) (p q r : Int) (hx : a.eval x = .slice (some ⟨B, 0, none⟩) 1 cap)
    (hb : w.heap[B]? = some (.cells #[.int .i64 p, .int .i64 q, .int .i64 r] 41)) (hlen : H.length ≤ 1000000) (hbase : base ≤ w.heap.size)
    (h : ∀ v' w', OwnH w' base v' (H ++ [⟨p, q, r⟩]) → w.grownBy w' v.ownBlock → wpList Try.prog ops Q rest (a.put o.dst v') w') :
    wpList Try.prog ops Q (o :: rest) a w := by
  refine wpList_plain hgd fun K hK => ?_
  obtain ⟨v', w', hr, h2, h3⟩ := run_append_hit w base o.type v H hown B cap p q r hb hlen hbase
  unfold Oper.wp execOp
  simp only [ho, resolve, invoke, builtin, Sem.run_bind, Sem.run_pure, Result.andThen_ok, List.map_toArray, List.map_cons, List.map_nil, hs, hx, hr]
  exact hK _ _ (h v' w' h2 h3)
theorem step_H {ops : Array Oper} {o : Oper} {a : Act} {K : Act → World → Prop} {Q' : Exit → Act → World → Prop} {E : Prop} (w : World) (hg : o.guard = none) (s x : Operand)
    (hop : o.op = .call { callee := .builtin .append, args := #[s, x], argTypes := #[34, 34] })
    (base : Nat) (v : Value) (H : List Ht) (hs : a.eval s = v) (hown : OwnH w base v H) (B cap : Nat) (p q r : Int) (hx : a.eval x = .slice (some ⟨B, 0, none⟩) 1 cap)
    (hb : w.heap[B]? = some (.cells #[.int .i64 p, .int .i64 q, .int .i64 r] 41)) (hlen : H.length ≤ 1000000) (hbase : base ≤ w.heap.size)
    (h : ∀ v' w', OwnH w' base v' (H ++ [⟨p, q, r⟩]) → w.grownBy w' v.ownBlock → K (a.put o.dst v') w') :
    if Region.wanted o (yielded ops a.tmps) = true then Oper.wp Try.prog o a w K Q' else E := by
  have hw : Region.wanted o (yielded ops a.tmps) = true := by simp [Region.wanted, hg]
  rw [if_pos hw]
  obtain ⟨v', w', hr, h2, h3⟩ := run_append_hit w base o.type v H hown B cap p q r hb hlen hbase
  unfold Oper.wp execOp
  simp only [hop, resolve, invoke, builtin, Sem.run_bind, Sem.run_pure, Result.andThen_ok, List.map_toArray, List.map_cons, List.map_nil, hs, hx, hr]
  exact h v' w' h2 h3
/-- A rising list of 0 to 7 has eight at most. -/
theorem ris8_len {L : List Int} (h : risB 0 7 L = true) : L.length ≤ 8 := by
  have ha : ∀ j, j < L.length → okR 0 7 L j := of_decide_eq_true h
  have hb : ∀ j, j < L.length → (j : Int) ≤ L.getD j 0 := by
    intro j
    induction j with
    | zero => intro hj; exact (ha 0 hj).1.1
    | succ j ih =>
      intro hj
      have h1 := ih (by omega)
      have h2 := (ha (j + 1) hj).2 (by omega)
      rw [show j + 1 - 1 = j by omega] at h2
      omega
  by_cases h9 : L.length ≤ 8
  · exact h9
  · have h1 := hb 8 (by omega)
    have h2 := (ha 8 (by omega)).1.2
    omega
theorem ris8_at {L : List Int} (h : risB 0 7 L = true) {j : Nat} (hj : j < L.length) : 0 ≤ L.getD j 0 ∧ L.getD j 0 ≤ 7 := ((of_decide_eq_true h : ∀ j, j < L.length → okR 0 7 L j) j hj).1
/-- What ends behind k runes. -/
def hitE (wl : Int → Int) (k : Nat) (e : List Int) : List Ht := e.map fun no => ⟨no, (k : Int) + 1 - wl no, (k : Int) + 1⟩
/-- .. and behind all of the first k runes. -/
def hitR (wl : Int → Int) (f : Nat → List Int) (Q : List Sq) (E : Ed) (L : List Int) : Nat → List Ht
  | 0 => []
  | k + 1 => hitR wl f Q E L k ++ hitE wl k (f (stN Q E L (k + 1)))
theorem hitE_step (wl : Int → Int) (k : Nat) (e : List Int) (m : Nat) (h : m < e.length) : hitE wl k (e.take (m + 1)) = hitE wl k (e.take m) ++ [⟨e.getD m 0, (k : Int) + 1 - wl (e.getD m 0), (k : Int) + 1⟩] := by
  rw [take_snocI e m h]
  simp [hitE]
theorem hitR_len (wl : Int → Int) (f : Nat → List Int) (Q : List Sq) (E : Ed) (L : List Int) (hf : ∀ s, (f s).length ≤ 8) : ∀ k, (hitR wl f Q E L k).length ≤ 8 * k
  | 0 => Nat.zero_le _
  | k + 1 => by
    have h1 := hitR_len wl f Q E L hf k
    have h2 := hf (stN Q E L (k + 1))
    rw [hitR, List.length_append]
    simp only [hitE, List.length_map]
    omega
end Go.Proofs.Ytdhppigjlldfmaa
namespace Go.Proofs.Ytdhppigjlldfmaa
open Go.ChangeShapes Go.WideShapes Go.ChangeAt Go.WideMaps Go.WideElems Go.RowKit
set_option maxRecDepth 100000 in
set_option maxHeartbeats 2000000 in
theorem eqHit_any (x y z : Int) (w : World) :
    Calls Try.prog 63 #[.agg #[.int .i64 x, .int .i64 y, .int .i64 z], .agg #[.int .i64 x, .int .i64 y, .int .i64 z]] w fun e w' => e = .returned (.bool true) ∧ Below w.heap.size w w' := by
  go_enter Try.func63, Try.ntmps63
  go_wp2
  go_ret
  exact ⟨rfl, by go_grown⟩
set_option maxRecDepth 100000 in
set_option maxHeartbeats 2000000 in
theorem eqHitS_any (H : List Ht) (ao bo : Option Addr) (ca cb : Nat) (w : World) (hl : H.length ≤ 1048576) (hA : HitsAt w ao H) (hB : HitsAt w bo H) :
    Calls Try.prog 31 #[.slice ao H.length ca, .slice bo H.length cb] w fun e w' => e = .returned (.bool true) ∧ Below w.heap.size w w' := by
  have HA : Hid _ := hA
  have HB : Hid _ := hB
  clear hA hB
  go_enter Try.func31, Try.ntmps31
  go_wp2
  go_loopw [5] (fun i wr => ∃ k : Nat, k ≤ H.length ∧ i = .int .i64 k ∧ Below w.heap.size w wr) (fun i _ => H.length - (intOf i).toNat)
  case atStart => exact ⟨0, Nat.zero_le _, rfl, Below.refl _ _⟩
  case round =>
    obtain ⟨k, hk, rfl, hbw⟩ := hrel
    have BW0 : Hid _ := hbw
    clear hbw
    by_cases hlt : k < H.length
    · have hltI : (k : Int) < (H.length : Int) := by omega
      obtain ⟨b1, o1, rfl, l1, h0, h1, h2⟩ := HA.out k hlt
      obtain ⟨b2, o2, rfl, l2, k0, k1, k2⟩ := HB.out k hlt
      have lr1 : b1 < wr.heap.size := Nat.lt_of_lt_of_le l1 BW0.out.size
      have lr2 : b2 < wr.heap.size := Nat.lt_of_lt_of_le l2 BW0.out.size
      generalize hx : (hh H k).n = x at *
      generalize hy : (hh H k).f = y at *
      generalize hz : (hh H k).t = z at *
      clear hx hy hz
      go_wp2
      have g0 : ∀ y' : BW wr, y'.x.cell? ⟨b1, o1 + k * 3, none⟩ = some (.int .i64 x) := fun y' => (y'.h.cell (p := ⟨b1, o1 + k * 3, none⟩) lr1).trans ((BW0.out.cell (p := ⟨b1, o1 + k * 3, none⟩) l1).trans h0)
      have g1 : ∀ y' : BW wr, y'.x.cell? ⟨b1, o1 + k * 3 + 1, none⟩ = some (.int .i64 y) := fun y' => (y'.h.cell (p := ⟨b1, o1 + k * 3 + 1, none⟩) lr1).trans ((BW0.out.cell (p := ⟨b1, o1 + k * 3 + 1, none⟩) l1).trans h1)
      have g2 : ∀ y' : BW wr, y'.x.cell? ⟨b1, o1 + k * 3 + 2, none⟩ = some (.int .i64 z) := fun y' => (y'.h.cell (p := ⟨b1, o1 + k * 3 + 2, none⟩) lr1).trans ((BW0.out.cell (p := ⟨b1, o1 + k * 3 + 2, none⟩) l1).trans h2)
      have g3 : ∀ y' : BW wr, y'.x.cell? ⟨b2, o2 + k * 3, none⟩ = some (.int .i64 x) := fun y' => (y'.h.cell (p := ⟨b2, o2 + k * 3, none⟩) lr2).trans ((BW0.out.cell (p := ⟨b2, o2 + k * 3, none⟩) l2).trans k0)
      have g4 : ∀ y' : BW wr, y'.x.cell? ⟨b2, o2 + k * 3 + 1, none⟩ = some (.int .i64 y) := fun y' => (y'.h.cell (p := ⟨b2, o2 + k * 3 + 1, none⟩) lr2).trans ((BW0.out.cell (p := ⟨b2, o2 + k * 3 + 1, none⟩) l2).trans k1)
      have g5 : ∀ y' : BW wr, y'.x.cell? ⟨b2, o2 + k * 3 + 2, none⟩ = some (.int .i64 z) := fun y' => (y'.h.cell (p := ⟨b2, o2 + k * 3 + 2, none⟩) lr2).trans ((BW0.out.cell (p := ⟨b2, o2 + k * 3 + 2, none⟩) l2).trans k2)
      clear h0 h1 h2 k0 k1 k2
      have hne := BW.some wr
      refine wp_region_below (by kernel_rfl) (by kernel_rfl) ?_
      repeat (go_big_quiet_step (first | (go_at_call 63; exact BW.call (eqHit_any x y z _))))
      rintro w2 ⟨⟨w2', b2⟩, hw⟩
      obtain rfl : w2 = w2' := hw
      have B2 : Hid (Below w.heap.size w w2) := BW0.out.trans (b2.mono BW0.out.size)
      clear b2 g0 g1 g2 g3 g4 g5
      go_wp2
      go_roundw
      case rel => exact ⟨k + 1, by omega, by go_num, B2.out⟩
      case measure => simp [intOf]; omega
    · obtain rfl : k = H.length := by omega
      go_wp2
      go_ret
      exact ⟨rfl, BW0.out⟩
/-- The numbers of hits, one behind the other. -/
def flatH : List Ht → List Int
  | [] => []
  | h :: r => h.n :: h.f :: h.t :: flatH r
theorem flatH_ints : ∀ H, fl3 H = ints (flatH H)
  | [] => rfl
  | h :: r => by
    have := flatH_ints r
    simp only [fl3, flatH, ints, List.map_cons] at *
    rw [this]
theorem flatH_len : ∀ H, (flatH H).length = H.length * 3
  | [] => rfl
  | h :: r => by simp [flatH, flatH_len r]; omega
set_option maxRecDepth 100000 in
set_option maxHeartbeats 4000000 in
theorem markH_any (H : List Ht) (v : Value) (base : Nat) (w : World) (hl : H.length ≤ 100000) (hown : OwnH w base v H) :
    Calls Try.prog 34 #[v, .int .i64 1] w fun e w' => e = .returned (.int .i64 (1 + (H.length * 3 : Nat))) ∧ w'.ownsRow base 41 3 v H.length (ints (mk2 (flatH H) 1 (H.length * 3))) ∧ w.grownBy w' v.ownBlock := by
  obtain ⟨ao, cap, rfl, -⟩ := hown.form
  have hfl := flatH_len H
  have HO : Hid (w.ownsRow base 41 3 (.slice ao H.length cap) H.length (ints (flatH H))) := by
    have h : w.ownsRow base 41 3 (.slice ao H.length cap) H.length (fl3 H) := hown
    rw [flatH_ints] at h
    exact h
  clear hown
  generalize flatH H = F at *
  obtain ⟨n, hn⟩ : ∃ n, n = H.length := ⟨_, rfl⟩
  rw [← hn] at HO hfl hl ⊢
  clear hn
  go_enter Try.func34, Try.ntmps34
  go_wp2
  go_loopw [1, 5] (fun c i wr => ∃ k : Nat, k ≤ n ∧ i = .int .i64 k ∧ c = .int .i64 (1 + (k : Int) * 3) ∧ wr.ownsRow base 41 3 (.slice ao n cap) n (ints (mk2 F 1 (k * 3))) ∧ w.grownBy wr (Value.ownBlock (.slice ao n cap))) (fun _ i _ => n - (intOf i).toNat)
  case atStart => exact ⟨0, Nat.zero_le _, rfl, by simp, by rw [show 0 * 3 = 0 by rfl, mk2_zero]; exact HO.out, grown_refl _ _⟩
  case round =>
    obtain ⟨k, hk, rfl, rfl, hr, hgr⟩ := hrel
    by_cases hlt : k < n
    · have hltI : (k : Int) < (n : Int) := by omega
      rcases hr.2 with ⟨-, h0⟩ | ⟨g, cap', cur, hv, h2, h3, -⟩
      · omega
      simp only [Value.slice.injEq, true_and] at hv
      obtain ⟨rfl, rfl⟩ := hv
      have e0 : (ints (mk2 F 1 (k * 3)))[k * 3]? = some (.int .i64 (F.getD (k * 3) 0)) := by simp [ints, mk2_at F 1 (k * 3) (k * 3) (by omega)]
      have c0 := (World.ownsRow.cellAt hr (k * 3) (by omega)).trans e0
      have f0 := hr.frozenAt (k * 3)
      have s0 := World.ownsRow.stored hr (k * 3) (.int .i64 (1 + (k * 3 : Nat)))
      rw [mk2_step F 1 (k * 3) (by omega)] at s0
      have e1 : (ints (mk2 F 1 (k * 3 + 1)))[k * 3 + 1]? = some (.int .i64 (F.getD (k * 3 + 1) 0)) := by simp [ints, mk2_at F 1 (k * 3 + 1) (k * 3 + 1) (by omega)]
      have c1 := (World.ownsRow.cellAt s0.1 (k * 3 + 1) (by omega)).trans e1
      have f1 := s0.1.frozenAt (k * 3 + 1)
      have s1 := World.ownsRow.stored s0.1 (k * 3 + 1) (.int .i64 (1 + (k * 3 + 1 : Nat)))
      rw [mk2_step F 1 (k * 3 + 1) (by omega)] at s1
      have e2 : (ints (mk2 F 1 (k * 3 + 1 + 1)))[k * 3 + 2]? = some (.int .i64 (F.getD (k * 3 + 2) 0)) := by simp [ints, mk2_at F 1 (k * 3 + 2) (k * 3 + 2) (by omega)]
      have c2 := (World.ownsRow.cellAt s1.1 (k * 3 + 2) (by omega)).trans e2
      have f2 := s1.1.frozenAt (k * 3 + 2)
      have s2 := World.ownsRow.stored s1.1 (k * 3 + 2) (.int .i64 (1 + (k * 3 + 2 : Nat)))
      rw [mk2_step F 1 (k * 3 + 2) (by omega)] at s2
      have i0 : (1 : Int) + (k * 3 : Nat) = 1 + (k : Int) * 3 := by omega
      have i1 : (1 : Int) + (k * 3 + 1 : Nat) = 1 + (k : Int) * 3 + 1 := by omega
      have i2 : (1 : Int) + (k * 3 + 2 : Nat) = 1 + (k : Int) * 3 + 1 + 1 := by omega
      rw [i1] at c2 f2 s1 s2
      rw [i2] at s2
      rw [i0] at c1 f1 s0 c2 f2 s1 s2
      have G : Hid _ := grown_trans hgr (grown_trans s0.2 (grown_trans s1.2 s2.2))
      have R : Hid _ := s2.1
      clear s0 s1 s2 e0 e1 e2 hr hgr i0 i1 i2
      generalize F.getD (k * 3) 0 = x0 at *
      generalize F.getD (k * 3 + 1) 0 = x1 at *
      generalize F.getD (k * 3 + 2) 0 = x2 at *
      go_wp2
      go_roundw
      case rel => exact ⟨k + 1, by omega, by go_num, by go_num, by rw [show (k + 1) * 3 = k * 3 + 2 + 1 by omega]; exact R.out, G.out⟩
      case measure => simp [intOf]; omega
    · obtain rfl : k = n := by omega
      go_wp2
      go_ret
      exact ⟨by go_num, hr, hgr⟩
/-- The marks of n hits. -/
def HeldAt (w : World) (ao : Option Addr) (n : Nat) : Prop := ∀ j, j < n * 3 → ∃ b off, ao = some ⟨b, off, none⟩ ∧ b < w.heap.size ∧ w.cell? ⟨b, off + j, none⟩ = some (.int .i64 (1 + (j : Nat)))
theorem HeldAt.of {w : World} {base : Nat} {v : Value} {F : List Int} {n : Nat} (hF : F.length = n * 3) (h : w.ownsRow base 41 3 v n (ints (mk2 F 1 (n * 3)))) : ∃ ao cap, v = .slice ao n cap ∧ HeldAt w ao n := by
  rcases h.2 with ⟨rfl, h0⟩ | ⟨g, cap, cur, rfl, h2, h3, h4⟩
  · exact ⟨none, 0, by rw [h0], fun j hj => by omega⟩
  · refine ⟨_, _, rfl, fun j hj => ⟨g, 0, rfl, (Array.getElem?_eq_some_iff.1 h3).1, ?_⟩⟩
    rw [Nat.zero_add, World.ownsRow.cellAt h j (by omega)]
    simp [ints, mk2_at F 1 (n * 3) j (by omega), hj]
theorem HeldAt.keepB {w w' : World} {ao : Option Addr} {n : Nat} (h : HeldAt w ao n) (hb : Below w.heap.size w w') : HeldAt w' ao n := fun j hj => by
  obtain ⟨b, off, he, hl, c1⟩ := h j hj
  exact ⟨b, off, he, Nat.lt_of_lt_of_le hl hb.size, (hb.cell (p := ⟨b, off + j, none⟩) hl).trans c1⟩
set_option maxRecDepth 100000 in
set_option maxHeartbeats 2000000 in
theorem heldH_any (n : Nat) (ao : Option Addr) (cap : Nat) (w : World) (hl : n ≤ 100000) (hA : HeldAt w ao n) :
    Calls Try.prog 35 #[.slice ao n cap, .int .i64 1] w fun e w' => e = .returned (.int .i64 (1 + (n * 3 : Nat))) ∧ Below w.heap.size w w' := by
  have HA : Hid _ := hA
  clear hA
  go_enter Try.func35, Try.ntmps35
  go_wp2
  go_loopw [1, 5] (fun c i wr => ∃ k : Nat, k ≤ n ∧ i = .int .i64 k ∧ c = .int .i64 (1 + (k : Int) * 3) ∧ Below w.heap.size w wr) (fun _ i _ => n - (intOf i).toNat)
  case atStart => exact ⟨0, Nat.zero_le _, rfl, by simp, Below.refl _ _⟩
  case round =>
    obtain ⟨k, hk, rfl, rfl, hbw⟩ := hrel
    by_cases hlt : k < n
    · have hltI : (k : Int) < (n : Int) := by omega
      obtain ⟨b1, o1, rfl, l1, h0⟩ := HA.out (k * 3) (by omega)
      obtain ⟨_, _, e1, _, h1⟩ := HA.out (k * 3 + 1) (by omega)
      cases e1
      obtain ⟨_, _, e2, _, h2⟩ := HA.out (k * 3 + 2) (by omega)
      cases e2
      rw [← Nat.add_assoc] at h1 h2
      rw [show (1 : Int) + (k * 3 : Nat) = 1 + (k : Int) * 3 by omega] at h0
      rw [show (1 : Int) + (k * 3 + 1 : Nat) = 1 + (k : Int) * 3 + 1 by omega] at h1
      rw [show (1 : Int) + (k * 3 + 2 : Nat) = 1 + (k : Int) * 3 + 1 + 1 by omega] at h2
      have g0 : wr.cell? ⟨b1, o1 + k * 3, none⟩ = some (.int .i64 (1 + (k : Int) * 3)) := (hbw.cell (p := ⟨b1, o1 + k * 3, none⟩) l1).trans h0
      have g1 : wr.cell? ⟨b1, o1 + k * 3 + 1, none⟩ = some (.int .i64 (1 + (k : Int) * 3 + 1)) := (hbw.cell (p := ⟨b1, o1 + k * 3 + 1, none⟩) l1).trans h1
      have g2 : wr.cell? ⟨b1, o1 + k * 3 + 2, none⟩ = some (.int .i64 (1 + (k : Int) * 3 + 1 + 1)) := (hbw.cell (p := ⟨b1, o1 + k * 3 + 2, none⟩) l1).trans h2
      clear h0 h1 h2
      go_wp2
      go_roundw
      case rel => exact ⟨k + 1, by omega, by go_num, by go_num, hbw⟩
      case measure => simp [intOf]; omega
    · obtain rfl : k = n := by omega
      go_wp2
      go_ret
      exact ⟨by go_num, hbw⟩
end Go.Proofs.Ytdhppigjlldfmaa
namespace Go.Proofs.Ytdhppigjlldfmaa
open Go.ChangeShapes Go.WideShapes Go.ChangeAt Go.WideMaps Go.WideElems Go.RowKit
theorem OwnH.at {w : World} {base : Nat} {a : Option Addr} {n c : Nat} {H : List Ht} (h : OwnH w base (.slice a n c) H) : HitsAt w a H := by
  obtain ⟨a', c', e, i⟩ := h.form
  simp only [Value.slice.injEq] at e
  obtain ⟨rfl, -, -⟩ := e
  exact i
theorem OwnAQ.at {w : World} {base top : Nat} {a b c e : Option Addr} {n0 n1 n2 n3 c0 c1 c2 c3 : Nat} {Q : List Value} {P B F : List Int} {R : Rw} (h : OwnAQ w base top (.slice a n0 c0) (.slice b n1 c1) (.slice c n2 c2) (.slice e n3 c3) Q P B F R.length (rw_ R)) : IntsAt w a P ∧ IntsAt w b B ∧ IntsAt w c F ∧ RowsAt w e R := by
  obtain ⟨a', b', c', e', ca', cb', cc', ce', e0, e1, e2, e3, i0, i1, i2, i3⟩ := h.a.form
  simp only [Value.slice.injEq] at e0 e1 e2 e3
  obtain ⟨rfl, -, -⟩ := e0
  obtain ⟨rfl, -, -⟩ := e1
  obtain ⟨rfl, -, -⟩ := e2
  obtain ⟨rfl, -, -⟩ := e3
  exact ⟨i0, i1, i2, i3⟩
theorem neH : (41 : TypeId) ≠ 3 := by decide
/-- The argument's box; the copies of both arguments, one boxed; the two answers. -/
structure RunSt (q w : World) (o1 : Obj) (s5 : Nat) (o5 : Obj) (lo : Nat) (x0 x1 x2 x3 : Value) (Q : List Value) (P B F : List Int) (n : Nat) (f : Nat → List Int) (xr : Value) (L : List Int) (lg : Nat) (g : Value) (lw : Nat) (hw : Value) (H : List Ht) : Prop where
  b1 : q.heap[w.heap.size]? = some o1
  b5 : q.heap[s5]? = some o5
  x : OwnAQ q lo s5 x0 x1 x2 x3 Q P B F n f
  r : q.ownsRow (s5 + 1) 3 1 xr L.length (ints L)
  g_ : OwnH q lg g H
  h_ : OwnH q lw hw H
  bel : Below w.heap.size w q
  z : lg ≤ q.heap.size
theorem RunSt.keepB {q q' w : World} {o1 : Obj} {s5 : Nat} {o5 : Obj} {lo : Nat} {x0 x1 x2 x3 : Value} {Q : List Value} {P B F : List Int} {n : Nat} {f : Nat → List Int} {xr : Value} {L : List Int} {lg : Nat} {g : Value} {lw : Nat} {hw : Value} {H : List Ht} (h : RunSt q w o1 s5 o5 lo x0 x1 x2 x3 Q P B F n f xr L lg g lw hw H) (hb : Below q.heap.size q q') : RunSt q' w o1 s5 o5 lo x0 x1 x2 x3 Q P B F n f xr L lg g lw hw H :=
  ⟨(hb.block _ (Array.getElem?_eq_some_iff.1 h.b1).1).trans h.b1, (hb.block _ (Array.getElem?_eq_some_iff.1 h.b5).1).trans h.b5, h.x.keepB hb, World.ownsRow.keepB h.r hb, OwnH.keepB h.g_ hb, OwnH.keepB h.h_ hb, h.bel.trans (hb.mono h.bel.size), Nat.le_trans h.z hb.size⟩
/-- .. behind the marks of the first copy. -/
structure RunSt2 (q w : World) (o1 : Obj) (lr : Nat) (xr : Value) (L : List Int) (lg : Nat) (g : Value) (lw : Nat) (hw : Value) (H : List Ht) : Prop where
  b1 : q.heap[w.heap.size]? = some o1
  r : q.ownsRow lr 3 1 xr L.length (ints L)
  g_ : OwnH q lg g H
  h_ : OwnH q lw hw H
  bel : Below w.heap.size w q
  z : lg ≤ q.heap.size
theorem RunSt.mid {q q' w : World} {o1 : Obj} {s5 : Nat} {o5 : Obj} {lo : Nat} {x0 x1 x2 x3 : Value} {Q : List Value} {P B F : List Int} {n : Nat} {f : Nat → List Int} {xr : Value} {L : List Int} {lg : Nat} {g : Value} {lw : Nat} {hw : Value} {H : List Ht} (h : RunSt q w o1 s5 o5 lo x0 x1 x2 x3 Q P B F n f xr L lg g lw hw H) (hm : Mid lo s5 q q') (h0 : w.heap.size < lo) (hg : s5 ≤ lg) (hh : ∀ k, hw.ownBlock = some k → k < lo) : RunSt2 q' w o1 (s5 + 1) xr L lg g lw hw H :=
  ⟨mid_blk hm h.b1 (.inl h0), own_mid hm h.r (Nat.le_succ _), own_mid hm h.g_ hg, own_low hm.1 h.h_ hh, h.bel.trans (hm.1.mono (Nat.le_of_lt h0)), Nat.le_trans h.z hm.1.size⟩
/-- .. behind the marks of the second one. -/
structure RunSt3 (q w : World) (o1 : Obj) (lg : Nat) (g : Value) (lw : Nat) (hw : Value) (H : List Ht) : Prop where
  b1 : q.heap[w.heap.size]? = some o1
  g_ : OwnH q lg g H
  h_ : OwnH q lw hw H
  bel : Below w.heap.size w q
  z : lg ≤ q.heap.size
theorem RunSt2.next {q q' w : World} {o1 : Obj} {lr : Nat} {xr : Value} {L : List Int} {lg : Nat} {g : Value} {lw : Nat} {hw : Value} {H : List Ht} (h : RunSt2 q w o1 lr xr L lg g lw hw H) (hg : q.grownBy q' xr.ownBlock) (h0 : w.heap.size < lr) : RunSt3 q' w o1 lg g lw hw H := by
  have hl := (Array.getElem?_eq_some_iff.1 h.b1).1
  exact ⟨(hg.block _ hl (fun e => by have := (World.ownsRow.lt h.r _ e.symm).1; omega)).trans h.b1, World.ownsRow.kept h.g_ hg (types_apart neH h.g_ h.r), World.ownsRow.kept h.h_ hg (types_apart neH h.h_ h.r), Below.grown h.bel hg h.bel.size (fun k e => by have := (World.ownsRow.lt h.r k e).1; omega), Nat.le_trans h.z hg.size⟩
theorem RunSt3.keepB {q q' w : World} {o1 : Obj} {lg : Nat} {g : Value} {lw : Nat} {hw : Value} {H : List Ht} (h : RunSt3 q w o1 lg g lw hw H) (hb : Below q.heap.size q q') : RunSt3 q' w o1 lg g lw hw H :=
  ⟨(hb.block _ (Array.getElem?_eq_some_iff.1 h.b1).1).trans h.b1, OwnH.keepB h.g_ hb, OwnH.keepB h.h_ hb, h.bel.trans (hb.mono h.bel.size), Nat.le_trans h.z hb.size⟩
/-- .. behind the marks of the answer. -/
structure RunSt4 (q w : World) (o1 : Obj) (ga : Option Addr) (lw : Nat) (hw : Value) (H : List Ht) : Prop where
  b1 : q.heap[w.heap.size]? = some o1
  g_ : HeldAt q ga H.length
  h_ : OwnH q lw hw H
  bel : Below w.heap.size w q
theorem RunSt4.keepB {q q' w : World} {o1 : Obj} {ga : Option Addr} {lw : Nat} {hw : Value} {H : List Ht} (h : RunSt4 q w o1 ga lw hw H) (hb : Below q.heap.size q q') : RunSt4 q' w o1 ga lw hw H :=
  ⟨(hb.block _ (Array.getElem?_eq_some_iff.1 h.b1).1).trans h.b1, h.g_.keepB hb, OwnH.keepB h.h_ hb, h.bel.trans (hb.mono h.bel.size)⟩
theorem RunSt3.next {q q' w : World} {o1 : Obj} {lg : Nat} {ga : Option Addr} {n c lw : Nat} {hw : Value} {H : List Ht} (h : RunSt3 q w o1 lg (.slice ga n c) lw hw H) (hg : q.grownBy q' (Value.ownBlock (.slice ga n c))) (ho : q'.ownsRow lg 41 3 (.slice ga n c) H.length (ints (mk2 (flatH H) 1 (H.length * 3)))) (h0 : w.heap.size < lg) (hh : ∀ k, hw.ownBlock = some k → k < lg) : RunSt4 q' w o1 ga lw hw H := by
  have hb : Below lg q q' := Below.grown (Below.refl _ _) hg h.z (fun k e => (World.ownsRow.lt h.g_ k e).1)
  refine ⟨(hb.block _ h0).trans h.b1, ?_, own_low hb h.h_ hh, h.bel.trans (hb.mono (Nat.le_of_lt h0))⟩
  obtain ⟨a', c', e, i⟩ := HeldAt.of (flatH_len H) ho
  simp only [Value.slice.injEq] at e
  obtain ⟨rfl, -, -⟩ := e
  exact i
end Go.Proofs.Ytdhppigjlldfmaa
namespace Go.Proofs.Ytdhppigjlldfmaa
open Go.ChangeShapes Go.WideShapes Go.ChangeAt Go.WideMaps Go.WideElems Go.RowKit
theorem rd_lt (P B F : List Int) (V : Nat → Value) (r : Int) {n : Nat} (h0 : 0 < n) : ∀ f s, stepF (rdQ P B F V n) (rdE P B n) r f s < n
  | 0, _ => h0
  | f + 1, s => by
    rw [stepF]
    cases he : rdE P B n s r with
    | some j => exact (rdE_some P B _ _ _ _ he).2.1
    | none =>
      dsimp only
      split
      · exact h0
      · exact rd_lt P B F V r h0 f _
theorem rd_st (P B F : List Int) (V : Nat → Value) (L : List Int) {n : Nat} (h0 : 0 < n) : ∀ k, stN (rdQ P B F V n) (rdE P B n) L k < n
  | 0 => h0
  | _ + 1 => rd_lt P B F V _ h0 _ _
noncomputable def rhB (P B F : List Int) (R : Rw) (L : List Int) : Bool := goodA P B F R && okL L
noncomputable def rhA (P B F : List Int) (R : Rw) (L : List Int) : List Ht := if rhB P B F R L = true then hitR (fun no => wlK P B F R no P.length) (rw_ R) (rdQ P B F nV P.length) (rdE P B P.length) L L.length else []
theorem rh_no {P B F : List Int} {R : Rw} {L : List Int} (h : rhB P B F R L = false) : rhB P B F R L = false ∧ rhA P B F R L = [] := ⟨h, by unfold rhA; rw [h]; rfl⟩
theorem rh_yes {P B F : List Int} {R : Rw} {L : List Int} (h : rhB P B F R L = true) : rhB P B F R L = true ∧ rhA P B F R L = hitR (fun no => wlK P B F R no P.length) (rw_ R) (rdQ P B F nV P.length) (rdE P B P.length) L L.length := ⟨h, by unfold rhA; rw [if_pos h]⟩
theorem rw_out (R : Rw) {k : Nat} (h : R.length ≤ k) : rw_ R k = [] := by simp [rw_, List.getD, List.getElem?_eq_none h]
theorem okA_len8 {P B F : List Int} {R : Rw} (h : okA P B F R) (s : Nat) : (rw_ R s).length ≤ 8 := by
  by_cases e : s < P.length
  · exact ris8_len (h.2.2.2 s e).1
  · rw [rw_out R (by have := h.2.1.2.2; omega)]; exact Nat.zero_le _
theorem rhA_len (P B F : List Int) (R : Rw) (L : List Int) : (rhA P B F R L).length ≤ 960 := by
  unfold rhA
  split
  · rename_i h
    unfold rhB at h
    rw [Bool.and_eq_true] at h
    have h1 := (okL_true h.2).2
    have := hitR_len (fun no => wlK P B F R no P.length) (rw_ R) (rdQ P B F nV P.length) (rdE P B P.length) L (okA_len8 (goodA_true h.1)) L.length
    omega
  · exact Nat.zero_le _
set_option maxRecDepth 100000 in
set_option maxHeartbeats 4000000 in
theorem srunA_any (P B F : List Int) (R : Rw) (L : List Int) (a b c e ao : Option Addr) (ca cb cc ce cap : Nat) (w : World) (hl : szA P B F R ≤ 1048576) (hlL : L.length ≤ 1048576) (hA : IntsAt w a P) (hB : IntsAt w b B) (hC : IntsAt w c F) (hE : RowsAt w e R) (hL : IntsAt w ao L) :
    Calls Try.prog 15 #[.agg #[.slice a P.length ca, .slice b B.length cb, .slice c F.length cc, .slice e R.length ce], .slice ao L.length cap] w fun x w' => ∃ v, x = .returned (.tuple #[v, .bool (rhB P B F R L)]) ∧ OwnH w' w.heap.size v (rhA P B F R L) ∧ Below w.heap.size w w' := by
  have HS : Hid (∀ o, Calls Try.prog 20 #[.agg #[.slice a P.length ca, .slice b B.length cb, .slice c F.length cc, .slice e R.length ce]] (w.alloc o) fun r w' => r = .returned (.bool (goodA P B F R)) ∧ Below (w.alloc o).heap.size (w.alloc o) w') := fun o => sgoodA_any P B F R a b c e ca cb cc ce (w.alloc o) hl (IntsAt.keepB hA (al_W w o)) (IntsAt.keepB hB (al_W w o)) (IntsAt.keepB hC (al_W w o)) (RowsAt.keepB hE (al_W w o))
  have HA : Hid _ := hA
  have HB : Hid _ := hB
  have HC : Hid _ := hC
  have HE : Hid _ := hE
  have HL : Hid _ := hL
  have HLR : Hid (szR R ≤ 1048576) := by unfold szA at hl; exact (by omega : szR R ≤ 1048576)
  have hlP : P.length ≤ 1048576 := by unfold szA at hl; omega
  clear hA hB hC hE hl hL
  cases hg : goodA P B F R with
  | false =>
    have HK : Hid (rhB P B F R L = false ∧ rhA P B F R L = []) := rh_no (by unfold rhB; rw [hg]; rfl)
    rw [hg] at HS
    clear hg
    go_enter Try.func15, Try.ntmps15
    go_wp2_with fail
    refine Calls.mono (HS.out _) ?_
    rintro x w1 ⟨rfl, b1⟩
    have B1 : Hid (Below w.heap.size w w1) := (al_W w _).trans (b1.mono (al_W w _).size)
    clear b1
    go_wp2
    go_ret2
    exact ⟨_, by rw [HK.out.1] <;> rfl, by rw [HK.out.2]; exact World.ownsRow_nil _ _ _ _, B1.out⟩
  | true =>
    have hok := goodA_true hg
    rw [hg] at HS
    rw [hok.2.1.1, hok.2.1.2.1, hok.2.1.2.2] at HS ⊢
    have HOK : Hid _ := hok
    have HRL : Hid (R.length = P.length) := hok.2.1.2.2
    have h0 : 0 < P.length := by have := hok.1.1; omega
    have hn : P.length ≤ 100 := hok.1.2
    cases hr : okL L with
    | false =>
      have HK : Hid (rhB P B F R L = false ∧ rhA P B F R L = []) := rh_no (by unfold rhB; rw [hr]; simp)
      clear hg hok
      go_enter Try.func15, Try.ntmps15
      go_wp2_with fail
      refine Calls.mono (HS.out _) ?_
      rintro x w1 ⟨rfl, b1⟩
      have B1 : Hid (Below w.heap.size w w1) := (al_W w _).trans (b1.mono (al_W w _).size)
      have H8 : Hid (Calls Try.prog 50 #[.slice ao L.length cap] w1 fun e w' => e = .returned (.bool false) ∧ Below w1.heap.size w1 w') := by
        have := slist8_any L ao cap w1 hlL (IntsAt.keepB HL.out B1.out)
        rwa [hr] at this
      clear b1 hr
      go_wp2_with fail
      refine Calls.mono H8.out ?_
      rintro x w2 ⟨rfl, b2⟩
      have B2 : Hid (Below w.heap.size w w2) := B1.out.trans (b2.mono B1.out.size)
      clear b2
      go_wp2
      go_ret2
      exact ⟨_, by rw [HK.out.1] <;> rfl, by rw [HK.out.2]; exact World.ownsRow_nil _ _ _ _, B2.out⟩
    | true =>
      have HK : Hid (rhB P B F R L = true ∧ rhA P B F R L = hitR (fun no => wlK P B F R no P.length) (rw_ R) (rdQ P B F nV P.length) (rdE P B P.length) L L.length) := rh_yes (by unfold rhB; rw [hg, hr]; rfl)
      have h120 : L.length ≤ 120 := (okL_true hr).2
      have HST : Hid (∀ k, stN (rdQ P B F nV P.length) (rdE P B P.length) L k < P.length) := rd_st P B F nV L h0
      have HHL : Hid (∀ k, (hitR (fun no => wlK P B F R no P.length) (rw_ R) (rdQ P B F nV P.length) (rdE P B P.length) L k).length ≤ 8 * k) := hitR_len _ _ _ _ _ (okA_len8 hok)
      have H8L : Hid (∀ s, (rw_ R s).length ≤ 8) := okA_len8 hok
      obtain ⟨eb, eo, sa0, sc0, rfl, el0, -, -⟩ := HE.out 0 (by rw [HRL.out]; exact h0)
      have EL : Hid (eb < w.heap.size) := el0
      clear hg hok el0
      go_enter Try.func15, Try.ntmps15
      go_wp2_with fail
      refine Calls.mono (HS.out _) ?_
      rintro x w1 ⟨rfl, b1⟩
      have B1 : Hid (Below w.heap.size w w1) := (al_W w _).trans (b1.mono (al_W w _).size)
      have hbl1 : w1.heap[w.heap.size]? = some (.cells #[.slice a P.length ca, .slice b P.length cb, .slice c P.length cc, .slice (some ⟨eb, eo, none⟩) P.length ce] 28) := (b1.block w.heap.size (by simp)).trans (heap_last2 w _ _ rfl)
      have HBL1 : Hid _ := hbl1
      have H8 : Hid (Calls Try.prog 50 #[.slice ao L.length cap] w1 fun e w' => e = .returned (.bool true) ∧ Below w1.heap.size w1 w') := by
        have := slist8_any L ao cap w1 hlL (IntsAt.keepB HL.out B1.out)
        rwa [hr] at this
      clear b1 hr hbl1
      go_wp2_with fail
      refine Calls.mono H8.out ?_
      rintro x w2 ⟨rfl, b2⟩
      have B2 : Hid (Below w.heap.size w w2) := B1.out.trans (b2.mono B1.out.size)
      have HBL2 : Hid (w2.heap[w.heap.size]? = some (.cells #[.slice a P.length ca, .slice b P.length cb, .slice c P.length cc, .slice (some ⟨eb, eo, none⟩) P.length ce] 28)) := (b2.block w.heap.size (Array.getElem?_eq_some_iff.1 HBL1.out).1).trans HBL1.out
      clear b2
      obtain ⟨n, hnL⟩ : ∃ n, n = L.length := ⟨_, rfl⟩
      have HN : Hid (n = L.length) := hnL
      rw [← hnL] at h120 HK ⊢
      clear hnL hlL
      go_wp2
      go_loopw [22, 6, 7] (fun i v s wr => ∃ k : Nat, k ≤ n ∧ i = .int .i64 k ∧ s = .int .i64 (stN (rdQ P B F nV P.length) (rdE P B P.length) L k : Nat) ∧ OwnH wr (w.heap.size + 1) v (hitR (fun no => wlK P B F R no P.length) (rw_ R) (rdQ P B F nV P.length) (rdE P B P.length) L k) ∧ wr.heap[w.heap.size]? = some (.cells #[.slice a P.length ca, .slice b P.length cb, .slice c P.length cc, .slice (some ⟨eb, eo, none⟩) P.length ce] 28) ∧ Below w.heap.size w wr) (fun i _ _ _ => n - (intOf i).toNat)
      case atStart => exact ⟨0, Nat.zero_le _, rfl, rfl, World.ownsRow_nil _ _ _ _, HBL2.out, B2.out⟩
      case round =>
        obtain ⟨k, hk, rfl, rfl, hO, hbl, hbw⟩ := hrel
        obtain ⟨w3, hw3⟩ : ∃ w3, w3 = wr := ⟨_, rfl⟩
        subst hw3
        have BW : Hid (Below w.heap.size w w3) := hbw
        have HBL : Hid _ := hbl
        have HO : Hid _ := hO
        by_cases hlt : k < n
        · have hltI : (k : Int) < (n : Int) := by omega
          obtain ⟨b1, o1, rfl, l1, g1⟩ := HL.out k (by have := HN.out; omega)
          have g1' : w3.cell? ⟨b1, o1 + k, none⟩ = some (.int .i64 (L.getD k 0)) := (BW.out.cell (p := ⟨b1, o1 + k, none⟩) l1).trans g1
          have hs1 := HST.out k
          have hs2 := HST.out (k + 1)
          have HSTEP : Hid (Calls Try.prog 51 #[.agg #[.slice a P.length ca, .slice b P.length cb, .slice c P.length cc, .slice (some ⟨eb, eo, none⟩) P.length ce], .int .i64 (stN (rdQ P B F nV P.length) (rdE P B P.length) L k : Nat), .int .i64 (L.getD k 0)] w3 fun x w' => x = .returned (.int .i64 (stN (rdQ P B F nV P.length) (rdE P B P.length) L (k + 1) : Nat)) ∧ Below w3.heap.size w3 w') := sstep_any P B F R HOK.out nV (L.getD k 0) _ _ (Nat.lt_succ_self _) hs1 a b c (some ⟨eb, eo, none⟩) ca cb cc P.length ce w3 (IntsAt.keepB HA.out BW.out) (IntsAt.keepB HB.out BW.out) (IntsAt.keepB HC.out BW.out)
          have HLK := HHL.out k
          have HNX : Hid (hitR (fun no => wlK P B F R no P.length) (rw_ R) (rdQ P B F nV P.length) (rdE P B P.length) L (k + 1) = hitR (fun no => wlK P B F R no P.length) (rw_ R) (rdQ P B F nV P.length) (rdE P B P.length) L k ++ hitE (fun no => wlK P B F R no P.length) k (rw_ R (stN (rdQ P B F nV P.length) (rdE P B P.length) L (k + 1)))) := rfl
          generalize hH : hitR (fun no => wlK P B F R no P.length) (rw_ R) (rdQ P B F nV P.length) (rdE P B P.length) L k = H at HO HLK HNX
          generalize hx : L.getD k 0 = x at g1' HSTEP
          generalize hst : stN (rdQ P B F nV P.length) (rdE P B P.length) L k = st at HSTEP hs1
          generalize hst2 : stN (rdQ P B F nV P.length) (rdE P B P.length) L (k + 1) = st2 at HSTEP hs2 HNX
          have HST2 : Hid _ := hst2
          have hs2I : (st2 : Int) < (P.length : Int) := by omega
          have d20 := cell_of hbl 0
          have d21 := cell_of hbl 1
          have d22 := cell_of hbl 2
          have d23 := cell_of hbl 3
          simp only [List.getElem?_toArray, List.getElem?_cons_zero, List.getElem?_cons_succ] at d20 d21 d22 d23
          have HLK2 : Hid (H.length ≤ 960) := (by omega : H.length ≤ 960)
          clear hH hx hst hst2 hs1 g1 l1 hO hbl hbw HLK
          go_wp2_with fail
          refine Calls.mono HSTEP.out ?_
          rintro x w4 ⟨rfl, b4⟩
          have B4 : Hid (Below w.heap.size w w4) := BW.out.trans (b4.mono BW.out.size)
          have hbl4 : w4.heap[w.heap.size]? = some (.cells #[.slice a P.length ca, .slice b P.length cb, .slice c P.length cc, .slice (some ⟨eb, eo, none⟩) P.length ce] 28) := (b4.block w.heap.size (Array.getElem?_eq_some_iff.1 HBL.out).1).trans HBL.out
          have O4 : Hid (OwnH w4 (w.heap.size + 1) u6 H) := OwnH.keepB HO.out b4
          have d43 := cell_of hbl4 3
          simp only [List.getElem?_toArray, List.getElem?_cons_zero, List.getElem?_cons_succ] at d43
          have HBL4 : Hid _ := hbl4
          obtain ⟨_, _, y, yc, ye, l2, c2, iX⟩ := HE.out st2 (by rw [HRL.out]; exact hs2)
          cases ye
          have g2 : w4.cell? ⟨eb, eo + st2, none⟩ = some (.slice y (rw_ R st2).length yc) := (B4.out.cell (p := ⟨eb, eo + st2, none⟩) l2).trans c2
          have HIX : Hid _ := iX
          have h8 := H8L.out st2
          have HRS : Hid (risB 0 7 (rw_ R st2) = true) := (HOK.out.2.2.2 st2 hs2).1
          clear b4 hbl4 c2 iX d20 d21 d22 d23 g1'
          go_wp2
          go_loopw [37, 6] (fun j v wq => ∃ m : Nat, m ≤ (rw_ R st2).length ∧ j = .int .i64 m ∧ OwnH wq (w.heap.size + 1) v (H ++ hitE (fun no => wlK P B F R no P.length) k ((rw_ R st2).take m)) ∧ wq.heap[w.heap.size]? = some (.cells #[.slice a P.length ca, .slice b P.length cb, .slice c P.length cc, .slice (some ⟨eb, eo, none⟩) P.length ce] 28) ∧ Below w.heap.size w wq) (fun j _ _ => (rw_ R st2).length - (intOf j).toNat)
          case atStart => exact ⟨0, Nat.zero_le _, rfl, by rw [List.take_zero]; simpa [hitE] using O4.out, HBL4.out, B4.out⟩
          case round =>
            obtain ⟨m, hm, rfl, hO5, hbl5, hbw5⟩ := hrel
            obtain ⟨w5, hw5⟩ : ∃ w5, w5 = wr := ⟨_, rfl⟩
            subst hw5
            have BW5 : Hid (Below w.heap.size w w5) := hbw5
            have HBL5 : Hid _ := hbl5
            have HO5 : Hid _ := hO5
            by_cases hlm : m < (rw_ R st2).length
            · have hlmI : (m : Int) < ((rw_ R st2).length : Int) := by omega
              obtain ⟨yb, yo, rfl, l3, c3⟩ := HIX.out m hlm
              have g3 : w5.cell? ⟨yb, yo + m, none⟩ = some (.int .i64 ((rw_ R st2).getD m 0)) := (BW5.out.cell (p := ⟨yb, yo + m, none⟩) l3).trans c3
              have HES : Hid (hitE (fun no => wlK P B F R no P.length) k ((rw_ R st2).take (m + 1)) = hitE (fun no => wlK P B F R no P.length) k ((rw_ R st2).take m) ++ [⟨(rw_ R st2).getD m 0, (k : Int) + 1 - wlK P B F R ((rw_ R st2).getD m 0) P.length, (k : Int) + 1⟩]) := hitE_step _ k _ m hlm
              have hEL : Hid ((H ++ hitE (fun no => wlK P B F R no P.length) k ((rw_ R st2).take m)).length ≤ 1000000) := (by
                have := HLK2.out
                have := List.length_take_le m (rw_ R st2)
                rw [List.length_append]
                simp only [hitE, List.length_map]
                omega : (H ++ hitE (fun no => wlK P B F R no P.length) k ((rw_ R st2).take m)).length ≤ 1000000)
              generalize (rw_ R st2).getD m 0 = no at g3 HES
              have HWL : Hid (Calls Try.prog 52 #[.agg #[.slice a P.length ca, .slice b P.length cb, .slice c P.length cc, .slice (some ⟨eb, eo, none⟩) P.length ce], .int .i64 no] w5 fun x w' => x = .returned (.int .i64 (wlK P B F R no P.length)) ∧ Below w5.heap.size w5 w') := swlong_any P B F R HOK.out no a b c (some ⟨eb, eo, none⟩) ca P.length cb P.length cc ce w5 HLR.out (IntsAt.keepB HA.out BW5.out) (RowsAt.keepB HE.out BW5.out)
              have hwb := wlK_bd HOK.out no P.length (Nat.le_refl _)
              generalize hH2 : H ++ hitE (fun no => wlK P B F R no P.length) k ((rw_ R st2).take m) = H2 at HO5 hEL
              have HH2 : Hid _ := hH2
              generalize wlK P B F R no P.length = wl at HWL hwb HES
              have hw1 : IntKind.i64.wrap ((k : Int) + 1) = (k : Int) + 1 := IntWalk.i64_in _ (by omega)
              have hw2 : IntKind.i64.wrap ((k : Int) + 1 - wl) = (k : Int) + 1 - wl := IntWalk.i64_in _ (by omega)
              have d50 := cell_of hbl5 0
              have d51 := cell_of hbl5 1
              have d52 := cell_of hbl5 2
              have d53 := cell_of hbl5 3
              simp only [List.getElem?_toArray, List.getElem?_cons_zero, List.getElem?_cons_succ] at d50 d51 d52 d53
              clear hH2 c3 hO5 hbl5 hbw5
              go_wp2_with fail
              refine Calls.mono HWL.out ?_
              rintro x w6 ⟨rfl, b6⟩
              have B6 : Hid (Below w.heap.size w w6) := BW5.out.trans (b6.mono BW5.out.size)
              have HBL6 : Hid (w6.heap[w.heap.size]? = some (.cells #[.slice a P.length ca, .slice b P.length cb, .slice c P.length cc, .slice (some ⟨eb, eo, none⟩) P.length ce] 28)) := (b6.block w.heap.size (Array.getElem?_eq_some_iff.1 HBL5.out).1).trans HBL5.out
              have O6 : Hid (OwnH w6 (w.heap.size + 1) u6 H2) := OwnH.keepB HO5.out b6
              have EO : Hid (∀ o, OwnH (w6.alloc o) (w.heap.size + 1) u6 H2) := fun o => OwnH.keepB O6.out (al_W w6 o)
              have hs6 : w.heap.size < w6.heap.size := (Array.getElem?_eq_some_iff.1 HBL6.out).1
              have PUSH : Hid (∀ o w7, (w6.alloc o).grownBy w7 (Value.ownBlock u6) → w7.heap[w.heap.size]? = some (.cells #[.slice a P.length ca, .slice b P.length cb, .slice c P.length cc, .slice (some ⟨eb, eo, none⟩) P.length ce] 28) ∧ Below w.heap.size w w7) := fun o w7 hg =>
                ⟨(hg.block w.heap.size (by simp; omega) (fun e => by have := (World.ownsRow.lt O6.out _ e.symm).1; omega)).trans (((al_W w6 o).block w.heap.size hs6).trans HBL6.out), Below.grown (B6.out.trans ((al_W w6 o).mono B6.out.size)) hg (by simp; omega) (fun g hg' => by have := (World.ownsRow.lt O6.out g hg').1; omega)⟩
              have HZ : Hid (∀ o, w.heap.size + 1 ≤ (w6.alloc o).heap.size) := fun o => by show w.heap.size + 1 ≤ _; simp; omega
              clear b6 d50 d51 d52 d53
              go_wp2_with (at_builtin; (refine wpH _ rfl (.tmp 41) (.tmp 52) rfl (w.heap.size + 1) u6 H2 rfl (EO.out _) w6.heap.size 1 no ((k : Int) + 1 - wl) ((k : Int) + 1) rfl (heap_last2 _ _ _ rfl) hEL.out (HZ.out _) ?_))
              intro v' w7 hr hg
              have RS : Hid _ := PUSH.out _ w7 hg
              have RO : Hid _ := hr
              clear hr hg
              go_wp2
              go_roundw
              case rel => exact ⟨m + 1, by omega, by go_num, by rw [HES.out, ← List.append_assoc, HH2.out]; exact RO.out, RS.out.1, RS.out.2⟩
              case measure => simp [intOf]; omega
            · obtain rfl : m = (rw_ R st2).length := by omega
              have hlmI : ¬ ((rw_ R st2).length : Int) < ((rw_ R st2).length : Int) := by omega
              have RO : Hid (OwnH w5 (w.heap.size + 1) u6 (hitR (fun no => wlK P B F R no P.length) (rw_ R) (rdQ P B F nV P.length) (rdE P B P.length) L (k + 1))) := by
                rw [HNX.out]
                have := HO5.out
                rwa [List.take_length] at this
              clear hO5 hbl5 hbw5
              go_wp2
              go_roundw
              case rel => exact ⟨k + 1, by omega, by go_num, by rw [HST2.out], RO.out, HBL5.out, BW5.out⟩
              case measure => simp [intOf]; omega
        · obtain rfl : k = n := by omega
          have hltI : ¬ (k : Int) < (k : Int) := by omega
          have HR : Hid (OwnH w3 w.heap.size u6 (rhA P B F R L)) := by
            rw [HK.out.2]
            exact own_mono HO.out (Nat.le_succ _)
          clear hO hbl hbw
          go_wp2
          go_ret2
          exact ⟨_, by rw [HK.out.1] <;> rfl, HR.out, BW.out⟩
end Go.Proofs.Ytdhppigjlldfmaa
namespace Go.Proofs.Ytdhppigjlldfmaa
open Go.ChangeShapes Go.WideShapes Go.ChangeAt Go.WideMaps Go.WideElems Go.RowKit
theorem run_min (a b : Int) (w : World) : (Builtin.min_ #[3, 3] 3 #[.int .i64 a, .int .i64 b]).run Try.prog w = .ok (.int .i64 (if b < a then b else a)) w := by
  simp [Builtin.min_, Builtin.min2]
/-- Is a number among the first m of a list. -/
def hasM (L : List Int) (m : Nat) (r : Int) : Bool := decide (∃ j, j < m ∧ L.getD j 0 = r)
theorem hasM_all (L : List Int) (r : Int) : hasM L L.length r = hasB L r := rfl
theorem hasM_zero (L : List Int) (r : Int) : hasM L 0 r = false := decide_eq_false fun ⟨j, hj, _⟩ => by omega
theorem hasM_step (L : List Int) (m : Nat) (r : Int) : hasM L (m + 1) r = (hasM L m r || decide (L.getD m 0 = r)) := by
  unfold hasM
  rw [← Bool.decide_or]
  refine decide_eq_decide.2 ⟨fun ⟨j, hj, h⟩ => ?_, fun h => ?_⟩
  · by_cases e : j = m
    · exact .inr (e ▸ h)
    · exact .inl ⟨j, by omega, h⟩
  · rcases h with ⟨j, hj, h⟩ | h
    · exact ⟨j, by omega, h⟩
    · exact ⟨m, by omega, h⟩
def minI (a b : Int) : Int := if b < a then b else a
/-- The least length so far, n where there is none. -/
def mK (P B F : List Int) (R : Rw) (no : Int) : Nat → Int
  | 0 => P.length
  | k + 1 => if hasB (rw_ R k) no = true then minI (mK P B F R no k) (lev P B F k) else mK P B F R no k
theorem mK_wl {P B F : List Int} {R : Rw} (h : okA P B F R) (no : Int) : ∀ k, k ≤ P.length → (wlK P B F R no k < 0 ∧ mK P B F R no k = P.length ∧ ∀ j, j < k → hasB (rw_ R j) no = false) ∨ (0 ≤ wlK P B F R no k ∧ mK P B F R no k = wlK P B F R no k)
  | 0, _ => .inl ⟨by simp [wlK], rfl, fun j hj => absurd hj (by omega)⟩
  | k + 1, hk => by
    have ih := mK_wl h no k (by omega)
    have hb := lev_bd h (j := k) (by omega)
    rw [wlK, mK]
    cases hh : hasB (rw_ R k) no with
    | false =>
      rw [if_neg (fun c => by cases c.1), if_neg (fun c => by cases c)]
      rcases ih with ⟨i1, i2, i3⟩ | ih
      · refine .inl ⟨i1, i2, fun j hj => ?_⟩
        by_cases e : j = k
        · exact e ▸ hh
        · exact i3 j (by omega)
      · exact .inr ih
    | true =>
      rw [if_pos rfl]
      unfold minI
      rcases ih with ⟨i1, i2, -⟩ | ⟨i1, i2⟩
      · rw [if_pos ⟨rfl, .inl i1⟩, i2, if_pos (by omega)]
        exact .inr ⟨hb.1, rfl⟩
      · by_cases c : lev P B F k < wlK P B F R no k
        · rw [if_pos ⟨rfl, .inr c⟩, i2, if_pos c]
          exact .inr ⟨hb.1, rfl⟩
        · rw [if_neg (fun x => by rcases x.2 with h | h <;> omega), i2, if_neg c]
          exact .inr ⟨i1, rfl⟩
/-- Where a word ends somewhere both say the same. -/
theorem mK_is {P B F : List Int} {R : Rw} (h : okA P B F R) {no : Int} {k : Nat} (hk : k < P.length) (hh : hasB (rw_ R k) no = true) : mK P B F R no P.length = wlK P B F R no P.length := by
  rcases mK_wl h no P.length (Nat.le_refl _) with ⟨-, -, h3⟩ | ⟨-, h2⟩
  · have := h3 k hk
    rw [hh] at this
    cases this
  · exact h2
theorem mK_bd {P B F : List Int} {R : Rw} (h : okA P B F R) (no : Int) {k : Nat} (hk : k ≤ P.length) : 0 ≤ mK P B F R no k ∧ mK P B F R no k ≤ 100 := by
  have := h.1.2
  rcases mK_wl h no k hk with ⟨-, h2, -⟩ | ⟨h1, h2⟩
  · omega
  · have := (wlK_bd h no k hk).2
    omega
/-- .. behind the first m ends of a state. -/
def mI (P B F : List Int) (R : Rw) (k m : Nat) (no : Int) : Int := if hasM (rw_ R k) m no = true then minI (mK P B F R no k) (lev P B F k) else mK P B F R no k
theorem mI_zero (P B F : List Int) (R : Rw) (k : Nat) (no : Int) : mI P B F R k 0 no = mK P B F R no k := by unfold mI; rw [hasM_zero, if_neg (by decide)]
theorem mI_all (P B F : List Int) (R : Rw) (k : Nat) (no : Int) : mI P B F R k (rw_ R k).length no = mK P B F R no (k + 1) := by unfold mI; rw [hasM_all]; rfl
theorem mI_same {P B F : List Int} {R : Rw} {k m : Nat} {no : Int} (h : ¬ (rw_ R k).getD m 0 = no) : mI P B F R k (m + 1) no = mI P B F R k m no := by
  unfold mI
  rw [hasM_step, decide_eq_false h, Bool.or_false]
theorem mI_new {P B F : List Int} {R : Rw} {k m : Nat} {no : Int} (h : (rw_ R k).getD m 0 = no) : mI P B F R k (m + 1) no = minI (mI P B F R k m no) (lev P B F k) := by
  unfold mI
  rw [hasM_step, decide_eq_true h, Bool.or_true, if_pos rfl]
  cases hasM (rw_ R k) m no with
  | false => rw [if_neg (by decide)]
  | true =>
    rw [if_pos rfl]
    unfold minI
    split
    · rw [if_neg (by omega)]
    · rfl
/-- An array of eight numbers. -/
def Arr8 (w : World) (b : Nat) (A : List Int) : Prop := A.length = 8 ∧ w.heap[b]? = some (.cells (ints A).toArray 81)
theorem Arr8.cell {w : World} {b : Nat} {A : List Int} (h : Arr8 w b A) {j : Nat} (hj : j < 8) : w.cell? ⟨b, j, none⟩ = some (.int .i64 (A.getD j 0)) := by
  have h1 := cell_of h.2 j
  rw [h1]
  simp [ints, List.getD, show j < A.length by have := h.1; omega]
theorem Arr8.fz {w : World} {b : Nat} {A : List Int} (h : Arr8 w b A) (j : Nat) : w.frozen? ⟨b, j, none⟩ = false := frozen_of_row w _ _ _ _ h.2
theorem Arr8.keep {w w' : World} {b n : Nat} {A : List Int} (h : Arr8 w b A) (hb : Below n w w') (hn : b < n) : Arr8 w' b A := ⟨h.1, (hb.block b hn).trans h.2⟩
theorem Arr8.set {w : World} {b : Nat} {A : List Int} (h : Arr8 w b A) (j : Nat) (x : Int) : Arr8 (w.setCell ⟨b, j, none⟩ (.int .i64 x)) b (A.set j x) := by
  refine ⟨by rw [List.length_set]; exact h.1, ?_⟩
  rw [blk_same h.2 j (.int .i64 x)]
  simp [ints, List.map_set]
theorem getD_setI (L : List Int) (k i : Nat) (x : Int) (hk : k < L.length) : (L.set k x).getD i 0 = if k = i then x else L.getD i 0 := by
  unfold List.getD
  rw [List.getElem?_set]
  by_cases e : k = i
  · subst e; simp [hk]
  · simp [e]
theorem arr_eight {A : List Int} (h : A.length = 8) : ∃ a0 a1 a2 a3 a4 a5 a6 a7, A = [a0, a1, a2, a3, a4, a5, a6, a7] := by
  match A, h with
  | [a0, a1, a2, a3, a4, a5, a6, a7], _ => exact ⟨a0, a1, a2, a3, a4, a5, a6, a7, rfl⟩
theorem infoA8 : (Try.prog.info? 81).map (·.size) = some 8 := by kernel_rfl
theorem Arr8.ra {w : World} {b : Nat} {A : List Int} (h : Arr8 w b A) : w.rangeAt b 0 (ints A) := fun j v hv => by
  rw [Nat.zero_add, cell_of h.2 j]
  simpa using hv
theorem Arr8.th {w : World} {b : Nat} {A : List Int} (h : Arr8 w b A) : w.there b 0 8 := fun j hj => by
  rw [Nat.zero_add]
  exact ⟨by rw [h.cell hj]; rfl, h.fz j⟩
theorem Arr8.loadV {w : World} {b : Nat} {A : List Int} (h : Arr8 w b A) : (loadVar 81 ⟨b, 0, none⟩).run Try.prog w = .ok (.agg (ints A).toArray) w :=
  run_loadVar_mid w b 0 81 (ints A) _ h.ra Try.underlying81 rfl (by rw [infoA8]; simp [ints, h.1])
theorem Arr8.load {w : World} {b : Nat} {A : List Int} (h : Arr8 w b A) : (Instr.loadAt 81 (.pointer (some ⟨b, 0, none⟩))).run Try.prog w = .ok (.agg (ints A).toArray) w :=
  run_loadAt_mid w b 0 81 (ints A) _ h.ra Try.underlying81 rfl (by rw [infoA8]; simp [ints, h.1])
theorem grown_sets8 (b : Nat) : ∀ (vs : List Value) (o : Nat) (w : World), w.grownBy (w.setCells b o vs) (some b)
  | [], _, _ => ⟨rfl, rfl, rfl, Nat.le_refl _, fun _ _ _ => rfl⟩
  | v :: vs, o, w => grown_trans (grown_set w b o v) (grown_sets8 b vs (o + 1) (w.setCell ⟨b, o, none⟩ v))
theorem Arr8.store {w : World} {b : Nat} {A : List Int} (h : Arr8 w b A) (A' : List Int) (h' : A'.length = 8) :
    ∃ w', (Instr.storeAt 81 (.pointer (some ⟨b, 0, none⟩)) (.agg (ints A').toArray)).run Try.prog w = .ok () w' ∧ (loadVar 81 ⟨b, 0, none⟩).run Try.prog w' = .ok (.agg (ints A').toArray) w' ∧ w.grownBy w' (some b) := by
  have hn : (ints A').length = 8 := by simp [ints, h']
  have hone : ∀ v ∈ ints A', v.oneCell' = true := fun v hv => by
    obtain ⟨x, _, rfl⟩ := List.mem_map.1 hv
    rfl
  refine ⟨w.setCells b 0 (ints A'), ?_, ?_, grown_sets8 b _ _ _⟩
  · have := run_storeAt_mid (P := Try.prog) w b 0 81 (ints A').toArray (by simpa [hn] using h.th) (by rw [infoA8]; simp [hn]) (all_oneCell_toArray hone)
    simpa using this
  · exact run_loadVar_mid _ b 0 81 (ints A') _ (World.rangeAt_setCells_same w b 0 _ (by rw [hn]; exact h.th)) Try.underlying81 rfl (by rw [infoA8, hn])
theorem wpList_store_arr {ops : Array Oper} {rest : List Oper} {op : Oper} {a : Act} {w w' : World} {Q : Exit → Act → World → Prop} {v : Value} (hgd : op.guard = none) (x y : Operand) (ho : op.op = .store 81 x y)
    (b : Nat) (hx : a.eval x = .pointer (some ⟨b, 0, none⟩)) (hy : a.eval y = v) (hr : (Instr.storeAt 81 (.pointer (some ⟨b, 0, none⟩)) v).run Try.prog w = .ok () w')
    (h : wpList Try.prog ops Q rest (a.put op.dst undef) w') : wpList Try.prog ops Q (op :: rest) a w :=
  wpList_plain hgd fun _ hK => by
    unfold Oper.wp execOp
    simp only [ho, hx, hy, Sem.run_bind, Sem.run_pure, Result.andThen_ok, hr]
    exact hK _ _ h
end Go.Proofs.Ytdhppigjlldfmaa
namespace Go.Proofs.Ytdhppigjlldfmaa
open Go.ChangeShapes Go.WideShapes Go.ChangeAt Go.WideMaps Go.WideElems Go.RowKit
set_option maxRecDepth 100000 in
set_option maxHeartbeats 4000000 in
theorem iwl_any (P B F : List Int) (R : Rw) (hok : okA P B F R) (V : Nat → Value) (base tb : Nat) (w : World) (hT : TrieAt w base tb (rdQ P B F V P.length) (rdE P B P.length)) (hV : EndsV w V R P.length) :
    Calls Try.prog 48 #[.pointer (some ⟨tb, 0, none⟩)] w fun e w' => ∃ A, A.length = 8 ∧ e = .returned (.agg (ints A).toArray) ∧ (∀ j, j < 8 → A.getD j 0 = mK P B F R j P.length) ∧ Below w.heap.size w w' := by
  have hmin := fun a b => run_min a b
  have HOK : Hid _ := hok
  have hn : P.length ≤ 100 := hok.1.2
  have h0 : 0 < P.length := by have := hok.1.1; omega
  have hlq := rdQ_len P B F V P.length h0
  obtain ⟨g, cap, mb, -, -, hblt, -, hcl⟩ := hT.form (by omega)
  rw [hlq] at hblt hcl
  have HSQ : Hid (SameQ (rdQ P B F nV P.length) (rdQ P B F V P.length)) := rdQ_same P B F nV V P.length h0
  have HST : Hid (∀ j, j < P.length → (w.cell? ⟨g, j * 5, none⟩ = some (.int .i64 (sq (rdQ P B F V P.length) j).f) ∧ w.cell? ⟨g, j * 5 + 1, none⟩ = some (.int .i64 (sq (rdQ P B F V P.length) j).b) ∧ w.cell? ⟨g, j * 5 + 2, none⟩ = some (.int .i64 (lev P B F j)) ∧ w.cell? ⟨g, j * 5 + 3, none⟩ = some (.int .i64 (sq (rdQ P B F V P.length) j).q)) ∧ ∃ x xc, w.cell? ⟨g, j * 5 + 4, none⟩ = some (.slice x (rw_ R j).length xc) ∧ IntsAt w x (rw_ R j)) := fun j hj => by
    obtain ⟨c1, c2, c3, c4, c5⟩ := hcl j hj
    have hl : (sq (rdQ P B F V P.length) j).l = lev P B F j := (HSQ.out.2 j).2.2.1
    rw [hl] at c3
    obtain ⟨x, xc, hx, ix⟩ := hV j hj
    have he : (sq (rdQ P B F V P.length) j).e = V j := by
      rcases Nat.eq_zero_or_pos j with e | e
      · subst e; rw [rdQ_0 _ _ _ _ _ h0]
      · rw [rdQ_at P B F V j e _ hj]
    rw [he, hx] at c5
    exact ⟨⟨c1, c2, c3, c4⟩, x, xc, c5, ix⟩
  have HBT : Hid _ := hblt
  have hltb : tb < w.heap.size := (Array.getElem?_eq_some_iff.1 hblt).1
  have hlg : g < w.heap.size := World.block_lt_of_cell? w ⟨g, 0 * 5, none⟩ (HST.out 0 h0).1.1
  have Z0 : Below w.heap.size w ((w.alloc (.cells #[.int .i64 0, .int .i64 0, .int .i64 0, .int .i64 0, .int .i64 0, .int .i64 0, .int .i64 0, .int .i64 0] 81)).alloc (.cells #[.int .i64 0, .int .i64 0, .int .i64 0, .int .i64 0, .int .i64 0, .int .i64 0, .int .i64 0, .int .i64 0] 81)) := (al_W w _).alloc (al_W w _).size _
  have Z1 : Hid (Arr8 ((w.alloc (.cells #[.int .i64 0, .int .i64 0, .int .i64 0, .int .i64 0, .int .i64 0, .int .i64 0, .int .i64 0, .int .i64 0] 81)).alloc (.cells #[.int .i64 0, .int .i64 0, .int .i64 0, .int .i64 0, .int .i64 0, .int .i64 0, .int .i64 0, .int .i64 0] 81)) (w.heap.size + 1) [0, 0, 0, 0, 0, 0, 0, 0]) := ⟨rfl, heap_last2 _ _ _ (by simp)⟩
  have Z2 : Hid (Arr8 ((w.alloc (.cells #[.int .i64 0, .int .i64 0, .int .i64 0, .int .i64 0, .int .i64 0, .int .i64 0, .int .i64 0, .int .i64 0] 81)).alloc (.cells #[.int .i64 0, .int .i64 0, .int .i64 0, .int .i64 0, .int .i64 0, .int .i64 0, .int .i64 0, .int .i64 0] 81)) w.heap.size [0, 0, 0, 0, 0, 0, 0, 0]) := ⟨rfl, (heap_prev _ _ _ (by simp)).trans (heap_last2 _ _ _ rfl)⟩
  have HZ0 : Hid _ := Z0
  clear hblt hcl hT hV hok hlq Z0
  go_enter Try.func48, Try.ntmps48
  go_wp2
  go_loopw [9] (fun i wr => ∃ (k : Nat) (A : List Int), k ≤ 8 ∧ i = .int .i64 k ∧ (∀ j, j < k → A.getD j 0 = (P.length : Int)) ∧ Arr8 wr (w.heap.size + 1) A ∧ Arr8 wr w.heap.size [0, 0, 0, 0, 0, 0, 0, 0] ∧ Below w.heap.size w wr) (fun i _ => 8 - (intOf i).toNat)
  case atStart => exact ⟨0, [0, 0, 0, 0, 0, 0, 0, 0], by omega, rfl, fun j hj => absurd hj (by omega), Z1.out, Z2.out, HZ0.out⟩
  case round =>
    obtain ⟨k, A, hk, rfl, hA, hZ, hR, hbw⟩ := hrel
    have BW : Hid (Below w.heap.size w wr) := hbw
    have HAA : Hid _ := hA
    have HZ : Hid (Arr8 wr (w.heap.size + 1) A) := hZ
    have HR : Hid (Arr8 wr w.heap.size [0, 0, 0, 0, 0, 0, 0, 0]) := hR
    have hbt := (hbw.block tb hltb).trans HBT.out
    have t0 := cell_of hbt 0
    simp only [List.getElem?_toArray, List.getElem?_cons_zero] at t0
    have HBT2 : Hid _ := hbt
    clear hA hZ hR hbw hbt
    by_cases hlt : k < 8
    · have hltI : (k : Int) < 8 := by omega
      have c1 := HZ.out.cell hlt
      have f1 := HZ.out.fz k
      have HSE : Hid _ := HZ.out.set k (P.length : Int)
      have h1 := (blk_oth wr (w.heap.size + 1) k w.heap.size (.int .i64 (P.length : Int)) (by omega)).trans HR.out.2
      have HR2 : Hid (Arr8 (wr.setCell ⟨w.heap.size + 1, k, none⟩ (.int .i64 (P.length : Int))) w.heap.size [0, 0, 0, 0, 0, 0, 0, 0]) := ⟨rfl, h1⟩
      have BW2 : Hid (Below w.heap.size w (wr.setCell ⟨w.heap.size + 1, k, none⟩ (.int .i64 (P.length : Int)))) := Below.grown BW.out (grown_set wr _ _ _) BW.out.size (fun g e => by have := Option.some.inj e; omega)
      have HN : Hid (∀ j, j < k + 1 → (A.set k (P.length : Int)).getD j 0 = (P.length : Int)) := fun j hj => by
        rw [getD_setI _ _ _ _ (by have := HZ.out.1; omega)]
        by_cases e : k = j
        · rw [if_pos e]
        · rw [if_neg e]; exact HAA.out j (by omega)
      clear h1
      generalize A.getD k 0 = y at c1
      go_wp2
      go_roundw
      case rel => exact ⟨k + 1, _, by omega, by go_num, HN.out, HSE.out, HR2.out, BW2.out⟩
      case measure => simp [intOf]; omega
    · obtain rfl : k = 8 := by omega
      have HINI : Hid (∀ j, j < 8 → A.getD j 0 = mK P B F R j 0) := HAA.out
      go_wp2
      go_loopw [25] (fun i wq => ∃ (k : Nat) (A : List Int), k ≤ P.length ∧ i = .int .i64 k ∧ (∀ j : Nat, j < 8 → A.getD j 0 = mK P B F R j k) ∧ Arr8 wq (w.heap.size + 1) A ∧ Arr8 wq w.heap.size [0, 0, 0, 0, 0, 0, 0, 0] ∧ Below w.heap.size w wq) (fun i _ => P.length - (intOf i).toNat)
      case atStart => exact ⟨0, A, Nat.zero_le _, rfl, HINI.out, HZ.out, HR.out, BW.out⟩
      case round =>
        obtain ⟨k, A, hk, rfl, hA, hZ, hR, hbw⟩ := hrel
        obtain ⟨w2, hw2⟩ : ∃ w2, w2 = wr := ⟨_, rfl⟩
        subst hw2
        have BW : Hid (Below w.heap.size w w2) := hbw
        have HAA : Hid _ := hA
        have HZ : Hid (Arr8 w2 (w.heap.size + 1) A) := hZ
        have HR : Hid (Arr8 w2 w.heap.size [0, 0, 0, 0, 0, 0, 0, 0]) := hR
        clear hA hZ hR hbw HINI
        by_cases hlt : k < P.length
        · have hltI : (k : Int) < (P.length : Int) := by omega
          obtain ⟨⟨s0, s1, s2, s3⟩, x, xc, s4, ix⟩ := HST.out k hlt
          have e0 := (BW.out.cell (p := ⟨g, k * 5, none⟩) hlg).trans s0
          have e1 := (BW.out.cell (p := ⟨g, k * 5 + 1, none⟩) hlg).trans s1
          have e2 := (BW.out.cell (p := ⟨g, k * 5 + 2, none⟩) hlg).trans s2
          have e3 := (BW.out.cell (p := ⟨g, k * 5 + 3, none⟩) hlg).trans s3
          have e4 := (BW.out.cell (p := ⟨g, k * 5 + 4, none⟩) hlg).trans s4
          have HIX : Hid (IntsAt w x (rw_ R k)) := ix
          have hlev := lev_bd HOK.out hlt
          have h8 := okA_len8 HOK.out k
          have HRI : Hid (risB 0 7 (rw_ R k) = true) := (HOK.out.2.2.2 k hlt).1
          generalize (sq (rdQ P B F V P.length) k).f = q0 at e0
          generalize (sq (rdQ P B F V P.length) k).b = q1 at e1
          generalize (sq (rdQ P B F V P.length) k).q = q3 at e3
          have HSTEP : Hid (∀ m (no : Int), (rw_ R k).getD m 0 = no → mI P B F R k (m + 1) no = minI (mI P B F R k m no) (lev P B F k)) := fun m no h => mI_new h
          have HAL : Hid (∀ j : Nat, mI P B F R k (rw_ R k).length j = mK P B F R j (k + 1)) := fun j => mI_all P B F R k j
          generalize lev P B F k = lv at e2 hlev HSTEP
          have Y0 : Hid (∀ o, Arr8 (w2.alloc o) (w.heap.size + 1) A) := fun o => HZ.out.keep (al_W w2 o) (Array.getElem?_eq_some_iff.1 HZ.out.2).1
          have Y1 : Hid (∀ o, Arr8 (w2.alloc o) w.heap.size [0, 0, 0, 0, 0, 0, 0, 0]) := fun o => HR.out.keep (al_W w2 o) (Array.getElem?_eq_some_iff.1 HR.out.2).1
          have Y2 : Hid (∀ o, Below w.heap.size w (w2.alloc o)) := fun o => BW.out.trans ((al_W w2 o).mono BW.out.size)
          have hsz2 : w.heap.size + 1 < w2.heap.size := (Array.getElem?_eq_some_iff.1 HZ.out.2).1
          clear s0 s1 s2 s3 s4 ix
          go_wp2
          go_loopw [32] (fun i wq => ∃ (m : Nat) (A : List Int), m ≤ (rw_ R k).length ∧ i = .int .i64 m ∧ (∀ j : Nat, j < 8 → A.getD j 0 = mI P B F R k m j) ∧ Arr8 wq (w.heap.size + 1) A ∧ Arr8 wq w.heap.size [0, 0, 0, 0, 0, 0, 0, 0] ∧ wq.heap[w2.heap.size]? = some (.cells #[.int .i64 q0, .int .i64 q1, .int .i64 lv, .int .i64 q3, .slice x (rw_ R k).length xc] 75) ∧ Below w.heap.size w wq) (fun i _ => (rw_ R k).length - (intOf i).toNat)
          case atStart => exact ⟨0, A, Nat.zero_le _, rfl, fun j hj => by rw [mI_zero]; exact HAA.out j hj, Y0.out _, Y1.out _, heap_last2 _ _ _ rfl, Y2.out _⟩
          case round =>
            obtain ⟨m, A', hm, rfl, hA, hZ, hR, hbs, hbw⟩ := hrel
            obtain ⟨w5, hw5⟩ : ∃ w5, w5 = wr := ⟨_, rfl⟩
            subst hw5
            have BW5 : Hid (Below w.heap.size w w5) := hbw
            have HA5 : Hid _ := hA
            have HZ5 : Hid (Arr8 w5 (w.heap.size + 1) A') := hZ
            have HR5 : Hid (Arr8 w5 w.heap.size [0, 0, 0, 0, 0, 0, 0, 0]) := hR
            have HBS : Hid _ := hbs
            clear hA hZ hR hbw hbs
            by_cases hlm : m < (rw_ R k).length
            · have hlmI : (m : Int) < ((rw_ R k).length : Int) := by omega
              obtain ⟨yb, yo, rfl, l3, c3⟩ := HIX.out m hlm
              have g3 := (BW5.out.cell (p := ⟨yb, yo + m, none⟩) l3).trans c3
              have hr8 := ris8_at HRI.out hlm
              obtain ⟨d, hd⟩ : ∃ d : Nat, (rw_ R k).getD m 0 = (d : Int) := ⟨((rw_ R k).getD m 0).toNat, by omega⟩
              have HD : Hid _ := hd
              have hd8 : d < 8 := by omega
              have hd8I : (d : Int) < 8 := by omega
              rw [hd] at g3
              have g4 := HZ5.out.cell hd8
              have f4 := HZ5.out.fz d
              have g5 := cell_of HBS.out 2
              simp only [List.getElem?_toArray, List.getElem?_cons_zero, List.getElem?_cons_succ] at g5
              obtain ⟨y, hy⟩ : ∃ y, y = A'.getD d 0 := ⟨_, rfl⟩
              rw [← hy] at g4
              have HY : Hid _ := hy
              clear hy
              have HSE : Hid (Arr8 (w5.setCell ⟨w.heap.size + 1, d, none⟩ (.int .i64 (if lv < y then lv else y))) (w.heap.size + 1) (A'.set d (if lv < y then lv else y))) := HZ5.out.set d _
              have h1 := (blk_oth w5 (w.heap.size + 1) d w.heap.size (.int .i64 (if lv < y then lv else y)) (by omega)).trans HR5.out.2
              have HR6 : Hid (Arr8 (w5.setCell ⟨w.heap.size + 1, d, none⟩ (.int .i64 (if lv < y then lv else y))) w.heap.size [0, 0, 0, 0, 0, 0, 0, 0]) := ⟨rfl, h1⟩
              have HB6 : Hid ((w5.setCell ⟨w.heap.size + 1, d, none⟩ (.int .i64 (if lv < y then lv else y))).heap[w2.heap.size]? = some (.cells #[.int .i64 q0, .int .i64 q1, .int .i64 lv, .int .i64 q3, .slice (some ⟨yb, yo, none⟩) (rw_ R k).length xc] 75)) := (blk_oth w5 (w.heap.size + 1) d w2.heap.size _ (by omega)).trans HBS.out
              have BW6 : Hid (Below w.heap.size w (w5.setCell ⟨w.heap.size + 1, d, none⟩ (.int .i64 (if lv < y then lv else y)))) := Below.grown BW5.out (grown_set w5 _ _ _) BW5.out.size (fun g e => by have := Option.some.inj e; omega)
              have HN : Hid (∀ j : Nat, j < 8 → (A'.set d (if lv < y then lv else y)).getD j 0 = mI P B F R k (m + 1) j) := fun j hj => by
                rw [getD_setI _ _ _ _ (by have := HZ5.out.1; omega)]
                by_cases e : d = j
                · subst e
                  rw [if_pos rfl, HSTEP.out m d HD.out, ← HA5.out d hd8, ← HY.out]
                  rfl
                · rw [if_neg e, mI_same (by rw [HD.out]; omega)]
                  exact HA5.out j hj
              clear h1 hd hr8 c3
              go_wp2
              go_region
              all_goals go_wp2
              all_goals go_roundw
              case rel => exact ⟨m + 1, _, by omega, by go_num, HN.out, ⟨HSE.out.1, HSE.out.2⟩, ⟨HR6.out.1, HR6.out.2⟩, HB6.out, BW6.out.drew⟩
              case measure => simp [intOf]; omega
            · obtain rfl : m = (rw_ R k).length := by omega
              have hlmI : ¬ ((rw_ R k).length : Int) < ((rw_ R k).length : Int) := by omega
              have HN : Hid (∀ j : Nat, j < 8 → A'.getD j 0 = mK P B F R j (k + 1)) := fun j hj => by rw [HA5.out j hj]; exact HAL.out j
              go_wp2
              go_roundw
              case rel => exact ⟨k + 1, A', by omega, by go_num, HN.out, HZ5.out, HR5.out, BW5.out⟩
              case measure => simp [intOf]; omega
        · obtain rfl : k = P.length := by omega
          have hltI : ¬ (P.length : Int) < (P.length : Int) := by omega
          obtain ⟨w', hst, hlv, hg⟩ := HR.out.store A HZ.out.1
          have HST8 : Hid _ := hst
          have HRV : Hid _ := hlv
          have HG : Hid _ := hg
          clear hst hlv hg
          go_wp2_with (first | (refine wpList_load_mid rfl 81 (.tmp 3) rfl (w.heap.size + 1) 0 rfl (ints A) _ HZ.out.ra Try.underlying81 rfl (by rw [infoA8]; simp [ints, HZ.out.1]) ?_) | (refine wpList_store_arr rfl (.tmp 2) (.tmp 46) rfl w.heap.size rfl rfl HST8.out ?_))
          exact bodyPost_ret (v := .agg (ints A).toArray) (by simp [results, Try.results48, asAddr, HRV.out]) rfl ⟨A, HZ.out.1, rfl, HAA.out, Below.grown BW.out HG.out BW.out.size (fun g e => by have := Option.some.inj e; omega)⟩
end Go.Proofs.Ytdhppigjlldfmaa
namespace Go.Proofs.Ytdhppigjlldfmaa
open Go.ChangeShapes Go.WideShapes Go.ChangeAt Go.WideMaps Go.WideElems Go.RowKit
theorem hasB_at {L : List Int} {j : Nat} (hj : j < L.length) : hasB L (L.getD j 0) = true := decide_eq_true ⟨j, hj, rfl⟩
set_option maxRecDepth 100000 in
set_option maxHeartbeats 4000000 in
theorem irunA_any (P B F : List Int) (R : Rw) (L : List Int) (a b c e ao : Option Addr) (ca cb cc ce cap : Nat) (w : World) (hl : szA P B F R ≤ 1048576) (hlL : L.length ≤ 1048576) (hA : IntsAt w a P) (hB : IntsAt w b B) (hC : IntsAt w c F) (hE : RowsAt w e R) (hL : IntsAt w ao L) :
    Calls Try.prog 12 #[.agg #[.slice a P.length ca, .slice b B.length cb, .slice c F.length cc, .slice e R.length ce], .slice ao L.length cap] w fun x w' => ∃ v, x = .returned (.tuple #[v, .bool (rhB P B F R L)]) ∧ OwnH w' w.heap.size v (rhA P B F R L) ∧ Below w.heap.size w w' := by
  have HS : Hid (∀ o, Calls Try.prog 46 #[.agg #[.slice a P.length ca, .slice b B.length cb, .slice c F.length cc, .slice e R.length ce]] (w.alloc o) fun r w' => ((goodA P B F R = false ∧ r = .returned (.tuple #[.pointer none, .bool false])) ∨ (goodA P B F R = true ∧ ∃ tb V, r = .returned (.tuple #[.pointer (some ⟨tb, 0, none⟩), .bool true]) ∧ TrieAt w' ((w.alloc o).heap.size + 1) tb (rdQ P B F V P.length) (rdE P B P.length) ∧ EndsV w' V R P.length)) ∧ Below (w.alloc o).heap.size (w.alloc o) w') := fun o => readA_any P B F R a b c e ca cb cc ce (w.alloc o) hl (IntsAt.keepB hA (al_W w o)) (IntsAt.keepB hB (al_W w o)) (IntsAt.keepB hC (al_W w o)) (RowsAt.keepB hE (al_W w o))
  have HL : Hid _ := hL
  clear hA hB hC hE hl hL
  go_enter Try.func12, Try.ntmps12
  go_wp2_with fail
  refine Calls.mono (HS.out _) ?_
  rintro x w1 ⟨hx, b1⟩
  have B1 : Hid (Below w.heap.size w w1) := (al_W w _).trans (b1.mono (al_W w _).size)
  clear b1
  rcases hx with ⟨hg, rfl⟩ | ⟨hg, tb, V, rfl, ht, hv⟩
  · have HK : Hid (rhB P B F R L = false ∧ rhA P B F R L = []) := rh_no (by unfold rhB; rw [hg]; rfl)
    clear hg
    go_wp2
    go_ret2
    exact ⟨_, by rw [HK.out.1] <;> rfl, by rw [HK.out.2]; exact World.ownsRow_nil _ _ _ _, B1.out⟩
  · have hok := goodA_true hg
    have HOK : Hid _ := hok
    have h0 : 0 < P.length := by have := hok.1.1; omega
    have hn : P.length ≤ 100 := hok.1.2
    have H8 : Hid (Calls Try.prog 47 #[.slice ao L.length cap] w1 fun e w' => e = .returned (.bool (okL L)) ∧ w' = w1) := istream_any L ao cap w1 hlL (IntsAt.keepB HL.out B1.out)
    cases hr : okL L with
    | false =>
      have HK : Hid (rhB P B F R L = false ∧ rhA P B F R L = []) := rh_no (by unfold rhB; rw [hr]; simp)
      rw [hr] at H8
      clear hg hok hr ht hv
      go_wp2_with fail
      refine Calls.mono H8.out ?_
      rintro x w2 ⟨rfl, rfl⟩
      go_wp2
      go_ret2
      exact ⟨_, by rw [HK.out.1] <;> rfl, by rw [HK.out.2]; exact World.ownsRow_nil _ _ _ _, B1.out⟩
    | true =>
      have HK : Hid (rhB P B F R L = true ∧ rhA P B F R L = hitR (fun no => wlK P B F R no P.length) (rw_ R) (rdQ P B F nV P.length) (rdE P B P.length) L L.length) := rh_yes (by unfold rhB; rw [hg, hr]; rfl)
      have h120 : L.length ≤ 120 := (okL_true hr).2
      have HALLG : Hid (allG L = true) := (okL_true hr).1
      rw [hr] at H8
      have HST : Hid (∀ k, stN (rdQ P B F nV P.length) (rdE P B P.length) L k < P.length) := rd_st P B F nV L h0
      have HHL : Hid (∀ k, (hitR (fun no => wlK P B F R no P.length) (rw_ R) (rdQ P B F nV P.length) (rdE P B P.length) L k).length ≤ 8 * k) := hitR_len _ _ _ _ _ (okA_len8 hok)
      have H8L : Hid (∀ s, (rw_ R s).length ≤ 8) := okA_len8 hok
      have HT : Hid _ := ht
      have HV : Hid (EndsV w1 V R P.length) := hv
      have HSQ : Hid (SameQ (rdQ P B F nV P.length) (rdQ P B F V P.length)) := rdQ_same P B F nV V P.length h0
      have HWLN : Hid (Calls Try.prog 48 #[.pointer (some ⟨tb, 0, none⟩)] w1 fun e w' => ∃ a0 a1 a2 a3 a4 a5 a6 a7, e = .returned (.agg #[.int .i64 a0, .int .i64 a1, .int .i64 a2, .int .i64 a3, .int .i64 a4, .int .i64 a5, .int .i64 a6, .int .i64 a7]) ∧ (∀ j : Nat, j < 8 → [a0, a1, a2, a3, a4, a5, a6, a7].getD j 0 = mK P B F R j P.length) ∧ Below w1.heap.size w1 w') := by
        refine Calls.mono (iwl_any P B F R hok V _ tb w1 ht hv) ?_
        rintro r w2 ⟨A, hA, rfl, hm, b2⟩
        obtain ⟨a0, a1, a2, a3, a4, a5, a6, a7, rfl⟩ := arr_eight hA
        exact ⟨a0, a1, a2, a3, a4, a5, a6, a7, rfl, hm, b2⟩
      obtain ⟨n, hnL⟩ : ∃ n, n = L.length := ⟨_, rfl⟩
      have HN : Hid (n = L.length) := hnL
      rw [← hnL] at h120 HK H8 ⊢
      clear hg hok hr ht hv hnL hlL
      go_wp2_with fail
      refine Calls.mono H8.out ?_
      rintro x w' ⟨rfl, rfl⟩
      go_wp2_with fail
      refine Calls.mono HWLN.out ?_
      rintro x w2 ⟨a0, a1, a2, a3, a4, a5, a6, a7, rfl, hm, b2⟩
      have HMK : Hid _ := hm
      have B2 : Hid (Below w'.heap.size w' w2) := b2
      have BB : Hid (Below w.heap.size w w2) := B1.out.trans (b2.mono B1.out.size)
      have Z1 : Hid (Arr8 (w2.alloc (.cells #[.int .i64 a0, .int .i64 a1, .int .i64 a2, .int .i64 a3, .int .i64 a4, .int .i64 a5, .int .i64 a6, .int .i64 a7] 81)) w2.heap.size [a0, a1, a2, a3, a4, a5, a6, a7]) := ⟨rfl, heap_last2 _ _ _ rfl⟩
      have Z2 : Hid (Below w2.heap.size w2 (w2.alloc (.cells #[.int .i64 a0, .int .i64 a1, .int .i64 a2, .int .i64 a3, .int .i64 a4, .int .i64 a5, .int .i64 a6, .int .i64 a7] 81))) := al_W w2 _
      have T2 : Hid _ := TrieAt.keepB HT.out b2
      have V2 : Hid (EndsV w2 V R P.length) := fun j hj => by
        obtain ⟨x, xc, h1, h2⟩ := HV.out j hj
        exact ⟨x, xc, h1, IntsAt.keepB h2 b2⟩
      have L2 : Hid (IntsAt w2 ao L) := IntsAt.keepB HL.out BB.out
      clear hm b2
      go_wp2
      go_loopw [31, 9, 10] (fun i v s wr => ∃ k : Nat, k ≤ n ∧ i = .int .i64 k ∧ s = .int .i64 (stN (rdQ P B F nV P.length) (rdE P B P.length) L k : Nat) ∧ OwnH wr (w2.heap.size + 1) v (hitR (fun no => wlK P B F R no P.length) (rw_ R) (rdQ P B F nV P.length) (rdE P B P.length) L k) ∧ Arr8 wr w2.heap.size [a0, a1, a2, a3, a4, a5, a6, a7] ∧ Below w2.heap.size w2 wr) (fun i _ _ _ => n - (intOf i).toNat)
      case atStart => exact ⟨0, Nat.zero_le _, rfl, rfl, World.ownsRow_nil _ _ _ _, Z1.out, Z2.out⟩
      case round =>
        obtain ⟨k, hk, rfl, rfl, hO, hbl, hbw⟩ := hrel
        obtain ⟨w3, hw3⟩ : ∃ w3, w3 = wr := ⟨_, rfl⟩
        subst hw3
        have BW : Hid (Below w2.heap.size w2 w3) := hbw
        have HBL : Hid _ := hbl
        have HO : Hid (OwnH w3 (w2.heap.size + 1) u9 (hitR (fun no => wlK P B F R no P.length) (rw_ R) (rdQ P B F nV P.length) (rdE P B P.length) L k)) := hO
        clear hO hbl hbw
        by_cases hlt : k < n
        · have hltI : (k : Int) < (n : Int) := by omega
          have hkL : k < L.length := by have := HN.out; omega
          obtain ⟨b1, o1, rfl, l1, g1⟩ := L2.out k hkL
          have g1' : w3.cell? ⟨b1, o1 + k, none⟩ = some (.int .i64 (L.getD k 0)) := (BW.out.cell (p := ⟨b1, o1 + k, none⟩) l1).trans g1
          have HGW : wf64 (L.getD k 0) := goodB_wf (allG_at HALLG.out hkL)
          have hs1 := HST.out k
          have hs2 := HST.out (k + 1)
          have hlq := rdQ_len P B F V P.length h0
          have HSTEP : Hid (Calls Try.prog 49 #[.pointer (some ⟨tb, 0, none⟩), .int .i64 (stN (rdQ P B F nV P.length) (rdE P B P.length) L k : Nat), .int .i64 (L.getD k 0)] w3 fun x w' => x = .returned (.int .i64 (stN (rdQ P B F nV P.length) (rdE P B P.length) L (k + 1) : Nat)) ∧ w' = w3) := by
            have := step_any _ tb (stN (rdQ P B F nV P.length) (rdE P B P.length) L k) (L.getD k 0) _ _ w3 (TrieAt.keepB T2.out BW.out) (okA_fail HOK.out V) (by omega) (by omega) HGW
            rw [stepN_same HSQ.out] at this
            exact this
          have HLK := HHL.out k
          have HNX : Hid (hitR (fun no => wlK P B F R no P.length) (rw_ R) (rdQ P B F nV P.length) (rdE P B P.length) L (k + 1) = hitR (fun no => wlK P B F R no P.length) (rw_ R) (rdQ P B F nV P.length) (rdE P B P.length) L k ++ hitE (fun no => wlK P B F R no P.length) k (rw_ R (stN (rdQ P B F nV P.length) (rdE P B P.length) L (k + 1)))) := rfl
          generalize hH : hitR (fun no => wlK P B F R no P.length) (rw_ R) (rdQ P B F nV P.length) (rdE P B P.length) L k = H at HO HLK HNX
          generalize hx : L.getD k 0 = x at g1' HSTEP
          generalize hst : stN (rdQ P B F nV P.length) (rdE P B P.length) L k = st at HSTEP hs1
          generalize hst2 : stN (rdQ P B F nV P.length) (rdE P B P.length) L (k + 1) = st2 at HSTEP hs2 HNX
          have HST2 : Hid _ := hst2
          have hs2I : (st2 : Int) < (P.length : Int) := by omega
          obtain ⟨g, cpq, mb, -, -, hblt, -, hcl⟩ := (TrieAt.keepB T2.out BW.out).form (by rw [hlq]; exact h0)
          have t0 := cell_of hblt 0
          simp only [List.getElem?_toArray, List.getElem?_cons_zero] at t0
          have c5 := (hcl st2 (by rw [hlq]; exact hs2)).2.2.2.2
          rw [hlq] at t0
          obtain ⟨y, yc, hy, iX⟩ := V2.out st2 hs2
          have hev : (sq (rdQ P B F V P.length) st2).e = V st2 := by
            rcases Nat.eq_zero_or_pos st2 with e | e
            · subst e; rw [rdQ_0 _ _ _ _ _ h0]
            · rw [rdQ_at P B F V st2 e _ hs2]
          rw [hev, hy] at c5
          have HIX : Hid (IntsAt w2 y (rw_ R st2)) := iX
          have h8 := H8L.out st2
          have HRS : Hid (risB 0 7 (rw_ R st2) = true) := (HOK.out.2.2.2 st2 hs2).1
          have HS2 : Hid (st2 < P.length) := hs2
          have HLK2 : Hid (H.length ≤ 960) := (by omega : H.length ≤ 960)
          clear hH hx hst hst2 hs1 g1 l1 HLK hblt hcl hlq hy hev iX HGW
          go_wp2_with fail
          refine Calls.mono HSTEP.out ?_
          rintro x w4 ⟨rfl, rfl⟩
          go_wp2
          go_loopw [49, 9] (fun j v wq => ∃ m : Nat, m ≤ (rw_ R st2).length ∧ j = .int .i64 m ∧ OwnH wq (w2.heap.size + 1) v (H ++ hitE (fun no => wlK P B F R no P.length) k ((rw_ R st2).take m)) ∧ Arr8 wq w2.heap.size [a0, a1, a2, a3, a4, a5, a6, a7] ∧ Below w2.heap.size w2 wq) (fun j _ _ => (rw_ R st2).length - (intOf j).toNat)
          case atStart => exact ⟨0, Nat.zero_le _, rfl, by rw [List.take_zero]; simpa [hitE] using HO.out, HBL.out, BW.out⟩
          case round =>
            obtain ⟨m, hm, rfl, hO5, hbl5, hbw5⟩ := hrel
            obtain ⟨w5, hw5⟩ : ∃ w5, w5 = wr := ⟨_, rfl⟩
            subst hw5
            have BW5 : Hid (Below w2.heap.size w2 w5) := hbw5
            have HBL5 : Hid (Arr8 w5 w2.heap.size [a0, a1, a2, a3, a4, a5, a6, a7]) := hbl5
            have HO5 : Hid (OwnH w5 (w2.heap.size + 1) u9 (H ++ hitE (fun no => wlK P B F R no P.length) k ((rw_ R st2).take m))) := hO5
            clear hO5 hbl5 hbw5
            by_cases hlm : m < (rw_ R st2).length
            · have hlmI : (m : Int) < ((rw_ R st2).length : Int) := by omega
              obtain ⟨yb, yo, rfl, l3, c3⟩ := HIX.out m hlm
              have g3 : w5.cell? ⟨yb, yo + m, none⟩ = some (.int .i64 ((rw_ R st2).getD m 0)) := (BW5.out.cell (p := ⟨yb, yo + m, none⟩) l3).trans c3
              have HES : Hid (hitE (fun no => wlK P B F R no P.length) k ((rw_ R st2).take (m + 1)) = hitE (fun no => wlK P B F R no P.length) k ((rw_ R st2).take m) ++ [⟨(rw_ R st2).getD m 0, (k : Int) + 1 - wlK P B F R ((rw_ R st2).getD m 0) P.length, (k : Int) + 1⟩]) := hitE_step _ k _ m hlm
              have hEL : Hid ((H ++ hitE (fun no => wlK P B F R no P.length) k ((rw_ R st2).take m)).length ≤ 1000000) := (by
                have := HLK2.out
                have := List.length_take_le m (rw_ R st2)
                rw [List.length_append]
                simp only [hitE, List.length_map]
                omega : (H ++ hitE (fun no => wlK P B F R no P.length) k ((rw_ R st2).take m)).length ≤ 1000000)
              have hmw := mK_is HOK.out HS2.out (hasB_at hlm)
              have hr8 := ris8_at HRS.out hlm
              have hwb := wlK_bd HOK.out ((rw_ R st2).getD m 0) P.length (Nat.le_refl _)
              generalize (rw_ R st2).getD m 0 = no at g3 HES hmw hr8 hwb
              obtain ⟨d, rfl⟩ : ∃ d : Nat, no = (d : Int) := ⟨no.toNat, by omega⟩
              have hd8 : d < 8 := by omega
              have hd8I : (d : Int) < 8 := by omega
              have g4 := HBL5.out.cell hd8
              rw [HMK.out d hd8, hmw] at g4
              generalize hH2 : H ++ hitE (fun no => wlK P B F R no P.length) k ((rw_ R st2).take m) = H2 at HO5 hEL
              have HH2 : Hid _ := hH2
              generalize wlK P B F R d P.length = wl at g4 hwb HES
              have hw1 : IntKind.i64.wrap ((k : Int) + 1) = (k : Int) + 1 := IntWalk.i64_in _ (by omega)
              have hw2 : IntKind.i64.wrap ((k : Int) + 1 - wl) = (k : Int) + 1 - wl := IntWalk.i64_in _ (by omega)
              have EO : Hid (∀ o, OwnH (w5.alloc o) (w2.heap.size + 1) u9 H2) := fun o => OwnH.keepB HO5.out (al_W w5 o)
              have hs5 : w2.heap.size < w5.heap.size := (Array.getElem?_eq_some_iff.1 HBL5.out.2).1
              have PUSH : Hid (∀ o w7, (w5.alloc o).grownBy w7 (Value.ownBlock u9) → Arr8 w7 w2.heap.size [a0, a1, a2, a3, a4, a5, a6, a7] ∧ Below w2.heap.size w2 w7) := fun o w7 hg =>
                ⟨⟨rfl, (hg.block w2.heap.size (by simp; omega) (fun e => by have := (World.ownsRow.lt HO5.out _ e.symm).1; omega)).trans (((al_W w5 o).block w2.heap.size hs5).trans HBL5.out.2)⟩, Below.grown (BW5.out.trans ((al_W w5 o).mono BW5.out.size)) hg (by simp; omega) (fun g hg' => by have := (World.ownsRow.lt HO5.out g hg').1; omega)⟩
              have HZ : Hid (∀ o, w2.heap.size + 1 ≤ (w5.alloc o).heap.size) := fun o => by show w2.heap.size + 1 ≤ _; simp; omega
              clear hH2 c3 hmw hr8
              go_wp2_with (at_builtin; refine wpH _ rfl (.tmp 53) (.tmp 64) rfl (w2.heap.size + 1) u9 H2 rfl (EO.out _) w5.heap.size 1 d ((k : Int) + 1 - wl) ((k : Int) + 1) rfl (heap_last2 _ _ _ rfl) hEL.out (HZ.out _) ?_)
              intro v' w7 hr hg
              have RS : Hid _ := PUSH.out _ w7 hg
              have RO : Hid _ := hr
              clear hr hg
              go_wp2
              go_roundw
              case rel => exact ⟨m + 1, by omega, by go_num, by rw [HES.out, ← List.append_assoc, HH2.out]; exact RO.out, RS.out.1, RS.out.2⟩
              case measure => simp [intOf]; omega
            · obtain rfl : m = (rw_ R st2).length := by omega
              have hlmI : ¬ ((rw_ R st2).length : Int) < ((rw_ R st2).length : Int) := by omega
              have RO : Hid (OwnH w5 (w2.heap.size + 1) u9 (hitR (fun no => wlK P B F R no P.length) (rw_ R) (rdQ P B F nV P.length) (rdE P B P.length) L (k + 1))) := by
                rw [HNX.out]
                have := HO5.out
                rwa [List.take_length] at this
              go_wp2
              go_roundw
              case rel => exact ⟨k + 1, by omega, by go_num, by rw [HST2.out], RO.out, HBL5.out, BW5.out⟩
              case measure => simp [intOf]; omega
        · obtain rfl : k = n := by omega
          have hltI : ¬ (k : Int) < (k : Int) := by omega
          have HR : Hid (OwnH w3 w.heap.size u9 (rhA P B F R L)) := by
            rw [HK.out.2]
            exact own_mono HO.out (Nat.le_trans BB.out.size (Nat.le_succ _))
          have HBW : Hid (Below w.heap.size w w3) := BB.out.trans (BW.out.mono BB.out.size)
          go_wp2
          go_ret2
          exact ⟨_, by rw [HK.out.1] <;> rfl, HR.out, HBW.out⟩
end Go.Proofs.Ytdhppigjlldfmaa
namespace Go.Proofs.Ytdhppigjlldfmaa
open Go.ChangeShapes Go.WideShapes Go.ChangeAt Go.WideMaps Go.WideElems Go.RowKit
namespace LawRunAho
theorem own : ownKnob Try.prog.godebug = none := by kernel_rfl
theorem laidOut : laidOutB Try.prog = true := by kernel_rfl
set_option maxRecDepth 100000 in
set_option maxHeartbeats 8000000 in
theorem core (P B F : List Int) (R : Rw) (L : List Int) (H : List Ht) (f : Bool) (a b c e ao : Option Addr) (ca cb cc ce cap : Nat) (w : World) (hS : szA P B F R ≤ 1048576) (hSL : L.length ≤ 1048576) (hH : H.length ≤ 1000) (hA : IntsAt w a P) (hB : IntsAt w b B) (hC : IntsAt w c F) (hE : RowsAt w e R) (hL : IntsAt w ao L) (hP : P.length ≤ maxLen) (hBl : B.length ≤ maxLen) (hF : F.length ≤ maxLen) (hR : R.length ≤ maxLen) (hx : ∀ y ∈ R, y.length ≤ maxLen)
    (SP : ∀ (a b c e ao : Option Addr) (ca cb cc ce cap : Nat) (w : World), IntsAt w a P → IntsAt w b B → IntsAt w c F → RowsAt w e R → IntsAt w ao L → Calls Try.prog 15 #[.agg #[.slice a P.length ca, .slice b B.length cb, .slice c F.length cc, .slice e R.length ce], .slice ao L.length cap] w fun x w' => ∃ v, x = .returned (.tuple #[v, .bool f]) ∧ OwnH w' w.heap.size v H ∧ Below w.heap.size w w')
    (IM : ∀ (a b c e ao : Option Addr) (ca cb cc ce cap : Nat) (w : World), IntsAt w a P → IntsAt w b B → IntsAt w c F → RowsAt w e R → IntsAt w ao L → Calls Try.prog 12 #[.agg #[.slice a P.length ca, .slice b B.length cb, .slice c F.length cc, .slice e R.length ce], .slice ao L.length cap] w fun x w' => ∃ v, x = .returned (.tuple #[v, .bool f]) ∧ OwnH w' w.heap.size v H ∧ Below w.heap.size w w') :
    Calls Try.prog 5 #[ahoV a b c e P.length B.length F.length R.length ca cb cc ce, .slice ao L.length cap] w fun r w' => r = .returned (.bool true) ∧ Below w.heap.size w w' := by
  have HA : Hid _ := hA
  have HB : Hid _ := hB
  have HC : Hid _ := hC
  have HE : Hid _ := hE
  have HL : Hid (IntsAt w ao L) := hL
  have HSP : Hid (∀ (a b c e ao : Option Addr) (ca cb cc ce cap : Nat) (w : World), IntsAt w a P → IntsAt w b B → IntsAt w c F → RowsAt w e R → IntsAt w ao L → Calls Try.prog 15 #[.agg #[.slice a P.length ca, .slice b B.length cb, .slice c F.length cc, .slice e R.length ce], .slice ao L.length cap] w fun x w' => ∃ v, x = .returned (.tuple #[v, .bool f]) ∧ OwnH w' w.heap.size v H ∧ Below w.heap.size w w') := SP
  have HIM : Hid (∀ (a b c e ao : Option Addr) (ca cb cc ce cap : Nat) (w : World), IntsAt w a P → IntsAt w b B → IntsAt w c F → RowsAt w e R → IntsAt w ao L → Calls Try.prog 12 #[.agg #[.slice a P.length ca, .slice b B.length cb, .slice c F.length cc, .slice e R.length ce], .slice ao L.length cap] w fun x w' => ∃ v, x = .returned (.tuple #[v, .bool f]) ∧ OwnH w' w.heap.size v H ∧ Below w.heap.size w w') := IM
  have HS : Hid (szA P B F R ≤ 1048576) := hS
  have HLL : Hid (L.length ≤ 1048576) := hSL
  have HHL : Hid (H.length ≤ 1000) := hH
  have hlI : ¬ (1048576 : Int) < (L.length : Int) := by omega
  have hlcnt : (cntA P B F R : Int) ≤ 1048576 := by
    have := szRK_bd R R.length
    unfold cntA
    unfold szA at hS
    omega
  have HCA : Hid ((cntA P B F R : Int) ≤ 1048576) := hlcnt
  have A1 : ∀ o, Below w.heap.size w (w.alloc o) := fun o => (Below.refl _ _).alloc (Nat.le_refl _) o
  have HSZ : Hid _ := fun o => szAho_any P B F R a b c e ca cb cc ce (w.alloc o) hP hBl hF hR hx (RowsAt.keepB hE (A1 o))
  clear hA hB hC hE hL hP hBl hF hR hx SP IM hS hSL hH hlcnt
  unfold ahoV
  go_enter Try.func5, Try.ntmps5
  go_wp2_with fail
  refine (HSZ.out _).mono ?_
  rintro r w1 ⟨hs, b1⟩
  have hbl1 : w1.heap[w.heap.size]? = some (.cells #[.slice a P.length ca, .slice b B.length cb, .slice c F.length cc, .slice e R.length ce] 52) := (b1.block w.heap.size (by simp)).trans (heap_last2 _ _ _ rfl)
  have hs1 : w.heap.size < w1.heap.size := Nat.lt_of_lt_of_le (by simp) b1.size
  have B1 : Hid (Below w.heap.size w w1) := (A1 _).trans (b1.mono (by simp))
  clear b1 HSZ
  obtain rfl : r = .returned (.int .i64 (1048576 - szA P B F R)) := by
    rcases hs with ⟨-, h⟩ | ⟨h, -⟩
    · exact h
    · have := HS.out; omega
  clear hs
  have hz : ¬ (1048576 : Int) - (szA P B F R : Int) < 0 := by have := HS.out; omega
  generalize szA P B F R = z at hz
  have g10 : w1.cell? ⟨w.heap.size, 0, none⟩ = some (.slice a P.length ca) := cell_of hbl1 0
  have g11 : w1.cell? ⟨w.heap.size, 1, none⟩ = some (.slice b B.length cb) := cell_of hbl1 1
  have g12 : w1.cell? ⟨w.heap.size, 2, none⟩ = some (.slice c F.length cc) := cell_of hbl1 2
  have g13 : w1.cell? ⟨w.heap.size, 3, none⟩ = some (.slice e R.length ce) := cell_of hbl1 3
  go_wp2_with fail
  refine (toAho_any P B F R a b c e ca cb cc ce _ HS.out (IntsAt.keepB HA.out B1.out) (IntsAt.keepB HB.out B1.out) (IntsAt.keepB HC.out B1.out) (RowsAt.keepB HE.out B1.out)).mono ?_
  rintro r w2 ⟨v0, v1, v2, v3, rfl, D2, b2⟩
  obtain ⟨a2, p2, q2, e2, ca2, cp2, cq2, ce2, rfl, rfl, rfl, rfl, IA2, IB2, IC2, IE2⟩ := D2.form
  have JA2 : Hid _ := IA2
  have JB2 : Hid _ := IB2
  have JC2 : Hid _ := IC2
  have JE2 : Hid _ := IE2
  have hbl2 := (b2.block w.heap.size hs1).trans hbl1
  have hs2 : w.heap.size < w2.heap.size := Nat.lt_of_lt_of_le hs1 b2.size
  have B2 : Hid (Below w.heap.size w w2) := B1.out.trans (b2.mono B1.out.size)
  clear b2 D2 IA2 IB2 IC2 IE2 g10 g11 g12 g13 hbl1 B1
  go_wp2_with fail
  refine (toI_any L ao cap _ HLL.out (IntsAt.keepB HL.out B2.out)).mono ?_
  rintro r w3 ⟨u3, rfl, o3, b3⟩
  obtain ⟨-, x3, cx3, rfl, i3⟩ := ints_of_own o3
  have I3 : Hid (IntsAt w3 x3 L) := i3
  have JA3 : Hid (IntsAt w3 a2 P) := IntsAt.keepB JA2.out b3
  have JB3 : Hid (IntsAt w3 p2 B) := IntsAt.keepB JB2.out b3
  have JC3 : Hid (IntsAt w3 q2 F) := IntsAt.keepB JC2.out b3
  have JE3 : Hid (RowsAt w3 e2 R) := RowsAt.keepB JE2.out b3
  have hbl3 := (b3.block w.heap.size hs2).trans hbl2
  have hs3 : w.heap.size < w3.heap.size := Nat.lt_of_lt_of_le hs2 b3.size
  have B3 : Hid (Below w.heap.size w w3) := B2.out.trans (b3.mono B2.out.size)
  clear b3 o3 i3 hbl2 JA2 JB2 JC2 JE2 B2
  go_wp2_with fail
  refine Calls.mono (HSP.out _ _ _ _ _ _ _ _ _ _ _ JA3.out JB3.out JC3.out JE3.out I3.out) ?_
  rintro r w4 ⟨u4, rfl, o4, b4⟩
  obtain ⟨h4, ch4, rfl, -⟩ := o4.form
  have W4 : Hid (OwnH w4 w3.heap.size (.slice h4 H.length ch4) H) := o4
  have T4 : Hid (∀ g, (Value.slice h4 H.length ch4).ownBlock = some g → g < w4.heap.size) := fun g e => (World.ownsRow.lt o4 g e).2
  have hbl4 := (b4.block w.heap.size hs3).trans hbl3
  have hs4 : w.heap.size < w4.heap.size := Nat.lt_of_lt_of_le hs3 b4.size
  have B4 : Hid (Below w.heap.size w w4) := B3.out.trans (b4.mono B3.out.size)
  clear b4 o4 hbl3 JA3 JB3 JC3 JE3 I3 B3
  have g40 : w4.cell? ⟨w.heap.size, 0, none⟩ = some (.slice a P.length ca) := cell_of hbl4 0
  have g41 : w4.cell? ⟨w.heap.size, 1, none⟩ = some (.slice b B.length cb) := cell_of hbl4 1
  have g42 : w4.cell? ⟨w.heap.size, 2, none⟩ = some (.slice c F.length cc) := cell_of hbl4 2
  have g43 : w4.cell? ⟨w.heap.size, 3, none⟩ = some (.slice e R.length ce) := cell_of hbl4 3
  go_wp2_with fail
  refine (toAho_any P B F R a b c e ca cb cc ce _ HS.out (IntsAt.keepB HA.out B4.out) (IntsAt.keepB HB.out B4.out) (IntsAt.keepB HC.out B4.out) (RowsAt.keepB HE.out B4.out)).mono ?_
  rintro r w5 ⟨v0, v1, v2, v3, rfl, D5, b5⟩
  obtain ⟨a5, p5, q5, e5, ca5, cp5, cq5, ce5, rfl, rfl, rfl, rfl, IA5, IB5, IC5, IE5⟩ := D5.form
  obtain ⟨Q5, X5⟩ := D5.q
  have AL5 : ∀ o, Below w5.heap.size w5 (w5.alloc o) := fun o => (Below.refl _ _).alloc (Nat.le_refl _) o
  have O5 : Hid (OwnAQ w5 w4.heap.size w5.heap.size (.slice a5 P.length ca5) (.slice p5 B.length cp5) (.slice q5 F.length cq5) (.slice e5 R.length ce5) Q5 P B F R.length (rw_ R)) := X5
  have W5 : Hid (OwnH w5 w3.heap.size (.slice h4 H.length ch4) H) := OwnH.keepB W4.out b5
  have hbl5 := (b5.block w.heap.size hs4).trans hbl4
  have hs5 : w.heap.size < w5.heap.size := Nat.lt_of_lt_of_le hs4 b5.size
  have hs45 : w4.heap.size ≤ w5.heap.size := b5.size
  have B5 : Hid (Below w.heap.size w w5) := B4.out.trans (b5.mono B4.out.size)
  have JA5 : Hid (IntsAt w5 a5 P) := IA5
  have JB5 : Hid (IntsAt w5 p5 B) := IB5
  have JC5 : Hid (IntsAt w5 q5 F) := IC5
  have JE5 : Hid (RowsAt w5 e5 R) := IE5
  have HLX : Hid (∀ o, IntsAt (w5.alloc o) ao L) := fun o => IntsAt.keepB (IntsAt.keepB HL.out B5.out) (AL5 o)
  have HAL5 : Hid (∀ o, Below w5.heap.size w5 (w5.alloc o)) := AL5
  clear b5 D5 X5 IA5 IB5 IC5 IE5 hbl4 W4 B4 g40 g41 g42 g43 AL5
  go_wp2_with fail
  refine (toI_any L ao cap _ HLL.out (HLX.out _)).mono ?_
  rintro r w6 ⟨u6, rfl, o6, b6⟩
  obtain ⟨-, x6, cx6, rfl, i6⟩ := ints_of_own o6
  have I6 : Hid (IntsAt w6 x6 L) := i6
  have b56 : Below w5.heap.size w5 w6 := (HAL5.out _).trans (b6.mono (HAL5.out _).size)
  have hbx6 : w6.heap[w5.heap.size]? = some (.cells #[.slice a5 P.length ca5, .slice p5 B.length cp5, .slice q5 F.length cq5, .slice e5 R.length ce5] 28) := (b6.block w5.heap.size (by simp)).trans (heap_last2 _ _ _ rfl)
  have R6 : Hid (w6.ownsRow (w5.heap.size + 1) 3 1 (.slice x6 L.length cx6) L.length (ints L)) := by
    have hq := o6
    simp only [World.alloc, Array.size_push] at hq
    exact hq
  have O6 : Hid (OwnAQ w6 w4.heap.size w5.heap.size (.slice a5 P.length ca5) (.slice p5 B.length cp5) (.slice q5 F.length cq5) (.slice e5 R.length ce5) Q5 P B F R.length (rw_ R)) := O5.out.keepB b56
  have W6 : Hid (OwnH w6 w3.heap.size (.slice h4 H.length ch4) H) := OwnH.keepB W5.out b56
  have hbl6 := (b56.block w.heap.size hs5).trans hbl5
  have hs56 : w5.heap.size < w6.heap.size := (Array.getElem?_eq_some_iff.1 hbx6).1
  have B6 : Hid (Below w.heap.size w w6) := B5.out.trans (b56.mono B5.out.size)
  have JA6 : Hid (IntsAt w6 a5 P) := IntsAt.keepB JA5.out b56
  have JB6 : Hid (IntsAt w6 p5 B) := IntsAt.keepB JB5.out b56
  have JC6 : Hid (IntsAt w6 q5 F) := IntsAt.keepB JC5.out b56
  have JE6 : Hid (RowsAt w6 e5 R) := RowsAt.keepB JE5.out b56
  have g60 : w6.cell? ⟨w5.heap.size, 0, none⟩ = some (.slice a5 P.length ca5) := cell_of hbx6 0
  have g61 : w6.cell? ⟨w5.heap.size, 1, none⟩ = some (.slice p5 B.length cp5) := cell_of hbx6 1
  have g62 : w6.cell? ⟨w5.heap.size, 2, none⟩ = some (.slice q5 F.length cq5) := cell_of hbx6 2
  have g63 : w6.cell? ⟨w5.heap.size, 3, none⟩ = some (.slice e5 R.length ce5) := cell_of hbx6 3
  clear b6 b56 o6 i6 hbl5 O5 W5 B5 JA5 JB5 JC5 JE5 HLX HAL5
  go_wp2_with fail
  refine Calls.mono (HIM.out _ _ _ _ _ _ _ _ _ _ _ JA6.out JB6.out JC6.out JE6.out I6.out) ?_
  rintro r w7 ⟨u7, rfl, o7, b7⟩
  obtain ⟨h7, ch7, rfl, -⟩ := o7.form
  have K7 : Hid (RunSt w7 w (.cells #[.slice a P.length ca, .slice b B.length cb, .slice c F.length cc, .slice e R.length ce] 52) w5.heap.size (.cells #[.slice a5 P.length ca5, .slice p5 B.length cp5, .slice q5 F.length cq5, .slice e5 R.length ce5] 28) w4.heap.size (.slice a5 P.length ca5) (.slice p5 B.length cp5) (.slice q5 F.length cq5) (.slice e5 R.length ce5) Q5 P B F R.length (rw_ R) (.slice x6 L.length cx6) L w6.heap.size (.slice h7 H.length ch7) w3.heap.size (.slice h4 H.length ch4) H) := ⟨(b7.block w.heap.size (by omega)).trans hbl6, (b7.block w5.heap.size hs56).trans hbx6, O6.out.keepB b7, World.ownsRow.keepB R6.out b7, o7, OwnH.keepB W6.out b7, B6.out.trans (b7.mono B6.out.size), b7.size⟩
  clear b7 o7 hbl6 hbx6 O6 R6 W6 B6 JA6 JB6 JC6 JE6 I6 g60 g61 g62 g63
  go_wp2_with fail
  refine (eqHitS_any H h7 h4 ch7 ch4 _ (Nat.le_trans HHL.out (by decide)) (OwnH.at K7.out.g_) (OwnH.at K7.out.h_)).mono ?_
  rintro r w8 ⟨rfl, b8⟩
  have K8 : Hid (RunSt w8 w (.cells #[.slice a P.length ca, .slice b B.length cb, .slice c F.length cc, .slice e R.length ce] 52) w5.heap.size (.cells #[.slice a5 P.length ca5, .slice p5 B.length cp5, .slice q5 F.length cq5, .slice e5 R.length ce5] 28) w4.heap.size (.slice a5 P.length ca5) (.slice p5 B.length cp5) (.slice q5 F.length cq5) (.slice e5 R.length ce5) Q5 P B F R.length (rw_ R) (.slice x6 L.length cx6) L w6.heap.size (.slice h7 H.length ch7) w3.heap.size (.slice h4 H.length ch4) H) := K7.out.keepB b8
  clear b8 K7
  have bbf : (f == f) = true := by simp
  have DR8 : Hid (Below w8.heap.size w8 w8.drew) := (Below.refl _ _).drew
  have K8d : Hid (RunSt w8.drew w (.cells #[.slice a P.length ca, .slice b B.length cb, .slice c F.length cc, .slice e R.length ce] 52) w5.heap.size (.cells #[.slice a5 P.length ca5, .slice p5 B.length cp5, .slice q5 F.length cq5, .slice e5 R.length ce5] 28) w4.heap.size (.slice a5 P.length ca5) (.slice p5 B.length cp5) (.slice q5 F.length cq5) (.slice e5 R.length ce5) Q5 P B F R.length (rw_ R) (.slice x6 L.length cx6) L w6.heap.size (.slice h7 H.length ch7) w3.heap.size (.slice h4 H.length ch4) H) := K8.out.keepB DR8.out
  have sD : (w8.drew.cell? ⟨w.heap.size, 0, none⟩ = some (.slice a P.length ca) ∧ w8.drew.cell? ⟨w.heap.size, 1, none⟩ = some (.slice b B.length cb) ∧ w8.drew.cell? ⟨w.heap.size, 2, none⟩ = some (.slice c F.length cc) ∧ w8.drew.cell? ⟨w.heap.size, 3, none⟩ = some (.slice e R.length ce) ∧ w8.drew.cell? ⟨w5.heap.size, 0, none⟩ = some (.slice a5 P.length ca5) ∧ w8.drew.cell? ⟨w5.heap.size, 1, none⟩ = some (.slice p5 B.length cp5) ∧ w8.drew.cell? ⟨w5.heap.size, 2, none⟩ = some (.slice q5 F.length cq5) ∧ w8.drew.cell? ⟨w5.heap.size, 3, none⟩ = some (.slice e5 R.length ce5)) := ⟨cell_of K8d.out.b1 0, cell_of K8d.out.b1 1, cell_of K8d.out.b1 2, cell_of K8d.out.b1 3, cell_of K8d.out.b5 0, cell_of K8d.out.b5 1, cell_of K8d.out.b5 2, cell_of K8d.out.b5 3⟩
  clear K8
  go_wp2
  go_region_held (fun w' => (w'.cell? ⟨w.heap.size, 0, none⟩ = some (.slice a P.length ca) ∧ w'.cell? ⟨w.heap.size, 1, none⟩ = some (.slice b B.length cb) ∧ w'.cell? ⟨w.heap.size, 2, none⟩ = some (.slice c F.length cc) ∧ w'.cell? ⟨w.heap.size, 3, none⟩ = some (.slice e R.length ce) ∧ w'.cell? ⟨w5.heap.size, 0, none⟩ = some (.slice a5 P.length ca5) ∧ w'.cell? ⟨w5.heap.size, 1, none⟩ = some (.slice p5 B.length cp5) ∧ w'.cell? ⟨w5.heap.size, 2, none⟩ = some (.slice q5 F.length cq5) ∧ w'.cell? ⟨w5.heap.size, 3, none⟩ = some (.slice e5 R.length ce5))) (first | assumption) (first
      | (go_at_call 29; refine (toAho_any P B F R a b c e ca cb cc ce _ HS.out (IntsAt.keepB HA.out K8d.out.bel) (IntsAt.keepB HB.out K8d.out.bel) (IntsAt.keepB HC.out K8d.out.bel) (RowsAt.keepB HE.out K8d.out.bel)).mono ?_
         rintro r w9 ⟨v0, v1, v2, v3, rfl, D9, b9⟩
         obtain ⟨a9, p9, q9, e9, ca9, cp9, cq9, ce9, rfl, rfl, rfl, rfl, IA9, IB9, IC9, IE9⟩ := D9.form
         have K9 : Hid (RunSt w9 w (.cells #[.slice a P.length ca, .slice b B.length cb, .slice c F.length cc, .slice e R.length ce] 52) w5.heap.size (.cells #[.slice a5 P.length ca5, .slice p5 B.length cp5, .slice q5 F.length cq5, .slice e5 R.length ce5] 28) w4.heap.size (.slice a5 P.length ca5) (.slice p5 B.length cp5) (.slice q5 F.length cq5) (.slice e5 R.length ce5) Q5 P B F R.length (rw_ R) (.slice x6 L.length cx6) L w6.heap.size (.slice h7 H.length ch7) w3.heap.size (.slice h4 H.length ch4) H) := K8d.out.keepB b9
         have s9 : (w9.cell? ⟨w.heap.size, 0, none⟩ = some (.slice a P.length ca) ∧ w9.cell? ⟨w.heap.size, 1, none⟩ = some (.slice b B.length cb) ∧ w9.cell? ⟨w.heap.size, 2, none⟩ = some (.slice c F.length cc) ∧ w9.cell? ⟨w.heap.size, 3, none⟩ = some (.slice e R.length ce) ∧ w9.cell? ⟨w5.heap.size, 0, none⟩ = some (.slice a5 P.length ca5) ∧ w9.cell? ⟨w5.heap.size, 1, none⟩ = some (.slice p5 B.length cp5) ∧ w9.cell? ⟨w5.heap.size, 2, none⟩ = some (.slice q5 F.length cq5) ∧ w9.cell? ⟨w5.heap.size, 3, none⟩ = some (.slice e5 R.length ce5)) := ⟨cell_of K9.out.b1 0, cell_of K9.out.b1 1, cell_of K9.out.b1 2, cell_of K9.out.b1 3, cell_of K9.out.b5 0, cell_of K9.out.b5 1, cell_of K9.out.b5 2, cell_of K9.out.b5 3⟩
         have JA9 : Hid _ := IA9
         have JB9 : Hid _ := IB9
         have JC9 : Hid _ := IC9
         have JE9 : Hid _ := IE9
         clear b9 D9 IA9 IB9 IC9 IE9)
      | (go_at_call 23; refine (eqAho_any P B F R _ _ _ _ _ _ _ _ _ _ _ _ _ _ _ _ _ HS.out K9.out.x.at.1 K9.out.x.at.2.1 K9.out.x.at.2.2.1 K9.out.x.at.2.2.2 JA9.out JB9.out JC9.out JE9.out).mono ?_
         rintro r w10 ⟨rfl, b10⟩
         have K10 : Hid (RunSt w10 w (.cells #[.slice a P.length ca, .slice b B.length cb, .slice c F.length cc, .slice e R.length ce] 52) w5.heap.size (.cells #[.slice a5 P.length ca5, .slice p5 B.length cp5, .slice q5 F.length cq5, .slice e5 R.length ce5] 28) w4.heap.size (.slice a5 P.length ca5) (.slice p5 B.length cp5) (.slice q5 F.length cq5) (.slice e5 R.length ce5) Q5 P B F R.length (rw_ R) (.slice x6 L.length cx6) L w6.heap.size (.slice h7 H.length ch7) w3.heap.size (.slice h4 H.length ch4) H) := K9.out.keepB b10
         have s10 : (w10.cell? ⟨w.heap.size, 0, none⟩ = some (.slice a P.length ca) ∧ w10.cell? ⟨w.heap.size, 1, none⟩ = some (.slice b B.length cb) ∧ w10.cell? ⟨w.heap.size, 2, none⟩ = some (.slice c F.length cc) ∧ w10.cell? ⟨w.heap.size, 3, none⟩ = some (.slice e R.length ce) ∧ w10.cell? ⟨w5.heap.size, 0, none⟩ = some (.slice a5 P.length ca5) ∧ w10.cell? ⟨w5.heap.size, 1, none⟩ = some (.slice p5 B.length cp5) ∧ w10.cell? ⟨w5.heap.size, 2, none⟩ = some (.slice q5 F.length cq5) ∧ w10.cell? ⟨w5.heap.size, 3, none⟩ = some (.slice e5 R.length ce5)) := ⟨cell_of K10.out.b1 0, cell_of K10.out.b1 1, cell_of K10.out.b1 2, cell_of K10.out.b1 3, cell_of K10.out.b5 0, cell_of K10.out.b5 1, cell_of K10.out.b5 2, cell_of K10.out.b5 3⟩
         clear b10))
  all_goals
    clear K8d K9 sD s9 JA9 JB9 JC9 JE9 DR8
    clear s10
    go_wp2_with fail
    refine (toI_any L ao cap _ HLL.out (IntsAt.keepB HL.out K10.out.bel)).mono ?_
    rintro r w11 ⟨u11, rfl, o11, b11⟩
    obtain ⟨-, x11, cx11, rfl, i11⟩ := ints_of_own o11
    have I11 : Hid (IntsAt w11 x11 L) := i11
    have K11 : Hid (RunSt w11 w (.cells #[.slice a P.length ca, .slice b B.length cb, .slice c F.length cc, .slice e R.length ce] 52) w5.heap.size (.cells #[.slice a5 P.length ca5, .slice p5 B.length cp5, .slice q5 F.length cq5, .slice e5 R.length ce5] 28) w4.heap.size (.slice a5 P.length ca5) (.slice p5 B.length cp5) (.slice q5 F.length cq5) (.slice e5 R.length ce5) Q5 P B F R.length (rw_ R) (.slice x6 L.length cx6) L w6.heap.size (.slice h7 H.length ch7) w3.heap.size (.slice h4 H.length ch4) H) := K10.out.keepB b11
    clear b11 o11 i11 K10
    go_wp2_with fail
    refine (eq_any L _ _ _ _ _ HLL.out (own_ints K11.out.r) I11.out).mono ?_
    rintro r w12 ⟨rfl, b12⟩
    have K12 : Hid (RunSt w12 w (.cells #[.slice a P.length ca, .slice b B.length cb, .slice c F.length cc, .slice e R.length ce] 52) w5.heap.size (.cells #[.slice a5 P.length ca5, .slice p5 B.length cp5, .slice q5 F.length cq5, .slice e5 R.length ce5] 28) w4.heap.size (.slice a5 P.length ca5) (.slice p5 B.length cp5) (.slice q5 F.length cq5) (.slice e5 R.length ce5) Q5 P B F R.length (rw_ R) (.slice x6 L.length cx6) L w6.heap.size (.slice h7 H.length ch7) w3.heap.size (.slice h4 H.length ch4) H) := K11.out.keepB b12
    clear b12 K11 I11
    have k0 : w12.cell? ⟨w5.heap.size, 0, none⟩ = some (.slice a5 P.length ca5) := cell_of K12.out.b5 0
    have k1 : w12.cell? ⟨w5.heap.size, 1, none⟩ = some (.slice p5 B.length cp5) := cell_of K12.out.b5 1
    have k2 : w12.cell? ⟨w5.heap.size, 2, none⟩ = some (.slice q5 F.length cq5) := cell_of K12.out.b5 2
    have k3 : w12.cell? ⟨w5.heap.size, 3, none⟩ = some (.slice e5 R.length ce5) := cell_of K12.out.b5 3
    go_wp2_with fail
    refine (markA_any P B F R _ _ _ _ Q5 w4.heap.size w5.heap.size _ HS.out (Nat.le_trans (Nat.le_trans hs45 (Nat.le_of_lt hs56)) K12.out.z) K12.out.x).mono ?_
    rintro r w13 ⟨rfl, -, m13⟩
    have K13 : Hid (RunSt2 w13 w (.cells #[.slice a P.length ca, .slice b B.length cb, .slice c F.length cc, .slice e R.length ce] 52) (w5.heap.size + 1) (.slice x6 L.length cx6) L w6.heap.size (.slice h7 H.length ch7) w3.heap.size (.slice h4 H.length ch4) H) := K12.out.mid m13 hs4 (Nat.le_of_lt hs56) T4.out
    clear m13 K12 k0 k1 k2 k3
    have hca := HCA.out
    generalize cntA P B F R = kc at hca
    go_wp2_with fail
    refine (mark_c (1 + kc) (by omega) (by omega) L _ _ (w5.heap.size + 1) _ HLL.out K13.out.r).mono ?_
    rintro r w14 ⟨rfl, -, g14⟩
    have K14 : Hid (RunSt3 w14 w (.cells #[.slice a P.length ca, .slice b B.length cb, .slice c F.length cc, .slice e R.length ce] 52) w6.heap.size (.slice h7 H.length ch7) w3.heap.size (.slice h4 H.length ch4) H) := K13.out.next g14 (by omega)
    have hzk : ¬ (1 : Int) + kc + L.length < 0 := by omega
    clear g14 K13
    go_wp2_with fail
    refine (eqHitS_any H h7 h4 ch7 ch4 _ (Nat.le_trans HHL.out (by decide)) (OwnH.at K14.out.g_) (OwnH.at K14.out.h_)).mono ?_
    rintro r w15 ⟨rfl, b15⟩
    have K15 : Hid (RunSt3 w15 w (.cells #[.slice a P.length ca, .slice b B.length cb, .slice c F.length cc, .slice e R.length ce] 52) w6.heap.size (.slice h7 H.length ch7) w3.heap.size (.slice h4 H.length ch4) H) := K14.out.keepB b15
    clear b15 K14
    go_wp2_with fail
    refine (markH_any H _ w6.heap.size _ (Nat.le_trans HHL.out (by decide)) K15.out.g_).mono ?_
    rintro r w16 ⟨hr16, o16, g16⟩
    obtain ⟨qq, hq⟩ : ∃ qq : Int, qq = (1 : Int) + (H.length * 3 : Nat) := ⟨_, rfl⟩
    have hzq : ¬ qq < 0 := by omega
    have HQ : Hid (qq = (1 : Int) + (H.length * 3 : Nat)) := hq
    rw [← hq] at hr16
    subst hr16
    clear hq
    have K16 : Hid (RunSt4 w16 w (.cells #[.slice a P.length ca, .slice b B.length cb, .slice c F.length cc, .slice e R.length ce] 52) h7 w3.heap.size (.slice h4 H.length ch4) H) := K15.out.next g16 o16 (by omega) (fun g e => by have := T4.out g e; omega)
    clear o16 g16 K15
    go_wp2_with fail
    refine (heldH_any H.length h7 ch7 _ (Nat.le_trans HHL.out (by decide)) K16.out.g_).mono ?_
    rintro r w17 ⟨hr17, b17⟩
    rw [← HQ.out] at hr17
    subst hr17
    have K17 : Hid (RunSt4 w17 w (.cells #[.slice a P.length ca, .slice b B.length cb, .slice c F.length cc, .slice e R.length ce] 52) h7 w3.heap.size (.slice h4 H.length ch4) H) := K16.out.keepB b17
    clear b17 K16
    have k0 : w17.cell? ⟨w.heap.size, 0, none⟩ = some (.slice a P.length ca) := cell_of K17.out.b1 0
    have k1 : w17.cell? ⟨w.heap.size, 1, none⟩ = some (.slice b B.length cb) := cell_of K17.out.b1 1
    have k2 : w17.cell? ⟨w.heap.size, 2, none⟩ = some (.slice c F.length cc) := cell_of K17.out.b1 2
    have k3 : w17.cell? ⟨w.heap.size, 3, none⟩ = some (.slice e R.length ce) := cell_of K17.out.b1 3
    go_wp2_with fail
    refine (toAho_any P B F R a b c e ca cb cc ce _ HS.out (IntsAt.keepB HA.out K17.out.bel) (IntsAt.keepB HB.out K17.out.bel) (IntsAt.keepB HC.out K17.out.bel) (RowsAt.keepB HE.out K17.out.bel)).mono ?_
    rintro r w18 ⟨v0, v1, v2, v3, rfl, D18, b18⟩
    obtain ⟨a18, p18, q18, e18, ca18, cp18, cq18, ce18, rfl, rfl, rfl, rfl, IA18, IB18, IC18, IE18⟩ := D18.form
    have JA18 : Hid _ := IA18
    have JB18 : Hid _ := IB18
    have JC18 : Hid _ := IC18
    have JE18 : Hid _ := IE18
    have K18 : Hid (RunSt4 w18 w (.cells #[.slice a P.length ca, .slice b B.length cb, .slice c F.length cc, .slice e R.length ce] 52) h7 w3.heap.size (.slice h4 H.length ch4) H) := K17.out.keepB b18
    clear b18 D18 IA18 IB18 IC18 IE18 K17 k0 k1 k2 k3
    go_wp2_with fail
    refine (toI_any L ao cap _ HLL.out (IntsAt.keepB HL.out K18.out.bel)).mono ?_
    rintro r w19 ⟨u19, rfl, o19, b19⟩
    obtain ⟨-, x19, cx19, rfl, i19⟩ := ints_of_own o19
    have I19 : Hid (IntsAt w19 x19 L) := i19
    have JA19 : Hid (IntsAt w19 a18 P) := IntsAt.keepB JA18.out b19
    have JB19 : Hid (IntsAt w19 p18 B) := IntsAt.keepB JB18.out b19
    have JC19 : Hid (IntsAt w19 q18 F) := IntsAt.keepB JC18.out b19
    have JE19 : Hid (RowsAt w19 e18 R) := RowsAt.keepB JE18.out b19
    have K19 : Hid (RunSt4 w19 w (.cells #[.slice a P.length ca, .slice b B.length cb, .slice c F.length cc, .slice e R.length ce] 52) h7 w3.heap.size (.slice h4 H.length ch4) H) := K18.out.keepB b19
    clear b19 o19 i19 K18 JA18 JB18 JC18 JE18
    go_wp2_with fail
    refine Calls.mono (HIM.out _ _ _ _ _ _ _ _ _ _ _ JA19.out JB19.out JC19.out JE19.out I19.out) ?_
    rintro r w20 ⟨u20, rfl, o20, b20⟩
    obtain ⟨h20, ch20, rfl, i20⟩ := o20.form
    have I20 : Hid (HitsAt w20 h20 H) := i20
    have K20 : Hid (RunSt4 w20 w (.cells #[.slice a P.length ca, .slice b B.length cb, .slice c F.length cc, .slice e R.length ce] 52) h7 w3.heap.size (.slice h4 H.length ch4) H) := K19.out.keepB b20
    clear b20 o20 i20 K19 JA19 JB19 JC19 JE19 I19
    go_wp2_with fail
    refine (eqHitS_any H h20 h4 ch20 ch4 _ (Nat.le_trans HHL.out (by decide)) I20.out (OwnH.at K20.out.h_)).mono ?_
    rintro r w21 ⟨rfl, b21⟩
    have K21 : Hid (RunSt4 w21 w (.cells #[.slice a P.length ca, .slice b B.length cb, .slice c F.length cc, .slice e R.length ce] 52) h7 w3.heap.size (.slice h4 H.length ch4) H) := K20.out.keepB b21
    clear b21 K20 I20
    go_wp2_with fail
    refine (heldH_any H.length h7 ch7 _ (Nat.le_trans HHL.out (by decide)) K21.out.g_).mono ?_
    rintro r w22 ⟨hr22, b22⟩
    rw [← HQ.out] at hr22
    subst hr22
    have K22 : Hid (RunSt4 w22 w (.cells #[.slice a P.length ca, .slice b B.length cb, .slice c F.length cc, .slice e R.length ce] 52) h7 w3.heap.size (.slice h4 H.length ch4) H) := K21.out.keepB b22
    clear b22 K21
    go_wp2
    go_ret
    exact ⟨rfl, K22.out.bel⟩
set_option maxRecDepth 100000 in
set_option maxHeartbeats 2000000 in
theorem walk (P B F : List Int) (R : Rw) (L : List Int) (a b c e ao : Option Addr) (ca cb cc ce cap : Nat) (w : World) (hA : IntsAt w a P) (hB : IntsAt w b B) (hC : IntsAt w c F) (hE : RowsAt w e R) (hL : IntsAt w ao L) (hP : P.length ≤ maxLen) (hBl : B.length ≤ maxLen) (hF : F.length ≤ maxLen) (hR : R.length ≤ maxLen) (hx : ∀ y ∈ R, y.length ≤ maxLen) :
    Calls Try.prog 5 #[ahoV a b c e P.length B.length F.length R.length ca cb cc ce, .slice ao L.length cap] w fun r w' => r = .returned (.bool true) ∧ Below w.heap.size w w' := by
  by_cases hSL : L.length ≤ 1048576
  case neg =>
    have hI : (1048576 : Int) < (L.length : Int) := by omega
    clear hA hB hC hE hL hP hBl hF hR hx
    unfold ahoV
    go_enter Try.func5, Try.ntmps5
    go_wp2
    go_ret
    exact ⟨rfl, (Below.refl _ _).alloc (Nat.le_refl _) _⟩
  by_cases hS : szA P B F R ≤ 1048576
  case neg =>
    have hI : ¬ (1048576 : Int) < (L.length : Int) := by omega
    have A1 : ∀ o, Below w.heap.size w (w.alloc o) := fun o => (Below.refl _ _).alloc (Nat.le_refl _) o
    have HSZ : Hid _ := fun o => szAho_any P B F R a b c e ca cb cc ce (w.alloc o) hP hBl hF hR hx (RowsAt.keepB hE (A1 o))
    clear hA hB hC hE hL hP hBl hF hR hx
    unfold ahoV
    go_enter Try.func5, Try.ntmps5
    go_wp2_with fail
    refine (HSZ.out _).mono ?_
    rintro r w1 ⟨hs, b1⟩
    have B1 : Hid (Below w.heap.size w w1) := (A1 _).trans (b1.mono (by simp))
    clear b1 HSZ A1
    obtain rfl : r = .returned (.int .i64 (-1)) := by
      rcases hs with ⟨h, -⟩ | ⟨-, h⟩
      · exact absurd h hS
      · exact h
    go_wp2
    go_ret
    exact ⟨rfl, B1.out⟩
  exact core P B F R L (rhA P B F R L) (rhB P B F R L) a b c e ao ca cb cc ce cap w hS hSL (Nat.le_trans (rhA_len P B F R L) (by decide)) hA hB hC hE hL hP hBl hF hR hx
    (fun a b c e ao ca cb cc ce cap w iA iB iC iE iL => srunA_any P B F R L a b c e ao ca cb cc ce cap w hS hSL iA iB iC iE iL)
    (fun a b c e ao ca cb cc ce cap w iA iB iC iE iL => irunA_any P B F R L a b c e ao ca cb cc ce cap w hS hSL iA iB iC iE iL)
set_option maxRecDepth 100000 in
theorem lifted (os : Os) (started : os.Started) (H : Type) (enc : TypeId × Value → H) :
    ReturnsInHanded {} Try.checked os 5 .any (Rows.fnExactRunAhoSpec.pre6 enc Try.prog Try.f5 Rows.fnExactRunAhoRow.domain false) (Rows.fnExactRunAhoSpec.post enc Try.prog Try.f5 false true false false) := by
  refine returnsInHanded_of_change (C := Try.checked) own started (by kernel_rfl) Try.func5
    (ChangeSpec.witness6 (enc := enc) (C := Try.checked) false ⟨#[], #[.agg #[.slice none 0 0, .slice none 0 0, .slice none 0 0, .slice none 0 0], .slice none 0 0], []⟩ 8 (by kernel_rfl) (by kernel_rfl) (by kernel_rfl) (by kernel_rfl)) ?_
  intro W base args ds gs before hval0 hW hcnd _
  have hval : ∀ (j : Nat) t v, Try.f5.params[j]? = some t → args[j]? = some v → Value.okWide Try.prog W .any base t v := hval0
  have hW' := hW
  obtain ⟨p, q, hA0, hV, rfl, hfz, hnd⟩ := hW
  have hA : DataW.TrodAll enc Try.prog W 0 (fun _ => true) true Try.f5.params.toList args.toList ds p := hA0
  rw [Try.params5] at hA hval
  obtain ⟨v0, vs0, d0, ds0, p0, q0, hargs, rfl, rfl, h0, r0⟩ := trodAll_cons hA
  obtain ⟨v1, vs1, d1, ds1, p1, q1, hargs1, rfl, rfl, h1, r1⟩ := trodAll_cons r0
  obtain ⟨rfl, rfl, rfl⟩ := trodAll_nil r1
  obtain rfl : args = #[v0, v1] := by cases args; simp_all
  obtain ⟨rfl, rfl⟩ := trodVars_none hV
  have k1 := h1
  have lt1 : ∀ x ∈ p1, x.block < W.heap.size := by obtain ⟨m, hm⟩ := k1; exact DataW.trod_lt m _ _ _ hm
  obtain ⟨ao, len1, cap, rfl⟩ := okWide_slice Try.underlying26 (hval 1 26 v1 rfl rfl)
  obtain ⟨fuel1, hf1⟩ := h1
  obtain ⟨L, hLm, ao', cap', he1, iL⟩ := arg_ints hf1
  obtain ⟨rfl, rfl, rfl⟩ : ao = ao' ∧ len1 = L.length ∧ cap = cap' := by simpa using he1
  have k0 := h0
  have lt0 : ∀ x ∈ p0, x.block < W.heap.size := by obtain ⟨m, hm⟩ := k0; exact DataW.trod_lt m _ _ _ hm
  obtain ⟨P, B, F, R, a, b, c, e, ca, cb, cc, ce, rfl, iP, iB, iF, iR, hP, hB, hF, hR, hx⟩ := open_aho (hval 0 52 v0 rfl rfl) h0
  clear hA0 hval0
  refine (walk P B F R L a b c e ao ca cb cc ce cap W iP iB iF iR iL hP hB hF hR hx).mono fun e W' ⟨he, bel⟩ => ?_
  subst he
  exact ⟨_, rfl, _, _, _, [], _, [], hW', trodAll_mk1 (shut_bool Try.underlying4 _), trodAll_cons_mk (Below.trod laidOut (by kernel_rfl) (of_decide_eq_true (by kernel_rfl)) k0 bel lt0) (trodAll_cons_mk (Below.trod laidOut (by kernel_rfl) (of_decide_eq_true (by kernel_rfl)) k1 bel lt1) trodAll_mk0), rfl, bel.frame _, fun h => by cases h⟩
theorem row : Rows.FnExactRunAhoSaid :=
  OpenClaim.holds_of_wide 5 Try.f5 rfl rfl rfl rfl rfl rfl rfl ⟨rfl, rfl, rfl, rfl, rfl⟩ rfl rfl rfl rfl rfl (by kernel_rfl) Try.func5 (by kernel_rfl)
    (of_decide_eq_true (by kernel_rfl)) (by unfold Func.isWrapper; first | (rw [if_pos (by decide +kernel)]; kernel_rfl) | (rw [if_neg (by decide +kernel)]; exact ⟨rfl, rfl⟩))
    (fun os started H enc _ => lifted os started H enc)
end LawRunAho
theorem runAho_holds : Rows.FnExactRunAhoSaid := LawRunAho.row
#print axioms runAho_holds
end Go.Proofs.Ytdhppigjlldfmaa

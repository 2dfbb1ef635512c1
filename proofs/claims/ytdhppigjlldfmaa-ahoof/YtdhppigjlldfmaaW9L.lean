/-
  A machine of words in memory of its own: marked by the laws.
-/
import Derived.Test.YtdhppigjlldfmaaW8T
import Derived.Test.YtdhppigjlldfmaaM6L
namespace Go.Proofs.Ytdhppigjlldfmaa
open Go.ChangeShapes Go.WideShapes Go.ChangeAt Go.WideMaps Go.WideElems Go.RowKit
set_option maxRecDepth 100000 in
set_option maxHeartbeats 2000000 in
theorem markSS_keep (I : World → Prop) (c : Int) (c0 : 0 ≤ c) (c1 : c ≤ 2000000) (R : Rw) (v0 v1 v2 : Value) (Q : List Value) (C : List Int) (F : List Bool) (base top : Nat) (w : World) (hl : szR R ≤ 1048576) (hb : base ≤ w.heap.size) (hI0 : I w) (hI : ∀ a b : World, ∀ j, j < R.length → I a → a.grownBy b (vd Q j).ownBlock → I b) (h : OwnQ w base top v0 v1 v2 Q C R.length (rw_ R) F) :
    Calls Try.prog 25 #[v1, .int .i64 c] w fun e w' => e = .returned (.int .i64 (c + szRK R R.length)) ∧ OwnQ w' base top v0 v1 v2 Q C R.length (mkW R c) F ∧ Mid base top w w' ∧ I w' := by
  have HI : Hid (∀ a b : World, ∀ j, j < R.length → I a → a.grownBy b (vd Q j).ownBlock → I b) := hI
  have HI0 : Hid (I w) := hI0
  clear hI hI0
  have hpl : R.length ≤ 1048576 := by unfold szR at hl; omega
  obtain ⟨ao, cap, rfl⟩ := own_form' h.2.2.2.1
  have HO : Hid (OwnQ w base top v0 (.slice ao R.length cap) v2 Q C R.length (rw_ R) F) := h
  have HL : Hid _ := hl
  clear h hl
  go_enter Try.func25, Try.ntmps25
  go_wp2
  go_loopw [1, 5] (fun cc i wr => ∃ k : Nat, k ≤ R.length ∧ i = .int .i64 k ∧ cc = .int .i64 (c + szRK R k) ∧ OwnQ wr base top v0 (.slice ao R.length cap) v2 Q C R.length (fun j => if j < k then mkW R c j else rw_ R j) F ∧ Mid base top w wr ∧ I wr) (fun _ i _ => R.length - (intOf i).toNat)
  case atStart => exact ⟨0, Nat.zero_le _, rfl, by simp [szRK], HO.out.cast (fun j _ => by simp), Mid.refl _ _ _, HI0.out⟩
  case round =>
    obtain ⟨k, hk, rfl, rfl, hown, hm, hir⟩ := hrel
    have hbd : szRK R k ≤ 1048576 := Nat.le_trans (szRK_bd R k) HL.out
    have M0 : Hid (Mid base top w wr) := hm
    have IR : Hid (I wr) := hir
    clear hm hir
    by_cases hlt : k < R.length
    · have hltI : (k : Int) < (R.length : Int) := by omega
      have hls : (rw_ R k).length ≤ 1048576 := Nat.le_trans (rw_len R k hlt) HL.out
      have OW : Hid (OwnQ wr base top v0 (.slice ao R.length cap) v2 Q C R.length (fun j => if j < k then mkW R c j else rw_ R j) F) := hown
      obtain ⟨-, -, q1, q2, q3, -, -, -, -, q8, -⟩ := hown
      have hq3 := q3 k hlt
      simp only [Nat.lt_irrefl, if_false] at hq3
      rcases q2.2 with ⟨-, h0⟩ | ⟨g, cap', cur, hv, hbg, h3, -⟩
      · omega
      simp only [Value.slice.injEq, true_and] at hv
      obtain ⟨rfl, rfl⟩ := hv
      have c1' := (World.ownsRow.cellAt q2 k (by omega)).trans (vd_at Q k (by omega))
      have HST : Hid _ := szRK_step R k hlt
      have hz : base ≤ wr.heap.size := Nat.le_trans hb M0.out.1.size
      have HB8 : Hid (∀ g, (vd Q k).ownBlock = some g → base ≤ g ∧ g < top) := fun g e => ⟨(World.ownsRow.lt hq3 g e).1, q8 k hlt g e⟩
      have HMARK : Hid (Calls Try.prog 33 #[vd Q k, .int .i64 (c + szRK R k)] wr fun e w' => e = .returned (.int .i64 (c + szRK R k + (rw_ R k).length)) ∧ w'.ownsRow base 3 1 (vd Q k) (rw_ R k).length (ints (mk2 (rw_ R k) (c + szRK R k) (rw_ R k).length)) ∧ wr.grownBy w' (vd Q k).ownBlock) := mark_c (c + szRK R k) (by omega) (by omega) (rw_ R k) (vd Q k) _ base _ hls hq3
      have HT : Hid (∀ w2, wr.grownBy w2 (vd Q k).ownBlock → w2.ownsRow base 3 1 (vd Q k) (mkW R c k).length (ints (mkW R c k)) → OwnQ w2 base top v0 (.slice (some ⟨g, 0, none⟩) R.length cap) v2 Q C R.length (fun j => if j = k then mkW R c k else if j < k then mkW R c j else rw_ R j) F) := fun w2 hg ho => OW.out.turn1 k hlt (mkW R c k) hg ho
      have HNI : Hid (∀ w2, wr.grownBy w2 (vd Q k).ownBlock → I w2) := fun w2 hg => HI.out wr w2 k hlt IR.out hg
      have HMW : Hid (mkW R c k = mk2 (rw_ R k) (c + szRK R k) (rw_ R k).length) := rfl
      obtain ⟨u, hu⟩ : ∃ u, vd Q k = u := ⟨_, rfl⟩
      rw [hu] at c1' HMARK HT HB8 HNI
      clear q1 q2 q3 q8 hq3 h3 hu OW
      go_wp2_with fail
      refine Calls.mono HMARK.out ?_
      rintro e w2 ⟨rfl, og, gr⟩
      have O2 : Hid (OwnQ w2 base top v0 (.slice (some ⟨g, 0, none⟩) R.length cap) v2 Q C R.length (fun j => if j = k then mkW R c k else if j < k then mkW R c j else rw_ R j) F) := HT.out w2 gr (by rw [HMW.out, mk2_len]; exact og)
      have M2 : Hid (Mid base top w w2) := M0.out.trans (Mid.grown gr hz HB8.out)
      have I2 : Hid (I w2) := HNI.out w2 gr
      clear og gr HMARK HT HB8 c1' HNI
      go_wp2
      go_roundw
      case rel =>
        refine ⟨k + 1, by omega, by go_num, by rw [HST.out]; exact congrArg (Value.int .i64) (by push_cast; omega), O2.out.cast (fun j _ => ?_), M2.out, I2.out⟩
        by_cases e : j = k
        · subst e; simp
        · simp only [e, if_false]
          by_cases h : j < k
          · rw [if_pos h, if_pos (by omega)]
          · rw [if_neg h, if_neg (by omega)]
      case measure => simp [intOf]; omega
    · obtain rfl : k = R.length := by omega
      have O2 : Hid (OwnQ wr base top v0 (.slice ao R.length cap) v2 Q C R.length (fun j => if j < R.length then mkW R c j else rw_ R j) F) := hown
      clear hown
      go_wp2
      go_ret
      exact ⟨rfl, O2.out.cast (fun j hj => by rw [if_pos hj]), M0.out, IR.out⟩
/-- A machine of words, its rows by name, in memory of its own that ends ahead of top. -/
structure OwnAQ (w : World) (base top : Nat) (v0 v1 v2 v3 : Value) (Q : List Value) (P B F : List Int) (n : Nat) (f : Nat → List Int) : Prop where
  p : w.ownsRow base 3 1 v0 P.length (ints P)
  b : w.ownsRow base 3 1 v1 B.length (ints B)
  f_ : w.ownsRow base 3 1 v2 F.length (ints F)
  pb : aprt v0 v1
  pf : aprt v0 v2
  bf : aprt v1 v2
  q : OwnQ w base top (.slice none 0 0) v3 (.slice none 0 0) Q [] n f []
  pq : ∀ j, j < n → aprt v0 (vd Q j) ∧ aprt v1 (vd Q j) ∧ aprt v2 (vd Q j)
  tp : (∀ g, v0.ownBlock = some g → g < top) ∧ (∀ g, v1.ownBlock = some g → g < top) ∧ ∀ g, v2.ownBlock = some g → g < top
theorem OwnA.q {w : World} {base : Nat} {v0 v1 v2 v3 : Value} {P B F : List Int} {n : Nat} {f : Nat → List Int} (h : OwnA w base v0 v1 v2 v3 P B F n f) : ∃ Q, OwnAQ w base w.heap.size v0 v1 v2 v3 Q P B F n f := by
  obtain ⟨⟨h0, h1, h2⟩, ⟨a1, a2, a3⟩, Q, q1, q2, q3, q4, q5⟩ := h
  exact ⟨Q, h0, h1, h2, a1, a2, a3, ⟨World.ownsRow_nil _ _ _ _, World.ownsRow_nil _ _ _ _, q1, q2, q3, q4, fun _ _ => .inl rfl, fun _ e => by (cases e), fun _ e => by (cases e), fun j hj g e => (World.ownsRow.lt (q3 j hj) g e).2, fun g e => (World.ownsRow.lt q2 g e).2⟩, q5, fun g e => (World.ownsRow.lt h0 g e).2, fun g e => (World.ownsRow.lt h1 g e).2, fun g e => (World.ownsRow.lt h2 g e).2⟩
theorem OwnAQ.a {w : World} {base top : Nat} {v0 v1 v2 v3 : Value} {Q : List Value} {P B F : List Int} {n : Nat} {f : Nat → List Int} (h : OwnAQ w base top v0 v1 v2 v3 Q P B F n f) : OwnA w base v0 v1 v2 v3 P B F n f := by
  obtain ⟨-, -, q1, q2, q3, q4, -⟩ := h.q
  exact ⟨⟨h.p, h.b, h.f_⟩, ⟨h.pb, h.pf, h.bf⟩, Q, q1, q2, q3, q4, h.pq⟩
theorem OwnAQ.keepB {w w' : World} {base top : Nat} {v0 v1 v2 v3 : Value} {Q : List Value} {P B F : List Int} {n : Nat} {f : Nat → List Int} (h : OwnAQ w base top v0 v1 v2 v3 Q P B F n f) (hb : Below w.heap.size w w') : OwnAQ w' base top v0 v1 v2 v3 Q P B F n f :=
  ⟨World.ownsRow.keepB h.p hb, World.ownsRow.keepB h.b hb, World.ownsRow.keepB h.f_ hb, h.pb, h.pf, h.bf, h.q.keepB hb, h.pq, h.tp⟩
/-- A machine that lies behind. -/
theorem OwnAQ.mid {w w' : World} {base top b t : Nat} {v0 v1 v2 v3 : Value} {Q : List Value} {P B F : List Int} {n : Nat} {f : Nat → List Int} (h : OwnAQ w b t v0 v1 v2 v3 Q P B F n f) (hm : Mid base top w w') (hb : top ≤ b) : OwnAQ w' b t v0 v1 v2 v3 Q P B F n f :=
  ⟨own_mid hm h.p hb, own_mid hm h.b hb, own_mid hm h.f_ hb, h.pb, h.pf, h.bf, h.q.mid hm hb, h.pq, h.tp⟩
/-- A machine that lies ahead. -/
theorem OwnAQ.low {w w' : World} {base b t : Nat} {v0 v1 v2 v3 : Value} {Q : List Value} {P B F : List Int} {n : Nat} {f : Nat → List Int} (h : OwnAQ w b t v0 v1 v2 v3 Q P B F n f) (hm : Below base w w') (hb : t ≤ base) : OwnAQ w' b t v0 v1 v2 v3 Q P B F n f :=
  ⟨own_low hm h.p (fun g e => Nat.lt_of_lt_of_le (h.tp.1 g e) hb), own_low hm h.b (fun g e => Nat.lt_of_lt_of_le (h.tp.2.1 g e) hb), own_low hm h.f_ (fun g e => Nat.lt_of_lt_of_le (h.tp.2.2 g e) hb), h.pb, h.pf, h.bf, h.q.low hm hb, h.pq, h.tp⟩
/-- The rows of rows stay where a row of ints of another place turns. -/
theorem OwnQ.apart {w w' : World} {base top b0 n0 : Nat} {v0 v1 v2 u : Value} {xs : List Value} {Q : List Value} {C : List Int} {n : Nat} {f : Nat → List Int} {F : List Bool} (h : OwnQ w base top v0 v1 v2 Q C n f F) (hv : v0 = .slice none 0 0) (hu : v2 = .slice none 0 0) (ho : w.ownsRow b0 3 1 u n0 xs) (hg : w.grownBy w' u.ownBlock) (ha : ∀ j, j < n → aprt u (vd Q j)) : OwnQ w' base top v0 v1 v2 Q C n f F := by
  subst hv hu
  obtain ⟨h0, h2, q1, q2, q3, q4, q5, r⟩ := h
  exact ⟨World.ownsRow.kept h0 hg (.inl rfl), World.ownsRow.kept h2 hg (.inl rfl), q1, World.ownsRow.kept q2 hg (types_apart ne_ints q2 ho), fun j hj => World.ownsRow.kept (q3 j hj) hg (ne_sym (ha j hj)), q4, q5, r⟩
theorem OwnAQ.turn0 {w w' : World} {base top : Nat} {v0 v1 v2 v3 : Value} {Q : List Value} {P P' B F : List Int} {n : Nat} {f : Nat → List Int} (h : OwnAQ w base top v0 v1 v2 v3 Q P B F n f) (hg : w.grownBy w' v0.ownBlock) (h' : w'.ownsRow base 3 1 v0 P'.length (ints P')) : OwnAQ w' base top v0 v1 v2 v3 Q P' B F n f :=
  ⟨h', World.ownsRow.kept h.b hg (ne_sym h.pb), World.ownsRow.kept h.f_ hg (ne_sym h.pf), h.pb, h.pf, h.bf, h.q.apart rfl rfl h.p hg (fun j hj => (h.pq j hj).1), h.pq, h.tp⟩
theorem OwnAQ.turn1 {w w' : World} {base top : Nat} {v0 v1 v2 v3 : Value} {Q : List Value} {P B B' F : List Int} {n : Nat} {f : Nat → List Int} (h : OwnAQ w base top v0 v1 v2 v3 Q P B F n f) (hg : w.grownBy w' v1.ownBlock) (h' : w'.ownsRow base 3 1 v1 B'.length (ints B')) : OwnAQ w' base top v0 v1 v2 v3 Q P B' F n f :=
  ⟨World.ownsRow.kept h.p hg h.pb, h', World.ownsRow.kept h.f_ hg (ne_sym h.bf), h.pb, h.pf, h.bf, h.q.apart rfl rfl h.b hg (fun j hj => (h.pq j hj).2.1), h.pq, h.tp⟩
theorem OwnAQ.turn2 {w w' : World} {base top : Nat} {v0 v1 v2 v3 : Value} {Q : List Value} {P B F F' : List Int} {n : Nat} {f : Nat → List Int} (h : OwnAQ w base top v0 v1 v2 v3 Q P B F n f) (hg : w.grownBy w' v2.ownBlock) (h' : w'.ownsRow base 3 1 v2 F'.length (ints F')) : OwnAQ w' base top v0 v1 v2 v3 Q P B F' n f :=
  ⟨World.ownsRow.kept h.p hg h.pf, World.ownsRow.kept h.b hg h.bf, h', h.pb, h.pf, h.bf, h.q.apart rfl rfl h.f_ hg (fun j hj => (h.pq j hj).2.2), h.pq, h.tp⟩
theorem OwnAQ.at {w : World} {base top : Nat} {a b c e : Option Addr} {n0 n1 n2 n3 c0 c1 c2 c3 : Nat} {Q : List Value} {P B F : List Int} {R : Rw} (h : OwnAQ w base top (.slice a n0 c0) (.slice b n1 c1) (.slice c n2 c2) (.slice e n3 c3) Q P B F R.length (rw_ R)) : IntsAt w a P ∧ IntsAt w b B ∧ IntsAt w c F ∧ RowsAt w e R := by
  obtain ⟨a', b', c', e', ca', cb', cc', ce', e0, e1, e2, e3, i0, i1, i2, i3⟩ := h.a.form
  simp only [Value.slice.injEq] at e0 e1 e2 e3
  obtain ⟨rfl, -, -⟩ := e0
  obtain ⟨rfl, -, -⟩ := e1
  obtain ⟨rfl, -, -⟩ := e2
  obtain ⟨rfl, -, -⟩ := e3
  exact ⟨i0, i1, i2, i3⟩
theorem neA : (3 : TypeId) ≠ 28 := by decide
/-- How many marks a machine takes. -/
def cntA (P B F : List Int) (R : Rw) : Nat := P.length + B.length + F.length + szRK R R.length
def mkP (P : List Int) : List Int := mk2 P 1 P.length
def mkBy (P B : List Int) : List Int := mk2 B (1 + P.length) B.length
def mkFl (P B F : List Int) : List Int := mk2 F (1 + P.length + B.length) F.length
def mkEn (P B F : List Int) (R : Rw) : Nat → List Int := mkW R (1 + P.length + B.length + F.length)
set_option maxRecDepth 100000 in
set_option maxHeartbeats 2000000 in
theorem markA_any (P B F : List Int) (R : Rw) (v0 v1 v2 v3 : Value) (Q : List Value) (base top : Nat) (w : World) (hl : szA P B F R ≤ 1048576) (hb : base ≤ w.heap.size) (h : OwnAQ w base top v0 v1 v2 v3 Q P B F R.length (rw_ R)) :
    Calls Try.prog 26 #[.agg #[v0, v1, v2, v3], .int .i64 1] w fun e w' => e = .returned (.int .i64 (1 + cntA P B F R)) ∧ OwnAQ w' base top v0 v1 v2 v3 Q (mkP P) (mkBy P B) (mkFl P B F) R.length (mkEn P B F R) ∧ Mid base top w w' := by
  have hlP : P.length ≤ 1048576 := by unfold szA at hl; omega
  have hlB : B.length ≤ 1048576 := by unfold szA at hl; omega
  have hlF : F.length ≤ 1048576 := by unfold szA at hl; omega
  have hlsum : P.length + B.length + F.length ≤ 1048576 := by unfold szA at hl; omega
  have HLR : Hid (szR R ≤ 1048576) := by unfold szA at hl; exact (by omega : szR R ≤ 1048576)
  have hlK : szRK R R.length ≤ 1048576 := Nat.le_trans (szRK_bd R _) HLR.out
  have A1 : ∀ o, Below w.heap.size w (w.alloc o) := fun o => (Below.refl _ _).alloc (Nat.le_refl _) o
  obtain ⟨a, ca, rfl⟩ := own_form' h.p
  obtain ⟨b, cb, rfl⟩ := own_form' h.b
  obtain ⟨c, cc, rfl⟩ := own_form' h.f_
  obtain ⟨e, ce, rfl⟩ := own_form' h.q.2.2.2.1
  have HO : Hid (∀ o, OwnAQ (w.alloc o) base top (.slice a P.length ca) (.slice b B.length cb) (.slice c F.length cc) (.slice e R.length ce) Q P B F R.length (rw_ R)) := fun o => h.keepB (A1 o)
  have HCNT : Hid ((1 : Int) + P.length + B.length + F.length + szRK R R.length = 1 + cntA P B F R) := (by unfold cntA; push_cast; omega : (1 : Int) + P.length + B.length + F.length + szRK R R.length = 1 + cntA P B F R)
  clear h hl
  go_enter Try.func26, Try.ntmps26
  go_wp2_with fail
  refine (mark_c 1 (by omega) (by omega) P _ _ base _ hlP (HO.out _).p).mono ?_
  rintro r w1 ⟨rfl, o1, g1⟩
  have hbl : (w.alloc (.cells #[.slice a P.length ca, .slice b B.length cb, .slice c F.length cc, .slice e R.length ce] 28)).heap[w.heap.size]? = some (.cells #[.slice a P.length ca, .slice b B.length cb, .slice c F.length cc, .slice e R.length ce] 28) := heap_last2 _ _ _ rfl
  have hbl1 := grown_blk g1 hbl (own_blk_ne hbl (HO.out _).p neA)
  have O1 : Hid (OwnAQ w1 base top (.slice a P.length ca) (.slice b B.length cb) (.slice c F.length cc) (.slice e R.length ce) Q (mkP P) B F R.length (rw_ R)) := (HO.out _).turn0 g1 (by unfold mkP; rw [mk2_len]; exact o1)
  have M1 : Hid (Mid base top w w1) := (Mid.below (A1 _) hb).trans (Mid.grown g1 (Nat.le_trans hb (A1 _).size) (fun g e => ⟨(World.ownsRow.lt (HO.out (.cells #[] 0)).p g e).1, (HO.out (.cells #[] 0)).tp.1 g e⟩))
  have hb1 : base ≤ w1.heap.size := Nat.le_trans hb M1.out.1.size
  have c1 : w1.cell? ⟨w.heap.size, 1, none⟩ = some (.slice b B.length cb) := cell_of hbl1 1
  have HBL1 : Hid _ := hbl1
  clear o1 g1 hbl HO hbl1
  go_wp2_with fail
  refine (mark_c (1 + P.length) (by omega) (by omega) B _ _ base _ hlB O1.out.b).mono ?_
  rintro r w2 ⟨rfl, o2, g2⟩
  have hbl2 := grown_blk g2 HBL1.out (own_blk_ne HBL1.out O1.out.b neA)
  have O2 : Hid (OwnAQ w2 base top (.slice a P.length ca) (.slice b B.length cb) (.slice c F.length cc) (.slice e R.length ce) Q (mkP P) (mkBy P B) F R.length (rw_ R)) := O1.out.turn1 g2 (by unfold mkBy; rw [mk2_len]; exact o2)
  have M2 : Hid (Mid base top w w2) := M1.out.trans (Mid.grown g2 hb1 (fun g e => ⟨(World.ownsRow.lt O1.out.b g e).1, O1.out.tp.2.1 g e⟩))
  have hb2 : base ≤ w2.heap.size := Nat.le_trans hb M2.out.1.size
  have c2 : w2.cell? ⟨w.heap.size, 2, none⟩ = some (.slice c F.length cc) := cell_of hbl2 2
  have HBL2 : Hid _ := hbl2
  clear o2 g2 hbl2 c1
  go_wp2_with fail
  refine (mark_c (1 + P.length + B.length) (by omega) (by omega) F _ _ base _ hlF O2.out.f_).mono ?_
  rintro r w3 ⟨rfl, o3, g3⟩
  have hbl3 := grown_blk g3 HBL2.out (own_blk_ne HBL2.out O2.out.f_ neA)
  have O3 : Hid (OwnAQ w3 base top (.slice a P.length ca) (.slice b B.length cb) (.slice c F.length cc) (.slice e R.length ce) Q (mkP P) (mkBy P B) (mkFl P B F) R.length (rw_ R)) := O2.out.turn2 g3 (by unfold mkFl; rw [mk2_len]; exact o3)
  have M3 : Hid (Mid base top w w3) := M2.out.trans (Mid.grown g3 hb2 (fun g e => ⟨(World.ownsRow.lt O2.out.f_ g e).1, O2.out.tp.2.2 g e⟩))
  have hb3 : base ≤ w3.heap.size := Nat.le_trans hb M3.out.1.size
  have c3 : w3.cell? ⟨w.heap.size, 3, none⟩ = some (.slice e R.length ce) := cell_of hbl3 3
  clear o3 g3 hbl3 c2
  have HI : Hid (∀ x y : World, ∀ j, j < R.length → (x.ownsRow base 3 1 (.slice a P.length ca) (mkP P).length (ints (mkP P)) ∧ x.ownsRow base 3 1 (.slice b B.length cb) (mkBy P B).length (ints (mkBy P B)) ∧ x.ownsRow base 3 1 (.slice c F.length cc) (mkFl P B F).length (ints (mkFl P B F))) → x.grownBy y (vd Q j).ownBlock → (y.ownsRow base 3 1 (.slice a P.length ca) (mkP P).length (ints (mkP P)) ∧ y.ownsRow base 3 1 (.slice b B.length cb) (mkBy P B).length (ints (mkBy P B)) ∧ y.ownsRow base 3 1 (.slice c F.length cc) (mkFl P B F).length (ints (mkFl P B F)))) := fun x y j hj hx hg =>
    ⟨World.ownsRow.kept hx.1 hg (O3.out.pq j hj).1, World.ownsRow.kept hx.2.1 hg (O3.out.pq j hj).2.1, World.ownsRow.kept hx.2.2 hg (O3.out.pq j hj).2.2⟩
  go_wp2_with fail
  refine (markSS_keep (fun x => x.ownsRow base 3 1 (.slice a P.length ca) (mkP P).length (ints (mkP P)) ∧ x.ownsRow base 3 1 (.slice b B.length cb) (mkBy P B).length (ints (mkBy P B)) ∧ x.ownsRow base 3 1 (.slice c F.length cc) (mkFl P B F).length (ints (mkFl P B F))) (1 + P.length + B.length + F.length) (by omega) (by omega) R _ _ _ Q [] [] base top _ HLR.out hb3 ⟨O3.out.p, O3.out.b, O3.out.f_⟩ HI.out O3.out.q).mono ?_
  rintro r w4 ⟨rfl, o4, m4, i4⟩
  have O4 : Hid (OwnAQ w4 base top (.slice a P.length ca) (.slice b B.length cb) (.slice c F.length cc) (.slice e R.length ce) Q (mkP P) (mkBy P B) (mkFl P B F) R.length (mkEn P B F R)) := ⟨i4.1, i4.2.1, i4.2.2, O3.out.pb, O3.out.pf, O3.out.bf, o4, O3.out.pq, O3.out.tp⟩
  have M4 : Hid (Mid base top w w4) := M3.out.trans m4
  clear o4 m4 i4 c3
  go_wp2
  go_ret
  exact ⟨by rw [← HCNT.out]; rfl, O4.out, M4.out⟩
end Go.Proofs.Ytdhppigjlldfmaa

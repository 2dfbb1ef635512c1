/-
  Machines of states in memory of their own: marked and looked at again by the laws.
-/
import Derived.Test.YtlkcdcdgpklpoaaM6H
import Derived.Test.YtlkcdcdgpklpoaaR5M
namespace Go.Proofs.Ytlkcdcdgpklpoaa
open Go.ChangeShapes Go.WideShapes Go.ChangeAt Go.RowKit
/-- Nothing below base and nothing from top on has turned. -/
def Mid (base top : Nat) (w w' : World) : Prop := Below base w w' ∧ ∀ g, top ≤ g → g < w.heap.size → w'.heap[g]? = w.heap[g]?
theorem Mid.refl (base top : Nat) (w : World) : Mid base top w w := ⟨Below.refl _ _, fun _ _ _ => rfl⟩
theorem Mid.trans {base top : Nat} {a b c : World} (h : Mid base top a b) (k : Mid base top b c) : Mid base top a c :=
  ⟨h.1.trans k.1, fun g hg hl => (k.2 g hg (Nat.lt_of_lt_of_le hl h.1.size)).trans (h.2 g hg hl)⟩
theorem Mid.grown {base top : Nat} {w w' : World} {row : Option Nat} (hg : w.grownBy w' row) (hb : base ≤ w.heap.size) (hr : ∀ g, row = some g → base ≤ g ∧ g < top) : Mid base top w w' :=
  ⟨Below.grown (Below.refl _ _) hg hb (fun g e => (hr g e).1), fun g ht hl => hg.block g hl (fun e => by have := hr g e.symm; omega)⟩
theorem Mid.below {base top : Nat} {w w' : World} (h : Below w.heap.size w w') (hb : base ≤ w.heap.size) : Mid base top w w' := ⟨h.mono hb, fun g _ hl => h.block g hl⟩
/-- A machine, its rows by name, in memory of its own that ends ahead of top. -/
def OwnQ (w : World) (base top : Nat) (v0 v1 v2 : Value) (Q : List Value) (C : List Int) (n : Nat) (f : Nat → List Int) (F : List Bool) : Prop :=
  w.ownsRow base 3 1 v0 C.length (ints C) ∧ w.ownsRow base 4 1 v2 F.length (flags F) ∧ Q.length = n ∧ w.ownsRow base 26 1 v1 n Q ∧ (∀ j, j < n → w.ownsRow base 3 1 (vd Q j) (f j).length (ints (f j))) ∧
    (∀ i j, i < n → j < n → i ≠ j → (vd Q i).ownBlock = none ∨ (vd Q i).ownBlock ≠ (vd Q j).ownBlock) ∧ (∀ j, j < n → v0.ownBlock = none ∨ v0.ownBlock ≠ (vd Q j).ownBlock) ∧
    (∀ g, v0.ownBlock = some g → g < top) ∧ (∀ g, v2.ownBlock = some g → g < top) ∧ (∀ j, j < n → ∀ g, (vd Q j).ownBlock = some g → g < top) ∧ (∀ g, v1.ownBlock = some g → g < top)
theorem OwnD.q {w : World} {base : Nat} {v0 v1 v2 : Value} {C : List Int} {n : Nat} {f : Nat → List Int} {F : List Bool} (h : OwnD w base v0 v1 v2 C n f F) : ∃ Q, OwnQ w base w.heap.size v0 v1 v2 Q C n f F := by
  obtain ⟨h0, h2, Q, q1, q2, q3, q4, q5⟩ := h
  exact ⟨Q, h0, h2, q1, q2, q3, q4, q5, fun g e => (World.ownsRow.lt h0 g e).2, fun g e => (World.ownsRow.lt h2 g e).2, fun j hj g e => (World.ownsRow.lt (q3 j hj) g e).2, fun g e => (World.ownsRow.lt q2 g e).2⟩
theorem OwnQ.d {w : World} {base top : Nat} {v0 v1 v2 : Value} {Q : List Value} {C : List Int} {n : Nat} {f : Nat → List Int} {F : List Bool} (h : OwnQ w base top v0 v1 v2 Q C n f F) : OwnD w base v0 v1 v2 C n f F := by
  obtain ⟨h0, h2, q1, q2, q3, q4, q5, -⟩ := h
  exact ⟨h0, h2, Q, q1, q2, q3, q4, q5⟩
theorem OwnQ.keepB {w w' : World} {base top : Nat} {v0 v1 v2 : Value} {Q : List Value} {C : List Int} {n : Nat} {f : Nat → List Int} {F : List Bool} (h : OwnQ w base top v0 v1 v2 Q C n f F) (hb : Below w.heap.size w w') : OwnQ w' base top v0 v1 v2 Q C n f F := by
  obtain ⟨h0, h2, q1, q2, q3, q4, q5, r⟩ := h
  exact ⟨World.ownsRow.keepB h0 hb, World.ownsRow.keepB h2 hb, q1, World.ownsRow.keepB q2 hb, fun j hj => World.ownsRow.keepB (q3 j hj) hb, q4, q5, r⟩
theorem OwnQ.cast {w : World} {base top : Nat} {v0 v1 v2 : Value} {Q : List Value} {C : List Int} {n : Nat} {f f' : Nat → List Int} {F : List Bool} (h : OwnQ w base top v0 v1 v2 Q C n f F) (he : ∀ j, j < n → f j = f' j) : OwnQ w base top v0 v1 v2 Q C n f' F := by
  obtain ⟨h0, h2, q1, q2, q3, r⟩ := h
  exact ⟨h0, h2, q1, q2, fun j hj => by rw [← he j hj]; exact q3 j hj, r⟩
theorem own_mid {base top b : Nat} {w w' : World} (h : Mid base top w w') {e : TypeId} {size : Nat} {v : Value} {n : Nat} {xs : List Value} (ho : w.ownsRow b e size v n xs) (hb : top ≤ b) : w'.ownsRow b e size v n xs := by
  refine ⟨ho.1, ?_⟩
  rcases ho.2 with h2 | ⟨g, cap, cur, h1, h2, h3, h4⟩
  · exact .inl h2
  · exact .inr ⟨g, cap, cur, h1, h2, by rw [h.2 g (by omega) (Array.getElem?_eq_some_iff.1 h3).1]; exact h3, h4⟩
/-- A machine that lies behind. -/
theorem OwnQ.mid {w w' : World} {base top b t : Nat} {v0 v1 v2 : Value} {Q : List Value} {C : List Int} {n : Nat} {f : Nat → List Int} {F : List Bool} (h : OwnQ w b t v0 v1 v2 Q C n f F) (hm : Mid base top w w') (hb : top ≤ b) : OwnQ w' b t v0 v1 v2 Q C n f F := by
  obtain ⟨h0, h2, q1, q2, q3, q4, q5, r⟩ := h
  exact ⟨own_mid hm h0 hb, own_mid hm h2 hb, q1, own_mid hm q2 hb, fun j hj => own_mid hm (q3 j hj) hb, q4, q5, r⟩
theorem own_low {base : Nat} {w w' : World} (h : Below base w w') {b : Nat} {e : TypeId} {size : Nat} {v : Value} {n : Nat} {xs : List Value} (ho : w.ownsRow b e size v n xs) (hb : ∀ g, v.ownBlock = some g → g < base) : w'.ownsRow b e size v n xs := by
  refine ⟨ho.1, ?_⟩
  rcases ho.2 with h2 | ⟨g, cap, cur, h1, h2, h3, h4⟩
  · exact .inl h2
  · exact .inr ⟨g, cap, cur, h1, h2, by rw [h.block g (hb g (by rw [h1]; rfl))]; exact h3, h4⟩
/-- A machine that lies ahead. -/
theorem OwnQ.low {w w' : World} {base b t : Nat} {v0 v1 v2 : Value} {Q : List Value} {C : List Int} {n : Nat} {f : Nat → List Int} {F : List Bool} (h : OwnQ w b t v0 v1 v2 Q C n f F) (hm : Below base w w') (hb : t ≤ base) : OwnQ w' b t v0 v1 v2 Q C n f F := by
  obtain ⟨h0, h2, q1, q2, q3, q4, q5, r0, r2, rr, r1⟩ := h
  exact ⟨own_low hm h0 (fun g e => Nat.lt_of_lt_of_le (r0 g e) hb), own_low hm h2 (fun g e => Nat.lt_of_lt_of_le (r2 g e) hb), q1, own_low hm q2 (fun g e => Nat.lt_of_lt_of_le (r1 g e) hb), fun j hj => own_low hm (q3 j hj) (fun g e => Nat.lt_of_lt_of_le (rr j hj g e) hb), q4, q5, r0, r2, rr, r1⟩
theorem own_form' {w : World} {base : Nat} {e : TypeId} {v : Value} {n : Nat} {xs : List Value} (h : w.ownsRow base e 1 v n xs) : ∃ ao cap, v = .slice ao n cap := by
  rcases h.2 with ⟨rfl, h0⟩ | ⟨g, cap, cur, rfl, -⟩
  · exact ⟨none, 0, by rw [h0]⟩
  · exact ⟨_, _, rfl⟩
theorem ne_sym {a b : Option Nat} (h : a = none ∨ a ≠ b) : b = none ∨ b ≠ a := by
  cases b with
  | none => exact .inl rfl
  | some g => exact .inr fun e => by rcases h with h | h <;> simp_all
/-- The cuts turn. -/
theorem OwnQ.turn0 {w w' : World} {base top : Nat} {v0 v1 v2 : Value} {Q : List Value} {C C' : List Int} {n : Nat} {f : Nat → List Int} {F : List Bool} (h : OwnQ w base top v0 v1 v2 Q C n f F) (hg : w.grownBy w' v0.ownBlock) (h0' : w'.ownsRow base 3 1 v0 C'.length (ints C')) : OwnQ w' base top v0 v1 v2 Q C' n f F := by
  obtain ⟨h0, h2, q1, q2, q3, q4, q5, r⟩ := h
  exact ⟨h0', World.ownsRow.kept h2 hg (types_apart ne43 h2 h0), q1, World.ownsRow.kept q2 hg (types_apart ne_ints q2 h0), fun j hj => World.ownsRow.kept (q3 j hj) hg (ne_sym (q5 j hj)), q4, q5, r⟩
/-- A row turns. -/
theorem OwnQ.turn1 {w w' : World} {base top : Nat} {v0 v1 v2 : Value} {Q : List Value} {C : List Int} {n : Nat} {f : Nat → List Int} {F : List Bool} (h : OwnQ w base top v0 v1 v2 Q C n f F) (i : Nat) (hi : i < n) (L : List Int) (hg : w.grownBy w' (vd Q i).ownBlock) (h1' : w'.ownsRow base 3 1 (vd Q i) L.length (ints L)) : OwnQ w' base top v0 v1 v2 Q C n (fun j => if j = i then L else f j) F := by
  obtain ⟨h0, h2, q1, q2, q3, q4, q5, r⟩ := h
  refine ⟨World.ownsRow.kept h0 hg (q5 i hi), World.ownsRow.kept h2 hg (types_apart ne43 h2 (q3 i hi)), q1, World.ownsRow.kept q2 hg (types_apart ne_ints q2 (q3 i hi)), fun j hj => ?_, q4, q5, r⟩
  dsimp only
  by_cases e : j = i
  · subst e; rw [if_pos rfl]; exact h1'
  · rw [if_neg e]; exact World.ownsRow.kept (q3 j hj) hg (q4 j i hj hi e)
/-- The flags turn. -/
theorem OwnQ.turn2 {w w' : World} {base top : Nat} {v0 v1 v2 : Value} {Q : List Value} {C : List Int} {n : Nat} {f : Nat → List Int} {F F' : List Bool} (h : OwnQ w base top v0 v1 v2 Q C n f F) (hg : w.grownBy w' v2.ownBlock) (h2' : w'.ownsRow base 4 1 v2 F'.length (flags F')) : OwnQ w' base top v0 v1 v2 Q C n f F' := by
  obtain ⟨h0, h2, q1, q2, q3, q4, q5, r⟩ := h
  exact ⟨World.ownsRow.kept h0 hg (types_apart ne34 h0 h2), h2', q1, World.ownsRow.kept q2 hg (types_apart neI4 q2 h2), fun j hj => World.ownsRow.kept (q3 j hj) hg (types_apart ne34 (q3 j hj) h2), q4, q5, r⟩
/-- The rows as they are marked from c on. -/
def mkW (R : Rw) (c : Int) (j : Nat) : List Int := mk2 (rw_ R j) (c + szRK R j) (rw_ R j).length
theorem szRK_bd (R : Rw) (j : Nat) : szRK R j ≤ szR R := by
  have := szRK_mono R j
  rw [szRK_all] at this
  unfold szR
  omega
set_option maxRecDepth 100000 in
set_option maxHeartbeats 2000000 in
theorem markSS_any (c : Int) (c0 : 0 ≤ c) (c1 : c ≤ 2000000) (R : Rw) (v0 v1 v2 : Value) (Q : List Value) (C : List Int) (F : List Bool) (base top : Nat) (w : World) (hl : szR R ≤ 1048576) (hb : base ≤ w.heap.size) (h : OwnQ w base top v0 v1 v2 Q C R.length (rw_ R) F) :
    Calls Try.prog 86 #[v1, .int .i64 c] w fun e w' => e = .returned (.int .i64 (c + szRK R R.length)) ∧ OwnQ w' base top v0 v1 v2 Q C R.length (mkW R c) F ∧ Mid base top w w' := by
  have hpl : R.length ≤ 1048576 := by unfold szR at hl; omega
  obtain ⟨ao, cap, rfl⟩ := own_form' h.2.2.2.1
  have HO : Hid (OwnQ w base top v0 (.slice ao R.length cap) v2 Q C R.length (rw_ R) F) := h
  have HL : Hid _ := hl
  clear h hl
  go_enter Try.func86, Try.ntmps86
  go_wp2
  go_loopw [1, 5] (fun cc i wr => ∃ k : Nat, k ≤ R.length ∧ i = .int .i64 k ∧ cc = .int .i64 (c + szRK R k) ∧ OwnQ wr base top v0 (.slice ao R.length cap) v2 Q C R.length (fun j => if j < k then mkW R c j else rw_ R j) F ∧ Mid base top w wr) (fun _ i _ => R.length - (intOf i).toNat)
  case atStart => exact ⟨0, Nat.zero_le _, rfl, by simp [szRK], HO.out.cast (fun j _ => by simp), Mid.refl _ _ _⟩
  case round =>
    obtain ⟨k, hk, rfl, rfl, hown, hm⟩ := hrel
    have hbd : szRK R k ≤ 1048576 := Nat.le_trans (szRK_bd R k) HL.out
    have M0 : Hid (Mid base top w wr) := hm
    clear hm
    by_cases hlt : k < R.length
    · have hltI : (k : Int) < (R.length : Int) := by omega
      have hls : (rw_ R k).length ≤ 1048576 := Nat.le_trans (rw_len R k hlt) HL.out
      have OW : Hid (OwnQ wr base top v0 (.slice ao R.length cap) v2 Q C R.length (fun j => if j < k then mkW R c j else rw_ R j) F) := hown
      obtain ⟨-, -, q1, q2, q3, -, -, -, -, q8, -⟩ := hown
      have hq3 := q3 k hlt
      simp only [Nat.lt_irrefl, if_false] at hq3
      rcases q2.2 with ⟨-, h0⟩ | ⟨g, cap', cur, hv, hbg, h3, -⟩
      · omega
      simp only [Value.slice.injEq, true_and] at hv
      obtain ⟨rfl, rfl⟩ := hv
      have c1' := (World.ownsRow.cellAt q2 k (by omega)).trans (vd_at Q k (by omega))
      have HST : Hid _ := szRK_step R k hlt
      have hz : base ≤ wr.heap.size := Nat.le_trans hb M0.out.1.size
      have HB8 : Hid (∀ g, (vd Q k).ownBlock = some g → base ≤ g ∧ g < top) := fun g e => ⟨(World.ownsRow.lt hq3 g e).1, q8 k hlt g e⟩
      have HMARK : Hid (Calls Try.prog 40 #[vd Q k, .int .i64 (c + szRK R k)] wr fun e w' => e = .returned (.int .i64 (c + szRK R k + (rw_ R k).length)) ∧ w'.ownsRow base 3 1 (vd Q k) (rw_ R k).length (ints (mk2 (rw_ R k) (c + szRK R k) (rw_ R k).length)) ∧ wr.grownBy w' (vd Q k).ownBlock) := mark_c (c + szRK R k) (by omega) (by omega) (rw_ R k) (vd Q k) _ base _ hls hq3
      have HT : Hid (∀ w2, wr.grownBy w2 (vd Q k).ownBlock → w2.ownsRow base 3 1 (vd Q k) (mkW R c k).length (ints (mkW R c k)) → OwnQ w2 base top v0 (.slice (some ⟨g, 0, none⟩) R.length cap) v2 Q C R.length (fun j => if j = k then mkW R c k else if j < k then mkW R c j else rw_ R j) F) := fun w2 hg ho => OW.out.turn1 k hlt (mkW R c k) hg ho
      have HMW : Hid (mkW R c k = mk2 (rw_ R k) (c + szRK R k) (rw_ R k).length) := rfl
      obtain ⟨u, hu⟩ : ∃ u, vd Q k = u := ⟨_, rfl⟩
      rw [hu] at c1' HMARK HT HB8
      clear q1 q2 q3 q8 hq3 h3 hu OW
      go_wp2_with fail
      refine Calls.mono HMARK.out ?_
      rintro e w2 ⟨rfl, og, gr⟩
      have O2 : Hid (OwnQ w2 base top v0 (.slice (some ⟨g, 0, none⟩) R.length cap) v2 Q C R.length (fun j => if j = k then mkW R c k else if j < k then mkW R c j else rw_ R j) F) := HT.out w2 gr (by rw [HMW.out, mk2_len]; exact og)
      have M2 : Hid (Mid base top w w2) := M0.out.trans (Mid.grown gr hz HB8.out)
      clear og gr HMARK HT HB8 c1'
      go_wp2
      go_roundw
      case rel =>
        refine ⟨k + 1, by omega, by go_num, by rw [HST.out]; exact congrArg (Value.int .i64) (by push_cast; omega), O2.out.cast (fun j _ => ?_), M2.out⟩
        by_cases e : j = k
        · subst e; simp
        · simp only [e, if_false]
          by_cases h : j < k
          · rw [if_pos h, if_pos (by omega)]
          · rw [if_neg h, if_neg (by omega)]
      case measure => simp [intOf]; omega
    · obtain rfl : k = R.length := by omega
      have O2 : Hid (OwnQ wr base top v0 (.slice ao R.length cap) v2 Q C R.length (fun j => if j < R.length then mkW R c j else rw_ R j) F) := hown
      clear hown
      go_wp2
      go_ret
      exact ⟨rfl, O2.out.cast (fun j hj => by rw [if_pos hj]), M0.out⟩
def trB (c : Int) : Bool := (c % 3 == 0)
/-- Flags, the first k of them as they are marked from c on. -/
def mkF (F : List Bool) (c : Int) (k : Nat) : List Bool := (List.range F.length).map fun i => if i < k then trB (c + i) else F.getD i false
theorem mkF_len (F : List Bool) (c : Int) (k : Nat) : (mkF F c k).length = F.length := by simp [mkF]
theorem mkF_at (F : List Bool) (c : Int) (k i : Nat) (h : i < F.length) : (mkF F c k)[i]? = some (if i < k then trB (c + i) else F.getD i false) := by simp [mkF, h]
theorem mkF_zero (F : List Bool) (c : Int) : mkF F c 0 = F := by
  apply List.ext_getElem?
  intro i
  by_cases h : i < F.length
  · rw [mkF_at F c 0 i h]; simp [List.getD, h]
  · rw [List.getElem?_eq_none (by rw [mkF_len]; omega), List.getElem?_eq_none (by omega)]
theorem mkF_step (F : List Bool) (c : Int) (j : Nat) (h : j < F.length) : (flags (mkF F c j)).set j (.bool (trB (c + j))) = flags (mkF F c (j + 1)) := by
  apply List.ext_getElem?
  intro i
  rw [List.getElem?_set]
  by_cases hi : i < F.length
  · simp only [flags, List.getElem?_map, mkF_at F c _ i hi, List.length_map, mkF_len]
    by_cases e : j = i
    · subst e; simp [hi]
    · simp only [e, if_false, Option.map_some]
      by_cases h2 : i < j
      · rw [if_pos h2, if_pos (by omega)]
      · rw [if_neg h2, if_neg (by omega)]
  · have n1 : (flags (mkF F c j))[i]? = none := List.getElem?_eq_none (by simp [flags, mkF_len]; omega)
    have n2 : (flags (mkF F c (j + 1)))[i]? = none := List.getElem?_eq_none (by simp [flags, mkF_len]; omega)
    rw [n1, n2, if_neg (by omega)]
set_option maxRecDepth 100000 in
set_option maxHeartbeats 1000000 in
theorem markB_any (c : Int) (c0 : 0 ≤ c) (c1 : c ≤ 10000000) (L : List Bool) (v : Value) (base : Nat) (w : World) (hl : L.length ≤ 1048576) (hown : w.ownsRow base 4 1 v L.length (flags L)) :
    Calls Try.prog 107 #[v, .int .i64 c] w fun e w' => e = .returned (.int .i64 (c + L.length)) ∧ w'.ownsRow base 4 1 v L.length (flags (mkF L c L.length)) ∧ w.grownBy w' v.ownBlock := by
  obtain ⟨-, ao, cap, rfl, hA⟩ := flags_of_own hown
  have HO : Hid _ := hown
  clear hown hA
  go_enter Try.func107, Try.ntmps107
  go_wp2
  go_loopw [1, 5] (fun cc i wr => ∃ k : Nat, k ≤ L.length ∧ i = .int .i64 k ∧ cc = .int .i64 (c + k) ∧ wr.ownsRow base 4 1 (.slice ao L.length cap) L.length (flags (mkF L c k)) ∧ w.grownBy wr (Value.ownBlock (.slice ao L.length cap))) (fun _ i _ => L.length - (intOf i).toNat)
  case atStart => exact ⟨0, Nat.zero_le _, rfl, by simp, by rw [mkF_zero]; exact HO.out, grown_refl _ _⟩
  case round =>
    obtain ⟨k, hk, rfl, rfl, hown, hgr⟩ := hrel
    by_cases hlt : k < L.length
    · have hltI : (k : Int) < (L.length : Int) := by omega
      obtain ⟨g, cap', cur, hv, hbg, hrest⟩ : ∃ g cap' cur, Value.slice ao L.length cap = .slice (some ⟨g, 0, none⟩) L.length cap' ∧ base ≤ g ∧ wr.heap[g]? = some (.cells cur 4 (0, 0)) := by
        rcases hown.2 with ⟨h1, h2⟩ | ⟨g, cap', cur, h1, h2, h3, _⟩
        · omega
        · exact ⟨g, cap', cur, h1, h2, h3⟩
      simp only [Value.slice.injEq, true_and] at hv
      obtain ⟨rfl, rfl⟩ := hv
      have hfz := hown.frozenAt k
      have hcell := hown.cellAt k (by omega)
      have hget : (flags (mkF L c k))[k]? = some (.bool (L.getD k false)) := by simp [flags, mkF_at L c k k hlt]
      rw [hget] at hcell
      have hst := hown.stored k (.bool (trB (c + k)))
      rw [mkF_step L c k hlt] at hst
      have HST : Hid _ := hst
      have HGR : Hid _ := hgr
      clear hst hown hgr hrest hget
      generalize L.getD k false = x at *
      go_wp2
      go_roundw
      case rel => exact ⟨k + 1, by omega, by go_num, by go_num, HST.out.1, grown_trans HGR.out HST.out.2⟩
      case measure => simp [intOf]; omega
    · go_wp2
      go_ret
      obtain rfl : k = L.length := by omega
      exact ⟨rfl, hown, hgr⟩
end Go.Proofs.Ytlkcdcdgpklpoaa

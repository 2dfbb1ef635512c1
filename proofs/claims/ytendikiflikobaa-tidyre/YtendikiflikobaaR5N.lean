/-
  The laws' own copy of a list of nodes, in memory of its own; its marks, that turn nothing behind it.
-/
import Derived.Test.YtendikiflikobaaR5M
namespace Go.Proofs.Ytendikiflikobaa
open Go.ChangeShapes Go.WideShapes Go.ChangeAt Go.RowKit
theorem fl2_set2 : ∀ (Q : List (Int × Value)) (j : Nat) (u : Value), (fl2 Q).set (j * 2 + 1) u = fl2 (Q.set j ((qd Q j).1, u))
  | [], j, u => by simp [fl2]
  | q :: r, 0, u => by simp [fl2, qd]
  | q :: r, j + 1, u => by
    have := fl2_set2 r j u
    rw [show (j + 1) * 2 + 1 = (j * 2 + 1) + 1 + 1 by omega]
    simpa [fl2, qd] using this
theorem made_fl2 (n : Nat) : (madeCells #[.int .i64 0, .slice none 0 0] (n * 2)).toList = fl2 (List.replicate n (0, .slice none 0 0)) := by
  apply List.ext_getElem?
  intro i
  by_cases h : i < n * 2
  · have hl : i < (madeCells #[.int .i64 0, .slice none 0 0] (n * 2)).size := by rw [size_madeCells]; exact h
    rw [Array.getElem?_toList, Array.getElem?_eq_getElem hl]
    have hq : qd (List.replicate n ((0 : Int), Value.slice none 0 0)) (i / 2) = (0, .slice none 0 0) := by
      simp [qd, List.getD, show i / 2 < n by omega]
    have h2 := fl2_at (List.replicate n ((0 : Int), Value.slice none 0 0)) (i / 2) (by simp; omega)
    rw [hq] at h2
    rcases Nat.mod_two_eq_zero_or_one i with e | e
    · have e' : i / 2 * 2 = i := by omega
      rw [e'] at h2
      rw [h2.1]
      simp [madeCells, e]
    · have e' : i / 2 * 2 + 1 = i := by omega
      rw [e'] at h2
      rw [h2.2]
      simp [madeCells, e]
  · rw [List.getElem?_eq_none (by simp [size_madeCells]; omega), List.getElem?_eq_none (by rw [fl2_len]; simp; omega)]
/-- Nothing below base and nothing from top on has turned. -/
def MidT (base top : Nat) (w w' : World) : Prop := Below base w w' ∧ ∀ g, top ≤ g → g < w.heap.size → w'.heap[g]? = w.heap[g]?
theorem MidT.refl (base top : Nat) (w : World) : MidT base top w w := ⟨Below.refl _ _, fun _ _ _ => rfl⟩
theorem MidT.trans {base top : Nat} {a b c : World} (h : MidT base top a b) (k : MidT base top b c) : MidT base top a c :=
  ⟨h.1.trans k.1, fun g hg hl => (k.2 g hg (Nat.lt_of_lt_of_le hl h.1.size)).trans (h.2 g hg hl)⟩
theorem MidT.grown {base top : Nat} {w w' : World} {row : Option Nat} (hg : w.grownBy w' row) (hb : base ≤ w.heap.size) (hr : ∀ g, row = some g → base ≤ g ∧ g < top) : MidT base top w w' :=
  ⟨Below.grown (Below.refl _ _) hg hb (fun g e => (hr g e).1), fun g ht hl => hg.block g hl (fun e => by have := hr g e.symm; omega)⟩
theorem own_midT {base top b : Nat} {w w' : World} (h : MidT base top w w') {e : TypeId} {size : Nat} {v : Value} {n : Nat} {xs : List Value} (ho : w.ownsRow b e size v n xs) (hb : top ≤ b) : w'.ownsRow b e size v n xs := by
  refine ⟨ho.1, ?_⟩
  rcases ho.2 with h2 | ⟨g, cap, cur, h1, h2, h3, h4⟩
  · exact .inl h2
  · exact .inr ⟨g, cap, cur, h1, h2, by rw [h.2 g (by omega) (Array.getElem?_eq_some_iff.1 h3).1]; exact h3, h4⟩
/-- Nodes that lie behind. -/
theorem OwnF.mid {w w' : World} {base top b : Nat} {v : Value} {n : Nat} {f : Nat → Nd} (h : OwnF w b v n f) (hm : MidT base top w w') (hb : top ≤ b) : OwnF w' b v n f := by
  obtain ⟨Q, hQ, hr, hs, ha⟩ := h
  exact ⟨Q, hQ, own_midT hm hr hb, fun j hj => ⟨(hs j hj).1, own_midT hm (hs j hj).2 hb⟩, ha⟩
/-- Nodes in memory of their own that ends ahead of top. -/
def OwnT (w : World) (base top : Nat) (v : Value) (n : Nat) (f : Nat → Nd) : Prop :=
  ∃ Q : List (Int × Value), Q.length = n ∧ w.ownsRow base 81 2 v n (fl2 Q) ∧ (∀ j, j < n → (qd Q j).1 = (f j).1 ∧ w.ownsRow base 3 1 (qd Q j).2 (f j).2.length (ints (f j).2)) ∧
    (∀ i j, i < n → j < n → i ≠ j → (qd Q i).2.ownBlock = none ∨ (qd Q i).2.ownBlock ≠ (qd Q j).2.ownBlock) ∧ (∀ g, v.ownBlock = some g → g < top) ∧ ∀ j, j < n → ∀ g, (qd Q j).2.ownBlock = some g → g < top
theorem OwnF.top {w : World} {base : Nat} {v : Value} {n : Nat} {f : Nat → Nd} (h : OwnF w base v n f) : OwnT w base w.heap.size v n f := by
  obtain ⟨Q, hQ, hr, hs, ha⟩ := h
  exact ⟨Q, hQ, hr, hs, ha, fun g hg => (World.ownsRow.lt hr g hg).2, fun j hj g hg => (World.ownsRow.lt (hs j hj).2 g hg).2⟩
theorem OwnT.f {w : World} {base top : Nat} {v : Value} {n : Nat} {f : Nat → Nd} (h : OwnT w base top v n f) : OwnF w base v n f := by
  obtain ⟨Q, hQ, hr, hs, ha, -, -⟩ := h
  exact ⟨Q, hQ, hr, hs, ha⟩
theorem OwnT.keepB {w w' : World} {base top : Nat} {v : Value} {n : Nat} {f : Nat → Nd} (h : OwnT w base top v n f) (hb : Below w.heap.size w w') : OwnT w' base top v n f := by
  obtain ⟨Q, hQ, hr, hs, ha, r⟩ := h
  exact ⟨Q, hQ, World.ownsRow.keepB hr hb, fun j hj => ⟨(hs j hj).1, World.ownsRow.keepB (hs j hj).2 hb⟩, ha, r⟩
theorem OwnT.cast {w : World} {base top : Nat} {v : Value} {n : Nat} {f f' : Nat → Nd} (h : OwnT w base top v n f) (he : ∀ j, j < n → f j = f' j) : OwnT w base top v n f' := by
  obtain ⟨Q, hQ, hr, hs, r⟩ := h
  exact ⟨Q, hQ, hr, fun j hj => by rw [← he j hj]; exact hs j hj, r⟩
/-- Node i is turned. -/
theorem OwnT.mark {w w2 : World} {base top g cap : Nat} {n : Nat} {f : Nat → Nd} (i : Nat) (hi : i < n) (x : Int) (s : List Int) (Q : List (Int × Value)) (hQ : Q.length = n) (hr : w.ownsRow base 81 2 (.slice (some ⟨g, 0, none⟩) n cap) n (fl2 Q))
    (hs : ∀ j, j < n → (qd Q j).1 = (f j).1 ∧ w.ownsRow base 3 1 (qd Q j).2 (f j).2.length (ints (f j).2)) (ha : ∀ i j, i < n → j < n → i ≠ j → (qd Q i).2.ownBlock = none ∨ (qd Q i).2.ownBlock ≠ (qd Q j).2.ownBlock)
    (hv : g < top) (hq : ∀ j, j < n → ∀ g, (qd Q j).2.ownBlock = some g → g < top)
    (ho : w2.ownsRow base 3 1 (qd Q i).2 s.length (ints s)) (hg : (w.setCell ⟨g, i * 2, none⟩ (.int .i64 x)).grownBy w2 (qd Q i).2.ownBlock) : OwnT w2 base top (.slice (some ⟨g, 0, none⟩) n cap) n (fun j => if j = i then (x, s) else f j) := by
  have st := World.ownsRow.stored hr (i * 2) (.int .i64 x)
  rw [fl2_set] at st
  have set1 : ∀ j, j < n → (w.setCell ⟨g, i * 2, none⟩ (.int .i64 x)).ownsRow base 3 1 (qd Q j).2 (f j).2.length (ints (f j).2) := fun j hj => World.ownsRow.kept (hs j hj).2 st.2 (kinds_apart' hr (hs j hj).2)
  have sec : ∀ j, (qd (Q.set i (x, (qd Q i).2)) j).2 = (qd Q j).2 := fun j => by
    rw [qd_set Q i j _ (by omega)]
    split
    · rename_i e; subst e; rfl
    · rfl
  refine ⟨Q.set i (x, (qd Q i).2), by simp [hQ], World.ownsRow.kept st.1 hg (kinds_apart st.1 (set1 i hi)), fun j hj => ?_, fun a b ha' hb' hab => ?_, fun g' hg' => by simp [Value.ownBlock] at hg'; omega, fun j hj g' hg' => ?_⟩
  · rw [qd_set Q i j _ (by omega)]
    dsimp only
    by_cases e : j = i
    · subst e
      rw [if_pos rfl, if_pos rfl]
      exact ⟨rfl, ho⟩
    · rw [if_neg (fun h => e h.symm), if_neg e]
      exact ⟨(hs j hj).1, World.ownsRow.kept (set1 j hj) hg (ha j i hj hi e)⟩
  · rw [sec a, sec b]
    exact ha a b ha' hb' hab
  · rw [sec j] at hg'
    exact hq j hj g' hg'
/-- Node k is laid. -/
theorem OwnF.lay {w : World} {base g cap : Nat} {n : Nat} {f : Nat → Nd} (k : Nat) (hk : k < n) (x : Nd) (u : Value) (Q : List (Int × Value)) (hQ : Q.length = n) (hr : w.ownsRow base 81 2 (.slice (some ⟨g, 0, none⟩) n cap) n (fl2 Q))
    (hs : ∀ j, j < n → (qd Q j).1 = (f j).1 ∧ w.ownsRow base 3 1 (qd Q j).2 (f j).2.length (ints (f j).2)) (ha : ∀ i j, i < n → j < n → i ≠ j → (qd Q i).2.ownBlock = none ∨ (qd Q i).2.ownBlock ≠ (qd Q j).2.ownBlock)
    (hu : w.ownsRow base 3 1 u x.2.length (ints x.2)) (hn : ∀ j, j < n → (qd Q j).2.ownBlock = none ∨ (qd Q j).2.ownBlock ≠ u.ownBlock) :
    OwnF ((w.setCell ⟨g, k * 2, none⟩ (.int .i64 x.1)).setCell ⟨g, k * 2 + 1, none⟩ u) base (.slice (some ⟨g, 0, none⟩) n cap) n (fun j => if j = k then x else f j) := by
  have st := World.ownsRow.stored hr (k * 2) (.int .i64 x.1)
  rw [fl2_set] at st
  have st2 := World.ownsRow.stored st.1 (k * 2 + 1) u
  rw [fl2_set2] at st2
  have hq1 : (qd (Q.set k (x.1, (qd Q k).2)) k).1 = x.1 := by rw [qd_set Q k k _ (by omega), if_pos rfl]
  rw [hq1, List.set_set] at st2
  have keep : ∀ {v' : Value} {m : Nat} {xs : List Value}, w.ownsRow base 3 1 v' m xs → ((w.setCell ⟨g, k * 2, none⟩ (.int .i64 x.1)).setCell ⟨g, k * 2 + 1, none⟩ u).ownsRow base 3 1 v' m xs := fun {v' m xs} h => by
    have h1 := World.ownsRow.kept h st.2 (kinds_apart' hr h)
    exact World.ownsRow.kept h1 st2.2 (kinds_apart' st.1 h1)
  refine ⟨Q.set k (x.1, u), by simp [hQ], st2.1, fun j hj => ?_, fun a b ha' hb' hab => ?_⟩
  · rw [qd_set Q k j _ (by omega)]
    dsimp only
    by_cases e : j = k
    · subst e
      rw [if_pos rfl, if_pos rfl]
      exact ⟨rfl, keep hu⟩
    · rw [if_neg (fun h => e h.symm), if_neg e]
      exact ⟨(hs j hj).1, keep (hs j hj).2⟩
  · rw [qd_set Q k a _ (by omega), qd_set Q k b _ (by omega)]
    by_cases e1 : k = a
    · subst e1
      rw [if_pos rfl, if_neg hab]
      show u.ownBlock = none ∨ u.ownBlock ≠ (qd Q b).2.ownBlock
      by_cases hub : u.ownBlock = none
      · exact .inl hub
      · rcases hn b hb' with h | h
        · exact .inr (fun e => hub (e.trans h))
        · exact .inr (fun e => h e.symm)
    · rw [if_neg e1]
      by_cases e2 : k = b
      · subst e2
        rw [if_pos rfl]
        exact hn a ha'
      · rw [if_neg e2]
        exact ha a b ha' hb' hab
theorem make_resF (w : World) (n : Nat) (hn : n ≤ 1048576) : ∃ w', (Instr.makeSlice 24 (.int .i64 (n : Int)) (.int .i64 (n : Int))).run Try.prog w = .ok (.slice (some ⟨w.heap.size, 0, none⟩) n n) w' ∧
    OwnF w' w.heap.size (.slice (some ⟨w.heap.size, 0, none⟩) n n) n (fun _ => (0, [])) ∧ Below w.heap.size w w' := by
  have hinfo : ∃ i, Try.prog.info? 81 = some i ∧ i.zero = some (.agg #[.int .i64 0, .slice none 0 0]) ∧ i.size = 2 ∧ i.bytes = 32 := by
    have h : (Try.prog.info? 81).map (fun i => (i.zero, i.size, i.bytes)) = some (some (.agg #[.int .i64 0, .slice none 0 0]), 2, 32) := by kernel_rfl
    cases hi : Try.prog.info? 81 with
    | none => rw [hi] at h; cases h
    | some i =>
      rw [hi] at h
      simp only [Option.map_some, Option.some.injEq, Prod.mk.injEq] at h
      exact ⟨i, rfl, h.1, h.2.1, h.2.2⟩
  obtain ⟨i0, hi, hz0, hz1, hz2⟩ := hinfo
  obtain ⟨w1, h1, h2, h3⟩ := run_make_full (P := Try.prog) w w.heap.size 24 81 i0 (.agg #[.int .i64 0, .slice none 0 0]) 2 Try.underlying24 hi hz0 hz1 .i64 .i64 n (by rw [hz2]; omega) (by unfold maxLen; omega) (Nat.le_refl _)
  have hb : Below w.heap.size w w1 := Below.grown (Below.refl _ _) h3 (Nat.le_refl _) (fun g hg => by cases hg)
  rw [show (Value.agg #[Value.int .i64 0, Value.slice none 0 0]).cells = #[Value.int .i64 0, Value.slice none 0 0] from rfl, made_fl2] at h2
  have hq : ∀ j, j < n → qd (List.replicate n ((0 : Int), Value.slice none 0 0)) j = (0, .slice none 0 0) := fun j hj => by simp [qd, List.getD, hj]
  exact ⟨w1, h1, ⟨_, by simp, h2, fun j hj => by rw [hq j hj]; exact ⟨rfl, World.ownsRow_nil _ _ _ _⟩, fun i j hi hj _ => by rw [hq i hi]; exact .inl rfl⟩, hb⟩
set_option maxRecDepth 100000 in
set_option maxHeartbeats 2000000 in
theorem toReT_any (P : List Nd) (ao : Option Addr) (cap : Nat) (w : World) (hl : szP P ≤ 1048576) (hA : ResAt w ao P) :
    Calls Try.prog 26 #[.slice ao P.length cap] w fun e w' => ∃ v, e = .returned v ∧ OwnF w' w.heap.size v P.length (nd P) ∧ Below w.heap.size w w' := by
  have hpl : P.length ≤ 1048576 := by unfold szP at hl; omega
  obtain ⟨w1, hmk, how, hb1⟩ := make_resF w P.length hpl
  have HA : Hid _ := hA
  have HL : Hid _ := hl
  have HO : Hid (OwnF w1 w.heap.size (.slice (some ⟨w.heap.size, 0, none⟩) P.length P.length) P.length (fun _ => (0, []))) := how
  have HB : Hid _ := hb1
  clear hA hl how hb1
  go_enter Try.func26, Try.ntmps26
  go_wp2
  go_loopw [4] (fun i wr => ∃ k : Nat, k ≤ P.length ∧ i = .int .i64 k ∧ OwnF wr w.heap.size (.slice (some ⟨w.heap.size, 0, none⟩) P.length P.length) P.length (fun j => if j < k then nd P j else (0, [])) ∧ Below w.heap.size w wr) (fun i _ => P.length - (intOf i).toNat)
  case atStart => exact ⟨0, Nat.zero_le _, rfl, OwnF.cast HO.out (fun j _ => by simp), HB.out⟩
  case round =>
    obtain ⟨k, hk, rfl, hrow, hbw⟩ := hrel
    have HR : Hid (OwnF wr w.heap.size (.slice (some ⟨w.heap.size, 0, none⟩) P.length P.length) P.length (fun j => if j < k then nd P j else (0, []))) := hrow
    have BW0 : Hid _ := hbw
    clear hrow hbw
    by_cases hlt : k < P.length
    · have hltI : (k : Int) < (P.length : Int) := by omega
      obtain ⟨b1, o1, sa, sc, rfl, l1, h0, h1, iS⟩ := HA.out k hlt
      have hls : (nd P k).2.length ≤ 1048576 := Nat.le_trans (nd_len P k hlt) HL.out
      have g0 : wr.cell? ⟨b1, o1 + k * 2, none⟩ = some (.int .i64 (nd P k).1) := (BW0.out.cell (p := ⟨b1, o1 + k * 2, none⟩) l1).trans h0
      have g1 : wr.cell? ⟨b1, o1 + k * 2 + 1, none⟩ = some (.slice sa (nd P k).2.length sc) := (BW0.out.cell (p := ⟨b1, o1 + k * 2 + 1, none⟩) l1).trans h1
      have IS : Hid _ := IntsAt.keepB iS BW0.out
      clear h0 h1 iS
      go_wp2_with fail
      refine (toRe_any (nd P k) sa sc _ hls IS.out).mono ?_
      rintro e w2 ⟨v, rfl, ox, b2⟩
      obtain ⟨Q, hQ, hr, hs, ha⟩ := HR.out
      have hnew : ∀ j, j < P.length → (qd Q j).2.ownBlock = none ∨ (qd Q j).2.ownBlock ≠ v.ownBlock := fun j hj => by
        cases hv : (qd Q j).2.ownBlock with
        | none => exact .inl rfl
        | some g =>
          have h1 := (World.ownsRow.lt (hs j hj).2 g hv).2
          exact .inr fun e => by have h2 := (World.ownsRow.lt ox g e.symm).1; omega
      have hr2 := World.ownsRow.keepB hr b2
      have hlt2 : w.heap.size ≤ wr.heap.size := BW0.out.size
      have OX : w2.ownsRow w.heap.size 3 1 v (nd P k).2.length (ints (nd P k).2) := own_mono ox hlt2
      have B2 : Hid (Below w.heap.size w w2) := BW0.out.trans (b2.mono hlt2)
      have HPUT : Hid (OwnF ((w2.setCell ⟨w.heap.size, k * 2, none⟩ (.int .i64 (nd P k).1)).setCell ⟨w.heap.size, k * 2 + 1, none⟩ v) w.heap.size (.slice (some ⟨w.heap.size, 0, none⟩) P.length P.length) P.length (fun j => if j = k then nd P k else if j < k then nd P j else (0, []))) := OwnF.lay k hlt (nd P k) v Q hQ hr2 (fun j hj => ⟨(hs j hj).1, World.ownsRow.keepB (hs j hj).2 b2⟩) ha OX hnew
      have hf := fl2_at Q k (by omega)
      have d1 := (World.ownsRow.cellAt hr2 (k * 2) (by omega)).trans hf.1
      have d2 := (World.ownsRow.cellAt hr2 (k * 2 + 1) (by omega)).trans hf.2
      have z1 := hr2.frozenAt (k * 2)
      have z2 := hr2.frozenAt (k * 2 + 1)
      have d2' : (w2.setCell ⟨w.heap.size, k * 2, none⟩ (.int .i64 (nd P k).1)).cell? ⟨w.heap.size, k * 2 + 1, none⟩ = some (qd Q k).2 := (set_other _ _ _ _ _ _ (by omega)).trans d2
      have z2' : (w2.setCell ⟨w.heap.size, k * 2, none⟩ (.int .i64 (nd P k).1)).frozen? ⟨w.heap.size, k * 2 + 1, none⟩ = false := (World.frozen?_setCell _ _ _ _).trans z2
      obtain ⟨-, va, vc, rfl, -⟩ := ints_of_own ox
      clear b2 ox g0 g1 hr hs ha hr2 hnew hQ hf OX
      generalize (qd Q k).2 = uu at d2 d2'
      generalize (qd Q k).1 = uo at d1
      go_wp2
      go_roundw
      case rel =>
        refine ⟨k + 1, by omega, by go_num, OwnF.cast HPUT.out (fun j _ => ?_), Below.grown (Below.grown B2.out (grown_set w2 w.heap.size (k * 2) _) B2.out.size (fun g e => by have := Option.some.inj e; omega)) (grown_set _ w.heap.size (k * 2 + 1) _) (by have := B2.out.size; simpa [World.setCell] using this) (fun g e => by have := Option.some.inj e; omega)⟩
        by_cases e : j = k
        · subst e; simp
        · simp only [e, if_false]
          by_cases h : j < k
          · rw [if_pos h, if_pos (by omega)]
          · rw [if_neg h, if_neg (by omega)]
      case measure => simp [intOf]; omega
    · obtain rfl : k = P.length := by omega
      go_wp2
      go_ret
      exact ⟨_, rfl, OwnF.cast HR.out (fun j hj => by rw [if_pos hj]), BW0.out⟩
set_option maxRecDepth 100000 in
set_option maxHeartbeats 2000000 in
theorem markT_any (P : List Nd) (v : Value) (base top : Nat) (w : World) (hl : szP P ≤ 1048576) (h : OwnT w base top v P.length (nd P)) :
    Calls Try.prog 30 #[v, .int .i64 1] w fun e w' => e = .returned (.int .i64 (1 + szP P)) ∧ OwnT w' base top v P.length (mkR P) ∧ MidT base top w w' := by
  have hpl : P.length ≤ 1048576 := by unfold szP at hl; omega
  obtain ⟨ao, cap, rfl, -⟩ := h.f.form
  have HO : Hid (OwnT w base top (.slice ao P.length cap) P.length (nd P)) := h
  have HL : Hid _ := hl
  clear h hl
  go_enter Try.func30, Try.ntmps30
  go_wp2
  go_loopw [1, 5] (fun c i wr => ∃ k : Nat, k ≤ P.length ∧ i = .int .i64 k ∧ c = .int .i64 (cntR P k) ∧ OwnT wr base top (.slice ao P.length cap) P.length (fun j => if j < k then mkR P j else nd P j) ∧ MidT base top w wr) (fun _ i _ => P.length - (intOf i).toNat)
  case atStart => exact ⟨0, Nat.zero_le _, rfl, by simp [cntR, szK], HO.out.cast (fun j _ => by simp), MidT.refl _ _ _⟩
  case round =>
    obtain ⟨k, hk, rfl, rfl, hown, hbw⟩ := hrel
    obtain ⟨hc0, hc1⟩ := cntR_bd P k hk
    have BW0 : Hid _ := hbw
    have hc2 : cntR P k ≤ 1048577 := by have := HL.out; omega
    clear hc1 hbw
    by_cases hlt : k < P.length
    · have hltI : (k : Int) < (P.length : Int) := by omega
      have hls : (nd P k).2.length ≤ 1048576 := Nat.le_trans (nd_len P k hlt) HL.out
      obtain ⟨Q, hQ, hr, hs, ha, hv, hq⟩ := hown
      rcases hr.2 with ⟨-, h0⟩ | ⟨g, cap', cur, hv', h2, h3, -⟩
      · omega
      simp only [Value.slice.injEq, true_and] at hv'
      obtain ⟨rfl, rfl⟩ := hv'
      have hgt : g < top := hv g rfl
      have hf := fl2_at Q k (by omega)
      have c0 := (World.ownsRow.cellAt hr (k * 2) (by omega)).trans hf.1
      have c1 := (World.ownsRow.cellAt hr (k * 2 + 1) (by omega)).trans hf.2
      have fz := hr.frozenAt (k * 2)
      have hgl : g < wr.heap.size := (Array.getElem?_eq_some_iff.1 h3).1
      have st := World.ownsRow.stored hr (k * 2) (.int .i64 (cntR P k))
      have sk : (wr.setCell ⟨g, k * 2, none⟩ (.int .i64 (cntR P k))).ownsRow base 3 1 (qd Q k).2 (nd P k).2.length (ints (nd P k).2) := by
        have := (hs k hlt).2
        simp only [Nat.lt_irrefl, if_false] at this
        exact World.ownsRow.kept this st.2 (kinds_apart' hr this)
      have c1' : (wr.setCell ⟨g, k * 2, none⟩ (.int .i64 (cntR P k))).cell? ⟨g, k * 2 + 1, none⟩ = some (qd Q k).2 := (set_other _ _ _ _ _ _ (by omega)).trans c1
      have HMARK : Hid (Calls Try.prog 42 #[(qd Q k).2, .int .i64 (cntR P k + 1)] (wr.setCell ⟨g, k * 2, none⟩ (.int .i64 (cntR P k))) fun e w' => e = .returned (.int .i64 (cntR P k + 1 + (nd P k).2.length)) ∧ w'.ownsRow base 3 1 (qd Q k).2 (nd P k).2.length (ints (mk2 (nd P k).2 (cntR P k + 1) (nd P k).2.length)) ∧ (wr.setCell ⟨g, k * 2, none⟩ (.int .i64 (cntR P k))).grownBy w' (qd Q k).2.ownBlock) := mark_c (cntR P k + 1) (by omega) (by omega) (nd P k).2 (qd Q k).2 _ base _ hls sk
      have HFIN : Hid (∀ w2, w2.ownsRow base 3 1 (qd Q k).2 (mk2 (nd P k).2 (cntR P k + 1) (nd P k).2.length).length (ints (mk2 (nd P k).2 (cntR P k + 1) (nd P k).2.length)) → (wr.setCell ⟨g, k * 2, none⟩ (.int .i64 (cntR P k))).grownBy w2 (qd Q k).2.ownBlock → OwnT w2 base top (.slice (some ⟨g, 0, none⟩) P.length cap) P.length (fun j => if j = k then (cntR P k, mk2 (nd P k).2 (cntR P k + 1) (nd P k).2.length) else (if j < k then mkR P j else nd P j))) := fun w2 ho hg => OwnT.mark k hlt (cntR P k) _ Q hQ hr hs ha hgt hq ho hg
      have hsz : (wr.setCell ⟨g, k * 2, none⟩ (.int .i64 (cntR P k))).heap.size = wr.heap.size := by simp [World.setCell]
      have hle1 : base ≤ wr.heap.size := Nat.le_trans h2 (Nat.le_of_lt hgl)
      have bel1 : MidT base top w (wr.setCell ⟨g, k * 2, none⟩ (.int .i64 (cntR P k))) := MidT.trans BW0.out (MidT.grown (grown_set wr g (k * 2) _) hle1 (fun g' e => by have := Option.some.inj e; omega))
      have HBK : Hid (∀ w2 : World, (wr.setCell ⟨g, k * 2, none⟩ (.int .i64 (cntR P k))).grownBy w2 (qd Q k).2.ownBlock → MidT base top w w2) := fun w2 hg => MidT.trans bel1 (MidT.grown hg (by omega) (fun g' e => ⟨(World.ownsRow.lt sk g' e).1, hq k hlt g' e⟩))
      have HST : Hid _ := cntR_step P k hlt
      clear hf hr hs ha h3 sk st hQ hsz hle1 bel1 hv hq hgt
      obtain ⟨u, hu⟩ : ∃ u, (qd Q k).2 = u := ⟨_, rfl⟩
      rw [hu] at c1 c1' HMARK HFIN HBK
      clear hu
      go_wp2_with fail
      refine Calls.mono HMARK.out ?_
      rintro e w2 ⟨rfl, og, gr⟩
      have O2 : Hid (OwnT w2 base top (.slice (some ⟨g, 0, none⟩) P.length cap) P.length (fun j => if j = k then (cntR P k, mk2 (nd P k).2 (cntR P k + 1) (nd P k).2.length) else (if j < k then mkR P j else nd P j))) := HFIN.out w2 (by rw [mk2_len]; exact og) gr
      have B2 : Hid _ := HBK.out w2 gr
      clear og gr HMARK HFIN HBK c0 c1 c1' fz
      go_wp2
      go_roundw
      case rel =>
        refine ⟨k + 1, by omega, by go_num, by rw [HST.out], O2.out.cast (fun j _ => ?_), B2.out⟩
        by_cases e : j = k
        · subst e; simp [mkR]
        · simp only [e, if_false]
          by_cases h : j < k
          · rw [if_pos h, if_pos (by omega)]
          · rw [if_neg h, if_neg (by omega)]
      case measure => simp [intOf]; omega
    · obtain rfl : k = P.length := by omega
      have O2 : Hid (OwnT wr base top (.slice ao P.length cap) P.length (fun j => if j < P.length then mkR P j else nd P j)) := hown
      have HALL : Hid _ := cntR_all P
      clear hown
      go_wp2
      go_ret
      exact ⟨by rw [← HALL.out] <;> rfl, O2.out.cast (fun j hj => by rw [if_pos hj]), BW0.out⟩
end Go.Proofs.Ytendikiflikobaa

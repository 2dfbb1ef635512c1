/-
  Lists of nodes in memory of their own: marked and looked at again by the laws.
-/
import Derived.Test.YtlkcdcdgpklpoaaR5D
import Derived.Test.YtlkcdcdgpklpoaaMarkC
namespace Go.Proofs.Ytlkcdcdgpklpoaa
open Go.ChangeShapes Go.WideShapes Go.ChangeAt Go.RowKit
/-- Ops and slices as cells. -/
def fl2 : List (Int × Value) → List Value
  | [] => []
  | q :: r => .int .i64 q.1 :: q.2 :: fl2 r
def qd (Q : List (Int × Value)) (j : Nat) : Int × Value := Q.getD j (0, .slice none 0 0)
theorem fl2_len (Q : List (Int × Value)) : (fl2 Q).length = Q.length * 2 := by
  induction Q with
  | nil => rfl
  | cons q r ih => simp [fl2, ih]; omega
theorem fl2_append (A B : List (Int × Value)) : fl2 (A ++ B) = fl2 A ++ fl2 B := by
  induction A with
  | nil => rfl
  | cons q r ih => simp [fl2, ih]
theorem fl2_at : ∀ (Q : List (Int × Value)) (j : Nat), j < Q.length → (fl2 Q)[j * 2]? = some (.int .i64 (qd Q j).1) ∧ (fl2 Q)[j * 2 + 1]? = some (qd Q j).2
  | [], j, h => by simp at h
  | q :: r, 0, _ => ⟨rfl, rfl⟩
  | q :: r, j + 1, h => by
    have := fl2_at r j (by simp at h; omega)
    rw [show (j + 1) * 2 = j * 2 + 1 + 1 by omega]
    simpa [fl2, qd] using this
theorem fl2_set : ∀ (Q : List (Int × Value)) (j : Nat) (x : Int), (fl2 Q).set (j * 2) (.int .i64 x) = fl2 (Q.set j (x, (qd Q j).2))
  | [], j, x => by simp [fl2]
  | q :: r, 0, x => by simp [fl2, qd]
  | q :: r, j + 1, x => by
    have := fl2_set r j x
    rw [show (j + 1) * 2 = j * 2 + 1 + 1 by omega]
    simpa [fl2, qd] using this
theorem qd_set (Q : List (Int × Value)) (i j : Nat) (x : Int × Value) (hi : i < Q.length) : qd (Q.set i x) j = if i = j then x else qd Q j := by
  unfold qd List.getD
  rw [List.getElem?_set]
  by_cases e : i = j
  · subst e; simp [hi]
  · simp [e]
/-- A list of nodes, by its places, in memory of its own. -/
def OwnF (w : World) (base : Nat) (v : Value) (n : Nat) (f : Nat → Nd) : Prop :=
  ∃ Q : List (Int × Value), Q.length = n ∧ w.ownsRow base 115 2 v n (fl2 Q) ∧ (∀ j, j < n → (qd Q j).1 = (f j).1 ∧ w.ownsRow base 3 1 (qd Q j).2 (f j).2.length (ints (f j).2)) ∧
    ∀ i j, i < n → j < n → i ≠ j → (qd Q i).2.ownBlock = none ∨ (qd Q i).2.ownBlock ≠ (qd Q j).2.ownBlock
/-- Nodes, by their places, where a slice of that length begins. -/
def ReF (w : World) (ao : Option Addr) (n : Nat) (f : Nat → Nd) : Prop :=
  ∀ j, j < n → ∃ b off sa sc, ao = some ⟨b, off, none⟩ ∧ b < w.heap.size ∧ w.cell? ⟨b, off + j * 2, none⟩ = some (.int .i64 (f j).1) ∧ w.cell? ⟨b, off + j * 2 + 1, none⟩ = some (.slice sa (f j).2.length sc) ∧ IntsAt w sa (f j).2
theorem OwnF.form {w : World} {base : Nat} {v : Value} {n : Nat} {f : Nat → Nd} (h : OwnF w base v n f) : ∃ ao cap, v = .slice ao n cap ∧ ReF w ao n f := by
  obtain ⟨Q, hQ, hr, hs, -⟩ := h
  rcases hr.2 with ⟨rfl, h0⟩ | ⟨g, cap, cur, rfl, h2, h3, h4⟩
  · exact ⟨none, 0, by rw [h0], fun j hj => by omega⟩
  · refine ⟨_, _, rfl, fun j hj => ?_⟩
    have hf := fl2_at Q j (by omega)
    obtain ⟨e, ho⟩ := hs j hj
    obtain ⟨-, a, c, hv, hi⟩ := ints_of_own ho
    refine ⟨g, 0, a, c, rfl, (Array.getElem?_eq_some_iff.1 h3).1, ?_, ?_, hi⟩
    · rw [Nat.zero_add, World.ownsRow.cellAt hr (j * 2) (by omega), hf.1, e]
    · rw [Nat.zero_add, World.ownsRow.cellAt hr (j * 2 + 1) (by omega), hf.2, hv]
theorem OwnF.res {w : World} {base : Nat} {v : Value} {P : List Nd} (h : OwnF w base v P.length (nd P)) : ∃ ao cap, v = .slice ao P.length cap ∧ ResAt w ao P := h.form
theorem OwnF.keepB {w w' : World} {base : Nat} {v : Value} {n : Nat} {f : Nat → Nd} (h : OwnF w base v n f) (hb : Below w.heap.size w w') : OwnF w' base v n f := by
  obtain ⟨Q, hQ, hr, hs, ha⟩ := h
  exact ⟨Q, hQ, World.ownsRow.keepB hr hb, fun j hj => ⟨(hs j hj).1, World.ownsRow.keepB (hs j hj).2 hb⟩, ha⟩
/-- Another block has turned, that lies ahead. -/
theorem OwnF.kept {w w' : World} {base : Nat} {v : Value} {n : Nat} {f : Nat → Nd} (h : OwnF w base v n f) {row : Option Nat} (hg : w.grownBy w' row) (hr' : ∀ g, row = some g → g < base) : OwnF w' base v n f := by
  obtain ⟨Q, hQ, hr, hs, ha⟩ := h
  have ne : ∀ {e : TypeId} {size : Nat} {u : Value} {m : Nat} {xs : List Value}, w.ownsRow base e size u m xs → u.ownBlock = none ∨ u.ownBlock ≠ row := fun {e size u m xs} ho => by
    cases row with
    | none => cases hu : u.ownBlock with
      | none => exact .inl rfl
      | some g => exact .inr (by simp)
    | some g => exact own_ne ho (hr' g rfl)
  exact ⟨Q, hQ, World.ownsRow.kept hr hg (ne hr), fun j hj => ⟨(hs j hj).1, World.ownsRow.kept (hs j hj).2 hg (ne (hs j hj).2)⟩, ha⟩
theorem OwnF.cast {w : World} {base : Nat} {v : Value} {n : Nat} {f f' : Nat → Nd} (h : OwnF w base v n f) (he : ∀ j, j < n → f j = f' j) : OwnF w base v n f' := by
  obtain ⟨Q, hQ, hr, hs, ha⟩ := h
  exact ⟨Q, hQ, hr, fun j hj => by rw [← he j hj]; exact hs j hj, ha⟩
theorem OwnF.mono {w : World} {base base' : Nat} {v : Value} {n : Nat} {f : Nat → Nd} (h : OwnF w base v n f) (hb : base' ≤ base) : OwnF w base' v n f := by
  obtain ⟨Q, hQ, hr, hs, ha⟩ := h
  exact ⟨Q, hQ, own_mono hr hb, fun j hj => ⟨(hs j hj).1, own_mono (hs j hj).2 hb⟩, ha⟩
theorem own_none (w : World) (base : Nat) (f : Nat → Nd) : OwnF w base (.slice none 0 0) 0 f :=
  ⟨[], rfl, World.ownsRow_nil _ _ _ _, fun j hj => by omega, fun i j hi => by omega⟩
/-- A row of nodes and a row of numbers are two blocks. -/
theorem kinds_apart {w : World} {b1 b2 s1 s2 : Nat} {v u : Value} {n m : Nat} {xs ys : List Value} (h : w.ownsRow b1 115 s1 v n xs) (k : w.ownsRow b2 3 s2 u m ys) : v.ownBlock = none ∨ v.ownBlock ≠ u.ownBlock := by
  rcases h.2 with ⟨rfl, -⟩ | ⟨g, cap, cur, rfl, -, h3, -⟩
  · exact .inl rfl
  · rcases k.2 with ⟨rfl, -⟩ | ⟨g', cap', cur', rfl, -, k3, -⟩
    · exact .inr (by simp [Value.ownBlock])
    · refine .inr fun e => ?_
      have e' : g = g' := by simpa [Value.ownBlock] using e
      subst e'
      rw [h3] at k3
      have := Option.some.inj k3
      simp at this
theorem kinds_apart' {w : World} {b1 b2 s1 s2 : Nat} {v u : Value} {n m : Nat} {xs ys : List Value} (h : w.ownsRow b1 115 s1 v n xs) (k : w.ownsRow b2 3 s2 u m ys) : u.ownBlock = none ∨ u.ownBlock ≠ v.ownBlock := by
  cases hu : u.ownBlock with
  | none => exact .inl rfl
  | some g =>
    rcases kinds_apart h k with h1 | h1
    · exact .inr (by rw [h1]; simp)
    · exact .inr (by rw [← hu]; exact h1.symm)
/-- Node i is marked. -/
theorem OwnF.mark {w w2 : World} {base g cap : Nat} {n : Nat} {f : Nat → Nd} (i : Nat) (hi : i < n) (x : Int) (s : List Int) (Q : List (Int × Value)) (hQ : Q.length = n) (hr : w.ownsRow base 115 2 (.slice (some ⟨g, 0, none⟩) n cap) n (fl2 Q))
    (hs : ∀ j, j < n → (qd Q j).1 = (f j).1 ∧ w.ownsRow base 3 1 (qd Q j).2 (f j).2.length (ints (f j).2)) (ha : ∀ i j, i < n → j < n → i ≠ j → (qd Q i).2.ownBlock = none ∨ (qd Q i).2.ownBlock ≠ (qd Q j).2.ownBlock)
    (ho : w2.ownsRow base 3 1 (qd Q i).2 s.length (ints s)) (hg : (w.setCell ⟨g, i * 2, none⟩ (.int .i64 x)).grownBy w2 (qd Q i).2.ownBlock) : OwnF w2 base (.slice (some ⟨g, 0, none⟩) n cap) n (fun j => if j = i then (x, s) else f j) := by
  have st := World.ownsRow.stored hr (i * 2) (.int .i64 x)
  rw [fl2_set] at st
  have set1 : ∀ j, j < n → (w.setCell ⟨g, i * 2, none⟩ (.int .i64 x)).ownsRow base 3 1 (qd Q j).2 (f j).2.length (ints (f j).2) := fun j hj => World.ownsRow.kept (hs j hj).2 st.2 (kinds_apart' hr (hs j hj).2)
  refine ⟨Q.set i (x, (qd Q i).2), by simp [hQ], World.ownsRow.kept st.1 hg (kinds_apart st.1 (set1 i hi)), fun j hj => ?_, fun a b ha' hb' hab => ?_⟩
  · rw [qd_set Q i j _ (by omega)]
    dsimp only
    by_cases e : j = i
    · subst e
      rw [if_pos rfl, if_pos rfl]
      exact ⟨rfl, ho⟩
    · rw [if_neg (fun h => e h.symm), if_neg e]
      exact ⟨(hs j hj).1, World.ownsRow.kept (set1 j hj) hg (ha j i hj hi e)⟩
  · rw [qd_set Q i a _ (by omega), qd_set Q i b _ (by omega)]
    have e1 : (if i = a then (x, (qd Q i).2) else qd Q a).2 = (qd Q a).2 := by split <;> simp_all
    have e2 : (if i = b then (x, (qd Q i).2) else qd Q b).2 = (qd Q b).2 := by split <;> simp_all
    rw [e1, e2]
    exact ha a b ha' hb' hab
/-- Which number the op of node j is marked with, from 1 on. -/
def cntR (P : List Nd) (j : Nat) : Int := 1 + j + szK P j
def mkR (P : List Nd) (j : Nat) : Nd := (cntR P j, mk2 (nd P j).2 (cntR P j + 1) (nd P j).2.length)
theorem cntR_step (P : List Nd) (j : Nat) (h : j < P.length) : cntR P (j + 1) = cntR P j + 1 + (nd P j).2.length := by unfold cntR; rw [szK_step P j h]; push_cast; omega
theorem cntR_all (P : List Nd) : cntR P P.length = 1 + szP P := by unfold cntR szP; rw [szK_all]; push_cast; omega
theorem cntR_bd (P : List Nd) (j : Nat) (h : j ≤ P.length) : 0 ≤ cntR P j ∧ cntR P j ≤ 1 + szP P := by
  have := szK_mono P j
  rw [szK_all] at this
  unfold cntR szP
  omega
set_option maxRecDepth 100000 in
set_option maxHeartbeats 2000000 in
theorem markR_any (P : List Nd) (v : Value) (base : Nat) (w : World) (hl : szP P ≤ 1048576) (h : OwnF w base v P.length (nd P)) :
    Calls Try.prog 33 #[v, .int .i64 1] w fun e w' => e = .returned (.int .i64 (1 + szP P)) ∧ OwnF w' base v P.length (mkR P) ∧ Below base w w' := by
  have hpl : P.length ≤ 1048576 := by unfold szP at hl; omega
  obtain ⟨ao, cap, rfl, -⟩ := h.form
  have HO : Hid (OwnF w base (.slice ao P.length cap) P.length (nd P)) := h
  have HL : Hid _ := hl
  clear h hl
  go_enter Try.func33, Try.ntmps33
  go_wp2
  go_loopw [1, 5] (fun c i wr => ∃ k : Nat, k ≤ P.length ∧ i = .int .i64 k ∧ c = .int .i64 (cntR P k) ∧ OwnF wr base (.slice ao P.length cap) P.length (fun j => if j < k then mkR P j else nd P j) ∧ Below base w wr) (fun _ i _ => P.length - (intOf i).toNat)
  case atStart => exact ⟨0, Nat.zero_le _, rfl, by simp [cntR, szK], HO.out.cast (fun j _ => by simp), Below.refl _ _⟩
  case round =>
    obtain ⟨k, hk, rfl, rfl, hown, hbw⟩ := hrel
    obtain ⟨hc0, hc1⟩ := cntR_bd P k hk
    have BW0 : Hid _ := hbw
    have hc2 : cntR P k ≤ 1048577 := by have := HL.out; omega
    clear hc1 hbw
    by_cases hlt : k < P.length
    · have hltI : (k : Int) < (P.length : Int) := by omega
      have hls : (nd P k).2.length ≤ 1048576 := Nat.le_trans (nd_len P k hlt) HL.out
      obtain ⟨Q, hQ, hr, hs, ha⟩ := hown
      rcases hr.2 with ⟨-, h0⟩ | ⟨g, cap', cur, hv, h2, h3, -⟩
      · omega
      simp only [Value.slice.injEq, true_and] at hv
      obtain ⟨rfl, rfl⟩ := hv
      have hf := fl2_at Q k (by omega)
      have c0 := (World.ownsRow.cellAt hr (k * 2) (by omega)).trans hf.1
      have c1 := (World.ownsRow.cellAt hr (k * 2 + 1) (by omega)).trans hf.2
      have fz := hr.frozenAt (k * 2)
      have hgl : g < wr.heap.size := (Array.getElem?_eq_some_iff.1 h3).1
      have st := World.ownsRow.stored hr (k * 2) (.int .i64 (cntR P k))
      have sk : (wr.setCell ⟨g, k * 2, none⟩ (.int .i64 (cntR P k))).ownsRow base 3 1 (qd Q k).2 (nd P k).2.length (ints (nd P k).2) := by
        have := (hs k hlt).2
        simp only [Nat.lt_irrefl, if_false] at this
        exact World.ownsRow.kept this st.2 (kinds_apart' hr this)
      have c1' : (wr.setCell ⟨g, k * 2, none⟩ (.int .i64 (cntR P k))).cell? ⟨g, k * 2 + 1, none⟩ = some (qd Q k).2 := (set_other _ _ _ _ _ _ (by omega)).trans c1
      have HMARK : Hid (Calls Try.prog 40 #[(qd Q k).2, .int .i64 (cntR P k + 1)] (wr.setCell ⟨g, k * 2, none⟩ (.int .i64 (cntR P k))) fun e w' => e = .returned (.int .i64 (cntR P k + 1 + (nd P k).2.length)) ∧ w'.ownsRow base 3 1 (qd Q k).2 (nd P k).2.length (ints (mk2 (nd P k).2 (cntR P k + 1) (nd P k).2.length)) ∧ (wr.setCell ⟨g, k * 2, none⟩ (.int .i64 (cntR P k))).grownBy w' (qd Q k).2.ownBlock) := mark_c (cntR P k + 1) (by omega) (by omega) (nd P k).2 (qd Q k).2 _ base _ hls sk
      have HFIN : Hid (∀ w2, w2.ownsRow base 3 1 (qd Q k).2 (mk2 (nd P k).2 (cntR P k + 1) (nd P k).2.length).length (ints (mk2 (nd P k).2 (cntR P k + 1) (nd P k).2.length)) → (wr.setCell ⟨g, k * 2, none⟩ (.int .i64 (cntR P k))).grownBy w2 (qd Q k).2.ownBlock → OwnF w2 base (.slice (some ⟨g, 0, none⟩) P.length cap) P.length (fun j => if j = k then (cntR P k, mk2 (nd P k).2 (cntR P k + 1) (nd P k).2.length) else (if j < k then mkR P j else nd P j))) := fun w2 ho hg => OwnF.mark k hlt (cntR P k) _ Q hQ hr hs ha ho hg
      have hsz : (wr.setCell ⟨g, k * 2, none⟩ (.int .i64 (cntR P k))).heap.size = wr.heap.size := by simp [World.setCell]
      have hle1 : base ≤ wr.heap.size := Nat.le_trans h2 (Nat.le_of_lt hgl)
      have bel1 : Below base w (wr.setCell ⟨g, k * 2, none⟩ (.int .i64 (cntR P k))) := Below.grown BW0.out (grown_set wr g (k * 2) _) hle1 (fun g' e => by have := Option.some.inj e; omega)
      have HBK : Hid (∀ w2 : World, (wr.setCell ⟨g, k * 2, none⟩ (.int .i64 (cntR P k))).grownBy w2 (qd Q k).2.ownBlock → Below base w w2) := fun w2 hg => Below.grown bel1 hg (by omega) (fun g' e => (World.ownsRow.lt sk g' e).1)
      have HST : Hid _ := cntR_step P k hlt
      clear hf hr hs ha h3 sk st hQ hsz hle1 bel1
      obtain ⟨u, hu⟩ : ∃ u, (qd Q k).2 = u := ⟨_, rfl⟩
      rw [hu] at c1 c1' HMARK HFIN HBK
      clear hu
      go_wp2_with fail
      refine Calls.mono HMARK.out ?_
      rintro e w2 ⟨rfl, og, gr⟩
      have O2 : Hid (OwnF w2 base (.slice (some ⟨g, 0, none⟩) P.length cap) P.length (fun j => if j = k then (cntR P k, mk2 (nd P k).2 (cntR P k + 1) (nd P k).2.length) else (if j < k then mkR P j else nd P j))) := HFIN.out w2 (by rw [mk2_len]; exact og) gr
      have B2 : Hid _ := HBK.out w2 gr
      clear og gr HMARK HFIN HBK c0 c1 c1' fz
      go_wp2
      go_roundw
      case rel =>
        refine ⟨k + 1, by omega, by go_num, by rw [HST.out], O2.out.cast (fun j _ => ?_), B2.out⟩
        by_cases e : j = k
        · subst e; simp [mkR]
        · simp only [e, if_false]
          by_cases h : j < k
          · rw [if_pos h, if_pos (by omega)]
          · rw [if_neg h, if_neg (by omega)]
      case measure => simp [intOf]; omega
    · obtain rfl : k = P.length := by omega
      have O2 : Hid (OwnF wr base (.slice ao P.length cap) P.length (fun j => if j < P.length then mkR P j else nd P j)) := hown
      have HALL : Hid _ := cntR_all P
      clear hown
      go_wp2
      go_ret
      exact ⟨by rw [← HALL.out] <;> rfl, O2.out.cast (fun j hj => by rw [if_pos hj]), BW0.out⟩
set_option maxRecDepth 100000 in
set_option maxHeartbeats 1000000 in
theorem held_c (c : Int) (c0 : 0 ≤ c) (c1 : c ≤ 10000000) (L : List Int) (ao : Option Addr) (n cap : Nat) (hn : n = L.length) (w : World) (hl : L.length ≤ 1048576) (hA : IntsAt w ao (mk2 L c L.length)) :
    Calls Try.prog 41 #[.slice ao n cap, .int .i64 c] w fun e w' => e = .returned (.int .i64 (c + L.length)) ∧ Below w.heap.size w w' := by
  subst hn
  have HA : Hid _ := hA
  clear hA
  go_enter Try.func41, Try.ntmps41
  go_wp2
  go_loopw [1, 5] (fun cc i wr => ∃ k : Nat, k ≤ L.length ∧ i = .int .i64 k ∧ cc = .int .i64 (c + k) ∧ Below w.heap.size w wr) (fun _ i _ => L.length - (intOf i).toNat)
  case atStart => exact ⟨0, Nat.zero_le _, rfl, by simp, Below.refl _ _⟩
  case round =>
    obtain ⟨k, hk, rfl, rfl, hbw⟩ := hrel
    by_cases hlt : k < L.length
    · have hltI : (k : Int) < (L.length : Int) := by omega
      obtain ⟨b1, o1, rfl, l1, h1⟩ := HA.out k (by rw [mk2_len]; exact hlt)
      have e1 : (mk2 L c L.length).getD k 0 = c + k := by rw [List.getD, mk2_at L c _ k hlt, if_pos hlt]; rfl
      rw [e1] at h1
      have g1 : wr.cell? ⟨b1, o1 + k, none⟩ = some (.int .i64 (c + k)) := (hbw.cell (p := ⟨b1, o1 + k, none⟩) l1).trans h1
      clear h1 e1
      go_wp2
      go_roundw
      case rel => exact ⟨k + 1, by omega, by go_num, by go_num, hbw⟩
      case measure => simp [intOf]; omega
    · go_wp2
      go_ret
      obtain rfl : k = L.length := by omega
      exact ⟨rfl, hbw⟩
end Go.Proofs.Ytlkcdcdgpklpoaa

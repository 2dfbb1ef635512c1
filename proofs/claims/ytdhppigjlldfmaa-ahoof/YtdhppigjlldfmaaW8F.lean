/-
  Words that end at states: addEnd.
-/
import Derived.Test.YtdhppigjlldfmaaW8E
namespace Go.Proofs.Ytdhppigjlldfmaa
open Go.ChangeShapes Go.WideShapes Go.ChangeAt Go.RowKit Go.Maps
theorem own_is {w : World} {base : Nat} {e : TypeId} {size : Nat} {v : Value} {n : Nat} {xs : List Value} (h : w.ownsRow base e size v n xs) {B : Nat} (hB : v.ownBlock = some B) : ∃ cs, w.heap[B]? = some (.cells cs e) := by
  rcases h.2 with ⟨rfl, -⟩ | ⟨g, cap, cur, rfl, -, k2, -⟩
  · cases hB
  · have : g = B := by simpa [Value.ownBlock] using hB
    exact ⟨cur, by rw [← this]; exact k2⟩
theorem TrieAt.turn {w w' : World} {base tb : Nat} {Q : List Sq} {E : Ed} {row : Option Nat} (h : TrieAt w base tb Q E) (hg : w.grownBy w' row) (hr : ∀ B, row = some B → ∃ cs t, w.heap[B]? = some (.cells cs t) ∧ t ≠ 71 ∧ t ≠ 75) : TrieAt w' base tb Q E := by
  obtain ⟨v, m, h1, h2, h3, h4, h5⟩ := h
  refine ⟨v, m, h1, h2, grown_blk hg h3 ?_, World.ownsRow.kept h4 hg ?_, EdgesAt.kept h5 hg ?_⟩
  · cases row with
    | none => exact .inl rfl
    | some B =>
      obtain ⟨cs, t, hb, n1, n2⟩ := hr B rfl
      refine .inr fun e => ?_
      rw [Option.some.inj e, h3] at hb
      simp only [Option.some.injEq, Obj.cells.injEq] at hb
      exact n1 hb.2.1.symm
  · cases row with
    | none =>
      cases hv : v.ownBlock with
      | none => exact .inl rfl
      | some g => exact .inr (by simp)
    | some B =>
      obtain ⟨cs, t, hb, n1, n2⟩ := hr B rfl
      cases hv : v.ownBlock with
      | none => exact .inl rfl
      | some g =>
        refine .inr fun e => ?_
        obtain ⟨cs', hb'⟩ := own_is h4 hv
        rw [Option.some.inj e, hb] at hb'
        simp only [Option.some.injEq, Obj.cells.injEq] at hb'
        exact n2 hb'.2.1
  · intro e
    obtain ⟨es, c, hm⟩ := h5.isMap
    obtain ⟨cs, t, hb, -, -⟩ := hr m e.symm
    rw [hm] at hb
    cases hb
theorem fl5_set : ∀ (Q : List Sq) (j : Nat) (u : Value), (fl5 Q).set (j * 5 + 4) u = fl5 (Q.set j { sq Q j with e := u })
  | [], j, u => by simp [fl5]
  | q :: r, 0, u => rfl
  | q :: r, j + 1, u => by
    have := fl5_set r j u
    rw [show (j + 1) * 5 + 4 = j * 5 + 4 + 1 + 1 + 1 + 1 + 1 by omega]
    simp only [fl5, List.set_cons_succ, this]
    rfl
theorem sq_set (Q : List Sq) (i j : Nat) (x : Sq) (hi : i < Q.length) : sq (Q.set i x) j = if i = j then x else sq Q j := by
  unfold sq List.getD
  rw [List.getElem?_set]
  by_cases e : i = j
  · subst e; simp [hi]
  · simp [e]
/-- A state's ends laid anew. -/
theorem TrieAt.setEnd {w : World} {base tb g cap m : Nat} {Q : List Sq} {E : Ed} (h1 : base ≤ tb) (h2 : base ≤ m) (h3 : w.heap[tb]? = some (.cells #[.slice (some ⟨g, 0, none⟩) Q.length cap, .map (some m)] 71))
    (h4 : w.ownsRow base 75 5 (.slice (some ⟨g, 0, none⟩) Q.length cap) Q.length (fl5 Q)) (h5 : EdgesAt w m Q.length E) (k : Nat) (u : Value) :
    TrieAt (w.setCell ⟨g, k * 5 + 4, none⟩ u) base tb (Q.set k { sq Q k with e := u }) E ∧ w.grownBy (w.setCell ⟨g, k * 5 + 4, none⟩ u) (some g) := by
  have st := World.ownsRow.stored h4 (k * 5 + 4) u
  rw [fl5_set] at st
  obtain ⟨cs, hcs⟩ := own_is h4 (B := g) rfl
  have hmg : m ≠ g := fun e => by
    obtain ⟨es, c, hm⟩ := h5.isMap
    rw [e, hcs] at hm
    cases hm
  refine ⟨⟨.slice (some ⟨g, 0, none⟩) Q.length cap, m, h1, h2, grown_blk st.2 h3 (.inr fun e => ?_), by rw [List.length_set]; exact st.1, by rw [List.length_set]; exact EdgesAt.kept h5 st.2 (fun e => hmg (Option.some.inj e))⟩, st.2⟩
  rw [← Option.some.inj e, hcs] at h3
  simp at h3
/-- The same states, but for the words that end there. -/
def SameQ (Q Q' : List Sq) : Prop := Q'.length = Q.length ∧ ∀ j, (sq Q' j).f = (sq Q j).f ∧ (sq Q' j).b = (sq Q j).b ∧ (sq Q' j).l = (sq Q j).l ∧ (sq Q' j).q = (sq Q j).q
theorem SameQ.refl (Q : List Sq) : SameQ Q Q := ⟨rfl, fun _ => ⟨rfl, rfl, rfl, rfl⟩⟩
theorem SameQ.trans {Q Q' Q'' : List Sq} (h : SameQ Q Q') (k : SameQ Q' Q'') : SameQ Q Q'' := ⟨k.1.trans h.1, fun j => by
  obtain ⟨a, b, c, d⟩ := h.2 j
  obtain ⟨a', b', c', d'⟩ := k.2 j
  exact ⟨a'.trans a, b'.trans b, c'.trans c, d'.trans d⟩⟩
theorem SameQ.set {Q Q' : List Sq} (h : SameQ Q Q') {k : Nat} (hk : k < Q.length) (u : Value) : SameQ Q (Q'.set k { sq Q' k with e := u }) := ⟨by rw [List.length_set]; exact h.1, fun j => by
  rw [sq_set _ _ _ _ (by rw [h.1]; exact hk)]
  split
  · rename_i e; subst e; exact h.2 k
  · exact h.2 j⟩
/-- The words that end at the states lie in rows of their own, apart. -/
def EndsW (w : World) (base : Nat) (Q : List Sq) (En : Nat → List Int) : Prop :=
  (∀ j, j < Q.length → w.ownsRow base 3 1 (sq Q j).e (En j).length (ints (En j))) ∧ ∀ i j, i < Q.length → j < Q.length → i ≠ j → (sq Q i).e.ownBlock = none ∨ (sq Q i).e.ownBlock ≠ (sq Q j).e.ownBlock
/-- Rows of ints that are no state's stay so. -/
def KeepX (w w' : World) (Q Q' : List Sq) : Prop := ∀ b v n xs, w.ownsRow b 3 1 v n xs → (∀ j, j < Q.length → v.ownBlock = none ∨ v.ownBlock ≠ (sq Q j).e.ownBlock) → w'.ownsRow b 3 1 v n xs ∧ ∀ j, j < Q'.length → v.ownBlock = none ∨ v.ownBlock ≠ (sq Q' j).e.ownBlock
theorem KeepX.trans {a b c : World} {Q Q' Q'' : List Sq} (h : KeepX a b Q Q') (k : KeepX b c Q' Q'') : KeepX a c Q Q'' := fun x v n xs ho hne => by
  obtain ⟨h1, h2⟩ := h x v n xs ho hne
  exact k x v n xs h1 h2
theorem KeepX.keep {w w' : World} (h : KeepI w w') (Q : List Sq) : KeepX w w' Q Q := fun _ _ _ _ ho hne => ⟨h _ _ _ _ ho, hne⟩
theorem EndsW.keep {w w' : World} {base : Nat} {Q : List Sq} {En : Nat → List Int} (h : EndsW w base Q En) (k : KeepI w w') : EndsW w' base Q En := ⟨fun j hj => k _ _ _ _ (h.1 j hj), h.2⟩
/-- One word more that ends at a state: what an append to its row leaves, stored back. -/
theorem EndsW.push {w w2 w3 : World} {base g cap m tb k : Nat} {no : Int} {Q : List Sq} {E : Ed} {En : Nat → List Int} {v' : Value} (h : EndsW w base Q En) (hk : k < Q.length) (hb : Below w.heap.size w w2) (hr : w3.ownsRow base 3 1 v' ((En k).length + 1) (ints (En k) ++ ints [no])) (hg : w2.grownBy w3 (sq Q k).e.ownBlock) (hat : v'.ownBlock = (sq Q k).e.ownBlock ∨ v'.ownBlock = some w2.heap.size)
    (t1 : base ≤ tb) (t2 : base ≤ m) (t3 : w.heap[tb]? = some (.cells #[.slice (some ⟨g, 0, none⟩) Q.length cap, .map (some m)] 71)) (t4 : w.ownsRow base 75 5 (.slice (some ⟨g, 0, none⟩) Q.length cap) Q.length (fl5 Q)) (t5 : EdgesAt w m Q.length E) :
    TrieAt (w3.setCell ⟨g, k * 5 + 4, none⟩ v') base tb (Q.set k { sq Q k with e := v' }) E ∧ EndsW (w3.setCell ⟨g, k * 5 + 4, none⟩ v') base (Q.set k { sq Q k with e := v' }) (fun j => if j = k then En k ++ [no] else En j) ∧ KeepX w (w3.setCell ⟨g, k * 5 + 4, none⟩ v') Q (Q.set k { sq Q k with e := v' }) ∧ Below base w (w3.setCell ⟨g, k * 5 + 4, none⟩ v') := by
  have lt := World.ownsRow.lt t4 g rfl
  have hek := World.ownsRow.keepB (h.1 k hk) hb
  have hs2 : base ≤ w2.heap.size := Nat.le_trans (by omega) hb.size
  have hrow : ∀ B, (sq Q k).e.ownBlock = some B → ∃ cs, w2.heap[B]? = some (.cells cs 3) := fun B hB => own_is hek hB
  have a3 : w3.heap[tb]? = some (.cells #[.slice (some ⟨g, 0, none⟩) Q.length cap, .map (some m)] 71) := by
    have h2 : w2.heap[tb]? = some (.cells #[.slice (some ⟨g, 0, none⟩) Q.length cap, .map (some m)] 71) := (hb.block tb (Array.getElem?_eq_some_iff.1 t3).1).trans t3
    refine grown_blk hg h2 (own_blk_ne h2 hek (by decide))
  have a4 : w3.ownsRow base 75 5 (.slice (some ⟨g, 0, none⟩) Q.length cap) Q.length (fl5 Q) := World.ownsRow.kept (World.ownsRow.keepB t4 hb) hg (types_apart (by decide) (World.ownsRow.keepB t4 hb) hek)
  have a5 : EdgesAt w3 m Q.length E := EdgesAt.kept (EdgesAt.keepB t5 hb) hg (fun e => by
    obtain ⟨es, c, hm⟩ := EdgesAt.isMap (EdgesAt.keepB t5 hb)
    obtain ⟨cs, hcs⟩ := hrow m e.symm
    rw [hm] at hcs
    cases hcs)
  obtain ⟨T, G⟩ := TrieAt.setEnd t1 t2 a3 a4 a5 k v'
  have up : ∀ {b : Nat} {v : Value} {n : Nat} {xs : List Value}, w.ownsRow b 3 1 v n xs → (v.ownBlock = none ∨ v.ownBlock ≠ (sq Q k).e.ownBlock) → (w3.setCell ⟨g, k * 5 + 4, none⟩ v').ownsRow b 3 1 v n xs := fun ho hne => by
    have h3 := World.ownsRow.kept (World.ownsRow.keepB ho hb) hg hne
    exact World.ownsRow.kept h3 G (types_apart (by decide) h3 a4)
  have old : ∀ {b : Nat} {v : Value} {n : Nat} {xs : List Value}, w.ownsRow b 3 1 v n xs → v.ownBlock = none ∨ v.ownBlock ≠ some w2.heap.size := fun ho => by
    cases hv : Value.ownBlock _ with
    | none => exact .inl rfl
    | some B => exact .inr (fun e => by have := (World.ownsRow.lt ho B hv).2; have := Option.some.inj e; have := hb.size; omega)
  have ap : ∀ {b : Nat} {v : Value} {n : Nat} {xs : List Value}, w.ownsRow b 3 1 v n xs → (v.ownBlock = none ∨ v.ownBlock ≠ (sq Q k).e.ownBlock) → v.ownBlock = none ∨ v.ownBlock ≠ v'.ownBlock := fun ho hne => by
    rcases hat with e | e
    · rw [e]; exact hne
    · rw [e]; exact old ho
  have hlQ : (Q.set k { sq Q k with e := v' }).length = Q.length := List.length_set
  refine ⟨T, ⟨fun j hj => ?_, fun i j hi hj hij => ?_⟩, fun b v n xs ho hne => ⟨up ho (hne k hk), fun j hj => ?_⟩, ?_⟩
  · rw [hlQ] at hj
    rw [sq_set _ _ _ _ hk]
    by_cases e : k = j
    · subst e
      rw [if_pos rfl]
      dsimp only
      rw [if_pos rfl]
      have h3 : w3.ownsRow base 3 1 v' (En k ++ [no]).length (ints (En k ++ [no])) := by
        rw [List.length_append, List.length_singleton]
        simpa [ints] using hr
      exact World.ownsRow.kept h3 G (types_apart (by decide) h3 a4)
    · rw [if_neg e]
      dsimp only
      rw [if_neg (fun h => e h.symm)]
      exact up (h.1 j hj) (h.2 j k hj hk (fun h => e h.symm))
  · rw [hlQ] at hi hj
    rw [sq_set _ _ _ _ hk, sq_set _ _ _ _ hk]
    by_cases e : k = i
    · subst e
      rw [if_pos rfl, if_neg hij]
      dsimp only
      rcases ap (h.1 j hj) (h.2 j k hj hk (fun h => hij h.symm)) with h' | h'
      · cases hv : v'.ownBlock with
        | none => exact .inl rfl
        | some B => exact .inr (by rw [h']; simp)
      · exact .inr (fun e => h' e.symm)
    · rw [if_neg e]
      by_cases e2 : k = j
      · subst e2
        rw [if_pos rfl]
        exact ap (h.1 i hi) (h.2 i k hi hk hij)
      · rw [if_neg e2]
        exact h.2 i j hi hj hij
  · rw [hlQ] at hj
    rw [sq_set _ _ _ _ hk]
    by_cases e : k = j
    · rw [if_pos e]; exact ap ho (hne k hk)
    · rw [if_neg e]; exact hne j hj
  · have B3 : Below base w w3 := Below.grown (hb.mono (by omega)) hg hs2 (fun B hB => (World.ownsRow.lt (h.1 k hk) B hB).1)
    exact Below.grown B3 G (Nat.le_trans hs2 hg.size) (fun B hB => by have := Option.some.inj hB; omega)
end Go.Proofs.Ytdhppigjlldfmaa

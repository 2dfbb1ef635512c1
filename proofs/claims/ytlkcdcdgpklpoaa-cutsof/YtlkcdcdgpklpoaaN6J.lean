/-
  l1Put of the specification.
-/
import Derived.Test.YtlkcdcdgpklpoaaN6I
import Derived.Test.YtlkcdcdgpklpoaaN3E
import Derived.Test.YtlkcdcdgpklpoaaM6K
namespace Go.Proofs.Ytlkcdcdgpklpoaa
open Go.ChangeShapes Go.WideShapes Go.ChangeAt Go.WideMaps Go.WideElems Go.RowKit
/-- A number put into a rising list. -/
def putL (n : Int) : List Int → List Int
  | [] => [n]
  | y :: L => if y < n then y :: putL n L else if y = n then y :: L else n :: y :: L
theorem mem_putL {n x : Int} : ∀ {L : List Int}, x ∈ putL n L ↔ x = n ∨ x ∈ L
  | [] => by simp [putL]
  | y :: L => by
    unfold putL
    split
    · simp only [List.mem_cons, mem_putL (L := L)]
      constructor
      · rintro (h | h | h) <;> simp [h]
      · rintro (h | h | h) <;> simp [h]
    · split
      · rename_i e
        subst e
        simp
      · simp
theorem putL_len (n : Int) : ∀ L : List Int, (putL n L).length ≤ L.length + 1
  | [] => by simp [putL]
  | y :: L => by
    unfold putL
    have := putL_len n L
    split
    · simp; omega
    · split <;> simp
theorem putL_at {n : Int} : ∀ {L : List Int} {k : Nat}, k ≤ L.length → (∀ j, j < k → L.getD j 0 < n) → (k < L.length → ¬ L.getD k 0 < n) → putL n L = if k < L.length ∧ L.getD k 0 = n then L else L.take k ++ ([n] ++ L.drop k)
  | [], k, h, _, _ => by
    obtain rfl : k = 0 := by simpa using h
    rfl
  | y :: L, 0, _, _, h3 => by
    have h4 := h3 (by simp)
    have e : (y :: L).getD 0 0 = y := rfl
    rw [e] at h4 ⊢
    unfold putL
    rw [if_neg h4]
    by_cases hy : y = n
    · rw [if_pos hy, if_pos ⟨by simp, hy⟩]
    · rw [if_neg hy, if_neg fun h => hy h.2]
      rfl
  | y :: L, k + 1, h1, h2, h3 => by
    have e : ∀ j, (y :: L).getD (j + 1) 0 = L.getD j 0 := fun j => rfl
    have ih := putL_at (n := n) (L := L) (k := k) (by simpa using h1) (fun j hj => by rw [← e]; exact h2 (j + 1) (by omega)) (fun h => by rw [← e]; exact h3 (by simpa using h))
    have h0 : y < n := h2 0 (by omega)
    unfold putL
    rw [if_pos h0, ih, e]
    by_cases hc : k < L.length ∧ L.getD k 0 = n
    · rw [if_pos hc, if_pos ⟨by simp; exact hc.1, hc.2⟩]
    · rw [if_neg hc, if_neg fun h => hc ⟨by simpa using h.1, h.2⟩]
      rfl
theorem ints_take {w : World} {ao : Option Addr} {L : List Int} (h : IntsAt w ao L) (k : Nat) : IntsAt w ao (L.take k) := fun j hj => by
  have hj2 : j < k ∧ j < L.length := by rw [List.length_take] at hj; omega
  obtain ⟨b, off, e, hb, hc⟩ := h j hj2.2
  refine ⟨b, off, e, hb, ?_⟩
  rw [hc]
  simp [List.getD, hj2.1]
set_option maxRecDepth 100000 in
set_option maxHeartbeats 4000000 in
theorem sput_own (L : List Int) (n : Int) (v : Value) (base : Nat) (w : World) (hl : L.length ≤ 100000) (hb : base ≤ w.heap.size) (hO : w.ownsRow base 3 1 v L.length (ints L)) :
    Calls Try.prog 132 #[v, .int .i64 n] w fun e w' => ∃ v', e = .returned v' ∧ w'.ownsRow base 3 1 v' (putL n L).length (ints (putL n L)) ∧ Below w.heap.size w w' := by
  obtain ⟨_, ga, gc, rfl, gi⟩ := ints_of_own hO
  have OW : Hid (w.ownsRow base 3 1 (.slice ga L.length gc) L.length (ints L)) := hO
  have GI : Hid (IntsAt w ga L) := gi
  clear hO gi
  go_enter Try.func132, Try.ntmps132
  go_wp2
  go_loopw [5] (fun i wr => ∃ k : Nat, k ≤ L.length ∧ i = .int .i64 k ∧ (∀ j, j < k → L.getD j 0 < n) ∧ wr = w) (fun i _ => L.length - (intOf i).toNat)
  case atStart => exact ⟨0, Nat.zero_le _, rfl, fun j hj => absurd hj (by omega), rfl⟩
  case round =>
    obtain ⟨k, hk, rfl, hall, rfl⟩ := hrel
    have HALL : Hid _ := hall
    clear hall
    by_cases hlt : k < L.length
    · have hltI : (k : Int) < (L.length : Int) := by omega
      have hltB : decide ((k : Int) < (L.length : Int)) = true := decide_eq_true hltI
      obtain ⟨b1, o1, rfl, l1, c1⟩ := GI.out k hlt
      by_cases q1 : L.getD k 0 < n
      · have HN : Hid (∀ j, j < k + 1 → L.getD j 0 < n) := fun j hj => by
          by_cases e : j = k
          · subst e; exact q1
          · exact HALL.out j (by omega)
        generalize L.getD k 0 = y at c1 q1
        go_wp2
        go_roundw
        case rel => exact ⟨k + 1, by omega, by go_num, HN.out, by first | rfl | trivial⟩
        case measure => simp [intOf]; omega
      · by_cases q2 : L.getD k 0 = n
        · have HPUT : Hid (putL n L = L) := (by rw [putL_at hk HALL.out (fun _ => q1), if_pos ⟨hlt, q2⟩] : putL n L = L)
          generalize L.getD k 0 = y at c1 q1 q2
          subst q2
          go_wp2
          go_ret
          exact ⟨_, rfl, by rw [HPUT.out]; exact OW.out, Below.refl _ _⟩
        · have HPUT : Hid (putL n L = L.take k ++ ([n] ++ L.drop k)) := (by rw [putL_at hk HALL.out (fun _ => q1), if_neg fun h => q2 h.2] : putL n L = L.take k ++ ([n] ++ L.drop k))
          generalize L.getD k 0 = y at c1 q1 q2
          have q2b : (y == n) = false := by simpa using q2
          obtain ⟨A, C, hsT, hAI⟩ := slice_tail OW.out k hk
          have hsH := slice_front OW.out k hk
          have HAI : Hid (IntsAt wr A (L.drop k)) := hAI
          have HTI : Hid (IntsAt wr _ (L.take k)) := ints_take GI.out k
          have hkl : (L.take k).length = k := by simp; omega
          have hdl : (L.drop k).length = L.length - k := by simp
          have B1 : ∀ o, Below wr.heap.size wr (wr.alloc o) := fun o => (Below.refl _ _).alloc (Nat.le_refl _) o
          clear hAI
          go_wp2_with (at_builtin; refine wpA _ rfl _ _ rfl wr.heap.size _ _ _ rfl (row_lit wr [] _ rfl 0 rfl (by simp)) _ (L.take k) k _ rfl hkl.symm (IntsAt.below HTI.out (B1 _)) ?c1 ?c2 ?_)
          all_goals try (case c1 => first | omega | (simp; omega))
          all_goals try (case c2 => first | omega | simp)
          intro v2 w2 hown2 hgrow _
          have hb2 : Below wr.heap.size wr w2 := Below.grown (B1 _) hgrow (B1 _).size (fun g hg => by simp [Value.ownBlock] at hg; omega)
          have OW2 : Hid (w2.ownsRow wr.heap.size 3 1 v2 k (ints (L.take k))) := own_cast hown2 (by simp) (by simp [ints])
          obtain ⟨xa, xc, rfl⟩ := own_form' OW2.out
          have HB2 : Hid _ := hb2
          clear hown2 hgrow hb2
          go_wp2_with (at_builtin; refine wpA _ rfl _ _ rfl wr.heap.size _ _ _ rfl (World.ownsRow.alloc OW2.out (.cells #[.int .i64 n] 3)) _ [n] 1 1 rfl rfl (ints_new _ n _ _ rfl) ?d1 ?d2 ?_)
          all_goals try (case d1 => omega)
          all_goals try (case d2 => have := HB2.out.size; simp; omega)
          intro v3 w3 hown3 hgrow _
          have OW3 : Hid (w3.ownsRow wr.heap.size 3 1 v3 (k + 1) (ints (L.take k ++ [n]))) := own_cast hown3 rfl (by simp [ints])
          obtain ⟨ya, yc, rfl⟩ := own_form' OW3.out
          have HB3 : Hid (Below wr.heap.size wr w3) := by
            have hz := HB2.out.size
            refine Below.grown (HB2.out.alloc HB2.out.size _) hgrow (by simp; omega) (fun g hg => ?_)
            exact (World.ownsRow.lt OW2.out g hg).1
          clear hown3 hgrow
          go_wp2_with (at_builtin; refine wpA _ rfl _ _ rfl wr.heap.size _ _ _ rfl OW3.out A (L.drop k) (L.length - k) C rfl hdl.symm (IntsAt.below HAI.out HB3.out) ?e1 ?e2 ?_)
          all_goals try (case e1 => first | omega | (simp; omega))
          all_goals try (case e2 => exact HB3.out.size)
          intro v4 w4 hown4 hgrow _
          have OW4 : Hid (w4.ownsRow wr.heap.size 3 1 v4 (putL n L).length (ints (putL n L))) := by
            rw [HPUT.out]
            exact own_cast hown4 (by simp; omega) (by simp [ints])
          have HB4 : Hid (Below wr.heap.size wr w4) := Below.grown HB3.out hgrow HB3.out.size (fun g hg => (World.ownsRow.lt OW3.out g hg).1)
          clear hown4 hgrow
          go_wp2
          go_ret
          exact ⟨_, rfl, own_mono OW4.out hb, HB4.out⟩
    · have hke : k = L.length := by omega
      have hltI : ¬ (k : Int) < (L.length : Int) := by omega
      have HPUT : Hid (putL n L = L.take k ++ ([n] ++ L.drop k)) := (by rw [putL_at hk HALL.out (fun h => absurd h hlt), if_neg fun h => hlt h.1] : putL n L = L.take k ++ ([n] ++ L.drop k))
      clear hke
      obtain ⟨A, C, hsT, hAI⟩ := slice_tail OW.out k hk
      have hsH := slice_front OW.out k hk
      have HAI : Hid (IntsAt wr A (L.drop k)) := hAI
      have HTI : Hid (IntsAt wr _ (L.take k)) := ints_take GI.out k
      have hkl : (L.take k).length = k := by simp; omega
      have hdl : (L.drop k).length = L.length - k := by simp
      have B1 : ∀ o, Below wr.heap.size wr (wr.alloc o) := fun o => (Below.refl _ _).alloc (Nat.le_refl _) o
      clear hAI
      go_wp2_with (at_builtin; refine wpA _ rfl _ _ rfl wr.heap.size _ _ _ rfl (row_lit wr [] _ rfl 0 rfl (by simp)) _ (L.take k) k _ rfl hkl.symm (IntsAt.below HTI.out (B1 _)) ?c1 ?c2 ?_)
      all_goals try (case c1 => first | omega | (simp; omega))
      all_goals try (case c2 => first | omega | simp)
      intro v2 w2 hown2 hgrow _
      have hb2 : Below wr.heap.size wr w2 := Below.grown (B1 _) hgrow (B1 _).size (fun g hg => by simp [Value.ownBlock] at hg; omega)
      have OW2 : Hid (w2.ownsRow wr.heap.size 3 1 v2 k (ints (L.take k))) := own_cast hown2 (by simp) (by simp [ints])
      obtain ⟨xa, xc, rfl⟩ := own_form' OW2.out
      have HB2 : Hid _ := hb2
      clear hown2 hgrow hb2
      go_wp2_with (at_builtin; refine wpA _ rfl _ _ rfl wr.heap.size _ _ _ rfl (World.ownsRow.alloc OW2.out (.cells #[.int .i64 n] 3)) _ [n] 1 1 rfl rfl (ints_new _ n _ _ rfl) ?d1 ?d2 ?_)
      all_goals try (case d1 => omega)
      all_goals try (case d2 => have := HB2.out.size; simp; omega)
      intro v3 w3 hown3 hgrow _
      have OW3 : Hid (w3.ownsRow wr.heap.size 3 1 v3 (k + 1) (ints (L.take k ++ [n]))) := own_cast hown3 rfl (by simp [ints])
      obtain ⟨ya, yc, rfl⟩ := own_form' OW3.out
      have HB3 : Hid (Below wr.heap.size wr w3) := by
        have hz := HB2.out.size
        refine Below.grown (HB2.out.alloc HB2.out.size _) hgrow (by simp; omega) (fun g hg => ?_)
        exact (World.ownsRow.lt OW2.out g hg).1
      clear hown3 hgrow
      go_wp2_with (at_builtin; refine wpA _ rfl _ _ rfl wr.heap.size _ _ _ rfl OW3.out A (L.drop k) (L.length - k) C rfl hdl.symm (IntsAt.below HAI.out HB3.out) ?e1 ?e2 ?_)
      all_goals try (case e1 => first | omega | (simp; omega))
      all_goals try (case e2 => exact HB3.out.size)
      intro v4 w4 hown4 hgrow _
      have OW4 : Hid (w4.ownsRow wr.heap.size 3 1 v4 (putL n L).length (ints (putL n L))) := by
        rw [HPUT.out]
        exact own_cast hown4 (by simp; omega) (by simp [ints])
      have HB4 : Hid (Below wr.heap.size wr w4) := Below.grown HB3.out hgrow HB3.out.size (fun g hg => (World.ownsRow.lt OW3.out g hg).1)
      clear hown4 hgrow
      go_wp2
      go_ret
      exact ⟨_, rfl, own_mono OW4.out hb, HB4.out⟩
end Go.Proofs.Ytlkcdcdgpklpoaa

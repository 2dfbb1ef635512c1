/-
  SplitRune of both, lists that may be held, copies of a list (laws.toIntS), SplitAll of both.
-/
import Derived.Test.YtjfehgmpcgepnaaN3A
import Derived.Test.YtjfehgmpcgepnaaRowAp
import Derived.OwnWalk
namespace Go.Proofs.Ytjfehgmpcgepnaa
open Go.ChangeShapes Go.WideShapes Go.ChangeAt Go.RowKit
/-- Two rows of one's own that were made one behind the other are apart. -/
theorem own_apart {w1 w2 : World} {b1 b2 : Nat} {e : TypeId} {s : Nat} {v1 v2 : Value} {n1 n2 : Nat} {xs1 xs2 : List Value} (h1 : w1.ownsRow b1 e s v1 n1 xs1) (h2 : w2.ownsRow b2 e s v2 n2 xs2) (h : w1.heap.size ≤ b2) : v1.ownBlock = none ∨ v1.ownBlock ≠ v2.ownBlock := by
  cases hb : v1.ownBlock with
  | none => exact .inl rfl
  | some g =>
    refine .inr fun e' => ?_
    have h3 := (World.ownsRow.lt h1 g hb).2
    have h4 := (World.ownsRow.lt h2 g e'.symm).1
    omega
theorem own_apart' {w1 w2 : World} {b1 b2 : Nat} {e : TypeId} {s : Nat} {v1 v2 : Value} {n1 n2 : Nat} {xs1 xs2 : List Value} (h1 : w1.ownsRow b1 e s v1 n1 xs1) (h2 : w2.ownsRow b2 e s v2 n2 xs2) (h : w1.heap.size ≤ b2) : v2.ownBlock = none ∨ v2.ownBlock ≠ v1.ownBlock := by
  cases hb : v2.ownBlock with
  | none => exact .inl rfl
  | some g =>
    refine .inr fun e' => ?_
    have h3 := (World.ownsRow.lt h1 g e'.symm).2
    have h4 := (World.ownsRow.lt h2 g hb).1
    omega
theorem isplitR_no (r : Int) (w : World) (hg : goodB r = false) :
    Calls Try.prog 27 #[.int .i64 r] w fun e w' => e = .returned (.tuple #[.slice none 0 0, .bool false]) ∧ w' = w := by
  have HG : Hid _ := hg
  clear hg
  go_enter Try.func27, Try.ntmps27
  go_wp2_with fail
  refine (igood_not HG.out _).mono ?_
  rintro e w1 ⟨rfl, rfl⟩
  go_wp2
  go_ret2
  exact ⟨rfl, rfl⟩
set_option maxRecDepth 100000 in
set_option maxHeartbeats 1000000 in
theorem isplitR_yes (r : Int) (w : World) (hg : goodB r = true) :
    Calls Try.prog 27 #[.int .i64 r] w fun e w' => ∃ v, e = .returned (.tuple #[v, .bool true]) ∧ w'.ownsRow w.heap.size 3 1 v (splitL r).length (ints (splitL r)) ∧ Below w.heap.size w w' := by
  have HG : Hid _ := hg
  have g1 := goodB_true hg
  have h0 := g1.1
  have h1 := g1.2.1
  clear hg g1
  have B1 : ∀ o, Below w.heap.size w (w.alloc o) := fun o => (Below.refl _ _).alloc (Nat.le_refl _) o
  by_cases hA : 57344 ≤ r ∧ r ≤ 57759
  · obtain ⟨a1, a2⟩ := hA
    by_cases hp : r < 57552
    · rw [splitL_1 a1 hp]
      have HL : Hid ((if (r - 57344) / 8 < 26 then 65 + (r - 57344) / 8 else 97 + (r - 57344) / 8 - 26) = 65 + (r - 57344) / 8) := by
        show (if _ then _ else _) = _
        rw [if_pos (by omega)]
      go_enter Try.func27, Try.ntmps27
      go_wp2_with (first | (go_at_call 40; refine (igood_yes HG.out _).mono ?_; rintro e w' ⟨rfl, hw⟩; obtain rfl := hw.symm) | (go_at_call 41; refine (among_yes (by omega) (by omega) _).mono ?_; rintro e w' ⟨rfl, rfl⟩) | (go_at_call 42; refine (letter_any ((r - 57344) / 8) (by omega) (by omega) _).mono ?_; rintro e w' ⟨rfl, rfl⟩; rw [HL.out]))
      go_ret2
      exact ⟨_, rfl, row_lit w [65 + (r - 57344) / 8, 768 + (r - 57344) % 8] _ rfl 2 rfl (by simp), B1 _⟩
    · rw [splitL_2 (by omega) a2]
      have HL : Hid ((if (r - 57344) / 8 < 26 then 65 + (r - 57344) / 8 else 97 + (r - 57344) / 8 - 26) = 97 + (r - 57344) / 8 - 26) := by
        show (if _ then _ else _) = _
        rw [if_neg (by omega)]
      go_enter Try.func27, Try.ntmps27
      go_wp2_with (first | (go_at_call 40; refine (igood_yes HG.out _).mono ?_; rintro e w' ⟨rfl, hw⟩; obtain rfl := hw.symm) | (go_at_call 41; refine (among_yes (by omega) (by omega) _).mono ?_; rintro e w' ⟨rfl, rfl⟩) | (go_at_call 42; refine (letter_any ((r - 57344) / 8) (by omega) (by omega) _).mono ?_; rintro e w' ⟨rfl, rfl⟩; rw [HL.out]))
      go_ret2
      exact ⟨_, rfl, row_lit w [97 + (r - 57344) / 8 - 26, 768 + (r - 57344) % 8] _ rfl 2 rfl (by simp), B1 _⟩
  · by_cases hB : 44032 ≤ r ∧ r ≤ 55203
    · obtain ⟨a1, a2⟩ := hB
      go_enter Try.func27, Try.ntmps27
      go_wp2_with (first | (go_at_call 40; refine (igood_yes HG.out _).mono ?_; rintro e w' ⟨rfl, hw⟩; obtain rfl := hw.symm) | (go_at_call 41; first | (refine (among_yes (by omega) (by omega) _).mono ?_; rintro e w' ⟨rfl, rfl⟩) | (refine (among_no (by omega) (by omega) _).mono ?_; rintro e w' ⟨rfl, rfl⟩)))
      refine (parts_any r (r - 44032) _ rfl a1 a2).mono ?_
      rintro e w2 ⟨v, rfl, ow, b⟩
      go_wp2
      go_ret2
      exact ⟨v, rfl, ow, b⟩
    · rw [splitL_5 hB hA]
      go_enter Try.func27, Try.ntmps27
      go_wp2_with (first | (go_at_call 40; refine (igood_yes HG.out _).mono ?_; rintro e w' ⟨rfl, hw⟩; obtain rfl := hw.symm) | (go_at_call 41; refine (among_no (by omega) (by omega) _).mono ?_; rintro e w' ⟨rfl, rfl⟩))
      go_ret2
      exact ⟨_, rfl, row_lit w [r] _ rfl 1 rfl (by simp), B1 _⟩
/-- A list that may be held. -/
def heldB (L : List Int) : Bool := decide (L.length ≤ 300) && allG L
theorem heldB_true {L : List Int} (h : heldB L = true) : L.length ≤ 300 ∧ allG L = true := by simpa [heldB] using h
theorem heldB_mk {L : List Int} (h1 : L.length ≤ 300) (h2 : allG L = true) : heldB L = true := by simp [heldB, h1, h2]
set_option maxRecDepth 100000 in
set_option maxHeartbeats 1000000 in
theorem slist_any (L : List Int) (ao : Option Addr) (cap : Nat) (w : World) (hl : L.length ≤ 1048576) (hA : IntsAt w ao L) :
    Calls Try.prog 20 #[.slice ao L.length cap] w fun e w' => e = .returned (.bool (heldB L)) ∧ Below w.heap.size w w' := by
  have HA : Hid _ := hA
  clear hA
  by_cases h3 : (L.length : Int) ≤ 300
  · have HB : Hid (heldB L = (allG L && decide (L.length ≤ 1000))) := by
      show heldB L = _
      unfold heldB
      rw [decide_eq_true (show L.length ≤ 300 by omega), decide_eq_true (show L.length ≤ 1000 by omega)]
      simp
    rw [HB.out]
    have hl2 := hl
    go_enter Try.func20, Try.ntmps20
    go_wp2_with fail
    refine (all_any L ao cap _ hl2 HA.out).mono ?_
    rintro e w1 ⟨rfl, b⟩
    go_wp2
    go_ret
    exact ⟨rfl, b⟩
  · have HB : Hid (heldB L = false) := by
      show heldB L = _
      unfold heldB
      rw [decide_eq_false (show ¬ L.length ≤ 300 by omega)]
      rfl
    rw [HB.out]
    go_enter Try.func20, Try.ntmps20
    go_wp2
    go_ret
    exact ⟨rfl, Below.refl _ _⟩
set_option maxRecDepth 100000 in
set_option maxHeartbeats 1000000 in
theorem iall3_any (L : List Int) (ao : Option Addr) (cap : Nat) (w : World) (hl : L.length ≤ 1048576) (hA : IntsAt w ao L) :
    Calls Try.prog 28 #[.slice ao L.length cap] w fun e w' => e = .returned (.bool (allG L)) ∧ w' = w := by
  have HA : Hid _ := hA
  clear hA
  go_enter Try.func28, Try.ntmps28
  go_wp2
  go_loopw [7] (fun i wr => ∃ k : Nat, k ≤ L.length ∧ i = .int .i64 k ∧ (∀ j, j < k → goodB (L.getD j 0) = true) ∧ wr = w) (fun i _ => L.length - (intOf i).toNat)
  case atStart => exact ⟨0, Nat.zero_le _, rfl, fun j hj => absurd hj (by omega), rfl⟩
  case round =>
    obtain ⟨k, hk, rfl, hall, rfl⟩ := hrel
    have HALL : Hid _ := hall
    clear hall
    by_cases hlt : k < L.length
    · have hltI : (k : Int) < (L.length : Int) := by omega
      obtain ⟨b1, o1, rfl, l1, h1⟩ := HA.out k hlt
      cases hgd : goodB (L.getD k 0)
      · have HG : Hid _ := hgd
        have HB : Hid _ := allG_bad hlt hgd
        clear hgd
        generalize L.getD k 0 = r at *
        go_wp2_with (go_at_call 40; refine (igood_not HG.out _).mono ?_; rintro e w' ⟨rfl, rfl⟩)
        go_ret
        exact ⟨by rw [HB.out]; rfl, rfl⟩
      · have HG : Hid _ := hgd
        have HN : Hid (∀ j, j < k + 1 → goodB (L.getD j 0) = true) := fun j hj => by
          by_cases e : j = k
          · subst e; exact hgd
          · exact HALL.out j (by omega)
        clear hgd
        generalize L.getD k 0 = r at *
        go_wp2_with (go_at_call 40; refine (igood_yes HG.out _).mono ?_; rintro e w' ⟨rfl, rfl⟩)
        go_roundw
        case rel => exact ⟨k + 1, by omega, by go_num, HN.out, by first | rfl | trivial⟩
        case measure => simp [intOf]; omega
    · obtain rfl : k = L.length := by omega
      have HB : Hid (allG L = true) := List.all_eq_true.2 fun r hr => by
        obtain ⟨j, hj, rfl⟩ := List.mem_iff_getElem.1 hr
        have := HALL.out j hj
        simpa [List.getD, hj] using this
      go_wp2
      go_ret
      exact ⟨by rw [HB.out]; rfl, rfl⟩
set_option maxRecDepth 100000 in
set_option maxHeartbeats 1000000 in
theorem iheld_any (L : List Int) (ao : Option Addr) (cap : Nat) (w : World) (hl : L.length ≤ 1048576) (hA : IntsAt w ao L) :
    Calls Try.prog 17 #[.slice ao L.length cap] w fun e w' => e = .returned (.bool (heldB L)) ∧ w = w' := by
  have HA : Hid _ := hA
  clear hA
  by_cases h3 : (L.length : Int) ≤ 300
  · have HB : Hid (heldB L = allG L) := by
      show heldB L = _
      unfold heldB
      rw [decide_eq_true (show L.length ≤ 300 by omega)]
      simp
    rw [HB.out]
    go_enter Try.func17, Try.ntmps17
    go_wp2_with fail
    refine (iall3_any L ao cap _ hl HA.out).mono ?_
    rintro e w1 ⟨rfl, rfl⟩
    go_wp2
    go_ret
    exact ⟨rfl, rfl⟩
  · have HB : Hid (heldB L = false) := by
      show heldB L = _
      unfold heldB
      rw [decide_eq_false (show ¬ L.length ≤ 300 by omega)]
      rfl
    rw [HB.out]
    go_enter Try.func17, Try.ntmps17
    go_wp2
    go_ret
    exact ⟨rfl, rfl⟩
end Go.Proofs.Ytjfehgmpcgepnaa

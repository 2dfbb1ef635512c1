/-
  Two lists the same; tidy trees as plain functions; isNothing and isSame of the program.
-/
import Derived.Test.YtendikiflikobaaT5G
namespace Go.Proofs.Ytendikiflikobaa
open Go.ChangeShapes Go.WideShapes Go.ChangeAt Go.WideMaps Go.WideElems Go.RowKit
set_option maxRecDepth 100000 in
set_option maxHeartbeats 1000000 in
theorem iEq_any (S M : List Int) (a b : Option Addr) (ca cb : Nat) (w : World) (hl : S.length ≤ 1048576) (ha : IntsAt w a S) (hb : IntsAt w b M) :
    Calls Try.prog 124 #[.slice a S.length ca, .slice b M.length cb] w fun e w' => e = .returned (.bool (decide (S = M))) ∧ Below w.heap.size w w' := by
  have HA : Hid (IntsAt w a S) := ha
  have HB : Hid (IntsAt w b M) := hb
  clear ha hb
  by_cases hlen : S.length = M.length
  · have HLE : Hid (S.length = M.length) := hlen
    obtain ⟨n, hn⟩ : ∃ n, n = S.length := ⟨_, rfl⟩
    have HN : Hid (n = S.length) := hn
    have HN2 : Hid (n = M.length) := hn.trans hlen
    rw [← hlen, ← hn]
    rw [← hn] at hl
    clear hlen hn
    go_enter Try.func124, Try.ntmps124
    go_wp2
    go_loopw [13] (fun i wr => ∃ k : Nat, k ≤ n ∧ i = .int .i64 k ∧ (∀ j, j < k → S.getD j 0 = M.getD j 0) ∧ Below w.heap.size w wr) (fun i _ => n - (intOf i).toNat)
    case atStart => exact ⟨0, Nat.zero_le _, rfl, fun j hj => absurd hj (by omega), Below.refl _ _⟩
    case round =>
      obtain ⟨k, hk, rfl, hall, hbw⟩ := hrel
      have HALL : Hid (∀ j, j < k → S.getD j 0 = M.getD j 0) := hall
      clear hall
      by_cases hlt : k < n
      · obtain ⟨b1, o1, rfl, l1, h1⟩ := HA.out k (by have := HN.out; omega)
        obtain ⟨b2, o2, rfl, l2, h2⟩ := HB.out k (by have := HN2.out; omega)
        have g1 : wr.cell? ⟨b1, o1 + k, none⟩ = some (.int .i64 (S.getD k 0)) := (hbw.cell (p := ⟨b1, o1 + k, none⟩) l1).trans h1
        have g2 : wr.cell? ⟨b2, o2 + k, none⟩ = some (.int .i64 (M.getD k 0)) := (hbw.cell (p := ⟨b2, o2 + k, none⟩) l2).trans h2
        have hltI : (k : Int) < (n : Int) := by omega
        clear h1 h2
        obtain ⟨x, hx⟩ : ∃ x, x = S.getD k 0 := ⟨_, rfl⟩
        obtain ⟨y, hy⟩ : ∃ y, y = M.getD k 0 := ⟨_, rfl⟩
        rw [← hx] at g1
        rw [← hy] at g2
        have HX : Hid (x = S.getD k 0) := hx
        have HY : Hid (y = M.getD k 0) := hy
        clear hx hy
        by_cases hxy : x = y
        · have HXY : Hid (x = y) := hxy
          subst hxy
          go_wp2
          go_quiet (fail)
          go_wp2
          go_roundw
          case rel =>
            refine ⟨k + 1, by omega, by go_num, fun j hj => ?_, below_drewN hbw _⟩
            by_cases e : j = k
            · subst e; rw [← HX.out, ← HY.out]
            · exact HALL.out j (by omega)
          case measure => simp [intOf]; omega
        · have HNE : Hid (decide (S = M) = false) := decide_eq_false (fun e => hxy (by rw [HX.out, HY.out, e]))
          have hbe : (x == y) = false := by simpa using hxy
          go_wp2
          go_quiet (fail)
          go_wp2
          go_ret
          exact ⟨by rw [HNE.out] <;> rfl, below_drewN hbw _⟩
      · have hkn : k = n := by omega
        have HEQ : Hid (decide (S = M) = true) := decide_eq_true (by
          apply List.ext_getElem HLE.out
          intro j h1 h2
          have := HALL.out j (by have := HN.out; omega)
          simpa [List.getD, h1, h2] using this)
        go_wp2
        go_ret
        exact ⟨by rw [HEQ.out] <;> rfl, hbw⟩
  · have HNE : Hid (decide (S = M) = false) := decide_eq_false (fun e => hlen (by rw [e]))
    have hI : ¬ (S.length : Int) = (M.length : Int) := by omega
    go_enter Try.func124, Try.ntmps124
    go_wp2
    go_ret
    exact ⟨by rw [HNE.out] <;> rfl, Below.refl _ _⟩
set_option maxRecDepth 100000 in
set_option maxHeartbeats 1000000 in
theorem sSame_any (S M : List Int) (a b : Option Addr) (ca cb : Nat) (w : World) (hl : S.length ≤ 1048576) (ha : IntsAt w a S) (hb : IntsAt w b M) :
    Calls Try.prog 125 #[.slice a S.length ca, .slice b M.length cb] w fun e w' => e = .returned (.bool (decide (S = M))) ∧ Below w.heap.size w w' := by
  have HA : Hid (IntsAt w a S) := ha
  have HB : Hid (IntsAt w b M) := hb
  clear ha hb
  by_cases hlen : S.length = M.length
  · have HLE : Hid (S.length = M.length) := hlen
    obtain ⟨n, hn⟩ : ∃ n, n = S.length := ⟨_, rfl⟩
    have HN : Hid (n = S.length) := hn
    have HN2 : Hid (n = M.length) := hn.trans hlen
    rw [← hlen, ← hn]
    rw [← hn] at hl
    clear hlen hn
    go_enter Try.func125, Try.ntmps125
    go_wp2
    go_loopw [13] (fun i wr => ∃ k : Nat, k ≤ n ∧ i = .int .i64 k ∧ (∀ j, j < k → S.getD j 0 = M.getD j 0) ∧ Below w.heap.size w wr) (fun i _ => n - (intOf i).toNat)
    case atStart => exact ⟨0, Nat.zero_le _, rfl, fun j hj => absurd hj (by omega), Below.refl _ _⟩
    case round =>
      obtain ⟨k, hk, rfl, hall, hbw⟩ := hrel
      have HALL : Hid (∀ j, j < k → S.getD j 0 = M.getD j 0) := hall
      clear hall
      by_cases hlt : k < n
      · obtain ⟨b1, o1, rfl, l1, h1⟩ := HA.out k (by have := HN.out; omega)
        obtain ⟨b2, o2, rfl, l2, h2⟩ := HB.out k (by have := HN2.out; omega)
        have g1 : wr.cell? ⟨b1, o1 + k, none⟩ = some (.int .i64 (S.getD k 0)) := (hbw.cell (p := ⟨b1, o1 + k, none⟩) l1).trans h1
        have g2 : wr.cell? ⟨b2, o2 + k, none⟩ = some (.int .i64 (M.getD k 0)) := (hbw.cell (p := ⟨b2, o2 + k, none⟩) l2).trans h2
        have hltI : (k : Int) < (n : Int) := by omega
        clear h1 h2
        obtain ⟨x, hx⟩ : ∃ x, x = S.getD k 0 := ⟨_, rfl⟩
        obtain ⟨y, hy⟩ : ∃ y, y = M.getD k 0 := ⟨_, rfl⟩
        rw [← hx] at g1
        rw [← hy] at g2
        have HX : Hid (x = S.getD k 0) := hx
        have HY : Hid (y = M.getD k 0) := hy
        clear hx hy
        by_cases hxy : x = y
        · have HXY : Hid (x = y) := hxy
          subst hxy
          go_wp2
          go_quiet (fail)
          go_wp2
          go_roundw
          case rel =>
            refine ⟨k + 1, by omega, by go_num, fun j hj => ?_, below_drewN hbw _⟩
            by_cases e : j = k
            · subst e; rw [← HX.out, ← HY.out]
            · exact HALL.out j (by omega)
          case measure => simp [intOf]; omega
        · have HNE : Hid (decide (S = M) = false) := decide_eq_false (fun e => hxy (by rw [HX.out, HY.out, e]))
          have hbe : (x == y) = false := by simpa using hxy
          go_wp2
          go_quiet (fail)
          go_wp2
          go_ret
          exact ⟨by rw [HNE.out] <;> rfl, below_drewN hbw _⟩
      · have hkn : k = n := by omega
        have HEQ : Hid (decide (S = M) = true) := decide_eq_true (by
          apply List.ext_getElem HLE.out
          intro j h1 h2
          have := HALL.out j (by have := HN.out; omega)
          simpa [List.getD, h1, h2] using this)
        go_wp2
        go_ret
        exact ⟨by rw [HEQ.out] <;> rfl, hbw⟩
  · have HNE : Hid (decide (S = M) = false) := decide_eq_false (fun e => hlen (by rw [e]))
    have hI : ¬ (S.length : Int) = (M.length : Int) := by omega
    go_enter Try.func125, Try.ntmps125
    go_wp2
    go_ret
    exact ⟨by rw [HNE.out] <;> rfl, Below.refl _ _⟩
def eqT : Option Tr → Option Tr → Bool
  | none, none => true
  | none, some _ => false
  | some _, none => false
  | some ⟨op, s, a, b⟩, some ⟨op', s', a', b'⟩ => decide (op = op') && (decide (s = s') && (eqT a a' && eqT b b'))
theorem eqT_iff : ∀ a b : Option Tr, eqT a b = true ↔ a = b
  | none, none => by simp [eqT]
  | none, some u => by simp [eqT]
  | some t, none => by simp [eqT]
  | some ⟨op, s, a, b⟩, some ⟨op', s', a', b'⟩ => by
    have h1 := eqT_iff a a'
    have h2 := eqT_iff b b'
    rw [eqT, Bool.and_eq_true, Bool.and_eq_true, Bool.and_eq_true, h1, h2, decide_eq_true_eq, decide_eq_true_eq]
    constructor
    · rintro ⟨rfl, rfl, rfl, rfl⟩; rfl
    · intro h
      cases h
      exact ⟨rfl, rfl, rfl, rfl⟩
def opT : Option Tr → Int
  | none => 0
  | some ⟨op, _, _, _⟩ => op
def noneB : Option Tr → Bool
  | none => false
  | some ⟨op, s, _, _⟩ => decide (op = 2) && decide (s.length = 0)
def fstT : Option Tr → Option Tr
  | none => none
  | some ⟨_, _, a, _⟩ => a
/-- One of the two parts, where that is enough. -/
def onePart (op : Int) (s : List Int) (a b : Option Tr) : Option Tr :=
  if op = 3 then (if noneB a = true ∨ opT b = 1 then a else if noneB b = true ∨ opT a = 1 then b else some ⟨op, s, a, b⟩)
  else if op = 4 then (if noneB a = true then b else if noneB b = true ∨ eqT a b = true then a else some ⟨op, s, a, b⟩)
  else if op = 5 then (if noneB a = true ∨ eqT a b = true then a else if noneB b = true then b else some ⟨op, s, a, b⟩)
  else some ⟨op, s, a, b⟩
def oneOf (op : Int) (s : List Int) (a b : Option Tr) : Option Tr :=
  if op = 6 then (if opT a = 1 ∨ noneB a = true then some ⟨1, [], none, none⟩ else if opT a = 6 then a else some ⟨op, s, a, b⟩)
  else if op = 7 then (if opT a = 7 then fstT a else some ⟨op, s, a, b⟩)
  else some ⟨op, s, a, b⟩
/-- The tidy tree. -/
def tidyT : Option Tr → Option Tr
  | none => none
  | some ⟨op, s, a, b⟩ => if op = 3 ∨ op = 4 ∨ op = 5 then onePart op s (tidyT a) (tidyT b) else oneOf op s (tidyT a) (tidyT b)
set_option maxRecDepth 100000 in
set_option maxHeartbeats 1000000 in
theorem inothing_any (B U : Nat) (t : Tr) (p : Option Addr) (w : World) (ht : TreeAt B U w (some t) p) :
    Calls Try.prog 90 #[.pointer p] w fun e w' => e = .returned (.bool (noneB (some t))) ∧ w' = w := by
  obtain ⟨op, s, a, b⟩ := t
  obtain ⟨x, sa, sc, pa, pb, rfl, -, -, hx, -, -, -⟩ := ht.node
  obtain ⟨c0, c1, c2, c3⟩ := node_cells hx
  clear ht hx
  by_cases h2 : op = 2
  · subst h2
    by_cases hs : s.length = 0
    · have HV : Hid (noneB (some ⟨2, s, a, b⟩) = true) := by show noneB _ = _; simp [noneB, hs]
      rw [hs] at c1
      go_enter Try.func90, Try.ntmps90
      go_wp2
      go_ret
      exact ⟨by rw [HV.out] <;> rfl, rfl⟩
    · have HV : Hid (noneB (some ⟨2, s, a, b⟩) = false) := by show noneB _ = _; simp [noneB, hs]
      have hI : ((s.length : Int) == 0) = false := by simpa using hs
      go_enter Try.func90, Try.ntmps90
      go_wp2
      go_ret
      exact ⟨by rw [HV.out] <;> rfl, rfl⟩
  · have HV : Hid (noneB (some ⟨op, s, a, b⟩) = false) := by show noneB _ = _; simp [noneB, h2]
    have hb : (op == 2) = false := by simpa using h2
    go_enter Try.func90, Try.ntmps90
    go_wp2
    go_ret
    exact ⟨by rw [HV.out] <;> rfl, rfl⟩
end Go.Proofs.Ytendikiflikobaa

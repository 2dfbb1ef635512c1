/-
  A new trie; a step along its edges.
-/
import Derived.Test.YtdhppigjlldfmaaW8A
import Derived.ScopeJumps
import Derived.WalkMore
import Derived.Carry
namespace Go.Proofs.Ytdhppigjlldfmaa
open Go.ChangeShapes Go.WideShapes Go.ChangeAt Go.RowKit Go.Maps
theorem al_W (w : World) (o : Obj) : Below w.heap.size w (w.alloc o) := (Below.refl _ _).alloc (Nat.le_refl _) o
set_option maxRecDepth 100000 in
set_option maxHeartbeats 1000000 in
theorem newTrie_any (r : Int) (w : World) :
    Calls Try.prog 66 #[.int .i64 r] w fun e w' => ∃ tb, e = .returned (.pointer (some ⟨tb, 0, none⟩)) ∧ TrieAt w' w.heap.size tb [⟨-1, r, 0, 0, .slice none 0 0⟩] noE ∧ Below w.heap.size w w' := by
  have hmm := @run_makeMap Try.prog
  go_enter Try.func66, Try.ntmps66
  go_wp2
  go_ret
  have b1 := al_W w (.cells #[.int .i64 (-1), .int .i64 r, .int .i64 0, .int .i64 0, .slice none 0 0] 75)
  have hr : (w.alloc (.cells #[.int .i64 (-1), .int .i64 r, .int .i64 0, .int .i64 0, .slice none 0 0] 75)).ownsRow w.heap.size 75 5 (.slice (some ⟨w.heap.size, 0, none⟩) 1 1) 1 (fl5 [⟨-1, r, 0, 0, .slice none 0 0⟩]) :=
    ⟨rfl, .inr ⟨w.heap.size, 1, _, rfl, Nat.le_refl _, heap_last2 _ _ _ rfl, Nat.le_refl _, by decide, rfl, rfl⟩⟩
  generalize hw1 : w.alloc (.cells #[.int .i64 (-1), .int .i64 r, .int .i64 0, .int .i64 0, .slice none 0 0] 75) = w1 at *
  have hm := edges_made w1
  have b2 := al_W w1 (.map #[] 0)
  generalize hw2 : w1.alloc (.map #[] 0) = w2 at *
  have hs1 : w1.heap.size = w.heap.size + 1 := by rw [← hw1]; simp
  have hs2 : w2.heap.size = w1.heap.size + 1 := by rw [← hw2]; simp
  rw [hs1] at hm
  have b3 := al_W w2 (.cells #[.slice (some ⟨w.heap.size, 0, none⟩) 1 1, .map (some (w.heap.size + 1))] 71)
  have hb3 : (w2.alloc (.cells #[.slice (some ⟨w.heap.size, 0, none⟩) 1 1, .map (some (w.heap.size + 1))] 71)).heap[w.heap.size + 1 + 1]? = some (.cells #[.slice (some ⟨w.heap.size, 0, none⟩) 1 1, .map (some (w.heap.size + 1))] 71) := heap_last2 _ _ _ (by omega)
  refine ⟨w.heap.size + 1 + 1, by first | rfl | simp [hs1, hs2], ⟨.slice (some ⟨w.heap.size, 0, none⟩) 1 1, w.heap.size + 1, by omega, by omega, by first | exact hb3 | simpa using hb3, ?_, ?_⟩, ?_⟩
  · exact World.ownsRow.keepB (World.ownsRow.keepB hr b2) b3
  · exact (hm.keepB b3).mono (by simp)
  · exact b1.trans ((b2.mono (by omega)).trans (b3.mono (by omega)))
/-- Where a state fails to. -/
def failN (Q : List Sq) (s : Nat) : Nat := (sq Q s).q.toNat
def stepF (Q : List Sq) (E : Ed) (r : Int) : Nat → Nat → Nat
  | 0, _ => 0
  | f + 1, s => match E s r with
    | some j => j
    | none => if s = 0 then 0 else stepF Q E r f (failN Q s)
/-- Where a step by r leads. -/
def stepN (Q : List Sq) (E : Ed) (s : Nat) (r : Int) : Nat := stepF Q E r (s + 1) s
/-- All states but the first fail to lesser ones. -/
def FailOk (Q : List Sq) : Prop := ∀ j, 0 < j → j < Q.length → 0 ≤ (sq Q j).q ∧ (sq Q j).q < j
theorem FailOk.lt {Q : List Sq} (h : FailOk Q) {s : Nat} (h0 : 0 < s) (hs : s < Q.length) : failN Q s < s ∧ ((failN Q s : Nat) : Int) = (sq Q s).q := by
  have := h s h0 hs
  unfold failN
  omega
theorem stepF_fuel {Q : List Sq} (h : FailOk Q) (E : Ed) (r : Int) : ∀ (f s : Nat), s < Q.length → s < f → stepF Q E r f s = stepF Q E r (s + 1) s
  | 0, s, _, hf => by omega
  | f + 1, s, hs, hf => by
    rw [stepF, stepF]
    cases E s r with
    | some j => rfl
    | none =>
      dsimp only
      by_cases h0 : s = 0
      · rw [if_pos h0, if_pos h0]
      · rw [if_neg h0, if_neg h0]
        have hl := (h.lt (by omega) hs).1
        rw [stepF_fuel h E r f _ (by omega) (by omega)]
        rw [stepF_fuel h E r s _ (by omega) (by omega)]
theorem stepN_yes {Q : List Sq} {E : Ed} {s : Nat} {r : Int} {j : Nat} (h : E s r = some j) : stepN Q E s r = j := by
  rw [stepN, stepF, h]
theorem stepN_zero {Q : List Sq} {E : Ed} {r : Int} (h : E (0 : Nat) r = none) : stepN Q E 0 r = 0 := by
  rw [stepN, stepF, h]
  rfl
theorem stepN_back {Q : List Sq} (hq : FailOk Q) {E : Ed} {s : Nat} {r : Int} (hs : s < Q.length) (h0 : 0 < s) (h : E s r = none) : stepN Q E s r = stepN Q E (failN Q s) r := by
  rw [stepN, stepF, h]
  dsimp only
  rw [if_neg (by omega), stepN]
  exact stepF_fuel hq E r s _ (by have := (hq.lt h0 hs).1; omega) (hq.lt h0 hs).1
set_option maxRecDepth 100000 in
set_option maxHeartbeats 1000000 in
theorem step_any (base tb s : Nat) (r : Int) (Q : List Sq) (E : Ed) (w : World) (hT : TrieAt w base tb Q E) (hF : FailOk Q) (hs : s < Q.length) (hn : Q.length ≤ 1000000) (hr : wf64 r) :
    Calls Try.prog 49 #[.pointer (some ⟨tb, 0, none⟩), .int .i64 s, .int .i64 r] w fun e w' => e = .returned (.int .i64 (stepN Q E s r)) ∧ w' = w := by
  obtain ⟨g, cap, m, -, -, hbl, hE, hc⟩ := hT.form (by omega)
  have HC : Hid _ := hc
  have HF : Hid _ := hF
  have HR : Hid _ := hr
  have c0 : w.cell? ⟨tb, 0, none⟩ = some (.slice (some ⟨g, 0, none⟩) Q.length cap) := cell_of hbl 0
  have c1 : w.cell? ⟨tb, 1, none⟩ = some (.map (some m)) := cell_of hbl 1
  have HL : Hid (∀ s : Nat, s < Q.length → ∀ j, E s r = some j → (Instr.lookup 69 (.map (some m)) (.agg #[.int .i64 s, .int .i64 r]) true).run Try.prog w = .ok (.tuple #[.int .i64 (j : Int), .bool true]) w) := fun s hs j hj => hE.yes (WalkArith.wf_i64 (by omega)) hr hj
  have HN : Hid (∀ s : Nat, s < Q.length → E s r = none → (Instr.lookup 69 (.map (some m)) (.agg #[.int .i64 s, .int .i64 r]) true).run Try.prog w = .ok (.tuple #[.int .i64 0, .bool false]) w) := fun s hs hj => hE.no (WalkArith.wf_i64 (by omega)) hr hj
  clear hc hF hr hbl hE hT
  go_enter Try.func49, Try.ntmps49
  go_wp2
  refine wp_scope_jumps 0 (fun a' w' => w' = w ∧ ∃ (s' : Nat) (u3 u4 u5 u6 u7 u8 u9 u10 u11 u12 u13 u14 u15 u16 u17 u18 u19 u20 u21 u22 u23 u24 u25 u26 u27 u28 u29 u30 u31 : Value), a' = { tmps := #[.pointer (some ⟨tb, 0, none⟩), .int .i64 s', .int .i64 r, u3, u4, u5, u6, u7, u8, u9, u10, u11, u12, u13, u14, u15, u16, u17, u18, u19, u20, u21, u22, u23, u24, u25, u26, u27, u28, u29, u30, u31], defers := [] } ∧ s' < Q.length ∧ stepN Q E s' r = stepN Q E s r) (fun a' _ => (intOf (a'.tmps.getD 1 undef)).toNat) rfl ?_ ?_
  · cases he : E s r with
    | some j =>
      have hl := HL.out s hs j he
      have HS : Hid (stepN Q E s r = j) := stepN_yes he
      go_wp2
      go_step3
      go_wp2
      try simp only [Exit.jump]
      go_ret
      exact ⟨by rw [HS.out] <;> rfl, rfl⟩
    | none =>
      have hl := HN.out s hs he
      by_cases h0 : s = 0
      · have HS : Hid (stepN Q E s r = 0) := (by subst h0; exact stepN_zero he : stepN Q E s r = 0)
        have h0B : ((s : Int) == 0) = true := by simp [h0]
        clear h0
        go_wp2
        go_step3
        go_wp2
        try simp only [Exit.jump]
        go_ret
        exact ⟨by rw [HS.out] <;> rfl, rfl⟩
      · have hl' := (HC.out s hs).2.2.2.1
        have h0I : ¬ ((s : Int) = 0) := by omega
        have hsI : (s : Int) < (Q.length : Int) := by omega
        obtain ⟨hfl, hfe⟩ := FailOk.lt HF.out (s := s) (by omega) hs
        have HB : Hid (stepN Q E s r = stepN Q E (failN Q s) r) := stepN_back HF.out hs (by omega) he
        rw [← hfe] at hl'
        clear hfe
        go_wp2
        go_step3
        go_wp2
        go_step3
        exact ⟨rfl, rfl, failN Q s, _, _, _, _, _, _, _, _, _, _, _, _, _, _, _, _, _, _, _, _, _, _, _, _, _, _, _, _, _, rfl, by omega, HB.out.symm⟩
  · rintro a' w' ⟨rfl, s', u3, u4, u5, u6, u7, u8, u9, u10, u11, u12, u13, u14, u15, u16, u17, u18, u19, u20, u21, u22, u23, u24, u25, u26, u27, u28, u29, u30, u31, rfl, hs', heq⟩
    have HEQ : Hid _ := heq
    clear heq
    cases he : E s' r with
    | some j =>
      have hl := HL.out s' hs' j he
      have HS : Hid (stepN Q E s' r = j) := stepN_yes he
      go_wp2
      try simp only [Exit.jump]
      go_ret
      exact ⟨by rw [← HEQ.out, HS.out] <;> rfl, rfl⟩
    | none =>
      have hl := HN.out s' hs' he
      by_cases h0 : s' = 0
      · have HS : Hid (stepN Q E s' r = 0) := (by subst h0; exact stepN_zero he : stepN Q E s' r = 0)
        have h0B : ((s' : Int) == 0) = true := by simp [h0]
        clear h0
        go_wp2
        try simp only [Exit.jump]
        go_ret
        exact ⟨by rw [← HEQ.out, HS.out] <;> rfl, rfl⟩
      · have hl' := (HC.out s' hs').2.2.2.1
        have h0I : ¬ ((s' : Int) = 0) := by omega
        have hsI : (s' : Int) < (Q.length : Int) := by omega
        obtain ⟨hfl, hfe⟩ := FailOk.lt HF.out (s := s') (by omega) hs'
        have HB : Hid (stepN Q E s' r = stepN Q E (failN Q s') r) := stepN_back HF.out hs' (by omega) he
        rw [← hfe] at hl'
        clear hfe
        go_wp2
        go_step3
        exact ⟨rfl, ⟨rfl, failN Q s', _, _, _, _, _, _, _, _, _, _, _, _, _, _, _, _, _, _, _, _, _, _, _, _, _, _, _, _, _, rfl, by omega, HB.out.symm.trans HEQ.out⟩, by simp [intOf]; omega⟩
end Go.Proofs.Ytdhppigjlldfmaa

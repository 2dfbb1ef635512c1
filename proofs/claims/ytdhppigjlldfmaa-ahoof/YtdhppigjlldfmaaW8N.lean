/-
  Places of a word: plain functions; PlacesOf of the specification.
-/
import Derived.Test.YtdhppigjlldfmaaW8L
import Derived.Test.YtdhppigjlldfmaaMarkC
namespace Go.Proofs.Ytdhppigjlldfmaa
open Go.ChangeShapes Go.WideShapes Go.ChangeAt Go.RowKit Go.Maps
def wordB (M : List Int) : Bool := allG M && decide (1 ≤ M.length ∧ M.length ≤ 40)
theorem wordB_true {M : List Int} (h : wordB M = true) : allG M = true ∧ 1 ≤ M.length ∧ M.length ≤ 40 := by
  unfold wordB at h
  simpa [Bool.and_eq_true] using h
/-- Does a word begin at a place. -/
def begB8 (L M : List Int) (j : Nat) : Bool := decide ((L.drop j).take M.length = M)
/-- The places among the first k at which a word begins. -/
def plc (L M : List Int) (k : Nat) : List Int := ((List.range k).filter (begB8 L M)).map fun j => ((j : Nat) : Int)
theorem plc_yes {L M : List Int} {k : Nat} (h : begB8 L M k = true) : plc L M (k + 1) = plc L M k ++ [(k : Int)] := by simp [plc, List.range_succ, List.filter_append, h]
theorem plc_no {L M : List Int} {k : Nat} (h : begB8 L M k = false) : plc L M (k + 1) = plc L M k := by simp [plc, List.range_succ, List.filter_append, h]
theorem plc_len (L M : List Int) : ∀ k, (plc L M k).length ≤ k
  | 0 => by simp [plc]
  | k + 1 => by
    have := plc_len L M k
    cases h : begB8 L M k with
    | false => rw [plc_no h]; omega
    | true => rw [plc_yes h, List.length_append, List.length_singleton]; omega
def okP (L M : List Int) : Bool := okL L && wordB M
def plA (L M : List Int) : List Int := if okP L M = true then plc L M (L.length + 1 - M.length) else []
theorem okP_no {L M : List Int} (h : okP L M = false) : okP L M = false ∧ plA L M = [] := ⟨h, by unfold plA; rw [h]; rfl⟩
theorem okP_yes {L M : List Int} (h : okP L M = true) : okP L M = true ∧ plA L M = plc L M (L.length + 1 - M.length) := ⟨h, by unfold plA; rw [h]; rfl⟩
theorem plA_len (L M : List Int) (hl : L.length ≤ 1048576) : (plA L M).length ≤ 1048576 := by
  unfold plA
  split
  · rename_i h
    unfold okP at h
    rw [Bool.and_eq_true] at h
    have h1 := (okL_true h.1).2
    have := plc_len L M (L.length + 1 - M.length)
    omega
  · exact Nat.zero_le _
set_option maxRecDepth 100000 in
set_option maxHeartbeats 1000000 in
theorem sword_any (L : List Int) (ao : Option Addr) (cap : Nat) (w : World) (hl : L.length ≤ 1048576) (hA : IntsAt w ao L) :
    Calls Try.prog 39 #[.slice ao L.length cap] w fun e w' => e = .returned (.bool (wordB L)) ∧ Below w.heap.size w w' := by
  have HALL : Hid (Calls Try.prog 69 #[.slice ao L.length cap] w fun e w' => e = .returned (.bool (allG L && decide (L.length ≤ 1000))) ∧ Below w.heap.size w w') := all_any L ao cap w hl hA
  have HOK : Hid (wordB L = ((allG L && decide (L.length ≤ 1000)) && decide ((1 : Int) ≤ (L.length : Int) ∧ (L.length : Int) ≤ 40))) := (by
    unfold wordB
    cases allG L with
    | false => rfl
    | true =>
      by_cases h : 1 ≤ L.length ∧ L.length ≤ 40
      · rw [decide_eq_true h, decide_eq_true (show L.length ≤ 1000 by omega), decide_eq_true (show (1 : Int) ≤ (L.length : Int) ∧ (L.length : Int) ≤ 40 by omega)]; rfl
      · rw [decide_eq_false h, decide_eq_false (show ¬ ((1 : Int) ≤ (L.length : Int) ∧ (L.length : Int) ≤ 40) by omega), Bool.and_false, Bool.and_false] : wordB L = ((allG L && decide (L.length ≤ 1000)) && decide ((1 : Int) ≤ (L.length : Int) ∧ (L.length : Int) ≤ 40)))
  clear hA
  cases hg : (allG L && decide (L.length ≤ 1000))
  · rw [hg] at HALL HOK
    go_enter Try.func39, Try.ntmps39
    go_wp2_with fail
    refine Calls.mono HALL.out ?_
    rintro e w1 ⟨rfl, b1⟩
    go_wp2
    go_ret
    exact ⟨by rw [HOK.out] <;> rfl, b1⟩
  · rw [hg] at HALL HOK
    go_enter Try.func39, Try.ntmps39
    go_wp2_with fail
    refine Calls.mono HALL.out ?_
    rintro e w1 ⟨rfl, b1⟩
    have B1 : Hid (Below w.heap.size w w1) := b1
    clear b1
    go_wp2_with fail
    refine (in_any _ _ _ _).mono ?_
    rintro e w2 ⟨rfl, rfl⟩
    go_wp2
    go_ret
    exact ⟨by rw [HOK.out]; exact ret_bool (by rw [Bool.true_and, Bool.decide_and]), B1.out⟩
/-- The state behind the first k runes. -/
def stN (Q : List Sq) (E : Ed) (L : List Int) : Nat → Nat
  | 0 => 0
  | k + 1 => stepN Q E (stN Q E L k) (L.getD k 0)
theorem stepF_same {Q Q' : List Sq} (h : SameQ Q Q') (E : Ed) (r : Int) : ∀ f s, stepF Q' E r f s = stepF Q E r f s
  | 0, _ => rfl
  | f + 1, s => by
    have e : failN Q' s = failN Q s := by unfold failN; rw [(h.2 s).2.2.2]
    rw [stepF, stepF, e]
    cases E s r with
    | some j => rfl
    | none =>
      dsimp only
      rw [stepF_same h E r f]
theorem stepN_same {Q Q' : List Sq} (h : SameQ Q Q') (E : Ed) (s : Nat) (r : Int) : stepN Q' E s r = stepN Q E s r := stepF_same h E r _ _
theorem run_longest {Q : List Sq} {E : Ed} {S : Nat → Lst} (h : TrieOk Q E S) {x : Lst} {s : Nat} (hs : Longest Q.length S x s) (r : Int) : Longest Q.length S (x ++ [r]) (stepN Q E s r) := by
  obtain ⟨s1, s2, s3⟩ := hs
  obtain ⟨l1, l2, l3⟩ := step_longest h r s s1
  refine ⟨l1, l2.trans (suf_both s2 r), fun i hi hsuf => ?_⟩
  by_cases hi0 : S i = []
  · rw [hi0]; exact Nat.zero_le _
  · obtain ⟨u, hu, hu2⟩ := suf_snoc hsuf hi0
    have i0 : 0 < i := by
      rcases Nat.eq_zero_or_pos i with rfl | h0
      · exact absurd h.root hi0
      · exact h0
    obtain ⟨p, b, hp, hpb⟩ := h.up i i0 hi
    have hpb' := hpb
    rw [hu] at hpb
    obtain ⟨rfl, rfl⟩ := snoc_inj hpb
    refine l3 i hi ?_
    rw [hu]
    exact suf_both (List.suffix_of_suffix_length_le hu2 s2 (s3 p (by omega) hu2)) r
theorem stN_longest {Q : List Sq} {E : Ed} {S : Nat → Lst} (h : TrieOk Q E S) (L : List Int) : ∀ k, k ≤ L.length → Longest Q.length S (L.take k) (stN Q E L k)
  | 0, _ => by
    refine ⟨h.inv.1, by rw [stN, h.root]; exact List.nil_suffix, fun i hi hs => ?_⟩
    rw [List.take_zero] at hs
    rw [List.suffix_nil.1 hs]
    exact Nat.zero_le _
  | k + 1, hk => by
    rw [take_snocI L k (by omega)]
    exact run_longest h (stN_longest h L k (by omega)) _
/-- The whole word's state is met just where the word ends. -/
theorem st_word (M L : List Int) (r : Int) (h40 : M.length ≤ 40) (k : Nat) (hk : k ≤ L.length) : stN (outT [M] r 120).1 (outT [M] r 120).2.1 L k ≤ M.length ∧ (stN (outT [M] r 120).1 (outT [M] r 120).2.1 L k = M.length ↔ M <:+ L.take k) := by
  obtain ⟨h1, -, h3⟩ := one_run M r 120
  rw [show min 120 M.length = M.length by omega] at h1
  obtain ⟨l1, l2, l3⟩ := stN_longest h3 L k hk
  refine ⟨by omega, fun e => ?_, fun hs => ?_⟩
  · rw [e] at l2
    simpa using l2
  · have := l3 M.length (by omega) (by simpa using hs)
    simp only [List.length_take] at this
    omega
theorem suf_beg {L M : List Int} {i : Nat} (hi : i < L.length) : (M <:+ L.take (i + 1)) ↔ (M.length ≤ i + 1 ∧ begB8 L M (i + 1 - M.length) = true) := by
  have l2 : (L.take (i + 1)).length = i + 1 := by rw [List.length_take]; omega
  unfold begB8
  rw [decide_eq_true_eq]
  constructor
  · intro h
    have hl := h.length_le
    rw [l2] at hl
    refine ⟨hl, ?_⟩
    have := List.suffix_iff_eq_drop.1 h
    rw [l2, List.drop_take, show i + 1 - (i + 1 - M.length) = M.length by omega] at this
    exact this.symm
  · rintro ⟨hl, h⟩
    rw [List.suffix_iff_eq_drop, l2, List.drop_take, show i + 1 - (i + 1 - M.length) = M.length by omega]
    exact h.symm
end Go.Proofs.Ytdhppigjlldfmaa

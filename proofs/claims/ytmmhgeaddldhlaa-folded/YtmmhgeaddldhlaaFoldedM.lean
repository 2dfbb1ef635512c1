/-
  For every two lists of bytes, laws.FnFolded returns true: at a drawn set FoldSet answers as the specification's, has each letter just where the set has it or the one that counts as one with it, and is its own FoldSet; SetOf and FoldRune answer at drawn arguments as the specification's, and a set of runes has them all. No conditions.
-/
import Derived.Test.YtmmhgeaddldhlaaC4W
import Derived.Test.YtmmhgeaddldhlaaC4U
import Derived.Test.YtmmhgeaddldhlaaC4Y
import Derived.Test.YtmmhgeaddldhlaaC4Q
import Derived.Test.YtmmhgeaddldhlaaC4J
import Derived.Test.YtmmhgeaddldhlaaC4K
import Derived.Test.YtmmhgeaddldhlaaC4T
import Derived.Test.YtmmhgeaddldhlaaN3A
import Derived.WalkKit
import Derived.ProofKit
import Derived.OpenShut
import Derived.ShutString
import Derived.Test.YtmmhgeaddldhlaaC4FS
import Derived.Test.YtmmhgeaddldhlaaDraw
import Derived.Test.YtmmhgeaddldhlaaN3C
import Derived.Test.YtmmhgeaddldhlaaC4Dr
namespace Go.Proofs.Ytmmhgeaddldhlaa
def wide : List (Int × Int) → Int
  | [] => 0
  | p :: r => (p.2 - p.1) + wide r
theorem wide_append (A B : List (Int × Int)) : wide (A ++ B) = wide A + wide B := by
  induction A with
  | nil => simp [wide]
  | cons p r ih => simp only [List.cons_append, wide, ih]; omega
theorem wide_not {S : List (Int × Int)} : ∀ {f : Int}, Can (f - 1) S → (∀ p ∈ S, p.2 ≤ 1114112) → f ≤ 1114112 → wide (notF S f) + wide S = 1114112 - f := by
  induction S with
  | nil =>
    intro f _ _ hf
    unfold notF
    by_cases h : f ≤ 1114111
    · rw [if_pos h]; simp only [wide]; omega
    · rw [if_neg h]; simp only [wide]; omega
  | cons p r ih =>
    intro f hS hb hf
    obtain ⟨s1, s2, s3⟩ := hS
    have i := ih (f := p.2) (s3.mono (by omega)) (fun q hq => hb q (by simp [hq])) (hb p (by simp))
    unfold notF
    by_cases h : f < p.1
    · rw [if_pos h]; simp only [wide]; omega
    · rw [if_neg h]; simp only [wide]; omega
theorem cnt_wide (C : List (Int × Int)) : ∀ k, k ≤ C.length → cntN (flS C) k = wide (C.take k)
  | 0, _ => rfl
  | k + 1, h => by
    have hf := flS_at C k (by omega)
    rw [cntN, cnt_wide C k (by omega), hf.1, hf.2, take_snocS C k (by omega), wide_append]
    simp only [wide]
    omega
/-- A good set and its contrary have all numbers between them. -/
theorem cnt_both {L : List Int} {C : List (Int × Int)} (h : Good4 L C) : cntN L (L.length / 2) + cntN (flS (notF C 0)) ((flS (notF C 0)).length / 2) = 1114112 := by
  have e1 : L.length / 2 = C.length := by rw [← h.fl, flS_len]; omega
  have e2 : (flS (notF C 0)).length / 2 = (notF C 0).length := by rw [flS_len]; omega
  rw [e1, e2, ← h.fl, cnt_wide C _ (Nat.le_refl _), cnt_wide _ _ (Nat.le_refl _), List.take_length, List.take_length]
  have := wide_not (S := C) (f := 0) (h.can.mono (by omega)) h.top (by omega)
  omega
/-- The contrary of the contrary. -/
theorem not_not {C : List (Int × Int)} (h : CT C) : notF (notF C 0) 0 = C := by
  obtain ⟨a1, -, a3⟩ := ct_not h
  obtain ⟨b1, -, b3⟩ := ct_not a1
  refine can_ext b1.can h.can fun x => ?_
  rw [b3 x, a3 x]
  constructor
  · rintro ⟨h1, h2⟩
    exact Classical.byContradiction fun q => h2 ⟨h1, q⟩
  · intro hx
    exact ⟨ct_range h hx, fun q => q.2 hx⟩
end Go.Proofs.Ytmmhgeaddldhlaa
namespace Go.Proofs.Ytmmhgeaddldhlaa
open Go.ChangeShapes Go.WideShapes Go.ChangeAt Go.RowKit
/-- The answer of a function over two lists that makes a list and a flag. -/
def Two4 (f : FuncId) (L M : List Int) (ok : Bool) (G : List Int) : Prop := ∀ w ao ca bo cb, IntsAt w ao L → IntsAt w bo M → Calls Try.prog f #[.slice ao L.length ca, .slice bo M.length cb] w fun e w' => ∃ v, e = .returned (.tuple #[v, .bool ok]) ∧ w'.ownsRow w.heap.size 3 1 v G.length (ints G) ∧ Below w.heap.size w w'
/-- The answer of a function over one list that makes a list and a flag. -/
def One4 (f : FuncId) (L : List Int) (ok : Bool) (G : List Int) : Prop := ∀ w ao ca, IntsAt w ao L → Calls Try.prog f #[.slice ao L.length ca] w fun e w' => ∃ v, e = .returned (.tuple #[v, .bool ok]) ∧ w'.ownsRow w.heap.size 3 1 v G.length (ints G) ∧ Below w.heap.size w w'
theorem setE_yes {w w' : World} {D : List (Int × Int)} {e : Ending} (h : SetE w w' D e) (h12 : D.length ≤ 12) : ∃ v, e = .returned (.tuple #[v, .bool true]) ∧ w'.ownsRow w.heap.size 3 1 v (flS D).length (ints (flS D)) := by
  rcases h with ⟨_, h⟩ | ⟨h, _⟩
  · exact h
  · omega
theorem setE_no {w w' : World} {D : List (Int × Int)} {e : Ending} (h : SetE w w' D e) (h12 : ¬ D.length ≤ 12) : ∃ v, e = .returned (.tuple #[v, .bool false]) ∧ w'.ownsRow w.heap.size 3 1 v ([] : List Int).length (ints []) := by
  rcases h with ⟨h, _⟩ | ⟨_, h⟩
  · omega
  · exact ⟨_, h, World.ownsRow_nil _ _ _ _⟩
theorem mem_good {L : List Int} {A : List (Int × Int)} (h : Good4 L A) (r : Int) : memS L r = true ↔ Mem r A := by rw [← h.fl]; exact memS_flS A r
theorem bool_ext {a b : Bool} (h : a = true ↔ b = true) : a = b := by cases a <;> cases b <;> simp_all
theorem uni_both (L M : List Int) (hl : L.length ≤ 1048576) (hm : M.length ≤ 1048576) : ∃ (ok : Bool) (G : List Int), G.length ≤ 1048576 ∧ Two4 18 L M ok G ∧ Two4 17 L M ok G ∧ (ok = true → goodS L = true ∧ goodS M = true ∧ goodS G = true ∧ ∀ r, memS G r = (memS L r || memS M r)) := by
  by_cases hg : goodS L = true ∧ goodS M = true
  · obtain ⟨A, gA⟩ := good4_of hg.1
    obtain ⟨B, gB⟩ := good4_of hg.2
    obtain ⟨u1, -, u3⟩ := uniD_facts gA.ct gB.ct
    by_cases h12 : (uniF A B).length ≤ 12
    · refine ⟨true, flS (uniF A B), by rw [flS_len]; omega, ?_, ?_, fun _ => ⟨hg.1, hg.2, by rw [goodS_flS u1.can u1.top, decide_eq_true h12], fun r => bool_ext ?_⟩⟩
      · exact fun w ao ca bo cb iA iB => (sunionS_yes L M ao bo ca cb w A B gA gB iA iB).mono fun e w' ⟨he, hb⟩ => by obtain ⟨v, h1, h2⟩ := setE_yes he h12; exact ⟨v, h1, h2, hb⟩
      · exact fun w ao ca bo cb iA iB => (iunion_yes L M ao bo ca cb w A B gA gB iA iB).mono fun e w' ⟨he, hb⟩ => by obtain ⟨v, h1, h2⟩ := setE_yes he h12; exact ⟨v, h1, h2, hb⟩
      · rw [memS_flS, u3, Bool.or_eq_true, mem_good gA, mem_good gB]
    · refine ⟨false, [], by simp, ?_, ?_, fun h => by cases h⟩
      · exact fun w ao ca bo cb iA iB => (sunionS_yes L M ao bo ca cb w A B gA gB iA iB).mono fun e w' ⟨he, hb⟩ => by obtain ⟨v, h1, h2⟩ := setE_no he h12; exact ⟨v, h1, h2, hb⟩
      · exact fun w ao ca bo cb iA iB => (iunion_yes L M ao bo ca cb w A B gA gB iA iB).mono fun e w' ⟨he, hb⟩ => by obtain ⟨v, h1, h2⟩ := setE_no he h12; exact ⟨v, h1, h2, hb⟩
  · refine ⟨false, [], by simp, ?_, ?_, fun h => by cases h⟩
    · exact fun w ao ca bo cb iA iB => (sunionS_no L M ao bo ca cb w hl hm hg iA iB).mono fun e w' ⟨he, hb⟩ => ⟨_, he, World.ownsRow_nil _ _ _ _, hb⟩
    · exact fun w ao ca bo cb iA iB => (iunion_no L M ao bo ca cb w hl hm hg iA iB).mono fun e w' ⟨he, hb⟩ => ⟨_, he, World.ownsRow_nil _ _ _ _, hb⟩
theorem meet_both (L M : List Int) (hl : L.length ≤ 1048576) (hm : M.length ≤ 1048576) : ∃ (ok : Bool) (G : List Int), G.length ≤ 1048576 ∧ Two4 20 L M ok G ∧ Two4 19 L M ok G ∧ (ok = true → goodS L = true ∧ goodS M = true ∧ goodS G = true ∧ ∀ r, memS G r = (memS L r && memS M r)) := by
  by_cases hg : goodS L = true ∧ goodS M = true
  · obtain ⟨A, gA⟩ := good4_of hg.1
    obtain ⟨B, gB⟩ := good4_of hg.2
    obtain ⟨-, -, u1, -, u3⟩ := meetD_facts gA.ct gB.ct gA.le gB.le
    by_cases h12 : (meetD A B).length ≤ 12
    · refine ⟨true, flS (meetD A B), by rw [flS_len]; omega, ?_, ?_, fun _ => ⟨hg.1, hg.2, by rw [goodS_flS u1.can u1.top, decide_eq_true h12], fun r => bool_ext ?_⟩⟩
      · exact fun w ao ca bo cb iA iB => (smeet_yes L M ao bo ca cb w A B gA gB iA iB).mono fun e w' ⟨he, hb⟩ => by obtain ⟨v, h1, h2⟩ := setE_yes he h12; exact ⟨v, h1, h2, hb⟩
      · exact fun w ao ca bo cb iA iB => (imeet_yes L M ao bo ca cb w A B gA gB iA iB).mono fun e w' ⟨he, hb⟩ => by obtain ⟨v, h1, h2⟩ := setE_yes he h12; exact ⟨v, h1, h2, hb⟩
      · rw [memS_flS, u3, Bool.and_eq_true, mem_good gA, mem_good gB]
    · refine ⟨false, [], by simp, ?_, ?_, fun h => by cases h⟩
      · exact fun w ao ca bo cb iA iB => (smeet_yes L M ao bo ca cb w A B gA gB iA iB).mono fun e w' ⟨he, hb⟩ => by obtain ⟨v, h1, h2⟩ := setE_no he h12; exact ⟨v, h1, h2, hb⟩
      · exact fun w ao ca bo cb iA iB => (imeet_yes L M ao bo ca cb w A B gA gB iA iB).mono fun e w' ⟨he, hb⟩ => by obtain ⟨v, h1, h2⟩ := setE_no he h12; exact ⟨v, h1, h2, hb⟩
  · refine ⟨false, [], by simp, ?_, ?_, fun h => by cases h⟩
    · exact fun w ao ca bo cb iA iB => (smeet_no L M ao bo ca cb w hl hm hg iA iB).mono fun e w' ⟨he, hb⟩ => ⟨_, he, World.ownsRow_nil _ _ _ _, hb⟩
    · exact fun w ao ca bo cb iA iB => (imeet_no L M ao bo ca cb w hl hm hg iA iB).mono fun e w' ⟨he, hb⟩ => ⟨_, he, World.ownsRow_nil _ _ _ _, hb⟩
theorem good4_flS {D : List (Int × Int)} (h : CT D) (h12 : D.length ≤ 12) : ∃ D', Good4 (flS D) D' ∧ D' = D := by
  obtain ⟨D', g⟩ := good4_of (L := flS D) (by rw [goodS_flS h.can h.top, decide_eq_true h12])
  refine ⟨D', g, can_ext g.can h.can fun x => ?_⟩
  rw [← memS_flS, ← memS_flS, g.fl]
theorem not_both (L : List Int) (hl : L.length ≤ 1048576) : ∃ (ok : Bool) (G : List Int), G.length ≤ 1048576 ∧ One4 22 L ok G ∧ One4 21 L ok G ∧ (ok = true → goodS L = true ∧ goodS G = true ∧ cntN L (L.length / 2) + cntN G (G.length / 2) = 1114112 ∧ One4 21 G true L) := by
  cases hg : goodS L with
  | true =>
    obtain ⟨A, gA⟩ := good4_of hg
    obtain ⟨u1, -, u3⟩ := ct_not gA.ct
    by_cases h12 : (notF A 0).length ≤ 12
    · refine ⟨true, flS (notF A 0), by rw [flS_len]; omega, ?_, ?_, fun _ => ⟨rfl, by rw [goodS_flS u1.can u1.top, decide_eq_true h12], cnt_both gA, ?_⟩⟩
      · exact fun w ao ca iA => (snotS_yes L A ao ca w gA iA).mono fun e w' ⟨he, hb⟩ => by obtain ⟨v, h1, h2⟩ := setE_yes he h12; exact ⟨v, h1, h2, hb⟩
      · exact fun w ao ca iA => (inotS_yes L A ao ca w gA iA).mono fun e w' ⟨he, hb⟩ => by obtain ⟨v, h1, h2⟩ := setE_yes he h12; exact ⟨v, h1, h2, hb⟩
      · obtain ⟨D', g, rfl⟩ := good4_flS u1 h12
        intro w ao ca iA
        refine (inotS_yes _ _ ao ca w g iA).mono fun e w' ⟨he, hb⟩ => ?_
        rw [not_not gA.ct] at he
        obtain ⟨v, h1, h2⟩ := setE_yes he gA.le
        rw [gA.fl] at h2
        exact ⟨v, h1, h2, hb⟩
    · refine ⟨false, [], by simp, ?_, ?_, fun h => by cases h⟩
      · exact fun w ao ca iA => (snotS_yes L A ao ca w gA iA).mono fun e w' ⟨he, hb⟩ => by obtain ⟨v, h1, h2⟩ := setE_no he h12; exact ⟨v, h1, h2, hb⟩
      · exact fun w ao ca iA => (inotS_yes L A ao ca w gA iA).mono fun e w' ⟨he, hb⟩ => by obtain ⟨v, h1, h2⟩ := setE_no he h12; exact ⟨v, h1, h2, hb⟩
  | false =>
    refine ⟨false, [], by simp, ?_, ?_, fun h => by cases h⟩
    · exact fun w ao ca iA => (snotS_no L ao ca w hl hg iA).mono fun e w' ⟨he, hb⟩ => ⟨_, he, World.ownsRow_nil _ _ _ _, hb⟩
    · exact fun w ao ca iA => (inotS_no L ao ca w hl hg iA).mono fun e w' ⟨he, hb⟩ => ⟨_, he, World.ownsRow_nil _ _ _ _, hb⟩
theorem iin_all (L : List Int) (r : Int) (ao : Option Addr) (cap : Nat) (w : World) (hl : L.length ≤ 1048576) (hr : goodB r = true) (hA : IntsAt w ao L) :
    Calls Try.prog 26 #[.slice ao L.length cap, .int .i64 r] w fun e w' => e = .returned (.tuple #[.bool (goodS L && memS L r), .bool (goodS L)]) ∧ Below w.heap.size w w' := by
  cases hg : goodS L with
  | true => exact iin_yes L r ao cap w hg hr hA
  | false => exact iin_no L r ao cap w hl (by simp [hg]) hA
theorem sin_all (L : List Int) (r : Int) (ao : Option Addr) (cap : Nat) (w : World) (hl : L.length ≤ 1048576) (hr : goodB r = true) (hA : IntsAt w ao L) :
    Calls Try.prog 28 #[.slice ao L.length cap, .int .i64 r] w fun e w' => e = .returned (.tuple #[.bool (goodS L && memS L r), .bool (goodS L)]) ∧ Below w.heap.size w w' := by
  cases hg : goodS L with
  | true => exact sin_yes L r ao cap w hg hr hA
  | false => exact sin_no L r ao cap w hl (by simp [hg]) hA
theorem icount_all (L : List Int) (ao : Option Addr) (cap : Nat) (w : World) (hl : L.length ≤ 1048576) (hA : IntsAt w ao L) :
    Calls Try.prog 27 #[.slice ao L.length cap] w fun e w' => e = .returned (.tuple #[.int .i64 (if goodS L then cntN L (L.length / 2) else 0), .bool (goodS L)]) ∧ Below w.heap.size w w' := by
  cases hg : goodS L with
  | true => exact icount_yes L ao cap w hg hA
  | false => exact icount_no L ao cap w hl hg hA
theorem scount_all (L : List Int) (ao : Option Addr) (cap : Nat) (w : World) (hl : L.length ≤ 1048576) (hA : IntsAt w ao L) :
    Calls Try.prog 30 #[.slice ao L.length cap] w fun e w' => e = .returned (.tuple #[.int .i64 (if goodS L then cntN L (L.length / 2) else 0), .bool (goodS L)]) ∧ Below w.heap.size w w' := by
  cases hg : goodS L with
  | true => exact scount_yes L ao cap w hg hA
  | false => exact scount_no L ao cap w hl hg hA
/-- InSet of both at a rune. -/
theorem in_both (L : List Int) (r : Int) (hl : L.length ≤ 1048576) (hr : goodB r = true) : ∃ x g : Bool, (∀ w ao cap, IntsAt w ao L → Calls Try.prog 26 #[.slice ao L.length cap, .int .i64 r] w fun e w' => e = .returned (.tuple #[.bool x, .bool g]) ∧ Below w.heap.size w w') ∧
    ∀ w ao cap, IntsAt w ao L → Calls Try.prog 28 #[.slice ao L.length cap, .int .i64 r] w fun e w' => e = .returned (.tuple #[.bool x, .bool g]) ∧ Below w.heap.size w w' :=
  ⟨_, _, fun w ao cap h => iin_all L r ao cap w hl hr h, fun w ao cap h => sin_all L r ao cap w hl hr h⟩
/-- CountSet of both. -/
theorem count_both (L : List Int) (hl : L.length ≤ 1048576) : ∃ (x : Int) (g : Bool), (∀ w ao cap, IntsAt w ao L → Calls Try.prog 27 #[.slice ao L.length cap] w fun e w' => e = .returned (.tuple #[.int .i64 x, .bool g]) ∧ Below w.heap.size w w') ∧
    ∀ w ao cap, IntsAt w ao L → Calls Try.prog 30 #[.slice ao L.length cap] w fun e w' => e = .returned (.tuple #[.int .i64 x, .bool g]) ∧ Below w.heap.size w w' :=
  ⟨_, _, fun w ao cap h => icount_all L ao cap w hl h, fun w ao cap h => scount_all L ao cap w hl h⟩
end Go.Proofs.Ytmmhgeaddldhlaa
namespace Go.Proofs.Ytmmhgeaddldhlaa
open Go.ChangeShapes Go.WideShapes Go.ChangeAt Go.RowKit
/-- A rune and the one that it counts as. -/
def foldN (r : Int) : Int := if 65 ≤ r ∧ r ≤ 90 then r + 32 else r
theorem sfold4_any (r : Int) (w : World) (h0 : 0 ≤ r) (hh : r ≤ 1114111) :
    Calls Try.prog 73 #[.int .i64 r] w fun e w' => e = .returned (.int .i64 (foldN r)) ∧ w = w' := by
  unfold foldN
  by_cases h : 65 ≤ r ∧ r ≤ 90
  · rw [if_pos h]
    obtain ⟨h1, h2⟩ := h
    go_enter Try.func73, Try.ntmps73
    go_wp2_with fail
    refine (in_yes ⟨h1, h2⟩ _).mono ?_
    rintro e w1 ⟨rfl, rfl⟩
    go_wp2
    go_ret
    exact ⟨rfl, rfl⟩
  · rw [if_neg h]
    have HN : Hid _ := h
    clear h
    go_enter Try.func73, Try.ntmps73
    go_wp2_with fail
    refine (in_no HN.out _).mono ?_
    rintro e w1 ⟨rfl, rfl⟩
    go_wp2
    go_ret
    exact ⟨rfl, rfl⟩
theorem sfoldR_yes (r : Int) (w : World) (hg : goodB r = true) :
    Calls Try.prog 39 #[.int .i64 r] w fun e w' => e = .returned (.tuple #[.int .i64 (foldN r), .bool true]) ∧ w = w' := by
  have HG : Hid _ := hg
  have g1 := goodB_true hg
  have h0 := g1.1
  have h1 := g1.2.1
  clear hg g1
  go_enter Try.func39, Try.ntmps39
  go_wp2_with fail
  refine (good_yes HG.out _).mono ?_
  rintro e w1 ⟨rfl, rfl⟩
  go_wp2_with fail
  refine (sfold4_any r _ h0 h1).mono ?_
  rintro e w2 ⟨rfl, rfl⟩
  go_wp2
  go_ret2
  exact ⟨rfl, rfl⟩
theorem sfoldR_no (r : Int) (w : World) (hg : goodB r = false) :
    Calls Try.prog 39 #[.int .i64 r] w fun e w' => e = .returned (.tuple #[.int .i64 0, .bool false]) ∧ w = w' := by
  have HG : Hid _ := hg
  clear hg
  go_enter Try.func39, Try.ntmps39
  go_wp2_with fail
  refine (good_not HG.out _).mono ?_
  rintro e w1 ⟨rfl, rfl⟩
  go_wp2
  go_ret2
  exact ⟨rfl, rfl⟩
theorem ifoldR_no (r : Int) (w : World) (hg : goodB r = false) :
    Calls Try.prog 38 #[.int .i64 r] w fun e w' => e = .returned (.tuple #[.int .i64 0, .bool false]) ∧ w = w' := by
  have HG : Hid _ := hg
  clear hg
  go_enter Try.func38, Try.ntmps38
  go_wp2_with fail
  refine (igood_not HG.out _).mono ?_
  rintro e w1 ⟨rfl, rfl⟩
  go_wp2
  go_ret2
  exact ⟨rfl, rfl⟩
theorem ifoldR_yes (r : Int) (w : World) (hg : goodB r = true) :
    Calls Try.prog 38 #[.int .i64 r] w fun e w' => e = .returned (.tuple #[.int .i64 (foldN r), .bool true]) ∧ w = w' := by
  have HG : Hid _ := hg
  have g1 := goodB_true hg
  have h0 := g1.1
  have h1 := g1.2.1
  clear hg g1
  unfold foldN
  by_cases h : 65 ≤ r ∧ r ≤ 90
  · rw [if_pos h]
    obtain ⟨h2, h3⟩ := h
    go_enter Try.func38, Try.ntmps38
    go_wp2_with fail
    refine (igood_yes HG.out _).mono ?_
    rintro e w1 ⟨rfl, rfl⟩
    go_wp2_with fail
    refine (among_yes (by omega) (by omega) _).mono ?_
    rintro e w2 ⟨rfl, rfl⟩
    go_wp2
    go_ret2
    exact ⟨rfl, rfl⟩
  · rw [if_neg h]
    have HN : Hid _ := h
    have hn : ¬ (65 ≤ r ∧ r < 65 + 26) := by omega
    have HN2 : Hid _ := hn
    clear h hn
    go_enter Try.func38, Try.ntmps38
    go_wp2_with fail
    refine (igood_yes HG.out _).mono ?_
    rintro e w1 ⟨rfl, rfl⟩
    go_wp2_with fail
    refine (among_no (by omega) HN2.out _).mono ?_
    rintro e w2 ⟨rfl, rfl⟩
    go_wp2
    go_ret2
    exact ⟨rfl, rfl⟩
end Go.Proofs.Ytmmhgeaddldhlaa
namespace Go.Proofs.Ytmmhgeaddldhlaa
open Go.ChangeShapes Go.WideShapes Go.ChangeAt Go.RowKit
theorem fold_pair {C : List (Int × Int)} (h : CT C) (hl : C.length ≤ 12) (r : Int) (h1 : 65 ≤ r) (h2 : r ≤ 90) : (Mem r (foldK C 26) ↔ Mem r C ∨ Mem (r + 32) C) ∧ (Mem (r + 32) (foldK C 26) ↔ Mem r C ∨ Mem (r + 32) C) := by
  obtain ⟨-, -, f⟩ := foldK_facts h hl 26 (Nat.le_refl _)
  have e1 : (65 : Int) + ((r - 65).toNat : Int) = r := by omega
  have e2 : (97 : Int) + ((r - 65).toNat : Int) = r + 32 := by omega
  constructor
  · rw [f]
    constructor
    · rintro (hm | ⟨j, hj, hm, hx⟩)
      · exact .inl hm
      · have : (j : Int) = r - 65 := by omega
        rw [this, show 65 + (r - 65) = r by omega, show 97 + (r - 65) = r + 32 by omega] at hm
        exact hm
    · intro hm
      exact .inr ⟨(r - 65).toNat, by omega, by rw [e1, e2]; exact hm, by omega⟩
  · rw [f]
    constructor
    · rintro (hm | ⟨j, hj, hm, hx⟩)
      · exact .inr hm
      · have : (j : Int) = r - 65 := by omega
        rw [this, show 65 + (r - 65) = r by omega, show 97 + (r - 65) = r + 32 by omega] at hm
        exact hm
    · intro hm
      exact .inr ⟨(r - 65).toNat, by omega, by rw [e1, e2]; exact hm, by omega⟩
theorem fold_fold {C : List (Int × Int)} (h : CT C) (hl : C.length ≤ 12) (h2 : (foldK C 26).length ≤ 12) : foldK (foldK C 26) 26 = foldK C 26 := by
  obtain ⟨f1, -, -⟩ := foldK_facts h hl 26 (Nat.le_refl _)
  obtain ⟨g1, -, g3⟩ := foldK_facts f1 h2 26 (Nat.le_refl _)
  refine can_ext g1.can f1.can fun x => ?_
  rw [g3]
  constructor
  · rintro (hm | ⟨j, hj, hm, hx⟩)
    · exact hm
    · have p := fold_pair h hl (65 + j) (by omega) (by omega)
      rw [show (65 : Int) + j + 32 = 97 + j by omega] at p
      have hC : Mem (65 + (j : Int)) C ∨ Mem (97 + (j : Int)) C := by
        rcases hm with hm | hm
        · exact p.1.1 hm
        · exact p.2.1 hm
      rcases hx with rfl | rfl
      · exact p.1.2 hC
      · exact p.2.2 hC
  · exact fun hm => .inl hm
theorem fold_both (L : List Int) (hl : L.length ≤ 1048576) : ∃ (ok : Bool) (G : List Int), G.length ≤ 1048576 ∧ One4 33 L ok G ∧ One4 32 L ok G ∧ (ok = true → goodS L = true ∧ goodS G = true ∧ (∀ r, 65 ≤ r → r ≤ 90 → memS G r = (memS L r || memS L (r + 32)) ∧ memS G (r + 32) = (memS L r || memS L (r + 32))) ∧ One4 32 G true G) := by
  cases hg : goodS L with
  | true =>
    obtain ⟨A, gA⟩ := good4_of hg
    obtain ⟨u1, -, -⟩ := foldK_facts gA.ct gA.le 26 (Nat.le_refl _)
    by_cases h12 : (foldK A 26).length ≤ 12
    · refine ⟨true, flS (foldK A 26), by rw [flS_len]; omega, ?_, ?_, fun _ => ⟨rfl, by rw [goodS_flS u1.can u1.top, decide_eq_true h12], fun r h1 h2 => ?_, ?_⟩⟩
      · exact fun w ao ca iA => (sfoldT_yes L A ao ca w gA iA).mono fun e w' ⟨he, hb⟩ => by obtain ⟨v, h1, h2⟩ := setE_yes he h12; exact ⟨v, h1, h2, hb⟩
      · exact fun w ao ca iA => (ifoldT_yes L A ao ca w gA iA).mono fun e w' ⟨he, hb⟩ => by obtain ⟨v, h1, h2⟩ := setE_yes he h12; exact ⟨v, h1, h2, hb⟩
      · have p := fold_pair gA.ct gA.le r h1 h2
        constructor
        · refine bool_ext ?_
          rw [memS_flS, p.1, Bool.or_eq_true, mem_good gA, mem_good gA]
        · refine bool_ext ?_
          rw [memS_flS, p.2, Bool.or_eq_true, mem_good gA, mem_good gA]
      · obtain ⟨D', g, hD⟩ := good4_flS u1 h12
        intro w ao ca iA
        refine (ifoldT_yes _ _ ao ca w g iA).mono fun e w' ⟨he, hb⟩ => ?_
        rw [hD, fold_fold gA.ct gA.le h12] at he
        obtain ⟨v, h1, h2⟩ := setE_yes he h12
        exact ⟨v, h1, h2, hb⟩
    · refine ⟨false, [], by simp, ?_, ?_, fun h => by cases h⟩
      · exact fun w ao ca iA => (sfoldT_yes L A ao ca w gA iA).mono fun e w' ⟨he, hb⟩ => by obtain ⟨v, h1, h2⟩ := setE_no he h12; exact ⟨v, h1, h2, hb⟩
      · exact fun w ao ca iA => (ifoldT_yes L A ao ca w gA iA).mono fun e w' ⟨he, hb⟩ => by obtain ⟨v, h1, h2⟩ := setE_no he h12; exact ⟨v, h1, h2, hb⟩
  | false =>
    refine ⟨false, [], by simp, ?_, ?_, fun h => by cases h⟩
    · exact fun w ao ca iA => (sfoldT_no L ao ca w hl hg iA).mono fun e w' ⟨he, hb⟩ => ⟨_, he, World.ownsRow_nil _ _ _ _, hb⟩
    · exact fun w ao ca iA => (ifoldT_no L ao ca w hl hg iA).mono fun e w' ⟨he, hb⟩ => ⟨_, he, World.ownsRow_nil _ _ _ _, hb⟩
theorem setOf_both (L : List Int) (hl : L.length ≤ 1048576) : ∃ (ok : Bool) (G : List Int), G.length ≤ 1048576 ∧ One4 36 L ok G ∧ One4 35 L ok G ∧ (ok = true → goodS G = true ∧ ∀ j, j < L.length → goodB (L.getD j 0) = true ∧ memS G (L.getD j 0) = true) := by
  cases hg : setB L with
  | true =>
    obtain ⟨hG, h1000⟩ := setB_true hg
    obtain ⟨u1, u2, u3⟩ := setL_facts L (allG_bd hG) L.length (Nat.le_refl _)
    rw [List.take_length] at u1 u2 u3
    by_cases h12 : (setL L).length ≤ 12
    · refine ⟨true, flS (setL L), by rw [flS_len]; omega, ?_, ?_, fun _ => ⟨by rw [goodS_flS u1.can u1.top, decide_eq_true h12], fun j hj => ?_⟩⟩
      · exact fun w ao ca iA => (ssetOf_yes L ao ca w hg iA).mono fun e w' ⟨he, hb⟩ => by obtain ⟨v, h1, h2⟩ := setE_yes he h12; exact ⟨v, h1, h2, hb⟩
      · exact fun w ao ca iA => (isetOf_yes L ao ca w hg iA).mono fun e w' ⟨he, hb⟩ => by obtain ⟨v, h1, h2⟩ := setE_yes he h12; exact ⟨v, h1, h2, hb⟩
      · have hm : L.getD j 0 ∈ L := by simp [List.getD, hj]
        exact ⟨allG_true hG _ hm, (memS_flS _ _).2 ((u3 _).2 hm)⟩
    · refine ⟨false, [], by simp, ?_, ?_, fun h => by cases h⟩
      · exact fun w ao ca iA => (ssetOf_yes L ao ca w hg iA).mono fun e w' ⟨he, hb⟩ => by obtain ⟨v, h1, h2⟩ := setE_no he h12; exact ⟨v, h1, h2, hb⟩
      · exact fun w ao ca iA => (isetOf_yes L ao ca w hg iA).mono fun e w' ⟨he, hb⟩ => by obtain ⟨v, h1, h2⟩ := setE_no he h12; exact ⟨v, h1, h2, hb⟩
  | false =>
    refine ⟨false, [], by simp, ?_, ?_, fun h => by cases h⟩
    · exact fun w ao ca iA => (ssetOf_no L ao ca w hl hg iA).mono fun e w' ⟨he, hb⟩ => ⟨_, he, World.ownsRow_nil _ _ _ _, hb⟩
    · exact fun w ao ca iA => (isetOf_no L ao ca w hl hg iA).mono fun e w' ⟨he, hb⟩ => ⟨_, he, World.ownsRow_nil _ _ _ _, hb⟩
theorem iin_all2 (L : List Int) (r : Int) (ao : Option Addr) (cap : Nat) (w : World) (hl : L.length ≤ 1048576) (hA : IntsAt w ao L) :
    Calls Try.prog 26 #[.slice ao L.length cap, .int .i64 r] w fun e w' => e = .returned (.tuple #[.bool (goodS L && goodB r && memS L r), .bool (goodS L && goodB r)]) ∧ Below w.heap.size w w' := by
  by_cases hg : goodS L = true ∧ goodB r = true
  · rw [hg.1, hg.2]
    exact iin_yes L r ao cap w hg.1 hg.2 hA
  · have e : (goodS L && goodB r) = false := by
      rw [Bool.eq_false_iff]
      exact fun h => hg (by simpa using h)
    rw [e]
    exact iin_no L r ao cap w hl hg hA
theorem ifoldR_all (r : Int) (w : World) :
    Calls Try.prog 38 #[.int .i64 r] w fun e w' => e = .returned (.tuple #[.int .i64 (if goodB r then foldN r else 0), .bool (goodB r)]) ∧ w = w' := by
  cases hg : goodB r with
  | true => exact ifoldR_yes r w hg
  | false => exact ifoldR_no r w hg
theorem sfoldR_all (r : Int) (w : World) :
    Calls Try.prog 39 #[.int .i64 r] w fun e w' => e = .returned (.tuple #[.int .i64 (if goodB r then foldN r else 0), .bool (goodB r)]) ∧ w = w' := by
  cases hg : goodB r with
  | true => exact sfoldR_yes r w hg
  | false => exact sfoldR_no r w hg
/-- FoldRune of both. -/
theorem foldR_both (r : Int) : ∃ (x : Int) (g : Bool), (∀ w, Calls Try.prog 38 #[.int .i64 r] w fun e w' => e = .returned (.tuple #[.int .i64 x, .bool g]) ∧ w = w') ∧
    ∀ w, Calls Try.prog 39 #[.int .i64 r] w fun e w' => e = .returned (.tuple #[.int .i64 x, .bool g]) ∧ w = w' :=
  ⟨_, _, fun w => ifoldR_all r w, fun w => sfoldR_all r w⟩
end Go.Proofs.Ytmmhgeaddldhlaa
namespace Go.Proofs.Ytmmhgeaddldhlaa
open Go.ChangeShapes Go.WideShapes Go.ChangeAt Go.WideMaps Go.WideElems Go.RowKit
theorem argB_of {H : Type} {enc : TypeId × Value → H} {W : World} {a : Option Addr} {len cap : Nat} {x : DataW H × List MemPlace} {base : Nat} {held : Bool} {fuel : Nat}
    (hf : DataW.trod enc Try.prog W base (fun _ => true) held fuel 22 (Value.cells (.slice a len cap)).toList = some x) : ArgB W a len := by
  rcases open_ints Try.underlying22 Try.underlying5 (by kernel_rfl) hf with ⟨hcs, _⟩ | ⟨y, l, c, zs, hcs, _, hl, hm, hz, _, hcell, hwz⟩
  · simp [Value.cells] at hcs
    obtain ⟨rfl, rfl, rfl⟩ := hcs
    exact fun j hj => absurd hj (by omega)
  · simp [Value.cells] at hcs
    obtain ⟨rfl, rfl, rfl⟩ := hcs
    have hz' : zs.length = cap := by simpa using hz
    intro j hj
    obtain ⟨b, off, rfl, hc⟩ := ints_at hcell (by omega)
    have hcj := hc j (by omega)
    have hw := bounds_u8 (hwz (zs.getD j 0) (by simp [List.getD, show j < zs.length by omega]))
    exact ⟨b, off, zs.getD j 0, rfl, World.block_lt_of_cell? W _ hcj, hcj, by omega, by omega⟩
end Go.Proofs.Ytmmhgeaddldhlaa
namespace Go.Proofs.Ytmmhgeaddldhlaa
open Go.ChangeShapes Go.WideShapes Go.ChangeAt Go.RowKit
set_option maxRecDepth 100000 in
set_option maxHeartbeats 1000000 in
theorem duni_any (ao : Option Addr) (n cap : Nat) (w : World) (h : ArgB w ao n) :
    Calls Try.prog 16 #[.slice ao n cap] w fun e w' => ∃ (v1 v2 : Value) (L1 L2 : List Int), e = .returned (.tuple #[v1, v2]) ∧ L1.length ≤ 30 ∧ L2.length ≤ 30 ∧ w'.ownsRow w.heap.size 3 1 v1 L1.length (ints L1) ∧ w'.ownsRow w.heap.size 3 1 v2 L2.length (ints L2) ∧ Below w.heap.size w w' := by
  have HC : Hid _ := cur_new cap h
  clear h
  go_enter Try.func16, Try.ntmps16
  go_wp2_with fail
  refine (cset_any _ _ ao n cap 0 _ (by omega) HC.out).mono ?_
  rintro e w1 ⟨v1, L1, k1, rfl, l1, hk1, C1, o1, g1⟩
  have HC1 : Hid _ := C1
  have G1 : Hid _ := g1
  have O1 : Hid _ := o1
  clear C1 g1 o1
  go_wp2_with fail
  refine (cset_any _ _ ao n cap k1 _ (by omega) HC1.out).mono ?_
  rintro e w2 ⟨v2, L2, k2, rfl, l2, hk2, C2, o2, g2⟩
  have O1' : Hid _ := World.ownsRow.kept O1.out g2 (own_ne_cur O1.out (by simp))
  have G2 : Hid _ := grown_trans' G1.out g2
  have O2 : Hid (w2.ownsRow w.heap.size 3 1 v2 L2.length (ints L2)) := own_mono o2 (Nat.le_trans (by simp) G1.out.size)
  clear C2 g2 o2
  go_wp2
  go_ret2
  exact ⟨v1, v2, L1, L2, rfl, l1, l2, own_mono O1'.out (by simp), O2.out, below_of_cur G2.out⟩
set_option maxRecDepth 100000 in
set_option maxHeartbeats 1000000 in
theorem dinS_any (ao : Option Addr) (n cap : Nat) (w : World) (h : ArgB w ao n) :
    Calls Try.prog 25 #[.slice ao n cap] w fun e w' => ∃ (v : Value) (L : List Int) (r : Int), e = .returned (.tuple #[v, .int .i64 r]) ∧ L.length ≤ 30 ∧ goodB r = true ∧ w'.ownsRow w.heap.size 3 1 v L.length (ints L) ∧ Below w.heap.size w w' := by
  have HC : Hid _ := cur_new cap h
  clear h
  go_enter Try.func25, Try.ntmps25
  go_wp2_with fail
  refine (cset_any _ _ ao n cap 0 _ (by omega) HC.out).mono ?_
  rintro e w1 ⟨v1, L1, k1, rfl, l1, hk1, C1, o1, g1⟩
  have HC1 : Hid _ := C1
  have G1 : Hid _ := g1
  have O1 : Hid _ := o1
  clear C1 g1 o1
  go_wp2_with fail
  refine (rune_any _ _ ao n cap k1 _ (by omega) HC1.out).mono ?_
  rintro e w2 ⟨r, k2, rfl, hg, hk2, C2, g2⟩
  have O1' : Hid _ := World.ownsRow.kept O1.out g2 (own_ne_cur O1.out (by simp))
  have G2 : Hid _ := grown_trans' G1.out g2
  clear C2 g2
  go_wp2
  go_ret2
  exact ⟨v1, L1, r, rfl, l1, hg, own_mono O1'.out (by simp), below_of_cur G2.out⟩
end Go.Proofs.Ytmmhgeaddldhlaa
namespace Go.Proofs.Ytmmhgeaddldhlaa
open Go.ChangeShapes Go.WideShapes Go.ChangeAt Go.RowKit
/-- A list that was drawn, in a row of its own. -/
def DrawnL (w w' : World) (e : Ending) : Prop := ∃ (v : Value) (L : List Int), e = .returned v ∧ L.length ≤ 30 ∧ w'.ownsRow w.heap.size 3 1 v L.length (ints L)
set_option maxRecDepth 100000 in
set_option maxHeartbeats 2000000 in
theorem dgs_any (ao : Option Addr) (n cap : Nat) (w : World) (h : ArgB w ao n) :
    Calls Try.prog 64 #[.slice ao n cap] w fun e w' => DrawnL w w' e ∧ Below w.heap.size w w' := by
  have HC : Hid _ := cur_new cap h
  clear h
  go_enter Try.func64, Try.ntmps64
  go_wp2_with fail
  refine (one_any 20 _ _ ao n cap 0 _ (by omega) HC.out).mono ?_
  rintro e w1 ⟨r, k1, rfl, hk1, C1, g1⟩
  have HC1 : Hid _ := C1
  have G1 : Hid _ := g1
  clear C1 g1
  have hsz : w.heap.size < w1.heap.size := Nat.lt_of_lt_of_le (by simp) G1.out.size
  have hb1 : w.heap.size < w1.heap.size := hsz
  cases r
  · go_wp2_with fail
    refine (cset_any _ _ ao n cap k1 _ (by omega) HC1.out).mono ?_
    rintro e w2 ⟨v2, L2, k2, rfl, l2, hk2, C2, o2, g2⟩
    have G2 : Hid _ := grown_trans' G1.out g2
    have O2 : Hid (w2.ownsRow w.heap.size 3 1 v2 L2.length (ints L2)) := own_mono o2 (by omega)
    clear C2 g2 o2
    go_wp2
    go_ret
    exact ⟨⟨v2, L2, rfl, l2, O2.out⟩, below_of_cur G2.out⟩
  · go_wp2
    go_loopw [4, 5] (fun v i wr => ∃ (k kk : Nat) (L : List Int), i = .int .i64 k ∧ k ≤ 13 ∧ L.length = 2 * k ∧ kk ≤ 2 + 4 * k ∧ Cur wr (w.heap.size + 1) w.heap.size ao n cap kk ∧ wr.ownsRow w1.heap.size 3 1 v L.length (ints L) ∧ w1.grownBy wr (some w.heap.size)) (fun _ i _ => 13 - (intOf i).toNat)
    case atStart => exact ⟨0, k1, [], rfl, by omega, rfl, by omega, HC1.out, World.ownsRow_nil _ _ _ _, ⟨rfl, rfl, rfl, Nat.le_refl _, fun _ _ _ => rfl⟩⟩
    case round =>
      obtain ⟨k, kk, L, rfl, hk, hL, hkk, C2, o2, g2⟩ := hrel
      have HC2 : Hid _ := C2
      have O2 : Hid _ := o2
      have G2 : Hid _ := g2
      have HL : Hid _ := hL
      have hLl : L.length ≤ 26 := by omega
      clear C2 o2 g2 hL
      go_wp2_with fail
      refine (pick_any 2 _ _ ao n cap kk _ (by omega) HC2.out).mono ?_
      rintro e w3 ⟨r3, k3, rfl, p0, p1, hk3, C3, g3⟩
      have HC3 : Hid _ := C3
      have O3 : Hid _ := World.ownsRow.kept O2.out g3 (own_ne_cur O2.out hsz)
      have G3 : Hid _ := grown_trans' G2.out g3
      clear C3 g3
      have hr3 : r3 ≤ 1 := by omega
      by_cases hlt : (k : Int) < 12 + r3
      · have hk12 : k ≤ 12 := by omega
        go_wp2_with fail
        refine (pick_any 9 _ _ ao n cap k3 _ (by omega) HC3.out).mono ?_
        rintro e w4 ⟨r4, k4, rfl, q0, q1, hk4, C4, g4⟩
        have HC4 : Hid _ := C4
        have O4 : Hid _ := World.ownsRow.kept O3.out g4 (own_ne_cur O3.out hsz)
        have G4 : Hid _ := grown_trans' G3.out g4
        have hr4 : r4 ≤ 8 := by omega
        clear C4 g4 p1 q1
        have AL : ∀ o, Below w4.heap.size w4 (w4.alloc o) := fun o => (Below.refl _ _).alloc (Nat.le_refl _) o
        go_wp2_with (at_builtin; refine wpA _ rfl _ _ rfl w1.heap.size _ _ _ rfl (World.ownsRow.keepB O4.out (AL _)) (some ⟨w4.heap.size, 0, none⟩) [10 * (k : Int), 10 * (k : Int) + r4] 2 2 rfl rfl (ints_new2 w4 _ _ _ _ rfl) ?c1 ?c2 ?_)
        case c1 => omega
        case c2 => have := G4.out.size; simp; omega
        intro v5 w5 hown5 hgrow _
        have HC5 : Hid (Cur w5 (w.heap.size + 1) w.heap.size ao n cap k4) := Cur.grown (Cur.below HC4.out (AL _)) hgrow (fun g hg => by have := (World.ownsRow.lt O4.out g hg).1; omega)
        have G5 : Hid (w1.grownBy w5 (some w.heap.size)) := by
          have ga := grown_trans' G4.out (grown_of_below (AL (.cells #[.int .i64 (10 * (k : Int)), .int .i64 (10 * (k : Int) + r4)] 3)) (some w.heap.size))
          exact ⟨hgrow.os.trans ga.os, hgrow.tape.trans ga.tape, hgrow.output.trans ga.output, Nat.le_trans ga.size hgrow.size, fun i hi hn => (hgrow.block i (Nat.lt_of_lt_of_le hi ga.size) (fun e => by have := (World.ownsRow.lt O4.out i e.symm).1; omega)).trans (ga.block i hi hn)⟩
        have O5 : Hid _ := hown5
        clear hgrow hown5
        go_wp2
        go_roundw
        case rel => exact ⟨k + 1, k4, L ++ [10 * (k : Int), 10 * (k : Int) + r4], by go_num, by omega, by have := HL.out; simp; omega, by omega, HC5.out, own_cast O5.out (by simp) (by simp [ints]), G5.out⟩
        case measure => simp [intOf]; omega
      · have GW : Hid _ := grown_trans' G1.out G3.out
        clear p1
        go_wp2
        go_ret
        exact ⟨⟨_, L, rfl, by omega, own_mono O3.out (by omega)⟩, below_of_cur GW.out⟩
theorem dcs_any (ao : Option Addr) (n cap : Nat) (w : World) (h : ArgB w ao n) :
    Calls Try.prog 29 #[.slice ao n cap] w fun e w' => DrawnL w w' e ∧ Below w.heap.size w w' := by
  have HA : Hid _ := h
  clear h
  go_enter Try.func29, Try.ntmps29
  go_wp2_with fail
  refine (dgs_any ao n cap _ HA.out).mono ?_
  rintro e w1 ⟨⟨v, L, rfl, l, o⟩, b⟩
  go_wp2
  go_ret
  exact ⟨⟨v, L, rfl, l, o⟩, b⟩
theorem dfs_any (ao : Option Addr) (n cap : Nat) (w : World) (h : ArgB w ao n) :
    Calls Try.prog 31 #[.slice ao n cap] w fun e w' => DrawnL w w' e ∧ Below w.heap.size w w' := by
  have HA : Hid _ := h
  clear h
  go_enter Try.func31, Try.ntmps31
  go_wp2_with fail
  refine (dgs_any ao n cap _ HA.out).mono ?_
  rintro e w1 ⟨⟨v, L, rfl, l, o⟩, b⟩
  go_wp2
  go_ret
  exact ⟨⟨v, L, rfl, l, o⟩, b⟩
end Go.Proofs.Ytmmhgeaddldhlaa
namespace Go.Proofs.Ytmmhgeaddldhlaa
open Go.ChangeShapes Go.WideShapes Go.ChangeAt Go.RowKit
def setDL : List Int := [97, 98, 99, 100, 101, 48, 57, 12354, 0, 1114111]
theorem ints_new1 (w : World) (x : Int) (t : TypeId) (B : Nat) (hB : B = w.heap.size) : IntsAt (w.alloc (.cells #[.int .i64 x] t)) (some ⟨B, 0, none⟩) [x] := fun j hj => by
  subst hB
  obtain rfl : j = 0 := by simp at hj; omega
  exact ⟨w.heap.size, 0, rfl, by simp, by simp⟩
set_option maxRecDepth 100000 in
set_option maxHeartbeats 2000000 in
theorem dso_any (ao : Option Addr) (n cap : Nat) (w : World) (h : ArgB w ao n) :
    Calls Try.prog 34 #[.slice ao n cap] w fun e w' => DrawnL w w' e ∧ Below w.heap.size w w' := by
  have HC : Hid _ := cur_new cap h
  clear h
  go_enter Try.func34, Try.ntmps34
  go_wp2_with fail
  refine (pick_any 8 _ _ ao n cap 0 _ (by omega) HC.out).mono ?_
  rintro e w1 ⟨r, k1, rfl, r0, r1, hk1, C1, g1⟩
  have HC1 : Hid _ := C1
  have G1 : Hid _ := g1
  clear C1 g1
  have hsz : w.heap.size < w1.heap.size := Nat.lt_of_lt_of_le (by simp) G1.out.size
  have hr : r ≤ 7 := by omega
  clear r1
  go_wp2
  go_loopw [4, 5] (fun v i wr => ∃ (m kk : Nat) (L : List Int), i = .int .i64 m ∧ m ≤ 7 ∧ L.length + m ≤ 7 ∧ kk ≤ 2 + 2 * L.length ∧ Cur wr (w.heap.size + 1) w.heap.size ao n cap kk ∧ wr.ownsRow w1.heap.size 3 1 v L.length (ints L) ∧ w1.grownBy wr (some w.heap.size)) (fun _ i _ => (intOf i).toNat)
  case atStart => exact ⟨r.toNat, k1, [], by go_num, by omega, by simp; omega, by omega, HC1.out, World.ownsRow_nil _ _ _ _, ⟨rfl, rfl, rfl, Nat.le_refl _, fun _ _ _ => rfl⟩⟩
  case round =>
    obtain ⟨m, kk, L, rfl, hm, hL, hkk, C2, o2, g2⟩ := hrel
    have HC2 : Hid _ := C2
    have O2 : Hid _ := o2
    have G2 : Hid _ := g2
    clear C2 o2 g2
    have hws : w.heap.size < wr.heap.size := Nat.lt_of_lt_of_le hsz G2.out.size
    by_cases hlt : 0 < m
    · have hltI : (0 : Int) < (m : Int) := by omega
      have HV : Hid _ := vals_new wr w.heap.size hws _ (ints setDL) rfl 3
      have HB : Hid (Below wr.heap.size wr (wr.alloc (.cells (ints setDL).toArray 3))) := (Below.refl _ _).alloc (Nat.le_refl _) _
      go_wp2_with fail
      refine (among_any setDL _ _ _ _ ao n cap kk _ (by omega) (by decide) (by decide) HV.out (Cur.below HC2.out HB.out)).mono ?_
      rintro e w3 ⟨x, k3, rfl, hx, hk3, C3, g3⟩
      have G3 : Hid _ := grown_trans' (grown_of_below HB.out (some w.heap.size)) g3
      have HC3 : Hid _ := C3
      have O3 : Hid _ := World.ownsRow.kept O2.out G3.out (own_ne_cur O2.out hsz)
      have G4 : Hid _ := grown_trans' G2.out G3.out
      clear C3 g3 G3 hx
      have AL : ∀ o, Below w3.heap.size w3 (w3.alloc o) := fun o => (Below.refl _ _).alloc (Nat.le_refl _) o
      go_wp2_with (at_builtin; refine wpA _ rfl _ _ rfl w1.heap.size _ _ _ rfl (World.ownsRow.keepB O3.out (AL _)) (some ⟨w3.heap.size, 0, none⟩) [x] 1 1 rfl rfl (ints_new1 w3 _ _ _ rfl) ?c1 ?c2 ?_)
      case c1 => omega
      case c2 => have := G4.out.size; simp; omega
      intro v5 w5 hown5 hgrow _
      have HC5 : Hid (Cur w5 (w.heap.size + 1) w.heap.size ao n cap k3) := Cur.grown (Cur.below HC3.out (AL _)) hgrow (fun g hg => by have := (World.ownsRow.lt O3.out g hg).1; omega)
      have G5 : Hid (w1.grownBy w5 (some w.heap.size)) := by
        have ga := grown_trans' G4.out (grown_of_below (AL (.cells #[.int .i64 x] 3)) (some w.heap.size))
        exact ⟨hgrow.os.trans ga.os, hgrow.tape.trans ga.tape, hgrow.output.trans ga.output, Nat.le_trans ga.size hgrow.size, fun i hi hn => (hgrow.block i (Nat.lt_of_lt_of_le hi ga.size) (fun e => by have := (World.ownsRow.lt O3.out i e.symm).1; omega)).trans (ga.block i hi hn)⟩
      have O5 : Hid _ := hown5
      clear hgrow hown5
      go_wp2
      go_roundw
      case rel => exact ⟨m - 1, k3, L ++ [x], by go_num, by omega, by simp; omega, by simp; omega, HC5.out, own_cast O5.out (by simp) (by simp [ints]), G5.out⟩
      case measure => simp [intOf]; omega
    · obtain rfl : m = 0 := by omega
      go_wp2_with fail
      refine (one_any 30 _ _ ao n cap kk _ (by omega) HC2.out).mono ?_
      rintro e w2 ⟨q, k2, rfl, hk2, C2, g2⟩
      have O3 : Hid _ := World.ownsRow.kept O2.out g2 (own_ne_cur O2.out hsz)
      have G3 : Hid _ := grown_trans' G2.out g2
      clear C2 g2 HC2
      cases q
      · have GW : Hid _ := grown_trans' G1.out G3.out
        go_wp2
        go_ret
        exact ⟨⟨_, L, rfl, by omega, own_mono O3.out (by omega)⟩, below_of_cur GW.out⟩
      · clear hkk
        go_wp2
        go_loopw [4, 6] (fun v i wr => ∃ (k : Nat) (M : List Int), i = .int .i64 k ∧ k ≤ 13 ∧ M.length = L.length + k ∧ wr.ownsRow w1.heap.size 3 1 v M.length (ints M) ∧ w1.grownBy wr (some w.heap.size)) (fun _ i _ => 13 - (intOf i).toNat)
        case atStart => exact ⟨0, L, rfl, by omega, by omega, O3.out, G3.out⟩
        case round =>
          obtain ⟨k, M, rfl, hk, hM, o4, g4⟩ := hrel
          have O4 : Hid _ := o4
          have G4 : Hid _ := g4
          have HM : Hid _ := hM
          have hMl : M.length ≤ 20 := by omega
          clear o4 g4 hM
          by_cases hlt : k < 13
          · have hltI : (k : Int) < 13 := by omega
            have AL : ∀ o, Below wr.heap.size wr (wr.alloc o) := fun o => (Below.refl _ _).alloc (Nat.le_refl _) o
            go_wp2_with (at_builtin; refine wpA _ rfl _ _ rfl w1.heap.size _ _ _ rfl (World.ownsRow.keepB O4.out (AL _)) (some ⟨wr.heap.size, 0, none⟩) [2 * (k : Int)] 1 1 rfl rfl (ints_new1 wr _ _ _ rfl) ?c1 ?c2 ?_)
            case c1 => omega
            case c2 => have := G4.out.size; simp; omega
            intro v5 w5 hown5 hgrow _
            have G5 : Hid (w1.grownBy w5 (some w.heap.size)) := by
              have ga := grown_trans' G4.out (grown_of_below (AL (.cells #[.int .i64 (2 * (k : Int))] 3)) (some w.heap.size))
              exact ⟨hgrow.os.trans ga.os, hgrow.tape.trans ga.tape, hgrow.output.trans ga.output, Nat.le_trans ga.size hgrow.size, fun i hi hn => (hgrow.block i (Nat.lt_of_lt_of_le hi ga.size) (fun e => by have := (World.ownsRow.lt O4.out i e.symm).1; omega)).trans (ga.block i hi hn)⟩
            have O5 : Hid _ := hown5
            clear hgrow hown5
            go_wp2
            go_roundw
            case rel => exact ⟨k + 1, M ++ [2 * (k : Int)], by go_num, by omega, by have := HM.out; simp; omega, own_cast O5.out (by simp) (by simp [ints]), G5.out⟩
            case measure => simp [intOf]; omega
          · have GW : Hid _ := grown_trans' G1.out G4.out
            have hltI : ¬ (k : Int) < 13 := by omega
            go_wp2
            go_ret
            exact ⟨⟨_, M, rfl, by omega, own_mono O4.out (by omega)⟩, below_of_cur GW.out⟩
end Go.Proofs.Ytmmhgeaddldhlaa
namespace Go.Proofs.Ytmmhgeaddldhlaa
open Go.ChangeShapes Go.WideShapes Go.ChangeAt Go.RowKit
def foldDL : List Int := [64, 65, 90, 91, 97, 122, -1, 55296, 1114111, 12354]
theorem amongF (W0 : World) (S : Nat) (hS : S = W0.heap.size) (B b : Nat) (ao : Option Addr) (n cap k : Nat) (hk : k ≤ 900) (h : Cur W0 B b ao n cap k) :
    Calls Try.prog 68 #[.pointer (some ⟨b, 0, none⟩), .slice (some ⟨S, 0, none⟩) 10 10] (W0.alloc (.cells #[.int .i64 64, .int .i64 65, .int .i64 90, .int .i64 91, .int .i64 97, .int .i64 122, .int .i64 (-1), .int .i64 55296, .int .i64 1114111, .int .i64 12354] 3)) fun e w' => ∃ r : Int, e = .returned (.int .i64 r) ∧ W0.grownBy w' (some b) := by
  subst hS
  have hb : b < W0.heap.size := Nat.lt_of_lt_of_le h.lt h.le
  have HV := vals_new W0 b hb _ (ints foldDL) rfl 3
  have HB : Below W0.heap.size W0 (W0.alloc (.cells (ints foldDL).toArray 3)) := (Below.refl _ _).alloc (Nat.le_refl _) _
  refine (among_any foldDL _ 10 B b ao n cap k _ hk (by decide) (by decide) HV (Cur.below h HB)).mono ?_
  rintro e w1 ⟨r, k', rfl, -, -, -, g1⟩
  exact ⟨r, rfl, grown_trans' (grown_of_below HB (some b)) g1⟩
set_option maxRecDepth 100000 in
set_option maxHeartbeats 1000000 in
theorem dfr_any (ao : Option Addr) (n cap : Nat) (w : World) (h : ArgB w ao n) :
    Calls Try.prog 37 #[.slice ao n cap] w fun e w' => ∃ r : Int, e = .returned (.int .i64 r) ∧ Below w.heap.size w w' := by
  have HC : Hid _ := cur_new cap h
  clear h
  go_enter Try.func37, Try.ntmps37
  go_wp2_with fail
  refine (amongF _ _ (by simp) _ _ ao n cap 0 (by omega) HC.out).mono ?_
  rintro e w1 ⟨r, rfl, g1⟩
  have GW : Hid _ := g1
  clear g1
  go_wp2
  go_ret
  exact ⟨r, rfl, below_of_cur GW.out⟩
end Go.Proofs.Ytmmhgeaddldhlaa
namespace Go.Proofs.Ytmmhgeaddldhlaa
open Go.ChangeShapes Go.WideShapes Go.ChangeAt Go.WideMaps Go.WideElems Go.RowKit
namespace LawFolded
theorem own : ownKnob Try.prog.godebug = none := by kernel_rfl
theorem laidOut : laidOutB Try.prog = true := by kernel_rfl
set_option maxRecDepth 100000 in
set_option maxHeartbeats 16000000 in
theorem walk_in (a0 : Option Addr) (n0 c0 : Nat) (a1 : Option Addr) (n1 c1 : Nat) (w : World) (hA : ArgB w a0 n0) (hM : ArgB w a1 n1) (hn0 : (n0 : Int) ≤ 1048576) (hn1 : (n1 : Int) ≤ 1048576 - n0) :
    Calls Try.prog 5 #[.slice a0 n0 c0, .slice a1 n1 c1] w fun e w' => e = .returned (.bool true) ∧ Below w.heap.size w w' := by
  have HA : Hid _ := hA
  have HM : Hid _ := hM
  have hn0' : ¬ (1048576 : Int) < (n0 : Int) := by omega
  have hn1' : ¬ (1048576 : Int) - n0 < (n1 : Int) := by omega
  have B0 : Hid (Below w.heap.size w w) := Below.refl _ _
  clear hA hM
  go_enter Try.func5, Try.ntmps5
  go_wp2_with (first | (go_at_call 6; go_in) | fail)
  refine (Calls.mono (dfs_any a0 n0 c0 _ HA.out) ?_)
  rintro e w1 ⟨⟨v1, L1, rfl, l1, o1⟩, b⟩
  have B1 : Hid (Below w.heap.size w w1) := B0.out.trans (b.mono B0.out.size)
  clear b B0 
  obtain ⟨_, aA, cA, rfl, iA⟩ := ints_of_own o1
  have IA1 : Hid _ := iA
  clear iA o1
  have hl1 : L1.length ≤ 1048576 := by omega
  obtain ⟨okf, Gf, hf, SPf, IMf, Ff⟩ := fold_both L1 hl1
  have HSPf : Hid _ := SPf
  have HIMf : Hid _ := IMf
  have HFf : Hid _ := Ff
  clear SPf IMf Ff
  have bbf : (okf == okf) = true := by simp
  go_wp2_with fail
  refine (Calls.mono (HIMf.out _ _ _ IA1.out) ?_)
  rintro e w2 ⟨v, rfl, ox, b⟩
  have IA2 : Hid _ := IntsAt.keepB IA1.out b
  have B2 : Hid (Below w.heap.size w w2) := B1.out.trans (b.mono B1.out.size)
  clear b B1 IA1
  obtain ⟨_, aF, cF, rfl, iF⟩ := ints_of_own ox
  have IF2 : Hid _ := iF
  clear iF ox
  go_wp2_with fail
  refine (Calls.mono (HSPf.out _ _ _ IA2.out) ?_)
  rintro e w3 ⟨v, rfl, ox, b⟩
  have IA3 : Hid _ := IntsAt.keepB IA2.out b
  have IF3 : Hid _ := IntsAt.keepB IF2.out b
  have B3 : Hid (Below w.heap.size w w3) := B2.out.trans (b.mono B2.out.size)
  clear b B2 IA2 IF2
  obtain ⟨_, aG, cG, rfl, iG⟩ := ints_of_own ox
  have IG3 : Hid _ := iG
  clear iG ox
  go_wp2_with fail
  refine (Calls.mono (same_any Gf _ _ _ _ _ hf IF3.out IG3.out) ?_)
  rintro e w4 ⟨rfl, b⟩
  have IA4 : Hid _ := IntsAt.keepB IA3.out b
  have IF4 : Hid _ := IntsAt.keepB IF3.out b
  have IG4 : Hid _ := IntsAt.keepB IG3.out b
  have B4 : Hid (Below w.heap.size w w4) := B3.out.trans (b.mono B3.out.size)
  clear b B3 IA3 IF3 IG3
  clear IG4
  cases okf
  · skip
    go_wp2_with fail
    refine (Calls.mono (dso_any a1 n1 c1 _ (ArgB.below HM.out B4.out)) ?_)
    rintro e w5 ⟨⟨v4, L4, rfl, l4, o4⟩, b⟩
    have B5 : Hid (Below w.heap.size w w5) := B4.out.trans (b.mono B4.out.size)
    clear b B4 
    obtain ⟨_, aS, cS, rfl, iS⟩ := ints_of_own o4
    have IS5 : Hid _ := iS
    clear iS o4
    have hl4 : L4.length ≤ 1048576 := by omega
    obtain ⟨oks, Gs, hs, SPs, IMs, Fs⟩ := setOf_both L4 hl4
    have HSPs : Hid _ := SPs
    have HIMs : Hid _ := IMs
    have HFs : Hid _ := Fs
    clear SPs IMs Fs
    have bbs : (oks == oks) = true := by simp
    go_wp2_with fail
    refine (Calls.mono (HIMs.out _ _ _ IS5.out) ?_)
    rintro e w6 ⟨v, rfl, ox, b⟩
    have IS6 : Hid _ := IntsAt.keepB IS5.out b
    have B6 : Hid (Below w.heap.size w w6) := B5.out.trans (b.mono B5.out.size)
    clear b B5 IS5
    obtain ⟨_, aX, cX, rfl, iX⟩ := ints_of_own ox
    have IX6 : Hid _ := iX
    clear iX ox
    go_wp2_with fail
    refine (Calls.mono (HSPs.out _ _ _ IS6.out) ?_)
    rintro e w7 ⟨v, rfl, ox, b⟩
    have IS7 : Hid _ := IntsAt.keepB IS6.out b
    have IX7 : Hid _ := IntsAt.keepB IX6.out b
    have B7 : Hid (Below w.heap.size w w7) := B6.out.trans (b.mono B6.out.size)
    clear b B6 IS6 IX6
    obtain ⟨_, aY, cY, rfl, iY⟩ := ints_of_own ox
    have IY7 : Hid _ := iY
    clear iY ox
    go_wp2_with fail
    refine (Calls.mono (dfr_any a1 n1 c1 _ (ArgB.below HM.out B7.out)) ?_)
    rintro e w8 ⟨r5, rfl, b⟩
    have IS8 : Hid _ := IntsAt.keepB IS7.out b
    have IX8 : Hid _ := IntsAt.keepB IX7.out b
    have IY8 : Hid _ := IntsAt.keepB IY7.out b
    have B8 : Hid (Below w.heap.size w w8) := B7.out.trans (b.mono B7.out.size)
    clear b B7 IS7 IX7 IY7
    obtain ⟨k5, g5, FI5, FS5⟩ := foldR_both r5
    have HFI5 : Hid _ := FI5
    have HFS5 : Hid _ := FS5
    clear FI5 FS5
    have b5 : (g5 == g5) = true := by simp
    go_wp2_with fail
    refine (Calls.mono (HFI5.out _) ?_)
    rintro e wq ⟨rfl, rfl⟩
    go_wp2_with fail
    refine (Calls.mono (HFS5.out _) ?_)
    rintro e wq ⟨rfl, rfl⟩
    go_wp2_with fail
    refine (Calls.mono (same_any Gs _ _ _ _ _ hs IX8.out IY8.out) ?_)
    rintro e w9 ⟨rfl, b⟩
    have IS9 : Hid _ := IntsAt.keepB IS8.out b
    have IX9 : Hid _ := IntsAt.keepB IX8.out b
    have IY9 : Hid _ := IntsAt.keepB IY8.out b
    have B9 : Hid (Below w.heap.size w w9) := B8.out.trans (b.mono B8.out.size)
    clear b B8 IS8 IX8 IY8
    clear IY9
    go_wp2
    go_loopw [175] (fun i wr => ∃ j : Nat, j ≤ L4.length ∧ i = .int .i64 j ∧ Below w9.heap.size w9 wr) (fun i _ => L4.length - (intOf i).toNat)
    case atStart => exact ⟨0, Nat.zero_le _, rfl, Below.refl _ _⟩
    case round =>
      obtain ⟨j, hj, rfl, hbz⟩ := hrel
      have BZ : Hid _ := hbz
      by_cases hlt : j < L4.length
      · have hltI : (j : Int) < (L4.length : Int) := by omega
        obtain ⟨b1, o1, rfl, l1, h1⟩ := IS9.out j hlt
        have g1 : wr.cell? ⟨b1, o1 + j, none⟩ = some (.int .i64 (L4.getD j 0)) := (hbz.cell (p := ⟨b1, o1 + j, none⟩) l1).trans h1
        obtain ⟨x, hx⟩ : ∃ x, L4.getD j 0 = x := ⟨_, rfl⟩
        rw [hx] at g1
        have HX : Hid (L4.getD j 0 = x) := hx
        clear h1 hbz hx
        go_wp2_with fail
        refine (iin_all2 Gs x _ _ _ hs (IntsAt.keepB IX9.out BZ.out)).mono ?_
        rintro e wy ⟨rfl, b⟩
        have BY : Hid (Below w9.heap.size w9 wy) := BZ.out.trans (b.mono BZ.out.size)
        clear b
        cases oks
        · go_wp2
          go_roundw
          case rel => exact ⟨j + 1, by omega, by go_num, BY.out⟩
          case measure => simp [intOf]; omega
        · obtain ⟨f1, f2⟩ := HFs.out rfl
          obtain ⟨f3, f4⟩ := f2 j hlt
          rw [HX.out] at f3 f4
          clear f2
          rw [f1, f3, f4]
          clear f1 f3 f4
          go_wp2
          go_roundw
          case rel => exact ⟨j + 1, by omega, by go_num, BY.out⟩
          case measure => simp [intOf]; omega
      · have hltI : ¬ (j : Int) < (L4.length : Int) := by omega
        go_wp2
        go_ret
        exact ⟨rfl, B9.out.trans (BZ.out.mono B9.out.size)⟩
  · obtain ⟨f1, f2, f3, f4⟩ := HFf.out rfl
    have F3 : Hid _ := f3
    have F4 : Hid _ := f4
    clear f3 f4
    go_wp2
    go_loopw [10] (fun i wr => ∃ r : Nat, 65 ≤ r ∧ r ≤ 91 ∧ i = .int .i64 r ∧ Below w4.heap.size w4 wr) (fun i _ => 91 - (intOf i).toNat)
    case atStart => exact ⟨65, by omega, by omega, rfl, Below.refl _ _⟩
    case round =>
      obtain ⟨r, h65, h91, rfl, hbr⟩ := hrel
      have BR : Hid (Below w4.heap.size w4 wr) := hbr
      clear hbr
      by_cases hlt : (r : Int) ≤ 90
      · obtain ⟨m1, m2⟩ := F3.out r (by omega) hlt
        have gr : goodB (r : Int) = true := by simp [goodB]; omega
        have gr2 : goodB ((r : Int) + 32) = true := by simp [goodB]; omega
        go_wp2_with fail
        refine (iin_all Gf (r : Int) _ _ _ hf gr (IntsAt.keepB IF4.out BR.out)).mono ?_
        rintro e y0 ⟨rfl, b⟩
        have Y0 : Hid (Below w4.heap.size w4 y0) := BR.out.trans (b.mono BR.out.size)
        clear b BR
        go_wp2_with fail
        refine (iin_all Gf ((r : Int) + 32) _ _ _ hf gr2 (IntsAt.keepB IF4.out Y0.out)).mono ?_
        rintro e y1 ⟨rfl, b⟩
        have Y1 : Hid (Below w4.heap.size w4 y1) := Y0.out.trans (b.mono Y0.out.size)
        clear b Y0
        go_wp2_with fail
        refine (iin_all L1 (r : Int) _ _ _ hl1 gr (IntsAt.keepB IA4.out Y1.out)).mono ?_
        rintro e y2 ⟨rfl, b⟩
        have Y2 : Hid (Below w4.heap.size w4 y2) := Y1.out.trans (b.mono Y1.out.size)
        clear b Y1
        go_wp2_with fail
        refine (iin_all L1 ((r : Int) + 32) _ _ _ hl1 gr2 (IntsAt.keepB IA4.out Y2.out)).mono ?_
        rintro e y3 ⟨rfl, b⟩
        have Y3 : Hid (Below w4.heap.size w4 y3) := Y2.out.trans (b.mono Y2.out.size)
        clear b Y2
        rw [f1]
        generalize memS L1 (r : Int) = p at *
        generalize memS L1 ((r : Int) + 32) = q at *
        cases p <;> cases q
        all_goals
          go_wp2
          go_roundw
          case rel => exact ⟨r + 1, by omega, by omega, by go_num, Y3.out⟩
          case measure => simp [intOf]; omega
      · have hlt2 : ¬ (r : Int) ≤ 90 := hlt
        go_wp2_with fail
        refine (F4.out _ _ _ (IntsAt.keepB IF4.out BR.out)).mono ?_
        rintro e z1 ⟨v, rfl, ox, b⟩
        have Z1 : Hid (Below w4.heap.size w4 z1) := BR.out.trans (b.mono BR.out.size)
        clear b
        obtain ⟨_, aR, cR, rfl, iR⟩ := ints_of_own ox
        have IR : Hid _ := iR
        clear iR ox
        go_wp2_with fail
        refine (same_any Gf _ _ _ _ _ hf IR.out (IntsAt.keepB IF4.out Z1.out)).mono ?_
        rintro e w5 ⟨rfl, b⟩
        have B5 : Hid (Below w.heap.size w w5) := B4.out.trans ((Z1.out.trans (b.mono Z1.out.size)).mono B4.out.size)
        clear b Z1 IR
        go_wp2_with fail
        refine (Calls.mono (dso_any a1 n1 c1 _ (ArgB.below HM.out B5.out)) ?_)
        rintro e w6 ⟨⟨v4, L4, rfl, l4, o4⟩, b⟩
        have B6 : Hid (Below w.heap.size w w6) := B5.out.trans (b.mono B5.out.size)
        clear b B5 
        obtain ⟨_, aS, cS, rfl, iS⟩ := ints_of_own o4
        have IS6 : Hid _ := iS
        clear iS o4
        have hl4 : L4.length ≤ 1048576 := by omega
        obtain ⟨oks, Gs, hs, SPs, IMs, Fs⟩ := setOf_both L4 hl4
        have HSPs : Hid _ := SPs
        have HIMs : Hid _ := IMs
        have HFs : Hid _ := Fs
        clear SPs IMs Fs
        have bbs : (oks == oks) = true := by simp
        go_wp2_with fail
        refine (Calls.mono (HIMs.out _ _ _ IS6.out) ?_)
        rintro e w7 ⟨v, rfl, ox, b⟩
        have IS7 : Hid _ := IntsAt.keepB IS6.out b
        have B7 : Hid (Below w.heap.size w w7) := B6.out.trans (b.mono B6.out.size)
        clear b B6 IS6
        obtain ⟨_, aX, cX, rfl, iX⟩ := ints_of_own ox
        have IX7 : Hid _ := iX
        clear iX ox
        go_wp2_with fail
        refine (Calls.mono (HSPs.out _ _ _ IS7.out) ?_)
        rintro e w8 ⟨v, rfl, ox, b⟩
        have IS8 : Hid _ := IntsAt.keepB IS7.out b
        have IX8 : Hid _ := IntsAt.keepB IX7.out b
        have B8 : Hid (Below w.heap.size w w8) := B7.out.trans (b.mono B7.out.size)
        clear b B7 IS7 IX7
        obtain ⟨_, aY, cY, rfl, iY⟩ := ints_of_own ox
        have IY8 : Hid _ := iY
        clear iY ox
        go_wp2_with fail
        refine (Calls.mono (dfr_any a1 n1 c1 _ (ArgB.below HM.out B8.out)) ?_)
        rintro e w9 ⟨r5, rfl, b⟩
        have IS9 : Hid _ := IntsAt.keepB IS8.out b
        have IX9 : Hid _ := IntsAt.keepB IX8.out b
        have IY9 : Hid _ := IntsAt.keepB IY8.out b
        have B9 : Hid (Below w.heap.size w w9) := B8.out.trans (b.mono B8.out.size)
        clear b B8 IS8 IX8 IY8
        obtain ⟨k5, g5, FI5, FS5⟩ := foldR_both r5
        have HFI5 : Hid _ := FI5
        have HFS5 : Hid _ := FS5
        clear FI5 FS5
        have b5 : (g5 == g5) = true := by simp
        go_wp2_with fail
        refine (Calls.mono (HFI5.out _) ?_)
        rintro e wq ⟨rfl, rfl⟩
        go_wp2_with fail
        refine (Calls.mono (HFS5.out _) ?_)
        rintro e wq ⟨rfl, rfl⟩
        go_wp2_with fail
        refine (Calls.mono (same_any Gs _ _ _ _ _ hs IX9.out IY9.out) ?_)
        rintro e w10 ⟨rfl, b⟩
        have IS10 : Hid _ := IntsAt.keepB IS9.out b
        have IX10 : Hid _ := IntsAt.keepB IX9.out b
        have IY10 : Hid _ := IntsAt.keepB IY9.out b
        have B10 : Hid (Below w.heap.size w w10) := B9.out.trans (b.mono B9.out.size)
        clear b B9 IS9 IX9 IY9
        clear IY10
        go_wp2
        go_loopw [175] (fun i wr => ∃ j : Nat, j ≤ L4.length ∧ i = .int .i64 j ∧ Below w10.heap.size w10 wr) (fun i _ => L4.length - (intOf i).toNat)
        case atStart => exact ⟨0, Nat.zero_le _, rfl, Below.refl _ _⟩
        case round =>
          obtain ⟨j, hj, rfl, hbz⟩ := hrel
          have BZ : Hid _ := hbz
          by_cases hlt : j < L4.length
          · have hltI : (j : Int) < (L4.length : Int) := by omega
            obtain ⟨b1, o1, rfl, l1, h1⟩ := IS10.out j hlt
            have g1 : wr.cell? ⟨b1, o1 + j, none⟩ = some (.int .i64 (L4.getD j 0)) := (hbz.cell (p := ⟨b1, o1 + j, none⟩) l1).trans h1
            obtain ⟨x, hx⟩ : ∃ x, L4.getD j 0 = x := ⟨_, rfl⟩
            rw [hx] at g1
            have HX : Hid (L4.getD j 0 = x) := hx
            clear h1 hbz hx
            go_wp2_with fail
            refine (iin_all2 Gs x _ _ _ hs (IntsAt.keepB IX10.out BZ.out)).mono ?_
            rintro e wy ⟨rfl, b⟩
            have BY : Hid (Below w10.heap.size w10 wy) := BZ.out.trans (b.mono BZ.out.size)
            clear b
            cases oks
            · go_wp2
              go_roundw
              case rel => exact ⟨j + 1, by omega, by go_num, BY.out⟩
              case measure => simp [intOf]; omega
            · obtain ⟨f1, f2⟩ := HFs.out rfl
              obtain ⟨f3, f4⟩ := f2 j hlt
              rw [HX.out] at f3 f4
              clear f2
              rw [f1, f3, f4]
              clear f1 f3 f4
              go_wp2
              go_roundw
              case rel => exact ⟨j + 1, by omega, by go_num, BY.out⟩
              case measure => simp [intOf]; omega
          · have hltI : ¬ (j : Int) < (L4.length : Int) := by omega
            go_wp2
            go_ret
            exact ⟨rfl, B10.out.trans (BZ.out.mono B10.out.size)⟩
set_option maxRecDepth 100000 in
set_option maxHeartbeats 1000000 in
theorem walk_big (a0 : Option Addr) (n0 c0 : Nat) (a1 : Option Addr) (n1 c1 : Nat) (w : World) (h : (1048576 : Int) < n0 ∨ ((n0 : Int) ≤ 1048576 ∧ (1048576 : Int) - n0 < n1)) :
    Calls Try.prog 5 #[.slice a0 n0 c0, .slice a1 n1 c1] w fun e w' => e = .returned (.bool true) ∧ Below w.heap.size w w' := by
  rcases h with h | ⟨h1, h2⟩
  · go_enter Try.func5, Try.ntmps5
    go_wp2_with (first | (go_at_call 6; go_in) | fail)
    go_ret
    exact ⟨rfl, Below.refl _ _⟩
  · have h1' : ¬ (1048576 : Int) < (n0 : Int) := by omega
    go_enter Try.func5, Try.ntmps5
    go_wp2_with (first | (go_at_call 6; go_in) | fail)
    go_ret
    exact ⟨rfl, Below.refl _ _⟩
theorem walk (a0 : Option Addr) (n0 c0 : Nat) (a1 : Option Addr) (n1 c1 : Nat) (w : World) (hA : ArgB w a0 n0) (hM : ArgB w a1 n1) :
    Calls Try.prog 5 #[.slice a0 n0 c0, .slice a1 n1 c1] w fun e w' => e = .returned (.bool true) ∧ Below w.heap.size w w' := by
  by_cases h : (1048576 : Int) < n0 ∨ ((n0 : Int) ≤ 1048576 ∧ (1048576 : Int) - n0 < n1)
  · exact walk_big a0 n0 c0 a1 n1 c1 w h
  · exact walk_in a0 n0 c0 a1 n1 c1 w hA hM (by omega) (by omega)
set_option maxRecDepth 100000 in
theorem lifted (os : Os) (started : os.Started) (H : Type) (enc : TypeId × Value → H) :
    ReturnsInHanded {} Try.checked os 5 .any (Rows.fnFoldedSpec.pre6 enc Try.prog Try.f5 Rows.fnFoldedRow.domain false) (Rows.fnFoldedSpec.post enc Try.prog Try.f5 false true false false) := by
  refine returnsInHanded_of_change (C := Try.checked) own started (by kernel_rfl) Try.func5
    (ChangeSpec.witness6 (enc := enc) (C := Try.checked) false ⟨#[], #[.slice none 0 0, .slice none 0 0], []⟩ 8 (by kernel_rfl) (by kernel_rfl) (by kernel_rfl) (by kernel_rfl)) ?_
  intro W base args ds gs before hval0 hW hcnd _
  have hval : ∀ (j : Nat) t v, Try.f5.params[j]? = some t → args[j]? = some v → Value.okWide Try.prog W .any base t v := hval0
  have hW' := hW
  obtain ⟨p, q, hA0, hV, rfl, hfz, hnd⟩ := hW
  have hA : DataW.TrodAll enc Try.prog W 0 (fun _ => true) true Try.f5.params.toList args.toList ds p := hA0
  rw [Try.params5] at hA hval
  obtain ⟨v0, vs0, d0, ds0, p0, q0, hargs, rfl, rfl, h0, r0⟩ := trodAll_cons hA
  obtain ⟨v1, vs1, d1, ds1, p1, q1, hargs1, rfl, rfl, h1, r1⟩ := trodAll_cons r0
  obtain ⟨rfl, rfl, rfl⟩ := trodAll_nil r1
  obtain rfl : args = #[v0, v1] := by cases args; simp_all
  obtain ⟨rfl, rfl⟩ := trodVars_none hV
  obtain ⟨a0, len0, cap0, rfl⟩ := okWide_slice Try.underlying22 (hval 0 22 v0 rfl rfl)
  obtain ⟨a1, len1, cap1, rfl⟩ := okWide_slice Try.underlying22 (hval 1 22 v1 rfl rfl)
  have k0 := h0
  have k1 := h1
  have lt0 : ∀ x ∈ p0, x.block < W.heap.size := by obtain ⟨m, hm⟩ := k0; exact DataW.trod_lt m _ _ _ hm
  have lt1 : ∀ x ∈ p1, x.block < W.heap.size := by obtain ⟨m, hm⟩ := k1; exact DataW.trod_lt m _ _ _ hm
  have i0 : ArgB W a0 len0 := by obtain ⟨fuel, hf⟩ := h0; exact argB_of hf
  have i1 : ArgB W a1 len1 := by obtain ⟨fuel, hf⟩ := h1; exact argB_of hf
  clear hA0 hval0
  refine (walk a0 len0 cap0 a1 len1 cap1 W i0 i1).mono fun e W' ⟨he, bel⟩ => ?_
  subst he
  exact ⟨_, rfl, _, _, _, [], _, [], hW', trodAll_mk1 (shut_bool Try.underlying4 _), trodAll_cons_mk (Below.trod laidOut (by kernel_rfl) (of_decide_eq_true (by kernel_rfl)) k0 bel lt0) (trodAll_cons_mk (Below.trod laidOut (by kernel_rfl) (of_decide_eq_true (by kernel_rfl)) k1 bel lt1) trodAll_mk0), rfl, bel.frame _, fun h => by cases h⟩
theorem row : Rows.FnFoldedSaid :=
  OpenClaim.holds_of_wide 5 Try.f5 rfl rfl rfl rfl rfl rfl rfl ⟨rfl, rfl, rfl, rfl, rfl⟩ rfl rfl rfl rfl rfl (by kernel_rfl) Try.func5 (by kernel_rfl)
    (of_decide_eq_true (by kernel_rfl)) (by unfold Func.isWrapper; first | (rw [if_pos (by decide +kernel)]; kernel_rfl) | (rw [if_neg (by decide +kernel)]; exact ⟨rfl, rfl⟩))
    (fun os started H enc _ => lifted os started H enc)
end LawFolded
theorem folded_holds : Rows.FnFoldedSaid := LawFolded.row
#print axioms folded_holds
end Go.Proofs.Ytmmhgeaddldhlaa

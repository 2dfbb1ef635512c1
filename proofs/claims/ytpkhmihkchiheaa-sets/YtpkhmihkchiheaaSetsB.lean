/-
  Each function of chapter 4, of the program and of the specification, at one list or two: one answer of both.
-/
import Derived.Test.YtpkhmihkchiheaaC4U
import Derived.Test.YtpkhmihkchiheaaC4Y
import Derived.Test.YtpkhmihkchiheaaC4Q
import Derived.Test.YtpkhmihkchiheaaC4J
import Derived.Test.YtpkhmihkchiheaaC4K
import Derived.Test.YtpkhmihkchiheaaC4T
import Derived.Test.YtpkhmihkchiheaaC4Cnt
namespace Go.Proofs.Ytpkhmihkchiheaa
open Go.ChangeShapes Go.WideShapes Go.ChangeAt Go.RowKit
/-- The answer of a function over two lists that makes a list and a flag. -/
def Two4 (f : FuncId) (L M : List Int) (ok : Bool) (G : List Int) : Prop := ∀ w ao ca bo cb, IntsAt w ao L → IntsAt w bo M → Calls Try.prog f #[.slice ao L.length ca, .slice bo M.length cb] w fun e w' => ∃ v, e = .returned (.tuple #[v, .bool ok]) ∧ w'.ownsRow w.heap.size 3 1 v G.length (ints G) ∧ Below w.heap.size w w'
/-- The answer of a function over one list that makes a list and a flag. -/
def One4 (f : FuncId) (L : List Int) (ok : Bool) (G : List Int) : Prop := ∀ w ao ca, IntsAt w ao L → Calls Try.prog f #[.slice ao L.length ca] w fun e w' => ∃ v, e = .returned (.tuple #[v, .bool ok]) ∧ w'.ownsRow w.heap.size 3 1 v G.length (ints G) ∧ Below w.heap.size w w'
theorem setE_yes {w w' : World} {D : List (Int × Int)} {e : Ending} (h : SetE w w' D e) (h12 : D.length ≤ 12) : ∃ v, e = .returned (.tuple #[v, .bool true]) ∧ w'.ownsRow w.heap.size 3 1 v (flS D).length (ints (flS D)) := by
  rcases h with ⟨_, h⟩ | ⟨h, _⟩
  · exact h
  · omega
theorem setE_no {w w' : World} {D : List (Int × Int)} {e : Ending} (h : SetE w w' D e) (h12 : ¬ D.length ≤ 12) : ∃ v, e = .returned (.tuple #[v, .bool false]) ∧ w'.ownsRow w.heap.size 3 1 v ([] : List Int).length (ints []) := by
  rcases h with ⟨h, _⟩ | ⟨_, h⟩
  · omega
  · exact ⟨_, h, World.ownsRow_nil _ _ _ _⟩
theorem mem_good {L : List Int} {A : List (Int × Int)} (h : Good4 L A) (r : Int) : memS L r = true ↔ Mem r A := by rw [← h.fl]; exact memS_flS A r
theorem bool_ext {a b : Bool} (h : a = true ↔ b = true) : a = b := by cases a <;> cases b <;> simp_all
theorem uni_both (L M : List Int) (hl : L.length ≤ 1048576) (hm : M.length ≤ 1048576) : ∃ (ok : Bool) (G : List Int), G.length ≤ 1048576 ∧ Two4 17 L M ok G ∧ Two4 16 L M ok G ∧ (ok = true → goodS L = true ∧ goodS M = true ∧ goodS G = true ∧ ∀ r, memS G r = (memS L r || memS M r)) := by
  by_cases hg : goodS L = true ∧ goodS M = true
  · obtain ⟨A, gA⟩ := good4_of hg.1
    obtain ⟨B, gB⟩ := good4_of hg.2
    obtain ⟨u1, -, u3⟩ := uniD_facts gA.ct gB.ct
    by_cases h12 : (uniF A B).length ≤ 12
    · refine ⟨true, flS (uniF A B), by rw [flS_len]; omega, ?_, ?_, fun _ => ⟨hg.1, hg.2, by rw [goodS_flS u1.can u1.top, decide_eq_true h12], fun r => bool_ext ?_⟩⟩
      · exact fun w ao ca bo cb iA iB => (sunionS_yes L M ao bo ca cb w A B gA gB iA iB).mono fun e w' ⟨he, hb⟩ => by obtain ⟨v, h1, h2⟩ := setE_yes he h12; exact ⟨v, h1, h2, hb⟩
      · exact fun w ao ca bo cb iA iB => (iunion_yes L M ao bo ca cb w A B gA gB iA iB).mono fun e w' ⟨he, hb⟩ => by obtain ⟨v, h1, h2⟩ := setE_yes he h12; exact ⟨v, h1, h2, hb⟩
      · rw [memS_flS, u3, Bool.or_eq_true, mem_good gA, mem_good gB]
    · refine ⟨false, [], by simp, ?_, ?_, fun h => by cases h⟩
      · exact fun w ao ca bo cb iA iB => (sunionS_yes L M ao bo ca cb w A B gA gB iA iB).mono fun e w' ⟨he, hb⟩ => by obtain ⟨v, h1, h2⟩ := setE_no he h12; exact ⟨v, h1, h2, hb⟩
      · exact fun w ao ca bo cb iA iB => (iunion_yes L M ao bo ca cb w A B gA gB iA iB).mono fun e w' ⟨he, hb⟩ => by obtain ⟨v, h1, h2⟩ := setE_no he h12; exact ⟨v, h1, h2, hb⟩
  · refine ⟨false, [], by simp, ?_, ?_, fun h => by cases h⟩
    · exact fun w ao ca bo cb iA iB => (sunionS_no L M ao bo ca cb w hl hm hg iA iB).mono fun e w' ⟨he, hb⟩ => ⟨_, he, World.ownsRow_nil _ _ _ _, hb⟩
    · exact fun w ao ca bo cb iA iB => (iunion_no L M ao bo ca cb w hl hm hg iA iB).mono fun e w' ⟨he, hb⟩ => ⟨_, he, World.ownsRow_nil _ _ _ _, hb⟩
theorem meet_both (L M : List Int) (hl : L.length ≤ 1048576) (hm : M.length ≤ 1048576) : ∃ (ok : Bool) (G : List Int), G.length ≤ 1048576 ∧ Two4 19 L M ok G ∧ Two4 18 L M ok G ∧ (ok = true → goodS L = true ∧ goodS M = true ∧ goodS G = true ∧ ∀ r, memS G r = (memS L r && memS M r)) := by
  by_cases hg : goodS L = true ∧ goodS M = true
  · obtain ⟨A, gA⟩ := good4_of hg.1
    obtain ⟨B, gB⟩ := good4_of hg.2
    obtain ⟨-, -, u1, -, u3⟩ := meetD_facts gA.ct gB.ct gA.le gB.le
    by_cases h12 : (meetD A B).length ≤ 12
    · refine ⟨true, flS (meetD A B), by rw [flS_len]; omega, ?_, ?_, fun _ => ⟨hg.1, hg.2, by rw [goodS_flS u1.can u1.top, decide_eq_true h12], fun r => bool_ext ?_⟩⟩
      · exact fun w ao ca bo cb iA iB => (smeet_yes L M ao bo ca cb w A B gA gB iA iB).mono fun e w' ⟨he, hb⟩ => by obtain ⟨v, h1, h2⟩ := setE_yes he h12; exact ⟨v, h1, h2, hb⟩
      · exact fun w ao ca bo cb iA iB => (imeet_yes L M ao bo ca cb w A B gA gB iA iB).mono fun e w' ⟨he, hb⟩ => by obtain ⟨v, h1, h2⟩ := setE_yes he h12; exact ⟨v, h1, h2, hb⟩
      · rw [memS_flS, u3, Bool.and_eq_true, mem_good gA, mem_good gB]
    · refine ⟨false, [], by simp, ?_, ?_, fun h => by cases h⟩
      · exact fun w ao ca bo cb iA iB => (smeet_yes L M ao bo ca cb w A B gA gB iA iB).mono fun e w' ⟨he, hb⟩ => by obtain ⟨v, h1, h2⟩ := setE_no he h12; exact ⟨v, h1, h2, hb⟩
      · exact fun w ao ca bo cb iA iB => (imeet_yes L M ao bo ca cb w A B gA gB iA iB).mono fun e w' ⟨he, hb⟩ => by obtain ⟨v, h1, h2⟩ := setE_no he h12; exact ⟨v, h1, h2, hb⟩
  · refine ⟨false, [], by simp, ?_, ?_, fun h => by cases h⟩
    · exact fun w ao ca bo cb iA iB => (smeet_no L M ao bo ca cb w hl hm hg iA iB).mono fun e w' ⟨he, hb⟩ => ⟨_, he, World.ownsRow_nil _ _ _ _, hb⟩
    · exact fun w ao ca bo cb iA iB => (imeet_no L M ao bo ca cb w hl hm hg iA iB).mono fun e w' ⟨he, hb⟩ => ⟨_, he, World.ownsRow_nil _ _ _ _, hb⟩
theorem good4_flS {D : List (Int × Int)} (h : CT D) (h12 : D.length ≤ 12) : ∃ D', Good4 (flS D) D' ∧ D' = D := by
  obtain ⟨D', g⟩ := good4_of (L := flS D) (by rw [goodS_flS h.can h.top, decide_eq_true h12])
  refine ⟨D', g, can_ext g.can h.can fun x => ?_⟩
  rw [← memS_flS, ← memS_flS, g.fl]
theorem not_both (L : List Int) (hl : L.length ≤ 1048576) : ∃ (ok : Bool) (G : List Int), G.length ≤ 1048576 ∧ One4 21 L ok G ∧ One4 20 L ok G ∧ (ok = true → goodS L = true ∧ goodS G = true ∧ cntN L (L.length / 2) + cntN G (G.length / 2) = 1114112 ∧ One4 20 G true L) := by
  cases hg : goodS L with
  | true =>
    obtain ⟨A, gA⟩ := good4_of hg
    obtain ⟨u1, -, u3⟩ := ct_not gA.ct
    by_cases h12 : (notF A 0).length ≤ 12
    · refine ⟨true, flS (notF A 0), by rw [flS_len]; omega, ?_, ?_, fun _ => ⟨rfl, by rw [goodS_flS u1.can u1.top, decide_eq_true h12], cnt_both gA, ?_⟩⟩
      · exact fun w ao ca iA => (snotS_yes L A ao ca w gA iA).mono fun e w' ⟨he, hb⟩ => by obtain ⟨v, h1, h2⟩ := setE_yes he h12; exact ⟨v, h1, h2, hb⟩
      · exact fun w ao ca iA => (inotS_yes L A ao ca w gA iA).mono fun e w' ⟨he, hb⟩ => by obtain ⟨v, h1, h2⟩ := setE_yes he h12; exact ⟨v, h1, h2, hb⟩
      · obtain ⟨D', g, rfl⟩ := good4_flS u1 h12
        intro w ao ca iA
        refine (inotS_yes _ _ ao ca w g iA).mono fun e w' ⟨he, hb⟩ => ?_
        rw [not_not gA.ct] at he
        obtain ⟨v, h1, h2⟩ := setE_yes he gA.le
        rw [gA.fl] at h2
        exact ⟨v, h1, h2, hb⟩
    · refine ⟨false, [], by simp, ?_, ?_, fun h => by cases h⟩
      · exact fun w ao ca iA => (snotS_yes L A ao ca w gA iA).mono fun e w' ⟨he, hb⟩ => by obtain ⟨v, h1, h2⟩ := setE_no he h12; exact ⟨v, h1, h2, hb⟩
      · exact fun w ao ca iA => (inotS_yes L A ao ca w gA iA).mono fun e w' ⟨he, hb⟩ => by obtain ⟨v, h1, h2⟩ := setE_no he h12; exact ⟨v, h1, h2, hb⟩
  | false =>
    refine ⟨false, [], by simp, ?_, ?_, fun h => by cases h⟩
    · exact fun w ao ca iA => (snotS_no L ao ca w hl hg iA).mono fun e w' ⟨he, hb⟩ => ⟨_, he, World.ownsRow_nil _ _ _ _, hb⟩
    · exact fun w ao ca iA => (inotS_no L ao ca w hl hg iA).mono fun e w' ⟨he, hb⟩ => ⟨_, he, World.ownsRow_nil _ _ _ _, hb⟩
theorem iin_all (L : List Int) (r : Int) (ao : Option Addr) (cap : Nat) (w : World) (hl : L.length ≤ 1048576) (hr : goodB r = true) (hA : IntsAt w ao L) :
    Calls Try.prog 25 #[.slice ao L.length cap, .int .i64 r] w fun e w' => e = .returned (.tuple #[.bool (goodS L && memS L r), .bool (goodS L)]) ∧ Below w.heap.size w w' := by
  cases hg : goodS L with
  | true => exact iin_yes L r ao cap w hg hr hA
  | false => exact iin_no L r ao cap w hl (by simp [hg]) hA
theorem sin_all (L : List Int) (r : Int) (ao : Option Addr) (cap : Nat) (w : World) (hl : L.length ≤ 1048576) (hr : goodB r = true) (hA : IntsAt w ao L) :
    Calls Try.prog 27 #[.slice ao L.length cap, .int .i64 r] w fun e w' => e = .returned (.tuple #[.bool (goodS L && memS L r), .bool (goodS L)]) ∧ Below w.heap.size w w' := by
  cases hg : goodS L with
  | true => exact sin_yes L r ao cap w hg hr hA
  | false => exact sin_no L r ao cap w hl (by simp [hg]) hA
theorem icount_all (L : List Int) (ao : Option Addr) (cap : Nat) (w : World) (hl : L.length ≤ 1048576) (hA : IntsAt w ao L) :
    Calls Try.prog 26 #[.slice ao L.length cap] w fun e w' => e = .returned (.tuple #[.int .i64 (if goodS L then cntN L (L.length / 2) else 0), .bool (goodS L)]) ∧ Below w.heap.size w w' := by
  cases hg : goodS L with
  | true => exact icount_yes L ao cap w hg hA
  | false => exact icount_no L ao cap w hl hg hA
theorem scount_all (L : List Int) (ao : Option Addr) (cap : Nat) (w : World) (hl : L.length ≤ 1048576) (hA : IntsAt w ao L) :
    Calls Try.prog 29 #[.slice ao L.length cap] w fun e w' => e = .returned (.tuple #[.int .i64 (if goodS L then cntN L (L.length / 2) else 0), .bool (goodS L)]) ∧ Below w.heap.size w w' := by
  cases hg : goodS L with
  | true => exact scount_yes L ao cap w hg hA
  | false => exact scount_no L ao cap w hl hg hA
/-- InSet of both at a rune. -/
theorem in_both (L : List Int) (r : Int) (hl : L.length ≤ 1048576) (hr : goodB r = true) : ∃ x g : Bool, (∀ w ao cap, IntsAt w ao L → Calls Try.prog 25 #[.slice ao L.length cap, .int .i64 r] w fun e w' => e = .returned (.tuple #[.bool x, .bool g]) ∧ Below w.heap.size w w') ∧
    ∀ w ao cap, IntsAt w ao L → Calls Try.prog 27 #[.slice ao L.length cap, .int .i64 r] w fun e w' => e = .returned (.tuple #[.bool x, .bool g]) ∧ Below w.heap.size w w' :=
  ⟨_, _, fun w ao cap h => iin_all L r ao cap w hl hr h, fun w ao cap h => sin_all L r ao cap w hl hr h⟩
/-- CountSet of both. -/
theorem count_both (L : List Int) (hl : L.length ≤ 1048576) : ∃ (x : Int) (g : Bool), (∀ w ao cap, IntsAt w ao L → Calls Try.prog 26 #[.slice ao L.length cap] w fun e w' => e = .returned (.tuple #[.int .i64 x, .bool g]) ∧ Below w.heap.size w w') ∧
    ∀ w ao cap, IntsAt w ao L → Calls Try.prog 29 #[.slice ao L.length cap] w fun e w' => e = .returned (.tuple #[.int .i64 x, .bool g]) ∧ Below w.heap.size w w' :=
  ⟨_, _, fun w ao cap h => icount_all L ao cap w hl h, fun w ao cap h => scount_all L ao cap w hl h⟩
end Go.Proofs.Ytpkhmihkchiheaa

/-
  Contracts of the specification's draws for chapter 1: each returns some value within bounds and leaves all old memory as it was.
-/
import Derived.Test.YtdhppigjlldfmaaCur4
namespace Go.Proofs.Ytdhppigjlldfmaa
open Go.ChangeShapes Go.WideShapes Go.ChangeAt Go.RowKit
/-- Bytes lie where a slice of that length begins. -/
def ArgB (w : World) (ao : Option Addr) (n : Nat) : Prop :=
  ∀ j, j < n → ∃ b' off z, ao = some ⟨b', off, none⟩ ∧ b' < w.heap.size ∧ w.cell? ⟨b', off + j, none⟩ = some (.int .u8 z) ∧ 0 ≤ z ∧ z ≤ 255
theorem ArgB.below {w w' : World} {ao : Option Addr} {n : Nat} (h : ArgB w ao n) (hb : Below w.heap.size w w') : ArgB w' ao n := fun j hj => by
  obtain ⟨b', off, z, h1, h2, h3, h4⟩ := h j hj
  exact ⟨b', off, z, h1, by have := hb.size; omega, (hb.cell (p := ⟨b', off + j, none⟩) h2).trans h3, h4⟩
abbrev curObj (ao : Option Addr) (n cap : Nat) : Obj := .cells #[.slice ao n cap, .int .i64 0, .int .u64 0] 63
theorem cur_new {w : World} {ao : Option Addr} {n : Nat} (cap : Nat) (h : ArgB w ao n) : Cur (w.alloc (curObj ao n cap)) (w.heap.size + 1) w.heap.size ao n cap 0 := by
  refine ⟨by rw [World.cell?_alloc_new]; rfl, by rw [World.cell?_alloc_new]; rfl, ⟨0, by rw [World.cell?_alloc_new]; rfl⟩, fun j => ?_, fun j hj => ?_, by omega, by simp⟩
  · apply World.frozen?_alloc_at
    rfl
  · obtain ⟨b', off, z, h1, h2, h3, h4⟩ := h j hj
    exact ⟨b', off, z, h1, by omega, by omega, (World.cell?_alloc_lt w _ ⟨b', off + j, none⟩ h2).trans h3, h4⟩
theorem below_of_cur {w w' : World} {ao : Option Addr} {n cap : Nat} (hg : (w.alloc (curObj ao n cap)).grownBy w' (some w.heap.size)) : Below w.heap.size w w' :=
  Below.grown ((Below.refl w.heap.size w).alloc (Nat.le_refl _) _) hg (by simp) (fun k hk => by cases hk; exact Nat.le_refl _)
def badL : List Int := [-1, 55296, 57343, 1114112]
def begL : List ByteArray := [⟨#[224, 128]⟩, ⟨#[224, 160]⟩, ⟨#[237, 160]⟩, ⟨#[244, 144]⟩, ⟨#[240, 143]⟩, ⟨#[240, 144]⟩, ⟨#[193]⟩, ⟨#[245]⟩, ⟨#[128]⟩, ⟨#[244, 143, 191]⟩, ⟨#[227, 129, 130, 227]⟩]
def bad3 : List Int := [-1, 55296, 1114112]
set_option maxRecDepth 100000 in
set_option maxHeartbeats 1000000 in
theorem same_any (L : List Int) (a b : Option Addr) (ca cb : Nat) (w : World) (hl : L.length ≤ 1048576) (ha : IntsAt w a L) (hb : IntsAt w b L) :
    Calls Try.prog 42 #[.slice a L.length ca, .slice b L.length cb] w fun e w' => e = .returned (.bool true) ∧ Below w.heap.size w w' := by
  have HA : Hid _ := ha
  have HB : Hid _ := hb
  clear ha hb
  go_enter Try.func42, Try.ntmps42
  go_wp2
  go_loopw [13] (fun i wr => ∃ k : Nat, k ≤ L.length ∧ i = .int .i64 k ∧ Below w.heap.size w wr) (fun i _ => L.length - (intOf i).toNat)
  case atStart => exact ⟨0, Nat.zero_le _, rfl, Below.refl _ _⟩
  case round =>
    obtain ⟨k, hk, rfl, hbw⟩ := hrel
    by_cases hlt : k < L.length
    · obtain ⟨b1, o1, rfl, l1, h1⟩ := HA.out k hlt
      obtain ⟨b2, o2, rfl, l2, h2⟩ := HB.out k hlt
      have g1 : wr.cell? ⟨b1, o1 + k, none⟩ = some (.int .i64 (L.getD k 0)) := (hbw.cell (p := ⟨b1, o1 + k, none⟩) l1).trans h1
      have g2 : wr.cell? ⟨b2, o2 + k, none⟩ = some (.int .i64 (L.getD k 0)) := (hbw.cell (p := ⟨b2, o2 + k, none⟩) l2).trans h2
      have hltI : (k : Int) < (L.length : Int) := by omega
      clear h1 h2
      generalize L.getD k 0 = x at *
      go_wp2
      go_quiet (fail)
      go_wp2
      go_roundw
      case rel => exact ⟨k + 1, by omega, by go_num, below_drewN hbw _⟩
      case measure => simp [intOf]; omega
    · go_wp2
      go_ret
      exact ⟨rfl, hbw⟩
end Go.Proofs.Ytdhppigjlldfmaa

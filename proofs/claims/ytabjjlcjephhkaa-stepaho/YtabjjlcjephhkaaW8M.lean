/-
  LeastPeriod of both.
-/
import Derived.Test.YtabjjlcjephhkaaW8L
namespace Go.Proofs.Ytabjjlcjephhkaa
open Go.ChangeShapes Go.WideShapes Go.ChangeAt Go.RowKit Go.Maps
def perB (L : List Int) : Bool := okL L && decide (L.length ≠ 0)
def perV (L : List Int) : Int := if perB L = true then (L.length : Int) - (bestK L (L.length - 1) (L.length - 1) : Nat) else 0
theorem bord_last {L : List Int} (h0 : L.length ≠ 0) : (bordL L L.length).getD (L.length - 1) 0 = (bestK L (L.length - 1) (L.length - 1) : Nat) := by
  have h : L.length - 1 < L.length := by omega
  simp [bordL, List.getD, h]
set_option maxRecDepth 100000 in
set_option maxHeartbeats 1000000 in
theorem sperOf_any (L : List Int) (ao : Option Addr) (cap : Nat) (w : World) (hl : L.length ≤ 1048576) (hcap : L.length ≤ cap) (hA : IntsAt w ao L) :
    Calls Try.prog 17 #[.slice ao L.length cap] w fun e w' => e = .returned (.tuple #[.int .i64 (perV L), .bool (perB L)]) ∧ Below w.heap.size w w' := by
  have HLI : Hid (Calls Try.prog 55 #[.slice ao L.length cap] w fun e w' => e = .returned (.bool (okL L)) ∧ Below w.heap.size w w') := slist8_any L ao cap w hl hA
  have HA : Hid _ := hA
  clear hA
  cases hg : okL L
  · have HP : Hid (perB L = false ∧ perV L = 0) := (by have : perB L = false := by unfold perB; rw [hg]; rfl
                                                       exact ⟨this, by unfold perV; rw [this]; rfl⟩ : perB L = false ∧ perV L = 0)
    rw [hg] at HLI
    clear hg
    go_enter Try.func17, Try.ntmps17
    go_wp2_with fail
    refine Calls.mono HLI.out ?_
    rintro e w1 ⟨rfl, b1⟩
    go_wp2
    go_ret2
    exact ⟨by rw [HP.out.1, HP.out.2] <;> rfl, b1⟩
  · have h120 := (okL_true hg).2
    rw [hg] at HLI
    obtain ⟨n, hn⟩ : ∃ n, n = L.length := ⟨_, rfl⟩
    by_cases h0 : n = 0
    · have HP : Hid (perB L = false ∧ perV L = 0) := (by have : perB L = false := by unfold perB; simp [← hn, h0]
                                                         exact ⟨this, by unfold perV; rw [this]; rfl⟩ : perB L = false ∧ perV L = 0)
      have hb0 : ((n : Int) == 0) = true := by simp [h0]
      rw [← hn] at HLI ⊢
      clear hg hn h0 h120
      go_enter Try.func17, Try.ntmps17
      go_wp2_with fail
      refine Calls.mono HLI.out ?_
      rintro e w1 ⟨rfl, b1⟩
      go_wp2
      go_ret2
      exact ⟨by rw [HP.out.1, HP.out.2] <;> rfl, b1⟩
    · have HP : Hid (perB L = true ∧ perV L = (n : Int) - (bestK L (n - 1) (n - 1) : Nat)) := (by have : perB L = true := by unfold perB; rw [hg]; simp [← hn, h0]
                                                                                                  exact ⟨this, by unfold perV; rw [this, hn]; rfl⟩ : perB L = true ∧ perV L = (n : Int) - (bestK L (n - 1) (n - 1) : Nat))
      have hb0 : ((n : Int) == 0) = false := by simp [h0]
      have HS : Hid (∀ w', Below w.heap.size w w' → Calls Try.prog 56 #[.slice ao n cap] w' fun e w'' => ∃ a c, e = .returned (.slice (some ⟨a, 0, none⟩) n c) ∧ w''.cell? ⟨a, n - 1, none⟩ = some (.int .i64 (bestK L (n - 1) (n - 1) : Nat)) ∧ Below w'.heap.size w' w'') := fun w' hb => by
        have := sborders_any L ao cap w' (by omega) hcap (IntsAt.keepB HA.out hb)
        rw [← hn] at this
        refine this.mono fun e w'' ⟨v, he, ho, hb'⟩ => ?_
        rcases ho.2 with ⟨-, h⟩ | ⟨g, c, cur, rfl, -⟩
        · exact absurd h h0
        · have hc := World.ownsRow.cellAt ho (n - 1) (by omega)
          have hl := bord_last (L := L) (by omega)
          rw [← hn] at hl
          have hlen : (bordL L n).length = n := bordL_len L n
          refine ⟨g, c, he, ?_, hb'⟩
          rw [hc, ← hl]
          simp [ints, List.getD, hlen, show n - 1 < n by omega]
      have hle := bestK_le L (n - 1) (n - 1)
      have hn1 : IntKind.i64.wrap ((n : Int) - 1) = ((n - 1 : Nat) : Int) := by rw [IntWalk.i64_in _ (by omega)]; omega
      have hnI : ((n - 1 : Nat) : Int) < (n : Int) := by omega
      rw [← hn] at HLI h120 ⊢
      clear hg hn h0
      generalize bestK L (n - 1) (n - 1) = bv at *
      go_enter Try.func17, Try.ntmps17
      go_wp2_with fail
      refine Calls.mono HLI.out ?_
      rintro e w1 ⟨rfl, b1⟩
      have B1 : Hid (Below w.heap.size w w1) := b1
      clear b1
      go_wp2_with fail
      refine Calls.mono (HS.out _ B1.out) ?_
      rintro e w2 ⟨a, c, rfl, c2, b2⟩
      have B2 : Hid (Below w.heap.size w w2) := B1.out.trans (b2.mono B1.out.size)
      clear b2
      go_wp2
      go_ret2
      exact ⟨by rw [HP.out.1, HP.out.2] <;> rfl, B2.out⟩
set_option maxRecDepth 100000 in
set_option maxHeartbeats 1000000 in
theorem iperOf_any (L : List Int) (ao : Option Addr) (cap : Nat) (w : World) (hl : L.length ≤ 1048576) (hcap : L.length ≤ cap) (hA : IntsAt w ao L) :
    Calls Try.prog 16 #[.slice ao L.length cap] w fun e w' => e = .returned (.tuple #[.int .i64 (perV L), .bool (perB L)]) ∧ Below w.heap.size w w' := by
  have HBO : Hid (Calls Try.prog 14 #[.slice ao L.length cap] w fun e w' => ∃ v, e = .returned (.tuple #[v, .bool (okL L)]) ∧ w'.ownsRow w.heap.size 3 1 v (bordA L).length (ints (bordA L)) ∧ Below w.heap.size w w') := ibordersOf_any L ao cap w hl hcap hA
  clear hA
  cases hg : okL L
  · have HP : Hid (perB L = false ∧ perV L = 0) := (by have : perB L = false := by unfold perB; rw [hg]; rfl
                                                       exact ⟨this, by unfold perV; rw [this]; rfl⟩ : perB L = false ∧ perV L = 0)
    rw [hg] at HBO
    clear hg
    go_enter Try.func16, Try.ntmps16
    go_wp2_with fail
    refine Calls.mono HBO.out ?_
    rintro e w1 ⟨v, rfl, -, b1⟩
    go_wp2
    go_ret2
    exact ⟨by rw [HP.out.1, HP.out.2] <;> rfl, b1⟩
  · have h120 := (okL_true hg).2
    have hBA : bordA L = bordL L L.length := by unfold bordA; rw [hg]; rfl
    rw [hg, hBA, bordL_len] at HBO
    obtain ⟨n, hn⟩ : ∃ n, n = L.length := ⟨_, rfl⟩
    by_cases h0 : n = 0
    · have HP : Hid (perB L = false ∧ perV L = 0) := (by have : perB L = false := by unfold perB; simp [← hn, h0]
                                                         exact ⟨this, by unfold perV; rw [this]; rfl⟩ : perB L = false ∧ perV L = 0)
      have hb0 : ((n : Int) == 0) = true := by simp [h0]
      rw [← hn] at HBO ⊢
      clear hg hn h0 h120 hBA
      go_enter Try.func16, Try.ntmps16
      go_wp2_with fail
      refine Calls.mono HBO.out ?_
      rintro e w1 ⟨v, rfl, -, b1⟩
      go_wp2
      go_ret2
      exact ⟨by rw [HP.out.1, HP.out.2] <;> rfl, b1⟩
    · have HP : Hid (perB L = true ∧ perV L = (n : Int) - (bestK L (n - 1) (n - 1) : Nat)) := (by have : perB L = true := by unfold perB; rw [hg]; simp [← hn, h0]
                                                                                                  exact ⟨this, by unfold perV; rw [this, hn]; rfl⟩ : perB L = true ∧ perV L = (n : Int) - (bestK L (n - 1) (n - 1) : Nat))
      have hb0 : ((n : Int) == 0) = false := by simp [h0]
      have HS : Hid (Calls Try.prog 14 #[.slice ao n cap] w fun e w'' => ∃ a c, e = .returned (.tuple #[.slice (some ⟨a, 0, none⟩) n c, .bool true]) ∧ w''.cell? ⟨a, n - 1, none⟩ = some (.int .i64 (bestK L (n - 1) (n - 1) : Nat)) ∧ Below w.heap.size w w'') := by
        have := HBO.out
        rw [← hn] at this
        refine this.mono fun e w'' ⟨v, he, ho, hb'⟩ => ?_
        rcases ho.2 with ⟨-, h⟩ | ⟨g, c, cur, rfl, -⟩
        · exact absurd h h0
        · have hc := World.ownsRow.cellAt ho (n - 1) (by omega)
          have hl := bord_last (L := L) (by omega)
          rw [← hn] at hl
          have hlen : (bordL L n).length = n := bordL_len L n
          refine ⟨g, c, he, ?_, hb'⟩
          rw [hc, ← hl]
          simp [ints, List.getD, hlen, show n - 1 < n by omega]
      have hle := bestK_le L (n - 1) (n - 1)
      have hn1 : IntKind.i64.wrap ((n : Int) - 1) = ((n - 1 : Nat) : Int) := by rw [IntWalk.i64_in _ (by omega)]; omega
      have hnI : ((n - 1 : Nat) : Int) < (n : Int) := by omega
      rw [← hn] at h120 ⊢
      clear hg hn h0 HBO hBA
      generalize bestK L (n - 1) (n - 1) = bv at *
      go_enter Try.func16, Try.ntmps16
      go_wp2_with fail
      refine Calls.mono HS.out ?_
      rintro e w2 ⟨a, c, rfl, c2, b2⟩
      have B2 : Hid (Below w.heap.size w w2) := b2
      clear b2
      go_wp2
      go_ret2
      exact ⟨by rw [HP.out.1, HP.out.2] <;> rfl, B2.out⟩
end Go.Proofs.Ytabjjlcjephhkaa

/-
  UnionSet of both: slices.Grow (by the library's contract), slices.Concat of two arrays of spans.
-/
import Derived.Test.YtpkhmihkchiheaaC4Y
import Derived.Shelf.Spec.SlicesGrow
namespace Go.Proofs.Ytpkhmihkchiheaa
open Go.ChangeShapes Go.WideShapes Go.ChangeAt Go.RowKit
open Go.Shelf
shelf_lay_g Lays8.n4 Nm8 4 at Try 76 as Try.growSp
theorem grow_any (w : World) : Calls Try.prog 76 #[.slice none 0 0, .int .i64 24] w fun e w' => ∃ v, e = .returned v ∧ ownS w' w.heap.size v [] ∧ Below w.heap.size w w' := by
  obtain ⟨i0, hi, hz0, hz1, hz2⟩ := info62b
  have hcon := Any8.slices_Grow_grow Try.growSp i0 _ hi hz0 (by rw [hz1]; decide) none 0 0 24 [] w (Nat.le_refl _) (by decide) (by rw [hz2]; decide) (by decide) (by simp) (fun _ => rfl) (fun a h => by cases h)
  change Calls Try.prog 76 _ _ _ at hcon
  refine hcon.mono ?_
  rintro e w' ⟨rfl, rfl⟩
  have h1 := grownCap_ge w (0 + 24) 0 59
  have h2 := grownCap_le_maxLen w (0 + 24) 0 59 (by unfold maxLen; omega)
  refine ⟨_, rfl, ?_, ((Below.refl _ _).drew).alloc (Nat.le_refl _) _⟩
  refine World.ownsRow_made w.drew _ _ (Nat.le_refl _) h2 ?_
  have h3 : (Value.agg #[.int .i64 0, .int .i64 0]).cells.size = 2 := rfl
  change 0 + 24 ≤ grownCap w (0 + 24) 0 (Try.growSp_ren.t 25) at h1
  simp only [Array.size_append, size_zeroCells, h3]
  generalize grownCap w (0 + 24) 0 (Try.growSp_ren.t 25) = gc at h1 ⊢
  simp
  omega
/-- What Concat has at each round. -/
def catK (S1 S2 : List (Int × Int)) : Nat → List (Int × Int)
  | 0 => []
  | 1 => S1
  | _ => S1 ++ S2
set_option maxRecDepth 100000 in
set_option maxHeartbeats 4000000 in
theorem concat_any (S1 S2 : List (Int × Int)) (a1 a2 : Option Addr) (c1 c2 X : Nat) (w : World) (l1 : S1.length = 12) (l2 : S2.length = 12) (s1 : SpansAt w a1 S1) (s2 : SpansAt w a2 S2) (hX : X < w.heap.size) (k1 : w.cell? ⟨X, 0, none⟩ = some (.slice a1 12 c1)) (k2 : w.cell? ⟨X, 1, none⟩ = some (.slice a2 12 c2)) :
    Calls Try.prog 44 #[.slice (some ⟨X, 0, none⟩) 2 2] w fun e w' => ∃ v, e = .returned v ∧ ownS w' w.heap.size v (S1 ++ S2) ∧ Below w.heap.size w w' := by
  have A1 : Hid _ := s1
  have A2 : Hid _ := s2
  have L1 : Hid _ := l1
  have L2 : Hid _ := l2
  clear s1 s2 l1 l2
  go_enter Try.func44, Try.ntmps44
  go_wp2
  go_loopw [3, 11] (fun s i wr => ∃ k : Nat, k ≤ 2 ∧ i = .int .i64 k ∧ s = .int .i64 (12 * (k : Int)) ∧ wr = w) (fun _ i _ => 2 - (intOf i).toNat)
  case atStart => exact ⟨0, Nat.zero_le _, rfl, rfl, rfl⟩
  case round =>
    obtain ⟨k, hk, rfl, rfl, rfl⟩ := hrel
    rcases (by omega : k = 0 ∨ k = 1 ∨ k = 2) with h | h | h
    · subst h
      go_wp2
      go_roundw
      case rel => exact ⟨1, by omega, by go_num, by go_num, by first | rfl | trivial⟩
      case measure => simp [intOf]
    · subst h
      go_wp2
      go_roundw
      case rel => exact ⟨2, by omega, by go_num, by go_num, by first | rfl | trivial⟩
      case measure => simp [intOf]
    · subst h
      go_wp2_with fail
      refine (grow_any _).mono ?_
      rintro e w2 ⟨v2, rfl, o2, b2⟩
      have O2 : Hid _ := o2
      have B2 : Hid _ := b2
      have r1 : w2.cell? ⟨X, 0, none⟩ = some (.slice a1 12 c1) := (b2.cell (p := ⟨X, 0, none⟩) hX).trans k1
      have r2 : w2.cell? ⟨X, 1, none⟩ = some (.slice a2 12 c2) := (b2.cell (p := ⟨X, 1, none⟩) hX).trans k2
      clear o2 b2
      have BW : Hid (∀ o, Below wr.heap.size wr o → Below wr.heap.size wr o) := fun _ h => h
      obtain ⟨wo, hwo⟩ : ∃ wo, wo = wr := ⟨_, rfl⟩
      subst hwo
      go_wp2
      go_loopw [6, 27] (fun v i wq => ∃ k : Nat, k ≤ 2 ∧ i = .int .i64 k ∧ ownS wq wo.heap.size v (catK S1 S2 k) ∧ Below wo.heap.size wo wq) (fun _ i _ => 2 - (intOf i).toNat)
      case atStart => exact ⟨0, Nat.zero_le _, rfl, O2.out, B2.out⟩
      case round =>
        obtain ⟨k, hk, rfl, hown, hbw⟩ := hrel
        have OWN : Hid _ := hown
        have HB : Hid _ := hbw
        have t1 : wr.cell? ⟨X, 0, none⟩ = some (.slice a1 12 c1) := (hbw.cell (p := ⟨X, 0, none⟩) hX).trans k1
        have t2 : wr.cell? ⟨X, 1, none⟩ = some (.slice a2 12 c2) := (hbw.cell (p := ⟨X, 1, none⟩) hX).trans k2
        clear r1 r2 hown hbw
        rcases (by omega : k = 0 ∨ k = 1 ∨ k = 2) with h | h | h
        · subst h
          go_wp2_with (at_builtin; refine wpS _ rfl _ _ rfl wo.heap.size _ [] rfl OWN.out a1 S1 12 c1 rfl L1.out.symm (SpansAt.below A1.out HB.out) ?c1 ?c2 ?_)
          case c1 => simp
          case c2 => exact HB.out.size
          intro v3 w3 hown3 hgrow _
          have B3 : Hid (Below wo.heap.size wo w3) := Below.grown HB.out hgrow HB.out.size (fun g hg => (World.ownsRow.lt OWN.out g hg).1)
          have O3 : Hid _ := hown3
          clear hgrow hown3
          go_wp2
          go_roundw
          case rel => exact ⟨1, by omega, by go_num, O3.out, B3.out⟩
          case measure => simp [intOf]
        · subst h
          go_wp2_with (at_builtin; refine wpS _ rfl _ _ rfl wo.heap.size _ S1 rfl OWN.out a2 S2 12 c2 rfl L2.out.symm (SpansAt.below A2.out HB.out) ?c1 ?c2 ?_)
          case c1 => rw [L1.out]; decide
          case c2 => exact HB.out.size
          intro v3 w3 hown3 hgrow _
          have B3 : Hid (Below wo.heap.size wo w3) := Below.grown HB.out hgrow HB.out.size (fun g hg => (World.ownsRow.lt OWN.out g hg).1)
          have O3 : Hid _ := hown3
          clear hgrow hown3
          go_wp2
          go_roundw
          case rel => exact ⟨2, by omega, by go_num, O3.out, B3.out⟩
          case measure => simp [intOf]
        · subst h
          go_wp2
          go_ret
          exact ⟨_, rfl, OWN.out, HB.out⟩
section
variable (L M : List Int) (ao bo : Option Addr) (ca cb : Nat) (w : World)
set_option maxRecDepth 100000 in
set_option maxHeartbeats 2000000 in
theorem sunionS_no (hl : L.length ≤ 1048576) (hm : M.length ≤ 1048576) (hg : ¬ (goodS L = true ∧ goodS M = true)) (iA : IntsAt w ao L) (iB : IntsAt w bo M) :
    Calls Try.prog 17 #[.slice ao L.length ca, .slice bo M.length cb] w fun e w' => e = .returned (.tuple #[.slice none 0 0, .bool false]) ∧ Below w.heap.size w w' := by
  have IA : Hid _ := iA
  have IB : Hid _ := iB
  cases h1 : goodS L
  · have H1 : Hid _ := h1
    clear iA iB hg h1
    go_enter Try.func17, Try.ntmps17
    go_wp2_with fail
    refine (sgood4_any L ao ca _ hl IA.out).mono ?_
    rintro e w1 ⟨rfl, b1⟩
    rw [H1.out]
    go_wp2
    go_ret2
    exact ⟨rfl, b1⟩
  · have H1 : Hid _ := h1
    have H2 : Hid (goodS M = false) := by
      show goodS M = false
      cases h : goodS M
      · rfl
      · exact absurd ⟨h1, h⟩ hg
    clear iA iB hg h1
    go_enter Try.func17, Try.ntmps17
    go_wp2_with fail
    refine (sgood4_any L ao ca _ hl IA.out).mono ?_
    rintro e w1 ⟨rfl, b1⟩
    rw [H1.out]
    go_wp2_with fail
    refine (sgood4_any M bo cb _ hm (IntsAt.keepB IB.out b1)).mono ?_
    rintro e w2 ⟨rfl, b2⟩
    rw [H2.out]
    go_wp2
    go_ret2
    exact ⟨rfl, b1.trans (b2.mono b1.size)⟩
set_option maxRecDepth 100000 in
set_option maxHeartbeats 4000000 in
theorem sunionS_yes (A B : List (Int × Int)) (hA : Good4 L A) (hB : Good4 M B) (iA : IntsAt w ao L) (iB : IntsAt w bo M) :
    Calls Try.prog 17 #[.slice ao L.length ca, .slice bo M.length cb] w fun e w' => SetE w w' (uniF A B) e ∧ Below w.heap.size w w' := by
  have IA : Hid _ := iA
  have IB : Hid _ := iB
  have G1 : Hid _ := hA.good
  have G2 : Hid _ := hB.good
  have CA : Hid _ := hA.ct
  have CB : Hid _ := hB.ct
  have la := hA.le
  have lb := hB.le
  obtain ⟨u1, u2, -⟩ := uniD_facts CA.out CB.out
  have U1 : Hid _ := u1
  have hl : L.length ≤ 24 := (goodS_true hA.good).2.1
  have hm : M.length ≤ 24 := (goodS_true hB.good).2.1
  have FA : Hid (L = flS A) := hA.fl.symm
  have FB : Hid (M = flS B) := hB.fl.symm
  clear iA iB hA hB u1
  go_enter Try.func17, Try.ntmps17
  go_wp2_with fail
  refine (sgood4_any L ao ca _ (by omega) IA.out).mono ?_
  rintro e w1 ⟨rfl, b1⟩
  rw [G1.out]
  have B1 : Hid _ := b1
  clear b1
  go_wp2_with fail
  refine (sgood4_any M bo cb _ (by omega) (IntsAt.keepB IB.out B1.out)).mono ?_
  rintro e w2 ⟨rfl, b2⟩
  rw [G2.out]
  have B2 : Hid (Below w.heap.size w w2) := B1.out.trans (b2.mono B1.out.size)
  clear b2
  go_wp2_with fail
  refine (sunion_any A B ao bo ca cb _ _ _ (by rw [← FA.out]) (by rw [← FB.out]) CA.out CB.out (by omega) (by omega) (by have := IntsAt.keepB IA.out B2.out; rw [FA.out] at this; exact this) (by have := IntsAt.keepB IB.out B2.out; rw [FB.out] at this; exact this)).mono ?_
  rintro e w6 ⟨v6, rfl, o6, b6⟩
  have B6 : Hid (Below w.heap.size w w6) := B2.out.trans (b6.mono B2.out.size)
  have O6 : Hid (w6.ownsRow w.heap.size 3 1 v6 (flS (uniF A B)).length (ints (flS (uniF A B)))) := own_mono o6 B2.out.size
  clear o6 b6
  by_cases h12 : (uniF A B).length ≤ 12
  · go_wp2_with fail
    refine (smade_yes (uniF A B) v6 _ _ U1.out.can U1.out.top h12 O6.out).mono ?_
    rintro e w7 ⟨rfl, b7⟩
    have O7 : Hid _ := World.ownsRow.keepB O6.out b7
    have B7 : Hid (Below w.heap.size w w7) := B6.out.trans (b7.mono B6.out.size)
    clear b7
    go_wp2
    go_ret2
    exact ⟨.inl ⟨h12, v6, rfl, O7.out⟩, B7.out⟩
  · go_wp2_with fail
    refine (smade_no (uniF A B) v6 _ _ U1.out.can U1.out.top (by omega) (by omega) O6.out).mono ?_
    rintro e w7 ⟨rfl, b7⟩
    have B7 : Hid (Below w.heap.size w w7) := B6.out.trans (b7.mono B6.out.size)
    clear b7
    go_wp2
    go_ret2
    exact ⟨.inr ⟨by omega, rfl⟩, B7.out⟩
set_option maxRecDepth 100000 in
set_option maxHeartbeats 2000000 in
theorem iunion_no (hl : L.length ≤ 1048576) (hm : M.length ≤ 1048576) (hg : ¬ (goodS L = true ∧ goodS M = true)) (iA : IntsAt w ao L) (iB : IntsAt w bo M) :
    Calls Try.prog 16 #[.slice ao L.length ca, .slice bo M.length cb] w fun e w' => e = .returned (.tuple #[.slice none 0 0, .bool false]) ∧ Below w.heap.size w w' := by
  have IA : Hid _ := iA
  have IB : Hid _ := iB
  have RL : Hid (∃ (S : List (Int × Int)) (ok : Bool), S.length ≤ 12 ∧ (ok = goodS L) ∧ ∀ w ao ca, IntsAt w ao L → Calls Try.prog 42 #[.slice ao L.length ca] w fun e w' => e = .returned (.tuple #[setV S, .bool ok]) ∧ Below w.heap.size w w') := by
    cases h : goodS L
    · exact ⟨[], false, by simp, rfl, fun w ao ca i => read_no L ao ca w hl h i⟩
    · exact ⟨_, true, goodS_le h, rfl, fun w ao ca i => read_yes L ao ca w h i⟩
  have RM : Hid (∃ (S : List (Int × Int)) (ok : Bool), S.length ≤ 12 ∧ (ok = goodS M) ∧ ∀ w ao ca, IntsAt w ao M → Calls Try.prog 42 #[.slice ao M.length ca] w fun e w' => e = .returned (.tuple #[setV S, .bool ok]) ∧ Below w.heap.size w w') := by
    cases h : goodS M
    · exact ⟨[], false, by simp, rfl, fun w ao ca i => read_no M ao ca w hm h i⟩
    · exact ⟨_, true, goodS_le h, rfl, fun w ao ca i => read_yes M ao ca w h i⟩
  obtain ⟨S1, ok1, l1, e1, r1⟩ := RL.out
  obtain ⟨S2, ok2, l2, e2, r2⟩ := RM.out
  have hno : ¬ (ok1 = true ∧ ok2 = true) := by rw [e1, e2]; exact hg
  have R1 : Hid _ := r1
  have R2 : Hid _ := r2
  have L1 : Hid _ := l1
  have L2 : Hid _ := l2
  clear iA iB hg e1 e2 r1 r2 l1 l2 RL RM
  cases ok1 <;> cases ok2
  case true.true => exact absurd ⟨rfl, rfl⟩ hno
  all_goals
    clear hno
    go_enter Try.func16, Try.ntmps16
    go_wp2_with fail
    refine (R1.out _ _ _ IA.out).mono ?_
    rintro e w1 ⟨rfl, b1⟩
    obtain ⟨w2, hst, -, b2⟩ := new_set w1 S1 L1.out
    have HST : Hid _ := hst
    have B2 : Hid (Below w.heap.size w w2) := b1.trans (b2.mono b1.size)
    clear hst b1 b2
    go_wp2_with (refine wpList_store_set rfl (.tmp 6) (.tmp 13) rfl w1.heap.size rfl rfl HST.out ?_)
    refine (R2.out _ _ _ (IntsAt.keepB IB.out B2.out)).mono ?_
    rintro e w3 ⟨rfl, b3⟩
    obtain ⟨w4, hst4, -, b4⟩ := new_set w3 S2 L2.out
    have HST4 : Hid _ := hst4
    have B3 : Hid (Below w.heap.size w w3) := B2.out.trans (b3.mono B2.out.size)
    have B4 : Hid (Below w.heap.size w w4) := B3.out.trans (b4.mono B3.out.size)
    clear hst4 b3 b4
    go_wp2_with (refine wpList_store_set rfl (.tmp 8) (.tmp 18) rfl w3.heap.size rfl rfl HST4.out ?_)
    go_ret2
    exact ⟨rfl, B4.out⟩
end
end Go.Proofs.Ytpkhmihkchiheaa

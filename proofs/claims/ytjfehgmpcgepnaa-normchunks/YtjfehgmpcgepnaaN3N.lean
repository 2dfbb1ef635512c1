/-
  FeedNorm of the program where one is no rune; l3Feed and FeedNorm of the specification.
-/
import Derived.Test.YtjfehgmpcgepnaaN3M
import Derived.Test.YtjfehgmpcgepnaaR5D
import Derived.Deep.RegionWith
namespace Go.Proofs.Ytjfehgmpcgepnaa
open Go.ChangeShapes Go.WideShapes Go.ChangeAt Go.RowKit
/-- The zero answer, laid into the result's block. -/
theorem zero_norm {w w1 : World} (b1 : Below w.heap.size w w1) : Below w.heap.size w (w1.setCell ⟨w.heap.size + 1, 0, none⟩ (.slice none 0 0)) :=
  Below.grown b1 (grown_set w1 (w.heap.size + 1) 0 (.slice none 0 0)) b1.size (fun g e => by have := Option.some.inj e; omega)
set_option maxRecDepth 100000 in
set_option maxHeartbeats 1000000 in
theorem ifeed_no (H L : List Int) (ah al : Option Addr) (ch cl : Nat) (w : World) (hlen : H.length + 3 * L.length ≤ 300) (hno : (allG H && allG L) = false) (hH : IntsAt w ah H) (hL : IntsAt w al L) :
    Calls Try.prog 6 #[.agg #[.slice ah H.length ch], .slice al L.length cl] w fun e w' => e = .returned (.tuple #[.agg #[.slice none 0 0], .slice none 0 0, .bool false]) ∧ Below w.heap.size w w' := by
  have HHI : Hid _ := hH
  have HLI : Hid _ := hL
  have hsl := splitAllL_len L
  clear hH hL
  have A2 : ∀ o p, Below w.heap.size w ((w.alloc o).alloc p) := fun o p => ((Below.refl _ _).alloc (Nat.le_refl _) o).alloc (by simp) p
  cases hgL : allG L
  · have HB : Hid (¬ (heldB L = true ∧ (splitAllL L).length ≤ 300)) := fun h => by have := (heldB_true h.1).2; rw [hgL] at this; cases this
    clear hno hgL
    go_enter Try.func6, Try.ntmps6
    go_wp2_with fail
    refine (isplitAll_no L al cl _ (by omega) HB.out (IntsAt.below HLI.out (A2 _ _))).mono ?_
    rintro e w1 ⟨rfl, b1⟩
    have hs1 : w.heap.size + 1 < w1.heap.size := Nat.lt_of_lt_of_le (by simp) b1.size
    have c1 : w1.cell? ⟨w.heap.size + 1, 0, none⟩ = some (.slice none 0 0) := (b1.cell (p := ⟨w.heap.size + 1, 0, none⟩) (by simp)).trans (by simp [go_sem])
    have f1 : w1.frozen? ⟨w.heap.size + 1, 0, none⟩ = false := (World.frozen?_of_block (a := ⟨w.heap.size + 1, 0, none⟩) (b1.block (w.heap.size + 1) (by simp))).trans (by simp [go_sem])
    have B1 : Hid (Below w.heap.size w w1) := (A2 _ _).trans (b1.mono (A2 _ _).size)
    clear b1
    go_wp2
    have r0 := set_same w1 (w.heap.size + 1) 0 (.slice none 0 0) (.slice none 0 0) c1
    exact bodyPost_ret (v := .tuple #[.agg #[.slice none 0 0], .slice none 0 0, .bool false]) (by simp [results, Try.results6, go_sem, r0]) rfl ⟨rfl, zero_norm B1.out⟩
  · have hgH : allG H = false := by rw [hgL, Bool.and_true] at hno; exact hno
    have HHL : Hid (heldB L = true) := heldB_mk (by omega) hgL
    have HHH : Hid (heldB H = false) := by
      show heldB H = false
      rw [Bool.eq_false_iff]
      intro h
      have := (heldB_true h).2
      rw [hgH] at this
      cases this
    clear hno hgL hgH
    go_enter Try.func6, Try.ntmps6
    go_wp2_with fail
    refine (isplitAll_yes L al cl _ HHL.out (by omega) (IntsAt.below HLI.out (A2 _ _))).mono ?_
    rintro e w1 ⟨v1, rfl, o1, b1⟩
    have hs1 : w.heap.size + 1 < w1.heap.size := Nat.lt_of_lt_of_le (by simp) b1.size
    have c0 : w1.cell? ⟨w.heap.size, 0, none⟩ = some (.slice ah H.length ch) := (b1.cell (p := ⟨w.heap.size, 0, none⟩) (by simp; omega)).trans (by simp [go_sem])
    have c1 : w1.cell? ⟨w.heap.size + 1, 0, none⟩ = some (.slice none 0 0) := (b1.cell (p := ⟨w.heap.size + 1, 0, none⟩) (by simp)).trans (by simp [go_sem])
    have f1 : w1.frozen? ⟨w.heap.size + 1, 0, none⟩ = false := (World.frozen?_of_block (a := ⟨w.heap.size + 1, 0, none⟩) (b1.block (w.heap.size + 1) (by simp))).trans (by simp [go_sem])
    have B1 : Hid (Below w.heap.size w w1) := (A2 _ _).trans (b1.mono (A2 _ _).size)
    obtain ⟨-, a1, cc1, rfl, -⟩ := ints_of_own o1
    clear o1 b1
    go_wp2_with fail
    refine (iheld_any H ah ch _ (by omega) (IntsAt.below HHI.out B1.out)).mono ?_
    rintro e w' ⟨rfl, rfl⟩
    rw [HHH.out]
    go_wp2
    have r0 := set_same w1 (w.heap.size + 1) 0 (.slice none 0 0) (.slice none 0 0) c1
    exact bodyPost_ret (v := .tuple #[.agg #[.slice none 0 0], .slice none 0 0, .bool false]) (by simp [results, Try.results6, go_sem, r0]) rfl ⟨rfl, zero_norm B1.out⟩
theorem ssort' (L : List Int) (ao : Option Addr) (n cap : Nat) (w : World) (hn : n = L.length) (hl : L.length ≤ 1000) (hA : IntsAt w ao L) :
    Calls Try.prog 24 #[.slice ao n cap] w fun e w' => ∃ v, e = .returned v ∧ w'.ownsRow w.heap.size 3 1 v (sortL L).length (ints (sortL L)) ∧ Below w.heap.size w w' := by subst hn; exact ssortL_any L ao cap w hl hA
theorem sjoin' (L : List Int) (ao : Option Addr) (n cap : Nat) (w : World) (hn : n = L.length) (hl : L.length ≤ 1000) (hA : IntsAt w ao L) :
    Calls Try.prog 23 #[.slice ao n cap] w fun e w' => ∃ v, e = .returned v ∧ w'.ownsRow w.heap.size 3 1 v (joinL L).length (ints (joinL L)) ∧ Below w.heap.size w w' := by subst hn; exact sjoinL_any L ao cap w hl hA
set_option maxRecDepth 100000 in
set_option maxHeartbeats 2000000 in
theorem sfeed_any (H L : List Int) (ah al : Option Addr) (ch cl : Nat) (w : World) (hlen : H.length + 3 * L.length ≤ 300) (hgL : allG L = true) (hH : IntsAt w ah H) (hL : IntsAt w al L) :
    Calls Try.prog 22 #[.agg #[.slice ah H.length ch], .slice al L.length cl] w fun e w' => ∃ v0 v1, e = .returned (.tuple #[.agg #[v0], v1]) ∧ w'.ownsRow w.heap.size 3 1 v0 ((H ++ splitAllL L).drop (cutN (H ++ splitAllL L))).length (ints ((H ++ splitAllL L).drop (cutN (H ++ splitAllL L)))) ∧ w'.ownsRow w.heap.size 3 1 v1 (fullL ((H ++ splitAllL L).take (cutN (H ++ splitAllL L)))).length (ints (fullL ((H ++ splitAllL L).take (cutN (H ++ splitAllL L))))) ∧ Below w.heap.size w w' := by
  have HHI : Hid _ := hH
  have HLI : Hid _ := hL
  have HGL : Hid _ := hgL
  have hsl := splitAllL_len L
  clear hH hL hgL
  have A2 : ∀ o p, Below w.heap.size w ((w.alloc o).alloc p) := fun o p => ((Below.refl _ _).alloc (Nat.le_refl _) o).alloc (by simp) p
  go_enter Try.func22, Try.ntmps22
  go_wp2_with fail
  refine (sown_any H ah _ ch _ rfl (by omega) (IntsAt.below HHI.out (A2 _ _))).mono ?_
  rintro e w1 ⟨v1, rfl, o1, b1⟩
  have hs1 : w.heap.size + 1 < w1.heap.size := Nat.lt_of_lt_of_le (by simp) b1.size
  have c1 : w1.cell? ⟨w.heap.size + 1, 0, none⟩ = some (.slice none 0 0) := (b1.cell (p := ⟨w.heap.size + 1, 0, none⟩) (by simp)).trans (by simp [go_sem])
  have f1 : w1.frozen? ⟨w.heap.size + 1, 0, none⟩ = false := (World.frozen?_of_block (a := ⟨w.heap.size + 1, 0, none⟩) (b1.block (w.heap.size + 1) (by simp))).trans (by simp [go_sem])
  have O1 : Hid (w1.ownsRow (w.heap.size + 2) 3 1 v1 H.length (ints H)) := own_mono o1 (by simp)
  have B1 : Hid (Below w.heap.size w w1) := (A2 _ _).trans (b1.mono (A2 _ _).size)
  obtain ⟨-, a1, cc1, rfl, -⟩ := ints_of_own o1
  clear o1 b1
  go_wp2_with fail
  refine (ssplitL_any L al cl _ (by omega) HGL.out (IntsAt.below HLI.out B1.out)).mono ?_
  rintro e w2 ⟨v2, rfl, o2, b2⟩
  have c2 : w2.cell? ⟨w.heap.size + 1, 0, none⟩ = some (.slice none 0 0) := (b2.cell (p := ⟨w.heap.size + 1, 0, none⟩) hs1).trans c1
  have f2 : w2.frozen? ⟨w.heap.size + 1, 0, none⟩ = false := (World.frozen?_of_block (a := ⟨w.heap.size + 1, 0, none⟩) (b2.block (w.heap.size + 1) hs1)).trans f1
  have hs2 : w.heap.size + 1 < w2.heap.size := Nat.lt_of_lt_of_le hs1 b2.size
  have O2 : Hid (w2.ownsRow (w.heap.size + 2) 3 1 (.slice a1 H.length cc1) H.length (ints H)) := ownsRow_below O1.out b2
  have B2 : Hid (Below w.heap.size w w2) := B1.out.trans (b2.mono B1.out.size)
  obtain ⟨-, a2, cc2, rfl, I2⟩ := ints_of_own o2
  have I2H : Hid _ := I2
  clear o2 b2 c1 f1 I2
  go_wp2_with (at_builtin; refine wpA _ rfl _ _ rfl (w.heap.size + 2) _ _ _ rfl O2.out a2 (splitAllL L) _ cc2 rfl rfl I2H.out ?c1 ?c2 ?_)
  case c1 => omega
  case c2 => omega
  intro v3 w3 o3 g3 _
  obtain ⟨X, hX⟩ : ∃ X, Hid (H ++ splitAllL L = X) := ⟨_, rfl⟩
  obtain ⟨N, hN⟩ : ∃ N, Hid (N = H.length + (splitAllL L).length) := ⟨_, rfl⟩
  have HNX : Hid (N = X.length) := by show N = X.length; rw [hN.out, ← hX.out]; simp
  have hN3 : N ≤ 300 := by rw [hN.out]; omega
  have O3 : Hid (w3.ownsRow (w.heap.size + 2) 3 1 v3 N (ints X)) := (by rw [hN.out, ← hX.out]; simpa [ints] using o3 : w3.ownsRow (w.heap.size + 2) 3 1 v3 N (ints X))
  have hne1 : (Value.slice a1 H.length cc1).ownBlock ≠ some (w.heap.size + 1) := by
    rcases own_ne O2.out (show w.heap.size + 1 < w.heap.size + 2 by omega) with h | h
    · rw [h]; exact fun h => by cases h
    · exact h
  have blk3 : w3.heap[w.heap.size + 1]? = w2.heap[w.heap.size + 1]? := g3.block _ hs2 (fun e => hne1 e.symm)
  have c3 : w3.cell? ⟨w.heap.size + 1, 0, none⟩ = some (.slice none 0 0) := (World.cell?_of_block (a := ⟨w.heap.size + 1, 0, none⟩) blk3).trans c2
  have f3 : w3.frozen? ⟨w.heap.size + 1, 0, none⟩ = false := (World.frozen?_of_block (a := ⟨w.heap.size + 1, 0, none⟩) blk3).trans f2
  have hs3 : w.heap.size + 1 < w3.heap.size := Nat.lt_of_lt_of_le hs2 g3.size
  have B3 : Hid (Below w.heap.size w w3) := Below.grown B2.out g3 B2.out.size (fun g e => by have := (World.ownsRow.lt O2.out g e).1; omega)
  have KC : Hid (∀ q, Below w3.heap.size w3 q → q.cell? ⟨w.heap.size + 1, 0, none⟩ = some (.slice none 0 0) ∧ q.frozen? ⟨w.heap.size + 1, 0, none⟩ = false) := fun q hq => ⟨(hq.cell (p := ⟨w.heap.size + 1, 0, none⟩) hs3).trans c3, (World.frozen?_of_block (a := ⟨w.heap.size + 1, 0, none⟩) (hq.block (w.heap.size + 1) hs3)).trans f3⟩
  obtain ⟨a3, cc3, hv3⟩ : ∃ a3 cc3, v3 = .slice a3 N cc3 := by
    obtain ⟨-, a, c, h, -⟩ := ints_of_own O3.out
    exact ⟨a, c, h⟩
  subst hv3
  have hck : cutN X ≤ N := by rw [HNX.out]; exact cutN_le X
  obtain ⟨A5, C5, hs5, i5⟩ := slice_tail O3.out (cutN X) hck
  have hs6 := slice_front O3.out (cutN X) hck
  have I5 : Hid (IntsAt w3 A5 (X.drop (cutN X))) := i5
  have I3 : Hid (IntsAt w3 a3 X) := own_ints O3.out
  have I6 : Hid (IntsAt w3 a3 (X.take (cutN X))) := ints_take I3.out _
  have hlD : (X.drop (cutN X)).length ≤ 300 := by simp; have := HNX.out; omega
  have hlT : (X.take (cutN X)).length ≤ 300 := by simp; have := HNX.out; omega
  have HND : Hid (N - cutN X = (X.drop (cutN X)).length) := by show N - cutN X = _; rw [List.length_drop, ← HNX.out]
  have HNT : Hid (cutN X = (X.take (cutN X)).length) := by show cutN X = _; rw [List.length_take, ← HNX.out]; omega
  have HSL : Hid ((sortL (X.take (cutN X))).length ≤ 1000) := by show (sortL (X.take (cutN X))).length ≤ 1000; rw [sortL_len]; omega
  clear o3 g3 blk3 c3 f3 c2 f2 O2 i5 hne1
  go_wp2_with fail
  refine (scut_any X a3 N cc3 _ HNX.out (by have := HNX.out; omega) I3.out).mono ?_
  rintro e w4 ⟨rfl, rfl⟩
  obtain ⟨XD, hXD⟩ : ∃ Z, Hid (X.drop (cutN X) = Z) := ⟨_, rfl⟩
  obtain ⟨XT, hXT⟩ : ∃ Z, Hid (X.take (cutN X) = Z) := ⟨_, rfl⟩
  rw [hXD.out] at I5 HND hlD
  rw [hXT.out] at I6 HNT hlT HSL
  obtain ⟨cu, hcu⟩ : ∃ c, Hid (cutN X = c) := ⟨_, rfl⟩
  rw [hcu.out] at hs5 hs6 HND HNT
  rw [hcu.out]
  clear hck
  go_wp2
  have BC : Hid (Below w3.heap.size w3 w3.drew) := (Below.refl _ _).drew
  go_region_with (first
    | (go_at_call 34; refine (sown_any XD A5 _ C5 _ HND.out (by omega) (IntsAt.keepB I5.out BC.out)).mono ?_
       rintro e wn ⟨vo, rfl, oo, bn⟩
       have OA : Hid (wn.ownsRow w3.heap.size 3 1 vo XD.length (ints XD)) := own_mono oo BC.out.size
       (try (have OB : Hid (wn.ownsRow w3.heap.size 3 1 (.slice ab (sortL XT).length cb) (sortL XT).length (ints (sortL XT))) := ownsRow_below OB.out bn))
       (try (have OC : Hid (wn.ownsRow w3.heap.size 3 1 (.slice ac (fullL XT).length cc) (fullL XT).length (ints (fullL XT))) := ownsRow_below OC.out bn))
       have BC : Hid (Below w3.heap.size w3 wn) := BC.out.trans (bn.mono BC.out.size)
       obtain ⟨-, aa, ca, rfl, -⟩ := ints_of_own oo
       obtain ⟨cn, fn⟩ := KC.out wn BC.out
       clear oo bn)
    | (go_at_call 24; refine (ssort' XT a3 _ cc3 _ HNT.out (by omega) (IntsAt.keepB I6.out BC.out)).mono ?_
       rintro e wn ⟨vo, rfl, oo, bn⟩
       have OB : Hid (wn.ownsRow w3.heap.size 3 1 vo (sortL XT).length (ints (sortL XT))) := own_mono oo BC.out.size
       (try (have OA : Hid (wn.ownsRow w3.heap.size 3 1 (.slice aa XD.length ca) XD.length (ints XD)) := ownsRow_below OA.out bn))
       have BC : Hid (Below w3.heap.size w3 wn) := BC.out.trans (bn.mono BC.out.size)
       obtain ⟨-, ab, cb, rfl, -⟩ := ints_of_own oo
       obtain ⟨cn, fn⟩ := KC.out wn BC.out
       clear oo bn)
    | (go_at_call 23; refine (sjoin' (sortL XT) ab _ cb _ rfl HSL.out (own_ints OB.out)).mono ?_
       rintro e wn ⟨vo, rfl, oo, bn⟩
       have OC : Hid (wn.ownsRow w3.heap.size 3 1 vo (fullL XT).length (ints (fullL XT))) := own_mono oo BC.out.size
       (try (have OA : Hid (wn.ownsRow w3.heap.size 3 1 (.slice aa XD.length ca) XD.length (ints XD)) := ownsRow_below OA.out bn))
       have BC : Hid (Below w3.heap.size w3 wn) := BC.out.trans (bn.mono BC.out.size)
       obtain ⟨ac, cc, hvc⟩ : ∃ ac cc, vo = .slice ac (fullL XT).length cc := by
         obtain ⟨-, a, c, h, -⟩ := ints_of_own OC.out
         exact ⟨a, c, h⟩
       subst hvc
       obtain ⟨cn, fn⟩ := KC.out wn BC.out
       clear oo bn))
  all_goals
    go_wp2
    have r0 := set_same wn (w.heap.size + 1) 0 (.slice none 0 0) (.slice aa XD.length ca) cn
    refine bodyPost_ret (v := .tuple #[.agg #[.slice aa XD.length ca], .slice ac (fullL XT).length cc]) (by simp [results, Try.results22, go_sem, r0]) rfl ⟨_, _, rfl, ?_, ?_, ?_⟩
    · rw [hX.out, hXD.out]
      exact own_mono (own_set OA.out (show w.heap.size + 1 < w3.heap.size by omega) 0 (.slice aa XD.length ca)) (by omega)
    · rw [hX.out, hXT.out]
      exact own_mono (own_set OC.out (show w.heap.size + 1 < w3.heap.size by omega) 0 (.slice aa XD.length ca)) (by omega)
    · exact Below.grown (B3.out.trans (BC.out.mono B3.out.size)) (grown_set wn (w.heap.size + 1) 0 (.slice aa XD.length ca)) (B3.out.trans (BC.out.mono B3.out.size)).size (fun g e => by have := Option.some.inj e; omega)
end Go.Proofs.Ytjfehgmpcgepnaa

/-
  Buffers: the program's take.
-/
import Derived.Test.YtklgagonbehpeaaX1G
namespace Go.Proofs.Ytklgagonbehpeaa
open Go.ChangeShapes Go.WideShapes Go.ChangeAt Go.RowKit
theorem own_ne_boxP {w : World} {base n : Nat} {v : Value} {xs : List Value} (h : w.ownsRow base 3 1 v n xs) {b : Nat} {cs : Array Value} {t : TypeId} (hb : w.heap[b]? = some (.cells cs t)) (ht : t ≠ 3) : v.ownBlock = none ∨ v.ownBlock ≠ some b := by
  rcases h.2 with ⟨rfl, -⟩ | ⟨g, cap, cur, rfl, -, hg, -⟩
  · exact .inl rfl
  · refine .inr fun e => ?_
    have e2 : g = b := Option.some.inj e
    subst e2
    rw [hg] at hb
    simp only [Option.some.injEq, Obj.cells.injEq] at hb
    exact ht hb.2.1.symm
theorem Own3.boxP {w w' : World} {base top : Nat} {v0 v1 v2 : Value} {A B C : List Int} (h : Own3 w base top v0 v1 v2 A B C) {b : Nat} {cs : Array Value} {t : TypeId} (hb : w.heap[b]? = some (.cells cs t)) (ht : t ≠ 3) (hg : w.grownBy w' (some b)) : Own3 w' base top v0 v1 v2 A B C :=
  ⟨⟨World.ownsRow.kept h.1.1 hg (own_ne_boxP h.1.1 hb ht), World.ownsRow.kept h.1.2.1 hg (own_ne_boxP h.1.2.1 hb ht), World.ownsRow.kept h.1.2.2 hg (own_ne_boxP h.1.2.2 hb ht)⟩, h.2⟩
theorem box_kept {w w' : World} {base n : Nat} {v : Value} {xs : List Value} (h : w.ownsRow base 3 1 v n xs) {b : Nat} {cs : Array Value} {t : TypeId} (hb : w.heap[b]? = some (.cells cs t)) (ht : t ≠ 3) (hg : w.grownBy w' v.ownBlock) : w'.heap[b]? = some (.cells cs t) := by
  rw [hg.block b (Array.getElem?_eq_some_iff.1 hb).1 (fun e => ?_)]
  · exact hb
  · rcases own_ne_boxP h hb ht with q | q
    · rw [q] at e; cases e
    · exact q e.symm
theorem Own3.del0 {w w' : World} {base top : Nat} {v0 v0' v1 v2 : Value} {A A' B C : List Int} (h : Own3 w base top v0 v1 v2 A B C) (hg : w.grownBy w' v0.ownBlock) (h' : w'.ownsRow base 3 1 v0' A'.length (ints A')) (e : v0'.ownBlock = v0.ownBlock) : Own3 w' base top v0' v1 v2 A' B C := by
  refine ⟨⟨h', World.ownsRow.kept h.1.2.1 hg (ne_symB h.2.2.1), World.ownsRow.kept h.1.2.2 hg (ne_symB h.2.2.2.1)⟩, ⟨?_, h.2.1.2⟩, ?_, ?_, h.2.2.2.2⟩
  · rw [e]; exact h.2.1.1
  · rw [e]; exact h.2.2.1
  · rw [e]; exact h.2.2.2.1
theorem Own3.del1 {w w' : World} {base top : Nat} {v0 v1 v1' v2 : Value} {A B B' C : List Int} (h : Own3 w base top v0 v1 v2 A B C) (hg : w.grownBy w' v1.ownBlock) (h' : w'.ownsRow base 3 1 v1' B'.length (ints B')) (e : v1'.ownBlock = v1.ownBlock) : Own3 w' base top v0 v1' v2 A B' C := by
  refine ⟨⟨World.ownsRow.kept h.1.1 hg h.2.2.1, h', World.ownsRow.kept h.1.2.2 hg (ne_symB h.2.2.2.2)⟩, ⟨h.2.1.1, ?_, h.2.1.2.2⟩, ?_, h.2.2.2.1, ?_⟩
  · rw [e]; exact h.2.1.2.1
  · rw [e]; exact h.2.2.1
  · rw [e]; exact h.2.2.2.2
theorem Own3.put2 {w w' : World} {base top : Nat} {v0 v1 v2 v2' : Value} {A B C C' : List Int} (h : Own3 w base top v0 v1 v2 A B C) (ht : top ≤ w.heap.size) (hb : base ≤ w.heap.size) (k : Below w.heap.size w w') (h' : w'.ownsRow w.heap.size 3 1 v2' C'.length (ints C')) : Own3 w' base w'.heap.size v0 v1 v2' A B C' := by
  have q := h.keepB k
  have hs := k.size
  exact ⟨⟨q.1.1, q.1.2.1, own_mono h' hb⟩, ⟨fun g e => by have := h.2.1.1 g e; omega, fun g e => by have := h.2.1.2.1 g e; omega, fun g e => (World.ownsRow.lt h' g e).2⟩, h.2.2.1,
    apart_lt (k := w.heap.size) (fun g e => by have := h.2.1.1 g e; omega) (fun g e => (World.ownsRow.lt h' g e).1), apart_lt (k := w.heap.size) (fun g e => by have := h.2.1.2.1 g e; omega) (fun g e => (World.ownsRow.lt h' g e).1)⟩
theorem Own3.below {B : Nat} {w w' : World} {v : Value} {base n : Nat} {xs : List Value} (h : w.ownsRow base 3 1 v n xs) (hB : B ≤ base) (hs : B ≤ w.heap.size) (hg : w.grownBy w' v.ownBlock) : Below B w w' :=
  Below.grown (Below.refl _ _) hg hs (fun g e => Nat.le_trans hB (World.ownsRow.lt h g e).1)
set_option maxRecDepth 100000 in
set_option maxHeartbeats 4000000 in
theorem itake_any (b base : Nat) (M G : Int) (R L : List Int) (s a : Option Addr) (cs ca : Nat) (k : Nat) (w : World) (hR : R.length ≤ 1048576) (hL : L.length ≤ 1048576) (hk : k ≤ R.length) (hkL : k ≤ L.length) (hI : inBx 1 1000 L = true) (hG : 0 ≤ G ∧ G ≤ 1000000)
    (hO : OB w b M G (.slice s R.length cs) (.slice a L.length ca)) (hW : Own3 w base w.heap.size (.slice s R.length cs) (.slice a L.length ca) (.slice none 0 0) R L []) (hbase : base ≤ w.heap.size) :
    Calls Try.prog 51 #[.pointer (some ⟨b, 0, none⟩), .int .i64 k] w fun r w' => ∃ v0 v1 v2, r = .returned (.tuple #[v2, .bool (decide (0 ≤ G + sumL (L.take k) ∧ G + sumL (L.take k) ≤ 1000000))]) ∧ OB w' b M (G + sumL (L.take k)) v0 v1 ∧ Own3 w' base w'.heap.size v0 v1 v2 (R.drop k) (L.drop k) (R.take k) ∧ ∀ B, B ≤ b → B ≤ base → Below B w w' := by
  have sR := Sl.of_own hW.1.1
  obtain ⟨hfR, iFR⟩ := sR.front k hk
  have HFR : Hid (IntsAt w s (R.take k)) := iFR.2.2
  have HK3 : Hid (k = (R.take k).length) := (List.length_take_of_le hk).symm
  have HO : Hid (OB w b M G (.slice s R.length cs) (.slice a L.length ca)) := hO
  have HW : Hid (Own3 w base w.heap.size (.slice s R.length cs) (.slice a L.length ca) (.slice none 0 0) R L []) := hW
  have hlt : (R.take k).length ≤ 1048576 := by simp; omega
  have HLT : Hid _ := hlt
  have HI : Hid _ := hI
  have HGG : Hid _ := hG
  have hbw : b < w.heap.size := (Array.getElem?_eq_some_iff.1 hO).1
  have d1 : w.cell? ⟨b, 1, none⟩ = some (.slice s R.length cs) := cell_ofB hO 1
  clear sR iFR hO hW hlt hI hG
  go_enter Try.func51, Try.ntmps51
  go_wp2_with fail
  refine (cloneI_any (R.take k) s k cs w HK3.out HLT.out HFR.out).mono ?_
  rintro r w1 ⟨vT, rfl, oT, b1⟩
  obtain ⟨-, xa, xc, rfl, -⟩ := ints_of_own oT
  have O1 : Hid (Own3 w1 base w1.heap.size (.slice s R.length cs) (.slice a L.length ca) (.slice xa (R.take k).length xc) R L (R.take k)) := HW.out.put2 (Nat.le_refl _) hbase b1 oT
  have HO1 : Hid (OB w1 b M G (.slice s R.length cs) (.slice a L.length ca)) := (b1.block b hbw).trans HO.out
  have B1 : Hid (∀ B, B ≤ b → B ≤ base → Below B w w1) := fun B _ h2 => b1.mono (Nat.le_trans h2 hbase)
  have hb1 : b < w1.heap.size := Nat.lt_of_lt_of_le hbw b1.size
  have hbs1 : base ≤ w1.heap.size := Nat.le_trans hbase b1.size
  clear oT b1 d1
  go_wp2_with fail
  refine (ibyte_any b M G (.slice s R.length cs) L a ca k w1 hL hkL HI.out HGG.out HO1.out (Sl.of_own O1.out.1.2.1)).mono ?_
  rintro r w' ⟨rfl, hw'⟩
  obtain rfl : w1 = w' := hw'.symm
  clear hw'
  generalize hy : sumL (L.take k) = y
  have HY : Hid (sumL (L.take k) = y) := hy
  clear hy
  have d3 : w1.cell? ⟨b, 3, none⟩ = some (.int .i64 G) := cell_ofB HO1.out 3
  have f3 : w1.frozen? ⟨b, 3, none⟩ = false := frozen_of_row w1 _ _ _ _ HO1.out
  have HO2 : Hid (OB (w1.setCell ⟨b, 3, none⟩ (.int .i64 (G + y))) b M (G + y) (.slice s R.length cs) (.slice a L.length ca)) := blk_sameB HO1.out 3 _
  have O2 : Hid (Own3 (w1.setCell ⟨b, 3, none⟩ (.int .i64 (G + y))) base w1.heap.size (.slice s R.length cs) (.slice a L.length ca) (.slice xa (R.take k).length xc) R L (R.take k)) := O1.out.boxP (t := 66) HO1.out (by decide) (grown_setB w1 b 3 _)
  have B2 : Hid (∀ B, B ≤ b → B ≤ base → Below B w (w1.setCell ⟨b, 3, none⟩ (.int .i64 (G + y)))) := fun B h1 h2 => Below.grown (B1.out B h1 h2) (grown_setB w1 b 3 _) (by omega) (fun g e => by have := Option.some.inj e; omega)
  have d21 : (w1.setCell ⟨b, 3, none⟩ (.int .i64 (G + y))).cell? ⟨b, 1, none⟩ = some (.slice s R.length cs) := cell_ofB HO2.out 1
  have hs2 : (w1.setCell ⟨b, 3, none⟩ (.int .i64 (G + y))).heap.size = w1.heap.size := by simp [World.setCell]
  have HS2 : Hid _ := hs2
  clear B1 hs2
  go_wp2_with fail
  refine (deleteI_any R k _ base _ hR hk O2.out.1.1).mono ?_
  rintro r w3 ⟨v0, rfl, o3, g3, e3⟩
  have hsz3 : w1.heap.size ≤ w3.heap.size := by have := g3.size; have := HS2.out; omega
  obtain ⟨-, sa, sc, rfl, -⟩ := ints_of_own o3
  have HO3 : Hid (OB w3 b M (G + y) (.slice s R.length cs) (.slice a L.length ca)) := box_kept O2.out.1.1 HO2.out (by decide) g3
  have O3 : Hid (Own3 w3 base w1.heap.size (.slice sa (R.drop k).length sc) (.slice a L.length ca) (.slice xa (R.take k).length xc) (R.drop k) L (R.take k)) := O2.out.del0 g3 o3 e3
  have B3 : Hid (∀ B, B ≤ b → B ≤ base → Below B w w3) := fun B h1 h2 => (B2.out B h1 h2).trans (Own3.below O2.out.1.1 h2 (by have := HS2.out; omega) g3)
  clear o3 g3 e3 B2 d21
  have q1 : w3.cell? ⟨b, 1, none⟩ = some (.slice s R.length cs) := cell_ofB HO3.out 1
  have q1f : w3.frozen? ⟨b, 1, none⟩ = false := frozen_of_row w3 _ _ _ _ HO3.out
  have HO4 : Hid (∀ n c, OB (w3.setCell ⟨b, 1, none⟩ (.slice sa n c)) b M (G + y) (.slice sa n c) (.slice a L.length ca)) := fun n c => blk_sameB HO3.out 1 _
  have O4 : Hid (∀ x, Own3 (w3.setCell ⟨b, 1, none⟩ x) base w1.heap.size (.slice sa (R.drop k).length sc) (.slice a L.length ca) (.slice xa (R.take k).length xc) (R.drop k) L (R.take k)) := fun x => O3.out.boxP (t := 66) HO3.out (by decide) (grown_setB w3 b 1 _)
  have B4 : Hid (∀ x B, B ≤ b → B ≤ base → Below B w (w3.setCell ⟨b, 1, none⟩ x)) := fun x B h1 h2 => Below.grown (B3.out B h1 h2) (grown_setB w3 b 1 _) (by omega) (fun g e => by have := Option.some.inj e; omega)
  have d42 : ∀ n c, (w3.setCell ⟨b, 1, none⟩ (.slice sa n c)).cell? ⟨b, 2, none⟩ = some (.slice a L.length ca) := fun n c => cell_ofB (HO4.out n c) 2
  have HS4 : Hid (∀ x, (w3.setCell ⟨b, 1, none⟩ x).heap.size = w3.heap.size) := fun x => by simp [World.setCell]
  clear B3
  go_wp2_with fail
  refine (deleteI_any L k _ base _ hL hkL (O4.out _).1.2.1).mono ?_
  rintro r w5 ⟨v1, rfl, o5, g5, e5⟩
  have hsz5 : w3.heap.size ≤ w5.heap.size := by have := g5.size; have := HS4.out (.slice sa (R.length - k) sc); simp only [List.length_drop] at *; omega
  obtain ⟨-, ya, yc, rfl, -⟩ := ints_of_own o5
  have HO5 : Hid (OB w5 b M (G + y) (.slice sa (R.length - k) sc) (.slice a L.length ca)) := by
    have h := box_kept (O4.out _).1.2.1 (HO4.out _ _) (by decide) g5
    try simp only [List.length_drop] at h
    exact h
  have O5 : Hid (Own3 w5 base w1.heap.size (.slice sa (R.length - k) sc) (.slice ya (L.length - k) yc) (.slice xa (R.take k).length xc) (R.drop k) (L.drop k) (R.take k)) := by
    have h := (O4.out _).del1 g5 o5 e5
    try simp only [List.length_drop] at h
    exact h
  have B5 : Hid (∀ B, B ≤ b → B ≤ base → Below B w w5) := fun B h1 h2 => (B4.out _ B h1 h2).trans (Own3.below (O4.out _).1.2.1 h2 (by rw [HS4.out]; omega) g5)
  clear o5 g5 e5 B4 d42 O4 HO4 HS4 O3 HO3 q1 q1f
  have q2 : w5.cell? ⟨b, 2, none⟩ = some (.slice a L.length ca) := cell_ofB HO5.out 2
  have q2f : w5.frozen? ⟨b, 2, none⟩ = false := frozen_of_row w5 _ _ _ _ HO5.out
  have HO6 : Hid (∀ n c, OB (w5.setCell ⟨b, 2, none⟩ (.slice ya n c)) b M (G + y) (.slice sa (R.length - k) sc) (.slice ya n c)) := fun n c => blk_sameB HO5.out 2 _
  have O6 : Hid (∀ x, Own3 (w5.setCell ⟨b, 2, none⟩ x) base w1.heap.size (.slice sa (R.length - k) sc) (.slice ya (L.length - k) yc) (.slice xa (R.take k).length xc) (R.drop k) (L.drop k) (R.take k)) := fun x => O5.out.boxP (t := 66) HO5.out (by decide) (grown_setB w5 b 2 _)
  have B6 : Hid (∀ x B, B ≤ b → B ≤ base → Below B w (w5.setCell ⟨b, 2, none⟩ x)) := fun x B h1 h2 => Below.grown (B5.out B h1 h2) (grown_setB w5 b 2 _) (by omega) (fun g e => by have := Option.some.inj e; omega)
  have d63 : ∀ n c, (w5.setCell ⟨b, 2, none⟩ (.slice ya n c)).cell? ⟨b, 3, none⟩ = some (.int .i64 (G + y)) := fun n c => cell_ofB (HO6.out n c) 3
  have HS6 : Hid (∀ x, (w5.setCell ⟨b, 2, none⟩ x).heap.size = w5.heap.size) := fun x => by simp [World.setCell]
  have HK4 : Hid ((R.take k).length = k) := HK3.out.symm
  generalize hgo : decide (0 ≤ G + y ∧ G + y ≤ 1000000) = go
  have HGO : Hid (decide (0 ≤ G + y ∧ G + y ≤ 1000000) = go) := hgo
  clear hgo
  go_wp2_with (first | (go_at_call 48; refine (isGone_any (G + y) _).mono ?_; rintro r w' ⟨rfl, rfl⟩; rw [HGO.out]) | fail)
  go_ret2
  refine ⟨.slice sa (R.length - k) sc, .slice ya (L.length - k) yc, .slice xa (R.take k).length xc, ?_, by rw [HY.out]; exact HO6.out _ _, ?_, B6.out _⟩
  · rw [HY.out, HGO.out]; first | rfl | (rw [HK4.out]; rfl)
  · have h := O6.out (.slice ya (L.length - k) yc)
    exact ⟨h.1, ⟨fun g e => by have := h.2.1.1 g e; rw [HS6.out]; omega, fun g e => by have := h.2.1.2.1 g e; rw [HS6.out]; omega, fun g e => by have := h.2.1.2.2 g e; rw [HS6.out]; omega⟩, h.2.2⟩
end Go.Proofs.Ytklgagonbehpeaa

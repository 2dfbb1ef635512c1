/-
  The laws' copy of a session.
-/
import Derived.Test.YtklgagonbehpeaaDoorX3A
namespace Go.Proofs.YtklgagonbehpeaaDoor
open Go.ChangeShapes Go.WideShapes Go.ChangeAt Go.RowKit
theorem set_belowD {B : Nat} {w0 w : World} (h : Below B w0 w) (hs : B ≤ w0.heap.size) {b : Nat} (hb : B ≤ b) (o : Nat) (x : Value) : Below B w0 (w.setCell ⟨b, o, none⟩ x) :=
  Below.grown h (grown_setB w b o x) (Nat.le_trans hs h.size) (fun g e => by have := Option.some.inj e; omega)
theorem set_sizeD (w : World) (b o : Nat) (x : Value) : (w.setCell ⟨b, o, none⟩ x).heap.size = w.heap.size := by simp [World.setCell]
set_option maxRecDepth 100000 in
set_option maxHeartbeats 4000000 in
theorem toSes_any (en sh lo : Int) (held : ByteArray) (M G : Int) (R L : List Int) (E : Bool) (s a : Option Addr) (cs ca : Nat) (w : World) (hR : R.length ≤ 1048576) (hL : L.length ≤ 1048576) (iR : IntsAt w s R) (iL : IntsAt w a L) :
    Calls Tryd.prog 6 #[.agg #[.int .i64 en, .int .i64 sh, .int .i64 lo, .string held, .int .i64 M, .slice s R.length cs, .slice a L.length ca, .int .i64 G, .bool E]] w fun r w' => ∃ z0 z1 y0 y1, r = .returned (.agg #[.int .i64 en, .int .i64 sh, .int .i64 lo, .string held, .int .i64 M, .slice z0 R.length y0, .slice z1 L.length y1, .int .i64 G, .bool E]) ∧ IntsAt w' z0 R ∧ IntsAt w' z1 L ∧ Below w.heap.size w w' := by
  have H0 : Hid (IntsAt w s R) := iR
  have H1 : Hid (IntsAt w a L) := iL
  have HBB : Hid (w.heap.size ≤ w.heap.size) := Nat.le_refl _
  have HTD : Hid (∀ w', Calls Tryd.prog 13 #[decV en sh lo held] w' fun e w'' => e = .returned (decV en sh lo held) ∧ Below w'.heap.size w' w'') := fun w' => toDec_any en sh lo held w'
  clear iR iL
  have A3 : ∀ o p q, Below w.heap.size w (((w.alloc o).alloc p).alloc q) := fun o p q => (((Below.refl _ _).alloc (Nat.le_refl _) o).alloc (by simp) p).alloc (by simp; omega) q
  go_enter Tryd.func6, Tryd.ntmps6
  go_wp2_with fail
  refine Calls.mono (HTD.out _) ?_
  rintro r w2 ⟨rfl, b2⟩
  have hs2 : w.heap.size + 1 + 1 < w2.heap.size := Nat.lt_of_lt_of_le (by simp) b2.size
  have hb0 : w2.heap[w.heap.size]? = some (.cells #[.int .i64 en, .int .i64 sh, .int .i64 lo, .string held, .int .i64 M, .slice s R.length cs, .slice a L.length ca, .int .i64 G, .bool E] 28) := (b2.block w.heap.size (by simp; omega)).trans ((heap_prevB _ _ _ (by simp; omega)).trans ((heap_prevB _ _ _ (by simp)).trans (heap_lastB _ _ _ rfl)))
  have hb1 : w2.heap[w.heap.size + 1]? = some (.cells #[.int .i64 0, .int .i64 0, .int .i64 0, .string ⟨#[]⟩, .int .i64 0, .slice none 0 0, .slice none 0 0, .int .i64 0, .bool false] 34) := (b2.block (w.heap.size + 1) (by simp)).trans ((heap_prevB _ _ _ (by simp)).trans (heap_lastB _ _ _ (by simp)))
  have hb2 : w2.heap[w.heap.size + 1 + 1]? = some (.cells #[.int .i64 0, .int .i64 0, .int .i64 0, .string ⟨#[]⟩, .int .i64 0, .slice none 0 0, .slice none 0 0, .int .i64 0, .bool false] 34) := (b2.block (w.heap.size + 1 + 1) (by simp)).trans (heap_lastB _ _ _ (by simp))
  have L2 : Hid (Below w.heap.size w w2) := (A3 _ _ _).trans (b2.mono (A3 _ _ _).size)
  have c4 : w2.cell? ⟨w.heap.size, 4, none⟩ = some (.int .i64 M) := cell_ofB hb0 4
  have c5 : w2.cell? ⟨w.heap.size, 5, none⟩ = some (.slice s R.length cs) := cell_ofB hb0 5
  have c6 : w2.cell? ⟨w.heap.size, 6, none⟩ = some (.slice a L.length ca) := cell_ofB hb0 6
  have c7 : w2.cell? ⟨w.heap.size, 7, none⟩ = some (.int .i64 G) := cell_ofB hb0 7
  have d0 : w2.cell? ⟨w.heap.size + 1 + 1, 0, none⟩ = some (.int .i64 0) := cell_ofB hb2 0
  have d1 : w2.cell? ⟨w.heap.size + 1 + 1, 1, none⟩ = some (.int .i64 0) := cell_ofB hb2 1
  have d2 : w2.cell? ⟨w.heap.size + 1 + 1, 2, none⟩ = some (.int .i64 0) := cell_ofB hb2 2
  have d3 : w2.cell? ⟨w.heap.size + 1 + 1, 3, none⟩ = some (.string ⟨#[]⟩) := cell_ofB hb2 3
  have df0 : w2.frozen? ⟨w.heap.size + 1 + 1, 0, none⟩ = false := frozen_of_row w2 _ _ _ _ hb2
  have df1 : w2.frozen? ⟨w.heap.size + 1 + 1, 1, none⟩ = false := frozen_of_row w2 _ _ _ _ hb2
  have df2 : w2.frozen? ⟨w.heap.size + 1 + 1, 2, none⟩ = false := frozen_of_row w2 _ _ _ _ hb2
  have df3 : w2.frozen? ⟨w.heap.size + 1 + 1, 3, none⟩ = false := frozen_of_row w2 _ _ _ _ hb2
  have p0 : (w2.setCell ⟨w.heap.size + 1 + 1, 0, none⟩ (.int .i64 en)).heap[w.heap.size + 1 + 1]? = some (.cells #[.int .i64 en, .int .i64 0, .int .i64 0, .string ⟨#[]⟩, .int .i64 0, .slice none 0 0, .slice none 0 0, .int .i64 0, .bool false] 34) := blk_sameB hb2 0 _
  have p1 : ((w2.setCell ⟨w.heap.size + 1 + 1, 0, none⟩ (.int .i64 en)).setCell ⟨w.heap.size + 1 + 1, 1, none⟩ (.int .i64 sh)).heap[w.heap.size + 1 + 1]? = some (.cells #[.int .i64 en, .int .i64 sh, .int .i64 0, .string ⟨#[]⟩, .int .i64 0, .slice none 0 0, .slice none 0 0, .int .i64 0, .bool false] 34) := blk_sameB p0 1 _
  have p2 : (((w2.setCell ⟨w.heap.size + 1 + 1, 0, none⟩ (.int .i64 en)).setCell ⟨w.heap.size + 1 + 1, 1, none⟩ (.int .i64 sh)).setCell ⟨w.heap.size + 1 + 1, 2, none⟩ (.int .i64 lo)).heap[w.heap.size + 1 + 1]? = some (.cells #[.int .i64 en, .int .i64 sh, .int .i64 lo, .string ⟨#[]⟩, .int .i64 0, .slice none 0 0, .slice none 0 0, .int .i64 0, .bool false] 34) := blk_sameB p1 2 _
  have p3 : ((((w2.setCell ⟨w.heap.size + 1 + 1, 0, none⟩ (.int .i64 en)).setCell ⟨w.heap.size + 1 + 1, 1, none⟩ (.int .i64 sh)).setCell ⟨w.heap.size + 1 + 1, 2, none⟩ (.int .i64 lo)).setCell ⟨w.heap.size + 1 + 1, 3, none⟩ (.string held)).heap[w.heap.size + 1 + 1]? = some (.cells #[.int .i64 en, .int .i64 sh, .int .i64 lo, .string held, .int .i64 0, .slice none 0 0, .slice none 0 0, .int .i64 0, .bool false] 34) := blk_sameB p2 3 _
  have hBB := HBB.out
  have K2 : Hid (((((w2.setCell ⟨w.heap.size + 1 + 1, 0, none⟩ (.int .i64 en)).setCell ⟨w.heap.size + 1 + 1, 1, none⟩ (.int .i64 sh)).setCell ⟨w.heap.size + 1 + 1, 2, none⟩ (.int .i64 lo)).setCell ⟨w.heap.size + 1 + 1, 3, none⟩ (.string held)).heap[w.heap.size + 1 + 1]? = some (.cells #[.int .i64 en, .int .i64 sh, .int .i64 lo, .string held, .int .i64 0, .slice none 0 0, .slice none 0 0, .int .i64 0, .bool false] 34)) := p3
  have K1 : Hid (((((w2.setCell ⟨w.heap.size + 1 + 1, 0, none⟩ (.int .i64 en)).setCell ⟨w.heap.size + 1 + 1, 1, none⟩ (.int .i64 sh)).setCell ⟨w.heap.size + 1 + 1, 2, none⟩ (.int .i64 lo)).setCell ⟨w.heap.size + 1 + 1, 3, none⟩ (.string held)).heap[w.heap.size + 1]? = some (.cells #[.int .i64 0, .int .i64 0, .int .i64 0, .string ⟨#[]⟩, .int .i64 0, .slice none 0 0, .slice none 0 0, .int .i64 0, .bool false] 34)) := ((blk_othB _ _ _ _ _ (by omega)).trans ((blk_othB _ _ _ _ _ (by omega)).trans ((blk_othB _ _ _ _ _ (by omega)).trans ((blk_othB _ _ _ _ _ (by omega)).trans hb1))))
  have K0 : Hid (((((w2.setCell ⟨w.heap.size + 1 + 1, 0, none⟩ (.int .i64 en)).setCell ⟨w.heap.size + 1 + 1, 1, none⟩ (.int .i64 sh)).setCell ⟨w.heap.size + 1 + 1, 2, none⟩ (.int .i64 lo)).setCell ⟨w.heap.size + 1 + 1, 3, none⟩ (.string held)).heap[w.heap.size]? = some (.cells #[.int .i64 en, .int .i64 sh, .int .i64 lo, .string held, .int .i64 M, .slice s R.length cs, .slice a L.length ca, .int .i64 G, .bool E] 28)) := ((blk_othB _ _ _ _ _ (by omega)).trans ((blk_othB _ _ _ _ _ (by omega)).trans ((blk_othB _ _ _ _ _ (by omega)).trans ((blk_othB _ _ _ _ _ (by omega)).trans hb0))))
  have KB : Hid (Below w.heap.size w ((((w2.setCell ⟨w.heap.size + 1 + 1, 0, none⟩ (.int .i64 en)).setCell ⟨w.heap.size + 1 + 1, 1, none⟩ (.int .i64 sh)).setCell ⟨w.heap.size + 1 + 1, 2, none⟩ (.int .i64 lo)).setCell ⟨w.heap.size + 1 + 1, 3, none⟩ (.string held))) := (set_belowD (set_belowD (set_belowD (set_belowD L2.out hBB (by omega) _ _) hBB (by omega) _ _) hBB (by omega) _ _) hBB (by omega) _ _)
  have ks : ((((w2.setCell ⟨w.heap.size + 1 + 1, 0, none⟩ (.int .i64 en)).setCell ⟨w.heap.size + 1 + 1, 1, none⟩ (.int .i64 sh)).setCell ⟨w.heap.size + 1 + 1, 2, none⟩ (.int .i64 lo)).setCell ⟨w.heap.size + 1 + 1, 3, none⟩ (.string held)).heap.size = w2.heap.size := by simp only [set_sizeD]
  have KS : Hid (((((w2.setCell ⟨w.heap.size + 1 + 1, 0, none⟩ (.int .i64 en)).setCell ⟨w.heap.size + 1 + 1, 1, none⟩ (.int .i64 sh)).setCell ⟨w.heap.size + 1 + 1, 2, none⟩ (.int .i64 lo)).setCell ⟨w.heap.size + 1 + 1, 3, none⟩ (.string held)).heap.size = w2.heap.size) := ks
  clear ks
  clear b2 hb0 hb1 hb2 A3 p0 p1 p2 p3 hBB HTD
  go_wp2_with fail
  refine (toBuf_any M G R L s a cs ca _ hR hL (IntsAt.keepB H0.out KB.out) (IntsAt.keepB H1.out KB.out)).mono ?_
  rintro r w3 ⟨z0, z1, y0, y1, rfl, o3, b3⟩
  have hs3 : w.heap.size + 1 + 1 < w3.heap.size := by have h := b3.size; rw [KS.out] at h; omega
  have O3 : Hid (Own3 w3 (w.heap.size + 1 + 1 + 1) w3.heap.size (.slice z0 R.length y0) (.slice z1 L.length y1) (.slice none 0 0) R L []) := o3.mono (by rw [KS.out]; omega)
  have hq2 : w3.heap[w.heap.size + 1 + 1]? = some (.cells #[.int .i64 en, .int .i64 sh, .int .i64 lo, .string held, .int .i64 0, .slice none 0 0, .slice none 0 0, .int .i64 0, .bool false] 34) := (b3.block _ (by rw [KS.out]; omega)).trans K2.out
  have hq1 : w3.heap[w.heap.size + 1]? = some (.cells #[.int .i64 0, .int .i64 0, .int .i64 0, .string ⟨#[]⟩, .int .i64 0, .slice none 0 0, .slice none 0 0, .int .i64 0, .bool false] 34) := (b3.block _ (by rw [KS.out]; omega)).trans K1.out
  have hq0 : w3.heap[w.heap.size]? = some (.cells #[.int .i64 en, .int .i64 sh, .int .i64 lo, .string held, .int .i64 M, .slice s R.length cs, .slice a L.length ca, .int .i64 G, .bool E] 28) := (b3.block _ (by rw [KS.out]; omega)).trans K0.out
  have L3 : Hid (Below w.heap.size w w3) := KB.out.trans (b3.mono KB.out.size)
  clear b3 o3 c4 c5 c6 c7 d0 d1 d2 d3 df0 df1 df2 df3 K0 K1 K2 KB
  have c8 : w3.cell? ⟨w.heap.size, 8, none⟩ = some (.bool E) := cell_ofB hq0 8
  have d0 : w3.cell? ⟨w.heap.size + 1 + 1, 0, none⟩ = some (.int .i64 en) := cell_ofB hq2 0
  have d1 : w3.cell? ⟨w.heap.size + 1 + 1, 1, none⟩ = some (.int .i64 sh) := cell_ofB hq2 1
  have d2 : w3.cell? ⟨w.heap.size + 1 + 1, 2, none⟩ = some (.int .i64 lo) := cell_ofB hq2 2
  have d3 : w3.cell? ⟨w.heap.size + 1 + 1, 3, none⟩ = some (.string held) := cell_ofB hq2 3
  have d4 : w3.cell? ⟨w.heap.size + 1 + 1, 4, none⟩ = some (.int .i64 0) := cell_ofB hq2 4
  have d5 : w3.cell? ⟨w.heap.size + 1 + 1, 5, none⟩ = some (.slice none 0 0) := cell_ofB hq2 5
  have d6 : w3.cell? ⟨w.heap.size + 1 + 1, 6, none⟩ = some (.slice none 0 0) := cell_ofB hq2 6
  have d7 : w3.cell? ⟨w.heap.size + 1 + 1, 7, none⟩ = some (.int .i64 0) := cell_ofB hq2 7
  have d8 : w3.cell? ⟨w.heap.size + 1 + 1, 8, none⟩ = some (.bool false) := cell_ofB hq2 8
  have e0 : w3.cell? ⟨w.heap.size + 1, 0, none⟩ = some (.int .i64 0) := cell_ofB hq1 0
  have e1 : w3.cell? ⟨w.heap.size + 1, 1, none⟩ = some (.int .i64 0) := cell_ofB hq1 1
  have e2 : w3.cell? ⟨w.heap.size + 1, 2, none⟩ = some (.int .i64 0) := cell_ofB hq1 2
  have e3 : w3.cell? ⟨w.heap.size + 1, 3, none⟩ = some (.string ⟨#[]⟩) := cell_ofB hq1 3
  have e4 : w3.cell? ⟨w.heap.size + 1, 4, none⟩ = some (.int .i64 0) := cell_ofB hq1 4
  have e5 : w3.cell? ⟨w.heap.size + 1, 5, none⟩ = some (.slice none 0 0) := cell_ofB hq1 5
  have e6 : w3.cell? ⟨w.heap.size + 1, 6, none⟩ = some (.slice none 0 0) := cell_ofB hq1 6
  have e7 : w3.cell? ⟨w.heap.size + 1, 7, none⟩ = some (.int .i64 0) := cell_ofB hq1 7
  have e8 : w3.cell? ⟨w.heap.size + 1, 8, none⟩ = some (.bool false) := cell_ofB hq1 8
  have df4 : w3.frozen? ⟨w.heap.size + 1 + 1, 4, none⟩ = false := frozen_of_row w3 _ _ _ _ hq2
  have df5 : w3.frozen? ⟨w.heap.size + 1 + 1, 5, none⟩ = false := frozen_of_row w3 _ _ _ _ hq2
  have df6 : w3.frozen? ⟨w.heap.size + 1 + 1, 6, none⟩ = false := frozen_of_row w3 _ _ _ _ hq2
  have df7 : w3.frozen? ⟨w.heap.size + 1 + 1, 7, none⟩ = false := frozen_of_row w3 _ _ _ _ hq2
  have df8 : w3.frozen? ⟨w.heap.size + 1 + 1, 8, none⟩ = false := frozen_of_row w3 _ _ _ _ hq2
  have ef0 : w3.frozen? ⟨w.heap.size + 1, 0, none⟩ = false := frozen_of_row w3 _ _ _ _ hq1
  have ef1 : w3.frozen? ⟨w.heap.size + 1, 1, none⟩ = false := frozen_of_row w3 _ _ _ _ hq1
  have ef2 : w3.frozen? ⟨w.heap.size + 1, 2, none⟩ = false := frozen_of_row w3 _ _ _ _ hq1
  have ef3 : w3.frozen? ⟨w.heap.size + 1, 3, none⟩ = false := frozen_of_row w3 _ _ _ _ hq1
  have ef4 : w3.frozen? ⟨w.heap.size + 1, 4, none⟩ = false := frozen_of_row w3 _ _ _ _ hq1
  have ef5 : w3.frozen? ⟨w.heap.size + 1, 5, none⟩ = false := frozen_of_row w3 _ _ _ _ hq1
  have ef6 : w3.frozen? ⟨w.heap.size + 1, 6, none⟩ = false := frozen_of_row w3 _ _ _ _ hq1
  have ef7 : w3.frozen? ⟨w.heap.size + 1, 7, none⟩ = false := frozen_of_row w3 _ _ _ _ hq1
  have ef8 : w3.frozen? ⟨w.heap.size + 1, 8, none⟩ = false := frozen_of_row w3 _ _ _ _ hq1
  have HQ2 : Hid _ := hq2
  have HQ1 : Hid _ := hq1
  clear hq0 hq1 hq2 KS
  go_wp2
  have hq2 := HQ2.out
  have hBB := HBB.out
  have HR5 : (((((w3.setCell ⟨w.heap.size + 1 + 1, 4, none⟩ (.int .i64 M)).setCell ⟨w.heap.size + 1 + 1, 5, none⟩ (.slice z0 R.length y0)).setCell ⟨w.heap.size + 1 + 1, 6, none⟩ (.slice z1 L.length y1)).setCell ⟨w.heap.size + 1 + 1, 7, none⟩ (.int .i64 G)).setCell ⟨w.heap.size + 1 + 1, 8, none⟩ (.bool E)).heap[w.heap.size + 1]? = some (.cells #[.int .i64 0, .int .i64 0, .int .i64 0, .string ⟨#[]⟩, .int .i64 0, .slice none 0 0, .slice none 0 0, .int .i64 0, .bool false] 34) := ((blk_othB _ _ _ _ _ (by omega)).trans ((blk_othB _ _ _ _ _ (by omega)).trans ((blk_othB _ _ _ _ _ (by omega)).trans ((blk_othB _ _ _ _ _ (by omega)).trans ((blk_othB _ _ _ _ _ (by omega)).trans HQ1.out)))))
  have r0 : ((((((w3.setCell ⟨w.heap.size + 1 + 1, 4, none⟩ (.int .i64 M)).setCell ⟨w.heap.size + 1 + 1, 5, none⟩ (.slice z0 R.length y0)).setCell ⟨w.heap.size + 1 + 1, 6, none⟩ (.slice z1 L.length y1)).setCell ⟨w.heap.size + 1 + 1, 7, none⟩ (.int .i64 G)).setCell ⟨w.heap.size + 1 + 1, 8, none⟩ (.bool E)).setCell ⟨w.heap.size + 1, 0, none⟩ (.int .i64 en)).heap[w.heap.size + 1]? = some (.cells #[.int .i64 en, .int .i64 0, .int .i64 0, .string ⟨#[]⟩, .int .i64 0, .slice none 0 0, .slice none 0 0, .int .i64 0, .bool false] 34) := blk_sameB HR5 0 _
  have r1 : (((((((w3.setCell ⟨w.heap.size + 1 + 1, 4, none⟩ (.int .i64 M)).setCell ⟨w.heap.size + 1 + 1, 5, none⟩ (.slice z0 R.length y0)).setCell ⟨w.heap.size + 1 + 1, 6, none⟩ (.slice z1 L.length y1)).setCell ⟨w.heap.size + 1 + 1, 7, none⟩ (.int .i64 G)).setCell ⟨w.heap.size + 1 + 1, 8, none⟩ (.bool E)).setCell ⟨w.heap.size + 1, 0, none⟩ (.int .i64 en)).setCell ⟨w.heap.size + 1, 1, none⟩ (.int .i64 sh)).heap[w.heap.size + 1]? = some (.cells #[.int .i64 en, .int .i64 sh, .int .i64 0, .string ⟨#[]⟩, .int .i64 0, .slice none 0 0, .slice none 0 0, .int .i64 0, .bool false] 34) := blk_sameB r0 1 _
  have r2 : ((((((((w3.setCell ⟨w.heap.size + 1 + 1, 4, none⟩ (.int .i64 M)).setCell ⟨w.heap.size + 1 + 1, 5, none⟩ (.slice z0 R.length y0)).setCell ⟨w.heap.size + 1 + 1, 6, none⟩ (.slice z1 L.length y1)).setCell ⟨w.heap.size + 1 + 1, 7, none⟩ (.int .i64 G)).setCell ⟨w.heap.size + 1 + 1, 8, none⟩ (.bool E)).setCell ⟨w.heap.size + 1, 0, none⟩ (.int .i64 en)).setCell ⟨w.heap.size + 1, 1, none⟩ (.int .i64 sh)).setCell ⟨w.heap.size + 1, 2, none⟩ (.int .i64 lo)).heap[w.heap.size + 1]? = some (.cells #[.int .i64 en, .int .i64 sh, .int .i64 lo, .string ⟨#[]⟩, .int .i64 0, .slice none 0 0, .slice none 0 0, .int .i64 0, .bool false] 34) := blk_sameB r1 2 _
  have r3 : (((((((((w3.setCell ⟨w.heap.size + 1 + 1, 4, none⟩ (.int .i64 M)).setCell ⟨w.heap.size + 1 + 1, 5, none⟩ (.slice z0 R.length y0)).setCell ⟨w.heap.size + 1 + 1, 6, none⟩ (.slice z1 L.length y1)).setCell ⟨w.heap.size + 1 + 1, 7, none⟩ (.int .i64 G)).setCell ⟨w.heap.size + 1 + 1, 8, none⟩ (.bool E)).setCell ⟨w.heap.size + 1, 0, none⟩ (.int .i64 en)).setCell ⟨w.heap.size + 1, 1, none⟩ (.int .i64 sh)).setCell ⟨w.heap.size + 1, 2, none⟩ (.int .i64 lo)).setCell ⟨w.heap.size + 1, 3, none⟩ (.string held)).heap[w.heap.size + 1]? = some (.cells #[.int .i64 en, .int .i64 sh, .int .i64 lo, .string held, .int .i64 0, .slice none 0 0, .slice none 0 0, .int .i64 0, .bool false] 34) := blk_sameB r2 3 _
  have r4 : ((((((((((w3.setCell ⟨w.heap.size + 1 + 1, 4, none⟩ (.int .i64 M)).setCell ⟨w.heap.size + 1 + 1, 5, none⟩ (.slice z0 R.length y0)).setCell ⟨w.heap.size + 1 + 1, 6, none⟩ (.slice z1 L.length y1)).setCell ⟨w.heap.size + 1 + 1, 7, none⟩ (.int .i64 G)).setCell ⟨w.heap.size + 1 + 1, 8, none⟩ (.bool E)).setCell ⟨w.heap.size + 1, 0, none⟩ (.int .i64 en)).setCell ⟨w.heap.size + 1, 1, none⟩ (.int .i64 sh)).setCell ⟨w.heap.size + 1, 2, none⟩ (.int .i64 lo)).setCell ⟨w.heap.size + 1, 3, none⟩ (.string held)).setCell ⟨w.heap.size + 1, 4, none⟩ (.int .i64 M)).heap[w.heap.size + 1]? = some (.cells #[.int .i64 en, .int .i64 sh, .int .i64 lo, .string held, .int .i64 M, .slice none 0 0, .slice none 0 0, .int .i64 0, .bool false] 34) := blk_sameB r3 4 _
  have r5 : (((((((((((w3.setCell ⟨w.heap.size + 1 + 1, 4, none⟩ (.int .i64 M)).setCell ⟨w.heap.size + 1 + 1, 5, none⟩ (.slice z0 R.length y0)).setCell ⟨w.heap.size + 1 + 1, 6, none⟩ (.slice z1 L.length y1)).setCell ⟨w.heap.size + 1 + 1, 7, none⟩ (.int .i64 G)).setCell ⟨w.heap.size + 1 + 1, 8, none⟩ (.bool E)).setCell ⟨w.heap.size + 1, 0, none⟩ (.int .i64 en)).setCell ⟨w.heap.size + 1, 1, none⟩ (.int .i64 sh)).setCell ⟨w.heap.size + 1, 2, none⟩ (.int .i64 lo)).setCell ⟨w.heap.size + 1, 3, none⟩ (.string held)).setCell ⟨w.heap.size + 1, 4, none⟩ (.int .i64 M)).setCell ⟨w.heap.size + 1, 5, none⟩ (.slice z0 R.length y0)).heap[w.heap.size + 1]? = some (.cells #[.int .i64 en, .int .i64 sh, .int .i64 lo, .string held, .int .i64 M, .slice z0 R.length y0, .slice none 0 0, .int .i64 0, .bool false] 34) := blk_sameB r4 5 _
  have r6 : ((((((((((((w3.setCell ⟨w.heap.size + 1 + 1, 4, none⟩ (.int .i64 M)).setCell ⟨w.heap.size + 1 + 1, 5, none⟩ (.slice z0 R.length y0)).setCell ⟨w.heap.size + 1 + 1, 6, none⟩ (.slice z1 L.length y1)).setCell ⟨w.heap.size + 1 + 1, 7, none⟩ (.int .i64 G)).setCell ⟨w.heap.size + 1 + 1, 8, none⟩ (.bool E)).setCell ⟨w.heap.size + 1, 0, none⟩ (.int .i64 en)).setCell ⟨w.heap.size + 1, 1, none⟩ (.int .i64 sh)).setCell ⟨w.heap.size + 1, 2, none⟩ (.int .i64 lo)).setCell ⟨w.heap.size + 1, 3, none⟩ (.string held)).setCell ⟨w.heap.size + 1, 4, none⟩ (.int .i64 M)).setCell ⟨w.heap.size + 1, 5, none⟩ (.slice z0 R.length y0)).setCell ⟨w.heap.size + 1, 6, none⟩ (.slice z1 L.length y1)).heap[w.heap.size + 1]? = some (.cells #[.int .i64 en, .int .i64 sh, .int .i64 lo, .string held, .int .i64 M, .slice z0 R.length y0, .slice z1 L.length y1, .int .i64 0, .bool false] 34) := blk_sameB r5 6 _
  have r7 : (((((((((((((w3.setCell ⟨w.heap.size + 1 + 1, 4, none⟩ (.int .i64 M)).setCell ⟨w.heap.size + 1 + 1, 5, none⟩ (.slice z0 R.length y0)).setCell ⟨w.heap.size + 1 + 1, 6, none⟩ (.slice z1 L.length y1)).setCell ⟨w.heap.size + 1 + 1, 7, none⟩ (.int .i64 G)).setCell ⟨w.heap.size + 1 + 1, 8, none⟩ (.bool E)).setCell ⟨w.heap.size + 1, 0, none⟩ (.int .i64 en)).setCell ⟨w.heap.size + 1, 1, none⟩ (.int .i64 sh)).setCell ⟨w.heap.size + 1, 2, none⟩ (.int .i64 lo)).setCell ⟨w.heap.size + 1, 3, none⟩ (.string held)).setCell ⟨w.heap.size + 1, 4, none⟩ (.int .i64 M)).setCell ⟨w.heap.size + 1, 5, none⟩ (.slice z0 R.length y0)).setCell ⟨w.heap.size + 1, 6, none⟩ (.slice z1 L.length y1)).setCell ⟨w.heap.size + 1, 7, none⟩ (.int .i64 G)).heap[w.heap.size + 1]? = some (.cells #[.int .i64 en, .int .i64 sh, .int .i64 lo, .string held, .int .i64 M, .slice z0 R.length y0, .slice z1 L.length y1, .int .i64 G, .bool false] 34) := blk_sameB r6 7 _
  have r8 : ((((((((((((((w3.setCell ⟨w.heap.size + 1 + 1, 4, none⟩ (.int .i64 M)).setCell ⟨w.heap.size + 1 + 1, 5, none⟩ (.slice z0 R.length y0)).setCell ⟨w.heap.size + 1 + 1, 6, none⟩ (.slice z1 L.length y1)).setCell ⟨w.heap.size + 1 + 1, 7, none⟩ (.int .i64 G)).setCell ⟨w.heap.size + 1 + 1, 8, none⟩ (.bool E)).setCell ⟨w.heap.size + 1, 0, none⟩ (.int .i64 en)).setCell ⟨w.heap.size + 1, 1, none⟩ (.int .i64 sh)).setCell ⟨w.heap.size + 1, 2, none⟩ (.int .i64 lo)).setCell ⟨w.heap.size + 1, 3, none⟩ (.string held)).setCell ⟨w.heap.size + 1, 4, none⟩ (.int .i64 M)).setCell ⟨w.heap.size + 1, 5, none⟩ (.slice z0 R.length y0)).setCell ⟨w.heap.size + 1, 6, none⟩ (.slice z1 L.length y1)).setCell ⟨w.heap.size + 1, 7, none⟩ (.int .i64 G)).setCell ⟨w.heap.size + 1, 8, none⟩ (.bool E)).heap[w.heap.size + 1]? = some (.cells #[.int .i64 en, .int .i64 sh, .int .i64 lo, .string held, .int .i64 M, .slice z0 R.length y0, .slice z1 L.length y1, .int .i64 G, .bool E] 34) := blk_sameB r7 8 _
  have own9 : Own3 ((((((((((((((w3.setCell ⟨w.heap.size + 1 + 1, 4, none⟩ (.int .i64 M)).setCell ⟨w.heap.size + 1 + 1, 5, none⟩ (.slice z0 R.length y0)).setCell ⟨w.heap.size + 1 + 1, 6, none⟩ (.slice z1 L.length y1)).setCell ⟨w.heap.size + 1 + 1, 7, none⟩ (.int .i64 G)).setCell ⟨w.heap.size + 1 + 1, 8, none⟩ (.bool E)).setCell ⟨w.heap.size + 1, 0, none⟩ (.int .i64 en)).setCell ⟨w.heap.size + 1, 1, none⟩ (.int .i64 sh)).setCell ⟨w.heap.size + 1, 2, none⟩ (.int .i64 lo)).setCell ⟨w.heap.size + 1, 3, none⟩ (.string held)).setCell ⟨w.heap.size + 1, 4, none⟩ (.int .i64 M)).setCell ⟨w.heap.size + 1, 5, none⟩ (.slice z0 R.length y0)).setCell ⟨w.heap.size + 1, 6, none⟩ (.slice z1 L.length y1)).setCell ⟨w.heap.size + 1, 7, none⟩ (.int .i64 G)).setCell ⟨w.heap.size + 1, 8, none⟩ (.bool E)) (w.heap.size + 1 + 1 + 1) w3.heap.size (.slice z0 R.length y0) (.slice z1 L.length y1) (.slice none 0 0) R L [] := (Own3.setB (Own3.setB (Own3.setB (Own3.setB (Own3.setB (Own3.setB (Own3.setB (Own3.setB (Own3.setB (Own3.setB (Own3.setB (Own3.setB (Own3.setB (Own3.setB O3.out (by omega) _ _) (by omega) _ _) (by omega) _ _) (by omega) _ _) (by omega) _ _) (by omega) _ _) (by omega) _ _) (by omega) _ _) (by omega) _ _) (by omega) _ _) (by omega) _ _) (by omega) _ _) (by omega) _ _) (by omega) _ _)
  have bel9 : Below w.heap.size w ((((((((((((((w3.setCell ⟨w.heap.size + 1 + 1, 4, none⟩ (.int .i64 M)).setCell ⟨w.heap.size + 1 + 1, 5, none⟩ (.slice z0 R.length y0)).setCell ⟨w.heap.size + 1 + 1, 6, none⟩ (.slice z1 L.length y1)).setCell ⟨w.heap.size + 1 + 1, 7, none⟩ (.int .i64 G)).setCell ⟨w.heap.size + 1 + 1, 8, none⟩ (.bool E)).setCell ⟨w.heap.size + 1, 0, none⟩ (.int .i64 en)).setCell ⟨w.heap.size + 1, 1, none⟩ (.int .i64 sh)).setCell ⟨w.heap.size + 1, 2, none⟩ (.int .i64 lo)).setCell ⟨w.heap.size + 1, 3, none⟩ (.string held)).setCell ⟨w.heap.size + 1, 4, none⟩ (.int .i64 M)).setCell ⟨w.heap.size + 1, 5, none⟩ (.slice z0 R.length y0)).setCell ⟨w.heap.size + 1, 6, none⟩ (.slice z1 L.length y1)).setCell ⟨w.heap.size + 1, 7, none⟩ (.int .i64 G)).setCell ⟨w.heap.size + 1, 8, none⟩ (.bool E)) := (set_belowD (set_belowD (set_belowD (set_belowD (set_belowD (set_belowD (set_belowD (set_belowD (set_belowD (set_belowD (set_belowD (set_belowD (set_belowD (set_belowD L3.out hBB (by omega) _ _) hBB (by omega) _ _) hBB (by omega) _ _) hBB (by omega) _ _) hBB (by omega) _ _) hBB (by omega) _ _) hBB (by omega) _ _) hBB (by omega) _ _) hBB (by omega) _ _) hBB (by omega) _ _) hBB (by omega) _ _) hBB (by omega) _ _) hBB (by omega) _ _) hBB (by omega) _ _)
  obtain ⟨w9, hw9⟩ : ∃ w9, w9 = ((((((((((((((w3.setCell ⟨w.heap.size + 1 + 1, 4, none⟩ (.int .i64 M)).setCell ⟨w.heap.size + 1 + 1, 5, none⟩ (.slice z0 R.length y0)).setCell ⟨w.heap.size + 1 + 1, 6, none⟩ (.slice z1 L.length y1)).setCell ⟨w.heap.size + 1 + 1, 7, none⟩ (.int .i64 G)).setCell ⟨w.heap.size + 1 + 1, 8, none⟩ (.bool E)).setCell ⟨w.heap.size + 1, 0, none⟩ (.int .i64 en)).setCell ⟨w.heap.size + 1, 1, none⟩ (.int .i64 sh)).setCell ⟨w.heap.size + 1, 2, none⟩ (.int .i64 lo)).setCell ⟨w.heap.size + 1, 3, none⟩ (.string held)).setCell ⟨w.heap.size + 1, 4, none⟩ (.int .i64 M)).setCell ⟨w.heap.size + 1, 5, none⟩ (.slice z0 R.length y0)).setCell ⟨w.heap.size + 1, 6, none⟩ (.slice z1 L.length y1)).setCell ⟨w.heap.size + 1, 7, none⟩ (.int .i64 G)).setCell ⟨w.heap.size + 1, 8, none⟩ (.bool E)) := ⟨_, rfl⟩
  have hb9 : w9.heap[w.heap.size + 1]? = some (.cells #[.int .i64 en, .int .i64 sh, .int .i64 lo, .string held, .int .i64 M, .slice z0 R.length y0, .slice z1 L.length y1, .int .i64 G, .bool E] 34) := by rw [hw9]; exact r8
  rw [← hw9] at own9 bel9
  rw [← hw9]
  clear r0 r1 r2 r3 r4 r5 r6 r7 r8 HR5
  have x0 : w9.cell? ⟨w.heap.size + 1, 0, none⟩ = some (.int .i64 en) := cell_ofB hb9 0
  have x1 : w9.cell? ⟨w.heap.size + 1, 1, none⟩ = some (.int .i64 sh) := cell_ofB hb9 1
  have x2 : w9.cell? ⟨w.heap.size + 1, 2, none⟩ = some (.int .i64 lo) := cell_ofB hb9 2
  have x3 : w9.cell? ⟨w.heap.size + 1, 3, none⟩ = some (.string held) := cell_ofB hb9 3
  have x4 : w9.cell? ⟨w.heap.size + 1, 4, none⟩ = some (.int .i64 M) := cell_ofB hb9 4
  have x5 : w9.cell? ⟨w.heap.size + 1, 5, none⟩ = some (.slice z0 R.length y0) := cell_ofB hb9 5
  have x6 : w9.cell? ⟨w.heap.size + 1, 6, none⟩ = some (.slice z1 L.length y1) := cell_ofB hb9 6
  have x7 : w9.cell? ⟨w.heap.size + 1, 7, none⟩ = some (.int .i64 G) := cell_ofB hb9 7
  have x8 : w9.cell? ⟨w.heap.size + 1, 8, none⟩ = some (.bool E) := cell_ofB hb9 8
  exact bodyPost_ret (v := .agg #[.int .i64 en, .int .i64 sh, .int .i64 lo, .string held, .int .i64 M, .slice z0 R.length y0, .slice z1 L.length y1, .int .i64 G, .bool E]) (by simp [results, Tryd.results6, go_sem, x0, x1, x2, x3, x4, x5, x6, x7, x8]) rfl ⟨_, _, _, _, rfl, own9.at.1, own9.at.2.1, bel9⟩
end Go.Proofs.YtklgagonbehpeaaDoor

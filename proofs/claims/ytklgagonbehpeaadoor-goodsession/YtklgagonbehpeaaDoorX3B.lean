/-
  GoodSession of the specification and of the program; the laws' copy of a session.
-/
import Derived.Test.YtklgagonbehpeaaDoorX3A
import Derived.Test.YtklgagonbehpeaaDoorI2Good
namespace Go.Proofs.YtklgagonbehpeaaDoor
open Go.ChangeShapes Go.WideShapes Go.ChangeAt Go.RowKit
/-- Whether a session is good. -/
def goodSes (en sh lo : Int) (held : ByteArray) (M G : Int) (R L : List Int) (E : Bool) : Bool := goodD en sh lo held && (goodBf M G R L && (!E || held.toList.isEmpty))
set_option maxRecDepth 100000 in
set_option maxHeartbeats 2000000 in
theorem sGoodSes_any (en sh lo : Int) (held : ByteArray) (M G : Int) (R L : List Int) (E : Bool) (s a : Option Addr) (cs ca : Nat) (w : World) (hR : R.length ≤ 1048576) (hL : L.length ≤ 1048576) (iR : IntsAt w s R) (iL : IntsAt w a L) :
    Calls Tryd.prog 5 #[.agg #[.int .i64 en, .int .i64 sh, .int .i64 lo, .string held, .int .i64 M, .slice s R.length cs, .slice a L.length ca, .int .i64 G, .bool E]] w fun r w' => r = .returned (.bool (goodSes en sh lo held M G R L E)) ∧ Below w.heap.size w w' := by
  have A1 : ∀ o, Below w.heap.size w (w.alloc o) := fun o => (Below.refl _ _).alloc (Nat.le_refl _) o
  have HGD : Hid (∀ w', Below w.heap.size w w' → Calls Tryd.prog 11 #[decV en sh lo held] w' fun e w'' => e = .returned (.bool (goodD en sh lo held)) ∧ Below w'.heap.size w' w'') := fun w' h => gd_any en sh lo held w' 
  have HGB : Hid (∀ w', Below w.heap.size w w' → Calls Tryd.prog 12 #[.agg #[.int .i64 M, .slice s R.length cs, .slice a L.length ca, .int .i64 G]] w' fun r w'' => r = .returned (.bool (goodBf M G R L)) ∧ Below w'.heap.size w' w'') := fun w' h => sgoodBf_any M G R L s a cs ca w' hR hL (IntsAt.keepB iR h) (IntsAt.keepB iL h)
  unfold goodSes
  generalize goodD en sh lo held = g1 at *
  generalize goodBf M G R L = g2 at *
  clear iR iL
  cases g1
  · go_enter Tryd.func5, Tryd.ntmps5
    go_wp2_with fail
    refine Calls.mono (HGD.out _ (A1 _)) ?_
    rintro r w1 ⟨rfl, b1⟩
    have B1 : Hid (Below w.heap.size w w1) := (A1 _).trans (b1.mono (by simp))
    clear b1 A1
    go_wp2
    go_ret
    exact ⟨rfl, B1.out⟩
  · cases g2
    · go_enter Tryd.func5, Tryd.ntmps5
      go_wp2_with fail
      refine Calls.mono (HGD.out _ (A1 _)) ?_
      rintro r w1 ⟨rfl, b1⟩
      have hb : w1.heap[w.heap.size]? = some (.cells #[.int .i64 en, .int .i64 sh, .int .i64 lo, .string held, .int .i64 M, .slice s R.length cs, .slice a L.length ca, .int .i64 G, .bool E] 34) := (b1.block w.heap.size (by simp)).trans (heap_lastB _ _ _ rfl)
      have B1 : Hid (Below w.heap.size w w1) := (A1 _).trans (b1.mono (by simp))
      have hl1 : w.heap.size < w1.heap.size := Nat.lt_of_lt_of_le (by simp) b1.size
      have c3 : w1.cell? ⟨w.heap.size, 3, none⟩ = some (.string held) := cell_ofB hb 3
      have c4 : w1.cell? ⟨w.heap.size, 4, none⟩ = some (.int .i64 M) := cell_ofB hb 4
      have c5 : w1.cell? ⟨w.heap.size, 5, none⟩ = some (.slice s R.length cs) := cell_ofB hb 5
      have c6 : w1.cell? ⟨w.heap.size, 6, none⟩ = some (.slice a L.length ca) := cell_ofB hb 6
      have c7 : w1.cell? ⟨w.heap.size, 7, none⟩ = some (.int .i64 G) := cell_ofB hb 7
      have c8 : w1.cell? ⟨w.heap.size, 8, none⟩ = some (.bool E) := cell_ofB hb 8
      have HB : Hid _ := hb
      clear b1 hb A1
      go_wp2_with fail
      refine Calls.mono (HGB.out _ B1.out) ?_
      rintro r w2 ⟨rfl, b2⟩
      have hb2 := (b2.block w.heap.size hl1).trans HB.out
      have d3 : w2.cell? ⟨w.heap.size, 3, none⟩ = some (.string held) := cell_ofB hb2 3
      have d8 : w2.cell? ⟨w.heap.size, 8, none⟩ = some (.bool E) := cell_ofB hb2 8
      have B2 : Hid (Below w.heap.size w w2) := B1.out.trans (b2.mono B1.out.size)
      clear b2 hb2 c3 c4 c5 c6 c7 c8 HB
      go_wp2
      go_ret
      exact ⟨rfl, B2.out⟩
    · cases E
      · go_enter Tryd.func5, Tryd.ntmps5
        go_wp2_with fail
        refine Calls.mono (HGD.out _ (A1 _)) ?_
        rintro r w1 ⟨rfl, b1⟩
        have hb : w1.heap[w.heap.size]? = some (.cells #[.int .i64 en, .int .i64 sh, .int .i64 lo, .string held, .int .i64 M, .slice s R.length cs, .slice a L.length ca, .int .i64 G, .bool false] 34) := (b1.block w.heap.size (by simp)).trans (heap_lastB _ _ _ rfl)
        have B1 : Hid (Below w.heap.size w w1) := (A1 _).trans (b1.mono (by simp))
        have hl1 : w.heap.size < w1.heap.size := Nat.lt_of_lt_of_le (by simp) b1.size
        have c3 : w1.cell? ⟨w.heap.size, 3, none⟩ = some (.string held) := cell_ofB hb 3
        have c4 : w1.cell? ⟨w.heap.size, 4, none⟩ = some (.int .i64 M) := cell_ofB hb 4
        have c5 : w1.cell? ⟨w.heap.size, 5, none⟩ = some (.slice s R.length cs) := cell_ofB hb 5
        have c6 : w1.cell? ⟨w.heap.size, 6, none⟩ = some (.slice a L.length ca) := cell_ofB hb 6
        have c7 : w1.cell? ⟨w.heap.size, 7, none⟩ = some (.int .i64 G) := cell_ofB hb 7
        have c8 : w1.cell? ⟨w.heap.size, 8, none⟩ = some (.bool false) := cell_ofB hb 8
        have HB : Hid _ := hb
        clear b1 hb A1
        go_wp2_with fail
        refine Calls.mono (HGB.out _ B1.out) ?_
        rintro r w2 ⟨rfl, b2⟩
        have hb2 := (b2.block w.heap.size hl1).trans HB.out
        have d3 : w2.cell? ⟨w.heap.size, 3, none⟩ = some (.string held) := cell_ofB hb2 3
        have d8 : w2.cell? ⟨w.heap.size, 8, none⟩ = some (.bool false) := cell_ofB hb2 8
        have B2 : Hid (Below w.heap.size w w2) := B1.out.trans (b2.mono B1.out.size)
        clear b2 hb2 c3 c4 c5 c6 c7 c8 HB
        go_wp2
        go_ret
        exact ⟨rfl, B2.out⟩
      · go_enter Tryd.func5, Tryd.ntmps5
        go_wp2_with fail
        refine Calls.mono (HGD.out _ (A1 _)) ?_
        rintro r w1 ⟨rfl, b1⟩
        have hb : w1.heap[w.heap.size]? = some (.cells #[.int .i64 en, .int .i64 sh, .int .i64 lo, .string held, .int .i64 M, .slice s R.length cs, .slice a L.length ca, .int .i64 G, .bool true] 34) := (b1.block w.heap.size (by simp)).trans (heap_lastB _ _ _ rfl)
        have B1 : Hid (Below w.heap.size w w1) := (A1 _).trans (b1.mono (by simp))
        have hl1 : w.heap.size < w1.heap.size := Nat.lt_of_lt_of_le (by simp) b1.size
        have c3 : w1.cell? ⟨w.heap.size, 3, none⟩ = some (.string held) := cell_ofB hb 3
        have c4 : w1.cell? ⟨w.heap.size, 4, none⟩ = some (.int .i64 M) := cell_ofB hb 4
        have c5 : w1.cell? ⟨w.heap.size, 5, none⟩ = some (.slice s R.length cs) := cell_ofB hb 5
        have c6 : w1.cell? ⟨w.heap.size, 6, none⟩ = some (.slice a L.length ca) := cell_ofB hb 6
        have c7 : w1.cell? ⟨w.heap.size, 7, none⟩ = some (.int .i64 G) := cell_ofB hb 7
        have c8 : w1.cell? ⟨w.heap.size, 8, none⟩ = some (.bool true) := cell_ofB hb 8
        have HB : Hid _ := hb
        clear b1 hb A1
        go_wp2_with fail
        refine Calls.mono (HGB.out _ B1.out) ?_
        rintro r w2 ⟨rfl, b2⟩
        have hb2 := (b2.block w.heap.size hl1).trans HB.out
        have d3 : w2.cell? ⟨w.heap.size, 3, none⟩ = some (.string held) := cell_ofB hb2 3
        have d8 : w2.cell? ⟨w.heap.size, 8, none⟩ = some (.bool true) := cell_ofB hb2 8
        have B2 : Hid (Below w.heap.size w w2) := B1.out.trans (b2.mono B1.out.size)
        clear b2 hb2 c3 c4 c5 c6 c7 c8 HB
        go_wp2
        go_ret
        exact ⟨rfl, B2.out⟩
set_option maxRecDepth 100000 in
set_option maxHeartbeats 2000000 in
theorem iGoodSes_any (en sh lo : Int) (held : ByteArray) (M G : Int) (R L : List Int) (E : Bool) (s a : Option Addr) (cs ca : Nat) (w : World) (hT : Tabs w) (hR : R.length ≤ 1048576) (hL : L.length ≤ 1048576) (iR : IntsAt w s R) (iL : IntsAt w a L) :
    Calls Tryd.prog 7 #[.agg #[.int .i64 en, .int .i64 sh, .int .i64 lo, .string held, .int .i64 M, .slice s R.length cs, .slice a L.length ca, .int .i64 G, .bool E]] w fun r w' => r = .returned (.bool (goodSes en sh lo held M G R L E)) ∧ Below w.heap.size w w' := by
  have A1 : ∀ o, Below w.heap.size w (w.alloc o) := fun o => (Below.refl _ _).alloc (Nat.le_refl _) o
  have HGD : Hid (∀ w', Below w.heap.size w w' → Calls Tryd.prog 15 #[decV en sh lo held] w' fun e w'' => e = .returned (.bool (goodD en sh lo held)) ∧ Below w'.heap.size w' w'') := fun w' h => igd_any en sh lo held w' (hT.below h)
  have HGB : Hid (∀ w', Below w.heap.size w w' → Calls Tryd.prog 16 #[.agg #[.int .i64 M, .slice s R.length cs, .slice a L.length ca, .int .i64 G]] w' fun r w'' => r = .returned (.bool (goodBf M G R L)) ∧ Below w'.heap.size w' w'') := fun w' h => igoodBf_any M G R L s a cs ca w' hR hL (IntsAt.keepB iR h) (IntsAt.keepB iL h)
  unfold goodSes
  generalize goodD en sh lo held = g1 at *
  generalize goodBf M G R L = g2 at *
  clear iR iL hT
  cases g1
  · go_enter Tryd.func7, Tryd.ntmps7
    go_wp2_with fail
    refine Calls.mono (HGD.out _ (A1 _)) ?_
    rintro r w1 ⟨rfl, b1⟩
    have B1 : Hid (Below w.heap.size w w1) := (A1 _).trans (b1.mono (by simp))
    clear b1 A1
    go_wp2
    go_ret
    exact ⟨rfl, B1.out⟩
  · cases g2
    · go_enter Tryd.func7, Tryd.ntmps7
      go_wp2_with fail
      refine Calls.mono (HGD.out _ (A1 _)) ?_
      rintro r w1 ⟨rfl, b1⟩
      have hb : w1.heap[w.heap.size]? = some (.cells #[.int .i64 en, .int .i64 sh, .int .i64 lo, .string held, .int .i64 M, .slice s R.length cs, .slice a L.length ca, .int .i64 G, .bool E] 34) := (b1.block w.heap.size (by simp)).trans (heap_lastB _ _ _ rfl)
      have B1 : Hid (Below w.heap.size w w1) := (A1 _).trans (b1.mono (by simp))
      have hl1 : w.heap.size < w1.heap.size := Nat.lt_of_lt_of_le (by simp) b1.size
      have c3 : w1.cell? ⟨w.heap.size, 3, none⟩ = some (.string held) := cell_ofB hb 3
      have c4 : w1.cell? ⟨w.heap.size, 4, none⟩ = some (.int .i64 M) := cell_ofB hb 4
      have c5 : w1.cell? ⟨w.heap.size, 5, none⟩ = some (.slice s R.length cs) := cell_ofB hb 5
      have c6 : w1.cell? ⟨w.heap.size, 6, none⟩ = some (.slice a L.length ca) := cell_ofB hb 6
      have c7 : w1.cell? ⟨w.heap.size, 7, none⟩ = some (.int .i64 G) := cell_ofB hb 7
      have c8 : w1.cell? ⟨w.heap.size, 8, none⟩ = some (.bool E) := cell_ofB hb 8
      have HB : Hid _ := hb
      clear b1 hb A1
      go_wp2_with fail
      refine Calls.mono (HGB.out _ B1.out) ?_
      rintro r w2 ⟨rfl, b2⟩
      have hb2 := (b2.block w.heap.size hl1).trans HB.out
      have d3 : w2.cell? ⟨w.heap.size, 3, none⟩ = some (.string held) := cell_ofB hb2 3
      have d8 : w2.cell? ⟨w.heap.size, 8, none⟩ = some (.bool E) := cell_ofB hb2 8
      have B2 : Hid (Below w.heap.size w w2) := B1.out.trans (b2.mono B1.out.size)
      clear b2 hb2 c3 c4 c5 c6 c7 c8 HB
      go_wp2
      go_ret
      exact ⟨rfl, B2.out⟩
    · cases E
      · go_enter Tryd.func7, Tryd.ntmps7
        go_wp2_with fail
        refine Calls.mono (HGD.out _ (A1 _)) ?_
        rintro r w1 ⟨rfl, b1⟩
        have hb : w1.heap[w.heap.size]? = some (.cells #[.int .i64 en, .int .i64 sh, .int .i64 lo, .string held, .int .i64 M, .slice s R.length cs, .slice a L.length ca, .int .i64 G, .bool false] 34) := (b1.block w.heap.size (by simp)).trans (heap_lastB _ _ _ rfl)
        have B1 : Hid (Below w.heap.size w w1) := (A1 _).trans (b1.mono (by simp))
        have hl1 : w.heap.size < w1.heap.size := Nat.lt_of_lt_of_le (by simp) b1.size
        have c3 : w1.cell? ⟨w.heap.size, 3, none⟩ = some (.string held) := cell_ofB hb 3
        have c4 : w1.cell? ⟨w.heap.size, 4, none⟩ = some (.int .i64 M) := cell_ofB hb 4
        have c5 : w1.cell? ⟨w.heap.size, 5, none⟩ = some (.slice s R.length cs) := cell_ofB hb 5
        have c6 : w1.cell? ⟨w.heap.size, 6, none⟩ = some (.slice a L.length ca) := cell_ofB hb 6
        have c7 : w1.cell? ⟨w.heap.size, 7, none⟩ = some (.int .i64 G) := cell_ofB hb 7
        have c8 : w1.cell? ⟨w.heap.size, 8, none⟩ = some (.bool false) := cell_ofB hb 8
        have HB : Hid _ := hb
        clear b1 hb A1
        go_wp2_with fail
        refine Calls.mono (HGB.out _ B1.out) ?_
        rintro r w2 ⟨rfl, b2⟩
        have hb2 := (b2.block w.heap.size hl1).trans HB.out
        have d3 : w2.cell? ⟨w.heap.size, 3, none⟩ = some (.string held) := cell_ofB hb2 3
        have d8 : w2.cell? ⟨w.heap.size, 8, none⟩ = some (.bool false) := cell_ofB hb2 8
        have B2 : Hid (Below w.heap.size w w2) := B1.out.trans (b2.mono B1.out.size)
        clear b2 hb2 c3 c4 c5 c6 c7 c8 HB
        go_wp2
        go_ret
        exact ⟨rfl, B2.out⟩
      · go_enter Tryd.func7, Tryd.ntmps7
        go_wp2_with fail
        refine Calls.mono (HGD.out _ (A1 _)) ?_
        rintro r w1 ⟨rfl, b1⟩
        have hb : w1.heap[w.heap.size]? = some (.cells #[.int .i64 en, .int .i64 sh, .int .i64 lo, .string held, .int .i64 M, .slice s R.length cs, .slice a L.length ca, .int .i64 G, .bool true] 34) := (b1.block w.heap.size (by simp)).trans (heap_lastB _ _ _ rfl)
        have B1 : Hid (Below w.heap.size w w1) := (A1 _).trans (b1.mono (by simp))
        have hl1 : w.heap.size < w1.heap.size := Nat.lt_of_lt_of_le (by simp) b1.size
        have c3 : w1.cell? ⟨w.heap.size, 3, none⟩ = some (.string held) := cell_ofB hb 3
        have c4 : w1.cell? ⟨w.heap.size, 4, none⟩ = some (.int .i64 M) := cell_ofB hb 4
        have c5 : w1.cell? ⟨w.heap.size, 5, none⟩ = some (.slice s R.length cs) := cell_ofB hb 5
        have c6 : w1.cell? ⟨w.heap.size, 6, none⟩ = some (.slice a L.length ca) := cell_ofB hb 6
        have c7 : w1.cell? ⟨w.heap.size, 7, none⟩ = some (.int .i64 G) := cell_ofB hb 7
        have c8 : w1.cell? ⟨w.heap.size, 8, none⟩ = some (.bool true) := cell_ofB hb 8
        have HB : Hid _ := hb
        clear b1 hb A1
        go_wp2_with fail
        refine Calls.mono (HGB.out _ B1.out) ?_
        rintro r w2 ⟨rfl, b2⟩
        have hb2 := (b2.block w.heap.size hl1).trans HB.out
        have d3 : w2.cell? ⟨w.heap.size, 3, none⟩ = some (.string held) := cell_ofB hb2 3
        have d8 : w2.cell? ⟨w.heap.size, 8, none⟩ = some (.bool true) := cell_ofB hb2 8
        have B2 : Hid (Below w.heap.size w w2) := B1.out.trans (b2.mono B1.out.size)
        clear b2 hb2 c3 c4 c5 c6 c7 c8 HB
        go_wp2
        go_ret
        exact ⟨rfl, B2.out⟩
end Go.Proofs.YtklgagonbehpeaaDoor

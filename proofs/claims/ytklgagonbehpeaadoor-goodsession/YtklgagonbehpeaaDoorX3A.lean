/-
  A session among the laws' arguments; its size, its comparison, the laws' copy.
-/
import Derived.Test.YtklgagonbehpeaaDoorFrameD
import Derived.Test.YtklgagonbehpeaaDoorX1D
namespace Go.Proofs.YtklgagonbehpeaaDoor
open Go.ChangeShapes Go.WideShapes Go.ChangeAt Go.WideMaps Go.WideElems Go.RowKit
theorem Tryd.cellsSes : Tryd.prog.cellsOf 28 = 9 := by kernel_rfl
section
variable {H : Type} {enc : TypeId × Value → H} {w : World} {base : Nat} {held' : Bool}
theorem nine {α : Type} {cs : Array α} (h : cs.size = 9) : ∃ c0 c1 c2 c3 c4 c5 c6 c7 c8, cs = #[c0, c1, c2, c3, c4, c5, c6, c7, c8] := by
  obtain ⟨l⟩ := cs
  match l, h with
  | [c0, c1, c2, c3, c4, c5, c6, c7, c8], _ => exact ⟨c0, c1, c2, c3, c4, c5, c6, c7, c8, rfl⟩
set_option maxRecDepth 100000 in
theorem open_ses {r : Reach} {b0 : Nat} {v : Value} {d : DataW H} {p : List MemPlace} (hv : Value.okWide Tryd.prog w r b0 28 v) (h : DataW.Trod enc Tryd.prog w base (fun _ => true) held' 28 v d p) :
    ∃ (en sh lo : Int) (held : ByteArray) (M G : Int) (R L : List Int) (E : Bool) (s a : Option Addr) (cs ca : Nat), v = .agg #[.int .i64 en, .int .i64 sh, .int .i64 lo, .string held, .int .i64 M, .slice s R.length cs, .slice a L.length ca, .int .i64 G, .bool E] ∧ IntsAt w s R ∧ IntsAt w a L ∧ R.length ≤ maxLen ∧ L.length ≤ maxLen ∧ held.size ≤ maxLen := by
  have hu := Tryd.underlying28
  obtain ⟨cv, rfl, hsz⟩ := okWide_struct hu hv
  obtain ⟨c0, c1, c2, c3, c4, c5, c6, c7, c8, rfl⟩ := nine (hsz.trans Tryd.cellsSes)
  obtain ⟨fuel, hf⟩ := h
  obtain ⟨xs, n, _, hx, hl, hlen, hall⟩ := DataW.trod_struct hu hf
  have k0 : Tryd.prog.cellsOf 23 = 4 := by kernel_rfl
  have k1 : Tryd.prog.cellsOf 26 = 4 := by kernel_rfl
  have k2 : Tryd.prog.cellsOf 4 = 1 := by kernel_rfl
  have k3 : Tryd.prog.cellsOf 3 = 1 := by kernel_rfl
  have k4 : Tryd.prog.cellsOf 24 = 1 := by kernel_rfl
  have k5 : Tryd.prog.cellsOf 9 = 1 := by kernel_rfl
  match xs, hlen with
  | [y0, y1, y2], _ =>
    have h0 := hall 0 _ rfl
    have h1 := hall 1 _ rfl
    have h2 := hall 2 _ rfl
    simp [Value.cells, k0, k1, k2] at h0 h1 h2
    obtain ⟨E, e8, -⟩ := DataW.trod_bool Tryd.underlying4 h2
    obtain ⟨zs, m, _, hz, hm, hlz, ha⟩ := DataW.trod_struct Tryd.underlying23 h0
    obtain ⟨us, q, _, hu', hq, hlu, hb⟩ := DataW.trod_struct Tryd.underlying26 h1
    match zs, hlz, us, hlu with
    | [z0, z1, z2, z3], _, [u0, u1, u2, u3], _ =>
      have a0 := ha 0 _ rfl
      have a1 := ha 1 _ rfl
      have a2 := ha 2 _ rfl
      have a3 := ha 3 _ rfl
      have b0 := hb 0 _ rfl
      have b1 := hb 1 _ rfl
      have b2 := hb 2 _ rfl
      have b3 := hb 3 _ rfl
      simp [k3, k4, k5] at a0 a1 a2 a3 b0 b1 b2 b3
      obtain ⟨en, e0, -, -⟩ := DataW.trod_int Tryd.underlying3 a0
      obtain ⟨sh, e1, -, -⟩ := DataW.trod_int Tryd.underlying3 a1
      obtain ⟨lo, e2, -, -⟩ := DataW.trod_int Tryd.underlying3 a2
      obtain ⟨held, e3, -, ws⟩ := DataW.trod_string Tryd.underlying9 a3
      obtain ⟨M, e4, -, -⟩ := DataW.trod_int Tryd.underlying3 b0
      obtain ⟨R, hR, s, cs, e5, iR⟩ := argInts b1
      obtain ⟨L, hL, a, ca, e6, iL⟩ := argInts b2
      obtain ⟨G, e7, -, -⟩ := DataW.trod_int Tryd.underlying3 b3
      simp at e0 e1 e2 e3 e4 e7 e8
      subst e0 e1 e2 e3 e4 e5 e6 e7 e8
      exact ⟨en, sh, lo, held, M, G, R, L, E, s, a, cs, ca, rfl, iR, iL, hR, hL, ws⟩
end
set_option maxRecDepth 100000 in
set_option maxHeartbeats 2000000 in
theorem szBufG_any (z : Int) (hz0 : 0 ≤ z) (hz1 : z ≤ 1048576) (M G : Int) (R L : List Int) (s a : Option Addr) (cs ca : Nat) (w : World) (hR : R.length ≤ maxLen) (hL : L.length ≤ maxLen) :
    Calls Tryd.prog 10 #[.agg #[.int .i64 M, .slice s R.length cs, .slice a L.length ca, .int .i64 G], .int .i64 z] w fun r w' => (((R.length : Int) + L.length ≤ z ∧ r = .returned (.int .i64 (z - R.length - L.length))) ∨ (z < (R.length : Int) + L.length ∧ r = .returned (.int .i64 (-1)))) ∧ Below w.heap.size w w' := by
  have hR1 : R.length ≤ 9223372036854775807 := hR
  have hL1 : L.length ≤ 9223372036854775807 := hL
  have A1 : ∀ o, Below w.heap.size w (w.alloc o) := fun o => (Below.refl _ _).alloc (Nat.le_refl _) o
  have hr2 : (R.length : Int) ≤ 9223372036854775807 := by omega
  have hl2 : (L.length : Int) ≤ 9223372036854775807 := by omega
  by_cases h1 : z - R.length < 0
  · go_enter Tryd.func10, Tryd.ntmps10
    go_wp2_with (first | (go_at_call 19; go_in) | fail)
    go_ret
    exact ⟨.inr ⟨by omega, rfl⟩, by first | exact A1 _ | go_grown⟩
  · by_cases h2 : z - R.length - L.length < 0
    · go_enter Tryd.func10, Tryd.ntmps10
      go_wp2_with (first | (go_at_call 19; go_in) | fail)
      go_ret
      exact ⟨.inr ⟨by omega, rfl⟩, by first | exact A1 _ | go_grown⟩
    · go_enter Tryd.func10, Tryd.ntmps10
      go_wp2_with (first | (go_at_call 19; go_in) | fail)
      go_ret
      exact ⟨.inl ⟨by omega, rfl⟩, by first | exact A1 _ | go_grown⟩
set_option maxRecDepth 100000 in
set_option maxHeartbeats 2000000 in
theorem szSes_any (en sh lo : Int) (held : ByteArray) (M G : Int) (R L : List Int) (E : Bool) (s a : Option Addr) (cs ca : Nat) (w : World) (hR : R.length ≤ maxLen) (hL : L.length ≤ maxLen) (hh : held.size ≤ maxLen) :
    Calls Tryd.prog 4 #[.agg #[.int .i64 en, .int .i64 sh, .int .i64 lo, .string held, .int .i64 M, .slice s R.length cs, .slice a L.length ca, .int .i64 G, .bool E], .int .i64 1048576] w fun r w' => ((held.size + R.length + L.length ≤ 1048576 ∧ ∃ z : Int, 0 ≤ z ∧ r = .returned (.int .i64 z)) ∨ r = .returned (.int .i64 (-1))) ∧ Below w.heap.size w w' := by
  have A1 : ∀ o, Below w.heap.size w (w.alloc o) := fun o => (Below.refl _ _).alloc (Nat.le_refl _) o
  have HZB : Hid (∀ z : Int, 0 ≤ z → z ≤ 1048576 → ∀ w', Calls Tryd.prog 10 #[.agg #[.int .i64 M, .slice s R.length cs, .slice a L.length ca, .int .i64 G], .int .i64 z] w' fun r w'' => (((R.length : Int) + L.length ≤ z ∧ r = .returned (.int .i64 (z - R.length - L.length))) ∨ (z < (R.length : Int) + L.length ∧ r = .returned (.int .i64 (-1)))) ∧ Below w'.heap.size w' w'') := fun z h0 h1 w' => szBufG_any z h0 h1 M G R L s a cs ca w' hR hL
  by_cases hb : 1048576 < held.size
  · have HSB : Hid (∀ w', Calls Tryd.prog 9 #[decV en sh lo held, .int .i64 1048576] w' fun e w'' => e = .returned (.int .i64 (-1)) ∧ Below w'.heap.size w' w'') := fun w' => szDec_big en sh lo held w' hb hh
    clear hR hL hh hb HZB
    go_enter Tryd.func4, Tryd.ntmps4
    go_wp2_with fail
    refine Calls.mono (HSB.out _) ?_
    rintro r w1 ⟨rfl, b1⟩
    have B1 : Hid (Below w.heap.size w w1) := (A1 _).trans (b1.mono (by simp))
    clear b1 A1
    go_wp2
    go_ret
    exact ⟨.inr rfl, B1.out⟩
  · have HSB : Hid (∀ w', Calls Tryd.prog 9 #[decV en sh lo held, .int .i64 1048576] w' fun e w'' => e = .returned (.int .i64 (1048576 - held.size)) ∧ Below w'.heap.size w' w'') := fun w' => szDec_yes en sh lo held w' (by omega)
    have hz : ¬ (1048576 : Int) - (held.size : Int) < 0 := by omega
    have HNB : Hid (¬ 1048576 < held.size) := hb
    clear hR hL hh hb
    go_enter Tryd.func4, Tryd.ntmps4
    go_wp2_with fail
    refine Calls.mono (HSB.out _) ?_
    rintro r w1 ⟨rfl, b1⟩
    have hb1 : w1.heap[w.heap.size]? = some (.cells #[.int .i64 en, .int .i64 sh, .int .i64 lo, .string held, .int .i64 M, .slice s R.length cs, .slice a L.length ca, .int .i64 G, .bool E] 28) := (b1.block w.heap.size (by simp)).trans (heap_lastB _ _ _ rfl)
    have B1 : Hid (Below w.heap.size w w1) := (A1 _).trans (b1.mono (by simp))
    have c4 : w1.cell? ⟨w.heap.size, 4, none⟩ = some (.int .i64 M) := cell_ofB hb1 4
    have c5 : w1.cell? ⟨w.heap.size, 5, none⟩ = some (.slice s R.length cs) := cell_ofB hb1 5
    have c6 : w1.cell? ⟨w.heap.size, 6, none⟩ = some (.slice a L.length ca) := cell_ofB hb1 6
    have c7 : w1.cell? ⟨w.heap.size, 7, none⟩ = some (.int .i64 G) := cell_ofB hb1 7
    clear b1 A1 hb1 HSB
    go_wp2_with fail
    refine Calls.mono (HZB.out _ (by omega) (by omega) _) ?_
    rintro r w2 ⟨hr, b2⟩
    have B2 : Hid (Below w.heap.size w w2) := B1.out.trans (b2.mono B1.out.size)
    clear b2 c4 c5 c6 c7
    have hnb := HNB.out
    rcases hr with ⟨h1, rfl⟩ | ⟨h1, rfl⟩
    · have hz2 : ¬ (1048576 : Int) - (held.size : Int) - (R.length : Int) - (L.length : Int) < 0 := by omega
      have HH : Hid (held.size + R.length + L.length ≤ 1048576) := by show held.size + R.length + L.length ≤ 1048576; omega
      clear h1 hnb
      go_wp2
      go_ret
      exact ⟨.inl ⟨HH.out, _, by omega, rfl⟩, B2.out⟩
    · clear h1 hnb
      go_wp2
      go_ret
      exact ⟨.inr rfl, B2.out⟩
set_option maxRecDepth 100000 in
set_option maxHeartbeats 2000000 in
theorem eqSes_any (en sh lo : Int) (held : ByteArray) (M G : Int) (R L : List Int) (E : Bool) (s a : Option Addr) (cs ca : Nat) (x y : Option Addr) (cx cy : Nat) (w : World) (hR : R.length ≤ 1048576) (hL : L.length ≤ 1048576) (iR : IntsAt w s R) (iL : IntsAt w a L) (iR' : IntsAt w x R) (iL' : IntsAt w y L) :
    Calls Tryd.prog 8 #[.agg #[.int .i64 en, .int .i64 sh, .int .i64 lo, .string held, .int .i64 M, .slice s R.length cs, .slice a L.length ca, .int .i64 G, .bool E], .agg #[.int .i64 en, .int .i64 sh, .int .i64 lo, .string held, .int .i64 M, .slice x R.length cx, .slice y L.length cy, .int .i64 G, .bool E]] w fun r w' => r = .returned (.bool true) ∧ Below w.heap.size w w' := by
  have A2 : ∀ o p, Below w.heap.size w ((w.alloc o).alloc p) := fun o p => ((Below.refl _ _).alloc (Nat.le_refl _) o).alloc (by simp) p
  have HED : Hid (∀ w', Calls Tryd.prog 17 #[decV en sh lo held, decV en sh lo held] w' fun e w'' => e = .returned (.bool true) ∧ Below w'.heap.size w' w'') := fun w' => eqDec_same en sh lo held w'
  have HEB : Hid (∀ w', Below w.heap.size w w' → Calls Tryd.prog 18 #[.agg #[.int .i64 M, .slice s R.length cs, .slice a L.length ca, .int .i64 G], .agg #[.int .i64 M, .slice x R.length cx, .slice y L.length cy, .int .i64 G]] w' fun r w'' => r = .returned (.bool true) ∧ Below w'.heap.size w' w'') := fun w' h => eqBuf_any M G R L s a x y cs ca cx cy w' hR hL (IntsAt.keepB iR h) (IntsAt.keepB iL h) (IntsAt.keepB iR' h) (IntsAt.keepB iL' h)
  have hee : (E == E) = true := by simp
  clear iR iL iR' iL'
  go_enter Tryd.func8, Tryd.ntmps8
  go_wp2_with fail
  refine Calls.mono (HED.out _) ?_
  rintro r w1 ⟨rfl, b1⟩
  have h0 : w1.heap[w.heap.size]? = some (.cells #[.int .i64 en, .int .i64 sh, .int .i64 lo, .string held, .int .i64 M, .slice s R.length cs, .slice a L.length ca, .int .i64 G, .bool E] 34) := (b1.block w.heap.size (by simp; omega)).trans ((heap_prevB _ _ _ (by simp)).trans (heap_lastB _ _ _ rfl))
  have h1 : w1.heap[w.heap.size + 1]? = some (.cells #[.int .i64 en, .int .i64 sh, .int .i64 lo, .string held, .int .i64 M, .slice x R.length cx, .slice y L.length cy, .int .i64 G, .bool E] 34) := (b1.block (w.heap.size + 1) (by simp)).trans (heap_lastB _ _ _ (by simp))
  have B1 : Hid (Below w.heap.size w w1) := (A2 _ _).trans (b1.mono (A2 _ _).size)
  have hs1 : w.heap.size + 1 < w1.heap.size := Nat.lt_of_lt_of_le (by simp) b1.size
  have c4 : w1.cell? ⟨w.heap.size, 4, none⟩ = some (.int .i64 M) := cell_ofB h0 4
  have c5 : w1.cell? ⟨w.heap.size, 5, none⟩ = some (.slice s R.length cs) := cell_ofB h0 5
  have c6 : w1.cell? ⟨w.heap.size, 6, none⟩ = some (.slice a L.length ca) := cell_ofB h0 6
  have c7 : w1.cell? ⟨w.heap.size, 7, none⟩ = some (.int .i64 G) := cell_ofB h0 7
  have c8 : w1.cell? ⟨w.heap.size, 8, none⟩ = some (.bool E) := cell_ofB h0 8
  have d4 : w1.cell? ⟨w.heap.size + 1, 4, none⟩ = some (.int .i64 M) := cell_ofB h1 4
  have d5 : w1.cell? ⟨w.heap.size + 1, 5, none⟩ = some (.slice x R.length cx) := cell_ofB h1 5
  have d6 : w1.cell? ⟨w.heap.size + 1, 6, none⟩ = some (.slice y L.length cy) := cell_ofB h1 6
  have d7 : w1.cell? ⟨w.heap.size + 1, 7, none⟩ = some (.int .i64 G) := cell_ofB h1 7
  have d8 : w1.cell? ⟨w.heap.size + 1, 8, none⟩ = some (.bool E) := cell_ofB h1 8
  have H0 : Hid _ := h0
  have H1 : Hid _ := h1
  clear b1 h0 h1 A2 HED
  go_wp2_with fail
  refine Calls.mono (HEB.out _ B1.out) ?_
  rintro r w2 ⟨rfl, b2⟩
  have e8 : w2.cell? ⟨w.heap.size, 8, none⟩ = some (.bool E) := cell_ofB ((b2.block w.heap.size (by omega)).trans H0.out) 8
  have f8 : w2.cell? ⟨w.heap.size + 1, 8, none⟩ = some (.bool E) := cell_ofB ((b2.block (w.heap.size + 1) hs1).trans H1.out) 8
  have B2 : Hid (Below w.heap.size w w2) := B1.out.trans (b2.mono B1.out.size)
  clear b2 c4 c5 c6 c7 c8 d4 d5 d6 d7 d8
  go_wp2
  go_ret
  exact ⟨rfl, B2.out⟩
end Go.Proofs.YtklgagonbehpeaaDoor

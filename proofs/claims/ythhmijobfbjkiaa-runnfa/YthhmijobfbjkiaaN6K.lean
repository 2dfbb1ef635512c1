/-
  l6Join, l6Step, l6Behind of the specification.
-/
import Derived.Test.YthhmijobfbjkiaaN6J
namespace Go.Proofs.Ythhmijobfbjkiaa
open Go.ChangeShapes Go.WideShapes Go.ChangeAt Go.WideMaps Go.WideElems Go.RowKit
/-- A list with the numbers of another put into it. -/
def joinB (A B : List Int) : List Int := B.foldl (fun o y => putL y o) A
theorem mem_joinB {x : Int} : ∀ {B A : List Int}, x ∈ joinB A B ↔ x ∈ A ∨ x ∈ B
  | [], A => by simp [joinB]
  | y :: B, A => by
    have ih := mem_joinB (x := x) (B := B) (A := putL y A)
    have e : joinB A (y :: B) = joinB (putL y A) B := rfl
    rw [e, ih, mem_putL, List.mem_cons]
    constructor
    · rintro ((h | h) | h) <;> simp [h]
    · rintro (h | h | h) <;> simp [h]
theorem joinB_len : ∀ (B A : List Int), (joinB A B).length ≤ A.length + B.length
  | [], A => by simp [joinB]
  | y :: B, A => by
    have ih := joinB_len B (putL y A)
    have := putL_len y A
    have e : joinB A (y :: B) = joinB (putL y A) B := rfl
    rw [e]
    simp
    omega
theorem joinB_step (A B : List Int) {k : Nat} (h : k < B.length) : joinB A (B.take (k + 1)) = putL (B.getD k 0) (joinB A (B.take k)) := by
  unfold joinB
  rw [List.take_add_one, List.foldl_append]
  simp [List.getD_eq_getElem?_getD, List.getElem?_eq_getElem h]
set_option maxRecDepth 100000 in
set_option maxHeartbeats 4000000 in
theorem sjoin_own (A B : List Int) (ao bo : Option Addr) (ca cb : Nat) (w : World) (hl : A.length + B.length ≤ 100000) (hA : IntsAt w ao A) (hB : IntsAt w bo B) :
    Calls Try.prog 75 #[.slice ao A.length ca, .slice bo B.length cb] w fun e w' => ∃ v, e = .returned v ∧ w'.ownsRow w.heap.size 3 1 v (joinB A B).length (ints (joinB A B)) ∧ Below w.heap.size w w' := by
  have HB : Hid (IntsAt w bo B) := hB
  have HO : Hid (Calls Try.prog 89 #[.slice ao A.length ca] w fun e w' => ∃ v, e = .returned v ∧ w'.ownsRow w.heap.size 3 1 v A.length (ints A) ∧ Below w.heap.size w w') := sown_any A ao _ ca w rfl (by omega) hA
  clear hA hB
  go_enter Try.func75, Try.ntmps75
  go_wp2_with fail
  refine Calls.mono HO.out ?_
  rintro r w1 ⟨v, rfl, o1, b1⟩
  have OW1 : Hid (w1.ownsRow w.heap.size 3 1 v A.length (ints A)) := o1
  have BW1 : Hid (Below w.heap.size w w1) := b1
  clear o1 b1 HO
  go_wp2
  go_loopw [5, 12] (fun v i wr => ∃ k : Nat, k ≤ B.length ∧ i = .int .i64 k ∧ wr.ownsRow w.heap.size 3 1 v (joinB A (B.take k)).length (ints (joinB A (B.take k))) ∧ Below w.heap.size w wr) (fun _ i _ => B.length - (intOf i).toNat)
  case atStart => exact ⟨0, Nat.zero_le _, rfl, OW1.out, BW1.out⟩
  case round =>
    obtain ⟨k, hk, rfl, hown, hbw⟩ := hrel
    have BW : Hid (Below w.heap.size w wr) := hbw
    by_cases hlt : k < B.length
    · have hltI : (k : Int) < (B.length : Int) := by omega
      obtain ⟨b1, o1, rfl, l1, h1⟩ := HB.out k hlt
      have hc : wr.cell? ⟨b1, o1 + k, none⟩ = some (.int .i64 (B.getD k 0)) := (BW.out.cell (p := ⟨b1, o1 + k, none⟩) l1).trans h1
      obtain ⟨_, ga, gc, rfl, gi⟩ := ints_of_own hown
      have hlen := joinB_len (B.take k) A
      have htk : (B.take k).length ≤ B.length := by simp; omega
      have HP : Hid (Calls Try.prog 65 #[.slice ga (joinB A (B.take k)).length gc, .int .i64 (B.getD k 0)] wr fun e w' => ∃ v', e = .returned v' ∧ w'.ownsRow w.heap.size 3 1 v' (joinB A (B.take (k + 1))).length (ints (joinB A (B.take (k + 1)))) ∧ Below wr.heap.size wr w') := by
        rw [joinB_step A B hlt]
        exact sput_own _ _ _ _ wr (by omega) BW.out.size hown
      clear h1 gi hown hbw
      obtain ⟨R2, hR2⟩ : ∃ R2, R2 = joinB A (B.take (k + 1)) := ⟨_, rfl⟩
      rw [← hR2] at HP
      have HR2 : Hid (R2 = joinB A (B.take (k + 1))) := hR2
      clear hR2
      generalize joinB A (B.take k) = R at HP hlen
      generalize B.getD k 0 = y at hc HP
      go_wp2_with fail
      refine Calls.mono HP.out ?_
      rintro r w2 ⟨v2, rfl, o2, b2⟩
      have OW2 : Hid (w2.ownsRow w.heap.size 3 1 v2 R2.length (ints R2)) := o2
      have BW2 : Hid (Below w.heap.size w w2) := BW.out.trans (b2.mono BW.out.size)
      clear o2 b2
      go_wp2
      go_roundw
      case rel => exact ⟨k + 1, by omega, by go_num, by rw [← HR2.out]; exact OW2.out, BW2.out⟩
      case measure => simp [intOf]; omega
    · obtain rfl : k = B.length := by omega
      have hltI : ¬ (B.length : Int) < (B.length : Int) := by omega
      rw [List.take_length] at hown
      have OWF : Hid (wr.ownsRow w.heap.size 3 1 _ (joinB A B).length (ints (joinB A B))) := hown
      clear hown hbw
      go_wp2
      go_ret
      exact ⟨_, rfl, OWF.out, BW.out⟩
/-- The places among some whose sets have a rune. -/
def stepL (S : Rw) (A : List Int) (r : Int) : List Int := A.filter fun k => memS (rw_ S k.toNat) r
theorem stepL_take (S : Rw) (A : List Int) (r : Int) {k : Nat} (h : k < A.length) : stepL S (A.take (k + 1)) r = if memS (rw_ S (A.getD k 0).toNat) r then stepL S (A.take k) r ++ [A.getD k 0] else stepL S (A.take k) r := by
  unfold stepL
  have e : A.take (k + 1) = A.take k ++ [A.getD k 0] := by
    rw [List.take_add_one]
    simp [List.getD_eq_getElem?_getD, List.getElem?_eq_getElem h]
  rw [e, List.filter_append]
  by_cases hm : memS (rw_ S (A.getD k 0).toNat) r = true
  · rw [if_pos hm]
    simp only [List.filter_cons, hm, if_true, List.filter_nil]
  · rw [if_neg hm]
    simp only [List.filter_cons, hm, if_false, List.filter_nil, List.append_nil, Bool.false_eq_true]
/-- All that can come behind some places. -/
def behL (G : Rw) (A : List Int) : List Int := A.foldl (fun o k => joinB o (rw_ G k.toNat)) []
theorem behL_take (G : Rw) (A : List Int) {k : Nat} (h : k < A.length) : behL G (A.take (k + 1)) = joinB (behL G (A.take k)) (rw_ G (A.getD k 0).toNat) := by
  unfold behL
  rw [List.take_add_one, List.foldl_append]
  simp [List.getD_eq_getElem?_getD, List.getElem?_eq_getElem h]
theorem mem_behL_go {G : Rw} {x : Int} : ∀ {A O : List Int}, x ∈ A.foldl (fun o k => joinB o (rw_ G k.toNat)) O ↔ x ∈ O ∨ ∃ k ∈ A, x ∈ rw_ G k.toNat
  | [], O => by simp
  | y :: A, O => by
    rw [List.foldl_cons, mem_behL_go (A := A), mem_joinB]
    constructor
    · rintro ((h | h) | ⟨k, h1, h2⟩)
      · exact .inl h
      · exact .inr ⟨y, by simp, h⟩
      · exact .inr ⟨k, by simp [h1], h2⟩
    · rintro (h | ⟨k, h1, h2⟩)
      · exact .inl (.inl h)
      · rcases List.mem_cons.1 h1 with rfl | h1
        · exact .inl (.inr h2)
        · exact .inr ⟨k, h1, h2⟩
theorem mem_behL {G : Rw} {A : List Int} {x : Int} : x ∈ behL G A ↔ ∃ k ∈ A, x ∈ rw_ G k.toNat := by
  unfold behL
  rw [mem_behL_go]
  simp
theorem behL_len {G : Rw} (hG : ∀ k, k < G.length → (rw_ G k).length ≤ 40) : ∀ (A O : List Int), (∀ k ∈ A, 0 ≤ k ∧ k < G.length) → (A.foldl (fun o k => joinB o (rw_ G k.toNat)) O).length ≤ O.length + 40 * A.length
  | [], O, _ => by simp
  | y :: A, O, h => by
    have ih := behL_len hG A (joinB O (rw_ G y.toNat)) fun k hk => h k (by simp [hk])
    have h1 := joinB_len (rw_ G y.toNat) O
    have h2 := h y (by simp)
    have h3 := hG y.toNat (by omega)
    rw [List.foldl_cons]
    simp
    omega
set_option maxRecDepth 100000 in
set_option maxHeartbeats 4000000 in
theorem sstep6_any (E : Bool) (S G : Rw) (F L : List Int) (s a b g : Option Addr) (cs ca cb cg : Nat) (X : List Int) (r : Int) (xo : Option Addr) (cx : Nat) (w : World) (hx : szR S ≤ 1048576) (hX : X.length ≤ 100000) (hev : ∀ j, j < S.length → (rw_ S j).length % 2 = 0) (hin : ∀ j, j < X.length → 0 ≤ X.getD j 0 ∧ X.getD j 0 < S.length) (hS : RowsAt w s S) (hA : IntsAt w xo X) :
    Calls Try.prog 61 #[.agg #[.bool E, .slice s S.length cs, .slice a F.length ca, .slice b L.length cb, .slice g G.length cg], .slice xo X.length cx, .int .i64 r] w fun e w' => ∃ v, e = .returned v ∧ w'.ownsRow w.heap.size 3 1 v (stepL S X r).length (ints (stepL S X r)) ∧ Below w.heap.size w w' := by
  have HS : Hid _ := hS
  have HA : Hid (IntsAt w xo X) := hA
  have HEV : Hid _ := hev
  have HIN : Hid _ := hin
  have HLS : Hid _ := hx
  have X0 : Hid ((w.alloc (.cells #[.bool E, .slice s S.length cs, .slice a F.length ca, .slice b L.length cb, .slice g G.length cg] 38)).heap[w.heap.size]? = some (.cells #[.bool E, .slice s S.length cs, .slice a F.length ca, .slice b L.length cb, .slice g G.length cg] 38)) := heap_last2 _ _ _ rfl
  clear hS hA hev hin hx
  go_enter Try.func61, Try.ntmps61
  go_wp2
  go_loopw [7, 12] (fun v i wr => ∃ k : Nat, k ≤ X.length ∧ i = .int .i64 k ∧ wr.heap[w.heap.size]? = some (.cells #[.bool E, .slice s S.length cs, .slice a F.length ca, .slice b L.length cb, .slice g G.length cg] 38) ∧ wr.ownsRow (w.heap.size + 1) 3 1 v (stepL S (X.take k) r).length (ints (stepL S (X.take k) r)) ∧ Below w.heap.size w wr) (fun _ i _ => X.length - (intOf i).toNat)
  case atStart => exact ⟨0, Nat.zero_le _, rfl, X0.out, World.ownsRow_nil _ _ _ _, al_N _ _⟩
  case round =>
    obtain ⟨k, hk, rfl, hb, hown, hbw⟩ := hrel
    have BW : Hid (Below w.heap.size w wr) := hbw
    have HB : Hid _ := hb
    have hsz : w.heap.size < wr.heap.size := (Array.getElem?_eq_some_iff.1 hb).1
    by_cases hlt : k < X.length
    · have hltI : (k : Int) < (X.length : Int) := by omega
      obtain ⟨b1, o1, rfl, l1, h1⟩ := HA.out k hlt
      have hc : wr.cell? ⟨b1, o1 + k, none⟩ = some (.int .i64 (X.getD k 0)) := (BW.out.cell (p := ⟨b1, o1 + k, none⟩) l1).trans h1
      obtain ⟨hi0, hi1⟩ := HIN.out k hlt
      have HST := stepL_take S X r hlt
      obtain ⟨y, hy⟩ : ∃ y : Nat, X.getD k 0 = (y : Int) := ⟨(X.getD k 0).toNat, by omega⟩
      rw [hy] at hc hi0 hi1 HST
      have hyS : y < S.length := by omega
      obtain ⟨sb, so, sa, sc, rfl, sl, sce, si⟩ := HS.out y hyS
      have cS : wr.cell? ⟨w.heap.size, 1, none⟩ = some (.slice (some ⟨sb, so, none⟩) S.length cs) := cell_of hb 1
      have gS : wr.cell? ⟨sb, so + y, none⟩ = some (.slice sa (rw_ S y).length sc) := (BW.out.cell (p := ⟨sb, so + y, none⟩) sl).trans sce
      have HIN4 : Hid (Calls Try.prog 74 #[.slice sa (rw_ S y).length sc, .int .i64 r] wr fun e w' => e = .returned (.bool (memS (rw_ S y) r)) ∧ Below wr.heap.size wr w') := sin4_any (rw_ S y) r sa sc wr (Nat.le_trans (rw_len S y hyS) HLS.out) (HEV.out y hyS) (IntsAt.keepB si BW.out)
      obtain ⟨ga, gc, rfl⟩ := own_form' hown
      have OW : Hid (wr.ownsRow (w.heap.size + 1) 3 1 (.slice ga _ gc) (stepL S (X.take k) r).length (ints (stepL S (X.take k) r))) := hown
      have hlen : (stepL S (X.take k) r).length ≤ 100000 := Nat.le_trans (List.length_filter_le _ _) (by simp; omega)
      have HST2 : Hid _ := HST
      clear h1 hb hown hbw sce si sl HST
      have e1 : ((y : Int)).toNat = y := by omega
      rw [e1] at HST2
      generalize (rw_ S y).length = ly at gS HIN4
      generalize hm : memS (rw_ S y) r = m at HIN4 HST2
      clear hm
      have hy2 : Hid (X.getD k 0 = (y : Int)) := hy
      clear hy
      generalize stepL S (X.take k) r = R at OW HST2 hlen
      go_wp2_with fail
      refine Calls.mono HIN4.out ?_
      rintro r2 w2 ⟨rfl, b2⟩
      have HB2 : Hid (w2.heap[w.heap.size]? = some _) := (b2.block _ hsz).trans HB.out
      have BW2 : Hid (Below w.heap.size w w2) := BW.out.trans (b2.mono BW.out.size)
      have OW2 : Hid (w2.ownsRow (w.heap.size + 1) 3 1 (.slice ga R.length gc) R.length (ints R)) := World.ownsRow.keepB OW.out b2
      have hsz2 : w.heap.size < w2.heap.size := Nat.lt_of_lt_of_le hsz b2.size
      clear b2
      cases m with
      | false =>
        have HR : Hid (stepL S (X.take (k + 1)) r = R) := HST2.out
        clear HST2
        go_wp2
        go_roundw
        case rel => exact ⟨k + 1, by omega, by go_num, HB2.out, by rw [HR.out]; exact OW2.out, BW2.out⟩
        case measure => simp [intOf]; omega
      | true =>
        have HR : Hid (stepL S (X.take (k + 1)) r = R ++ [(y : Int)]) := HST2.out
        clear HST2
        go_wp2_with (at_builtin; refine wpA _ rfl _ _ rfl (w.heap.size + 1) _ _ _ rfl (World.ownsRow.alloc OW2.out (.cells #[.int .i64 (y : Int)] 3)) _ [(y : Int)] 1 1 rfl rfl (ints_new _ (y : Int) _ _ rfl) ?c1 ?c2 ?_)
        all_goals try (case c1 => omega)
        all_goals try (case c2 => simp; omega)
        intro v3 w3 hown3 hgrow _
        have OW3 : Hid (w3.ownsRow (w.heap.size + 1) 3 1 v3 (R ++ [(y : Int)]).length (ints (R ++ [(y : Int)]))) := own_cast hown3 (by simp) (by simp [ints])
        have HB3 : Hid (w3.heap[w.heap.size]? = some _) := (hgrow.block w.heap.size (by simp; omega) (fun e => by have := (World.ownsRow.lt OW2.out _ e.symm).1; omega)).trans (((al_N w2 _).block w.heap.size hsz2).trans HB2.out)
        have BW3 : Hid (Below w.heap.size w w3) := Below.grown (BW2.out.trans ((al_N w2 _).mono BW2.out.size)) hgrow (by simp; omega) (fun g e => by have := (World.ownsRow.lt OW2.out g e).1; omega)
        clear hown3 hgrow
        go_wp2
        go_roundw
        case rel => exact ⟨k + 1, by omega, by go_num, HB3.out, by rw [HR.out]; exact OW3.out, BW3.out⟩
        case measure => simp [intOf]; omega
    · obtain rfl : k = X.length := by omega
      have hltI : ¬ (X.length : Int) < (X.length : Int) := by omega
      rw [List.take_length] at hown
      have OWF : Hid (wr.ownsRow (w.heap.size + 1) 3 1 _ (stepL S X r).length (ints (stepL S X r))) := hown
      clear hown hbw hb
      go_wp2
      go_ret
      exact ⟨_, rfl, own_mono OWF.out (by omega), BW.out⟩
end Go.Proofs.Ythhmijobfbjkiaa

/-
  A machine of places among the laws' arguments; its size, its comparison.
-/
import Derived.Test.YtlkcdcdgpklpoaaM6C
import Derived.Test.YtlkcdcdgpklpoaaR5D
import Derived.Lib.SmallJoins
namespace Go.Proofs.Ytlkcdcdgpklpoaa
open Go.ChangeShapes Go.WideShapes Go.ChangeAt Go.WideMaps Go.WideElems Go.RowKit
/-- A machine of places as a value. -/
def nfaV (E : Bool) (s a b g : Option Addr) (n k m l cs ca cb cg : Nat) : Value := .agg #[.bool E, .slice s n cs, .slice a k ca, .slice b m cb, .slice g l cg]
theorem Try.cellsNfa : Try.prog.cellsOf 65 = 5 := by kernel_rfl
section
variable {H : Type} {enc : TypeId × Value → H} {w : World} {base : Nat} {held : Bool}
theorem five {α : Type} {cs : Array α} (h : cs.size = 5) : ∃ c0 c1 c2 c3 c4, cs = #[c0, c1, c2, c3, c4] := by
  obtain ⟨l⟩ := cs
  match l, h with
  | [c0, c1, c2, c3, c4], _ => exact ⟨c0, c1, c2, c3, c4, rfl⟩
set_option maxRecDepth 100000 in
theorem open_nfa {r : Reach} {b0 : Nat} {v : Value} {d : DataW H} {p : List MemPlace} (hv : Value.okWide Try.prog w r b0 65 v) (h : DataW.Trod enc Try.prog w base (fun _ => true) held 65 v d p) :
    ∃ (E : Bool) (S G : Rw) (F L : List Int) (s a b g : Option Addr) (cs ca cb cg : Nat), v = nfaV E s a b g S.length F.length L.length G.length cs ca cb cg ∧ RowsAt w s S ∧ IntsAt w a F ∧ IntsAt w b L ∧ RowsAt w g G ∧
      (S.length ≤ maxLen ∧ ∀ y ∈ S, y.length ≤ maxLen) ∧ F.length ≤ maxLen ∧ L.length ≤ maxLen ∧ G.length ≤ maxLen ∧ ∀ y ∈ G, y.length ≤ maxLen := by
  have hu := Try.underlying65
  obtain ⟨cv, rfl, hsz⟩ := okWide_struct hu hv
  obtain ⟨c0, c1, c2, c3, c4, rfl⟩ := five (hsz.trans Try.cellsNfa)
  obtain ⟨fuel, hf⟩ := h
  obtain ⟨xs, n, _, hx, hl, hlen, hall⟩ := DataW.trod_struct hu hf
  have k0 : Try.prog.cellsOf 4 = 1 := by kernel_rfl
  have k1 : Try.prog.cellsOf 24 = 1 := by kernel_rfl
  have k2 : Try.prog.cellsOf 26 = 1 := by kernel_rfl
  match xs, hlen with
  | [y0, y1, y2, y3, y4], _ =>
    have h0 := hall 0 _ rfl
    have h1 := hall 1 _ rfl
    have h2 := hall 2 _ rfl
    have h3 := hall 3 _ rfl
    have h4 := hall 4 _ rfl
    simp [Value.cells, k0, k1, k2] at h0 h1 h2 h3 h4
    obtain ⟨S, hS, hSS, s, cs, rfl, iS⟩ := arg_rows h1
    obtain ⟨F, hF, a, ca, rfl, iF⟩ := arg_ints h2
    obtain ⟨L, hL, b, cb, rfl, iL⟩ := arg_ints h3
    obtain ⟨G, hG, hGG, g, cg, rfl, iG⟩ := arg_rows h4
    obtain ⟨E, rfl⟩ : ∃ E, c0 = .bool E := by
      obtain ⟨E, e, -⟩ := DataW.trod_bool Try.underlying4 h0
      simp only [List.cons.injEq, and_true] at e
      exact ⟨E, e⟩
    exact ⟨E, S, G, F, L, s, a, b, g, cs, ca, cb, cg, rfl, iS, iF, iL, iG, ⟨hS, hSS⟩, hF, hL, hG, hGG⟩
end
/-- How many values a machine holds. -/
def szN (S : Rw) (F L : List Int) (G : Rw) : Nat := szR S + F.length + L.length + szR G
set_option maxRecDepth 100000 in
set_option maxHeartbeats 2000000 in
theorem eqNfa_any (E : Bool) (S G : Rw) (F L : List Int) (s a b g : Option Addr) (cs ca cb cg : Nat) (s' a' b' g' : Option Addr) (cs' ca' cb' cg' : Nat) (w : World) (hl : szN S F L G ≤ 1048576) (hS : RowsAt w s S) (hF : IntsAt w a F) (hL : IntsAt w b L) (hG : RowsAt w g G) (hS' : RowsAt w s' S) (hF' : IntsAt w a' F) (hL' : IntsAt w b' L) (hG' : RowsAt w g' G) :
    Calls Try.prog 32 #[.agg #[.bool E, .slice s S.length cs, .slice a F.length ca, .slice b L.length cb, .slice g G.length cg], .agg #[.bool E, .slice s' S.length cs', .slice a' F.length ca', .slice b' L.length cb', .slice g' G.length cg']] w fun r w' => r = .returned (.bool true) ∧ Below w.heap.size w w' := by
  have HS : Hid _ := hS
  have HF : Hid _ := hF
  have HL : Hid _ := hL
  have HG : Hid _ := hG
  have HS' : Hid _ := hS'
  have HF' : Hid _ := hF'
  have HL' : Hid _ := hL'
  have HG' : Hid _ := hG'
  have hlF : F.length ≤ 1048576 := by unfold szN at hl; omega
  have hlL : L.length ≤ 1048576 := by unfold szN at hl; omega
  have HLS : Hid (szR S ≤ 1048576) := by unfold szN at hl; exact (by omega : szR S ≤ 1048576)
  have HLG : Hid (szR G ≤ 1048576) := by unfold szN at hl; exact (by omega : szR G ≤ 1048576)
  have A2 : ∀ o p, Below w.heap.size w ((w.alloc o).alloc p) := fun o p => ((Below.refl _ _).alloc (Nat.le_refl _) o).alloc (by simp) p
  have bbe : (E == E) = true := by simp
  clear hS hF hL hG hS' hF' hL' hG' hl
  go_enter Try.func32, Try.ntmps32
  go_wp2_with fail
  refine (eqIntSS_any S _ _ _ _ _ HLS.out (RowsAt.keepB HS.out (A2 _ _)) (RowsAt.keepB HS'.out (A2 _ _))).mono ?_
  rintro r w1 ⟨rfl, b1⟩
  have hb2 : w1.heap[w.heap.size]? = some (.cells #[.bool E, .slice s S.length cs, .slice a F.length ca, .slice b L.length cb, .slice g G.length cg] 58) := (b1.block w.heap.size (by simp; omega)).trans ((heap_prev _ _ _ (by simp)).trans (heap_last2 _ _ _ rfl))
  have hb3 : w1.heap[w.heap.size + 1]? = some (.cells #[.bool E, .slice s' S.length cs', .slice a' F.length ca', .slice b' L.length cb', .slice g' G.length cg'] 58) := (b1.block (w.heap.size + 1) (by simp)).trans (heap_last2 _ _ _ (by simp))
  have c1 : w1.cell? ⟨w.heap.size, 2, none⟩ = some (.slice a F.length ca) := cell_of hb2 2
  have d1 : w1.cell? ⟨w.heap.size + 1, 2, none⟩ = some (.slice a' F.length ca') := cell_of hb3 2
  have hs1 : w.heap.size + 2 ≤ w1.heap.size := Nat.le_trans (by simp) b1.size
  have B1 : Hid (Below w.heap.size w w1) := (A2 _ _).trans (b1.mono (A2 _ _).size)
  clear b1 A2
  go_wp2_with fail
  refine (eq_any F _ _ _ _ _ hlF (IntsAt.keepB HF.out B1.out) (IntsAt.keepB HF'.out B1.out)).mono ?_
  rintro r w2 ⟨rfl, b2⟩
  have hb2' := (b2.block w.heap.size (by omega)).trans hb2
  have hb3' := (b2.block (w.heap.size + 1) (by omega)).trans hb3
  have c2 : w2.cell? ⟨w.heap.size, 3, none⟩ = some (.slice b L.length cb) := cell_of hb2' 3
  have d2 : w2.cell? ⟨w.heap.size + 1, 3, none⟩ = some (.slice b' L.length cb') := cell_of hb3' 3
  have hs2 : w.heap.size + 2 ≤ w2.heap.size := Nat.le_trans hs1 b2.size
  have B2 : Hid (Below w.heap.size w w2) := B1.out.trans (b2.mono B1.out.size)
  clear b2 c1 d1 hb2 hb3
  go_wp2_with fail
  refine (eq_any L _ _ _ _ _ hlL (IntsAt.keepB HL.out B2.out) (IntsAt.keepB HL'.out B2.out)).mono ?_
  rintro r w3 ⟨rfl, b3⟩
  have c3 : w3.cell? ⟨w.heap.size, 4, none⟩ = some (.slice g G.length cg) := cell_of ((b3.block w.heap.size (by omega)).trans hb2') 4
  have d3 : w3.cell? ⟨w.heap.size + 1, 4, none⟩ = some (.slice g' G.length cg') := cell_of ((b3.block (w.heap.size + 1) (by omega)).trans hb3') 4
  have hs3 : w.heap.size + 2 ≤ w3.heap.size := Nat.le_trans hs2 b3.size
  have B3 : Hid (Below w.heap.size w w3) := B2.out.trans (b3.mono B2.out.size)
  clear b3 c2 d2 hb2' hb3'
  go_wp2_with fail
  refine (eqIntSS_any G _ _ _ _ _ HLG.out (RowsAt.keepB HG.out B3.out) (RowsAt.keepB HG'.out B3.out)).mono ?_
  rintro r w4 ⟨rfl, b4⟩
  have B4 : Hid (Below w.heap.size w w4) := B3.out.trans (b4.mono B3.out.size)
  clear b4
  go_wp2
  go_ret
  exact ⟨rfl, B4.out⟩
set_option maxRecDepth 100000 in
set_option maxHeartbeats 2000000 in
theorem szNfa_any (E : Bool) (S G : Rw) (F L : List Int) (s a b g : Option Addr) (cs ca cb cg : Nat) (w : World) (h1S : S.length ≤ maxLen) (hxS : ∀ y ∈ S, y.length ≤ maxLen) (hF : F.length ≤ maxLen) (hL : L.length ≤ maxLen) (h1G : G.length ≤ maxLen) (hxG : ∀ y ∈ G, y.length ≤ maxLen) (hS : RowsAt w s S) (hG : RowsAt w g G) :
    Calls Try.prog 36 #[.agg #[.bool E, .slice s S.length cs, .slice a F.length ca, .slice b L.length cb, .slice g G.length cg], .int .i64 1048576] w fun r w' => ((szN S F L G ≤ 1048576 ∧ r = .returned (.int .i64 (1048576 - szN S F L G))) ∨ (1048576 < szN S F L G ∧ r = .returned (.int .i64 (-1)))) ∧ Below w.heap.size w w' := by
  have HG : Hid _ := hG
  have H1G : Hid _ := h1G
  have HXG : Hid _ := hxG
  have hF1 : F.length ≤ 9223372036854775807 := hF
  have hL1 : L.length ≤ 9223372036854775807 := hL
  have A1 : ∀ o, Below w.heap.size w (w.alloc o) := fun o => (Below.refl _ _).alloc (Nat.le_refl _) o
  have HS0 : Hid _ := fun o => szIntSS_any S s cs 1048576 (w.alloc o) (by omega) (by omega) h1S hxS (RowsAt.keepB hS (A1 o))
  clear h1S hxS hF hL h1G hxG hS hG
  go_enter Try.func36, Try.ntmps36
  go_wp2_with fail
  refine (HS0.out _).mono ?_
  rintro r w1 ⟨hs, b1⟩
  have hb : w1.heap[w.heap.size]? = some (.cells #[.bool E, .slice s S.length cs, .slice a F.length ca, .slice b L.length cb, .slice g G.length cg] 65) := (b1.block w.heap.size (by simp)).trans (heap_last2 _ _ _ rfl)
  have c2 : w1.cell? ⟨w.heap.size, 2, none⟩ = some (.slice a F.length ca) := cell_of hb 2
  have c3 : w1.cell? ⟨w.heap.size, 3, none⟩ = some (.slice b L.length cb) := cell_of hb 3
  have c4 : w1.cell? ⟨w.heap.size, 4, none⟩ = some (.slice g G.length cg) := cell_of hb 4
  have B1 : Hid (Below w.heap.size w w1) := (A1 _).trans (b1.mono (by simp))
  clear b1 hb A1 HS0
  rcases hs with ⟨hs, rfl⟩ | ⟨hs, rfl⟩
  case inr =>
    go_wp2
    go_ret
    exact ⟨.inr ⟨by unfold szN; omega, rfl⟩, B1.out⟩
  have h0 : ¬ (1048576 : Int) - szR S < 0 := by omega
  have hszs : (szR S : Int) ≤ 1048576 := by omega
  by_cases h1 : (1048576 : Int) - szR S - F.length < 0
  · clear hs
    go_wp2_with (first | (go_at_call 89; go_in) | fail)
    go_ret
    exact ⟨.inr ⟨by unfold szN; omega, rfl⟩, by first | exact B1.out | (refine B1.out.trans ?_; go_grown)⟩
  · by_cases h2 : (1048576 : Int) - szR S - F.length - L.length < 0
    · clear hs
      go_wp2_with (first | (go_at_call 89; go_in) | fail)
      go_ret
      exact ⟨.inr ⟨by unfold szN; omega, rfl⟩, by first | exact B1.out | (refine B1.out.trans ?_; go_grown)⟩
    · clear hs
      go_wp2_with (first | (go_at_call 89; go_in) | fail)
      refine (szIntSS_any G g cg _ _ (by omega) (by omega) H1G.out HXG.out (RowsAt.keepB HG.out B1.out)).mono ?_
      rintro r w2 ⟨hs, b2⟩
      have B2 : Hid (Below w.heap.size w w2) := B1.out.trans (b2.mono B1.out.size)
      clear b2
      rcases hs with ⟨hs, rfl⟩ | ⟨hs, rfl⟩
      · have h4 : ¬ (1048576 : Int) - szR S - F.length - L.length - szR G < 0 := by omega
        have hszr : (szR G : Int) ≤ 1048576 := by omega
        clear hs
        go_wp2
        go_ret
        exact ⟨.inl ⟨by unfold szN; omega, congrArg (fun z : Int => Ending.returned (.int .i64 z)) (by unfold szN; push_cast; omega)⟩, B2.out⟩
      · go_wp2
        go_ret
        exact ⟨.inr ⟨by unfold szN; omega, rfl⟩, B2.out⟩
end Go.Proofs.Ytlkcdcdgpklpoaa

/-
  One step of a machine of words: l8Step of the specification; StepAho of both.
-/
import Derived.Test.YtabjjlcjephhkaaW8Z
namespace Go.Proofs.Ytabjjlcjephhkaa
open Go.ChangeShapes Go.WideShapes Go.ChangeAt Go.WideMaps Go.WideElems Go.RowKit
theorem rdQ_at (P B F : List Int) (V : Nat → Value) (j : Nat) (hj : 0 < j) : ∀ k, j < k → sq (rdQ P B F V k) j = ⟨P.getD j 0, B.getD j 0, (sq (rdQ P B F V j) (P.getD j 0).toNat).l + 1, F.getD j 0, V j⟩
  | 0, h => absurd h (by omega)
  | k + 1, h => by
    have hl := rdQ_len P B F V k (by omega)
    rw [rdQ_step _ _ _ _ (by omega)]
    by_cases e : j < k
    · rw [sq_old _ _ _ (by omega)]
      exact rdQ_at P B F V j hj k e
    · obtain rfl : j = k := by omega
      have hs := sq_new (rdQ P B F V j) ⟨P.getD j 0, B.getD j 0, (sq (rdQ P B F V j) (P.getD j 0).toNat).l + 1, F.getD j 0, V j⟩
      rwa [hl] at hs
theorem okA_fail {P B F : List Int} {R : Rw} (h : okA P B F R) (V : Nat → Value) : FailOk (rdQ P B F V P.length) := fun j j0 jl => by
  rw [rdQ_len _ _ _ _ _ (by have := h.1.1; omega)] at jl
  rw [rdQ_at P B F V j j0 _ jl]
  have := ((h.2.2.2 j jl).2 j0).2.2.1
  dsimp only
  omega
theorem okA_edge {P B F : List Int} {R : Rw} (h : okA P B F R) {f b : Int} (hf : 0 ≤ f) {j : Nat} (hj : j < P.length) (h1 : P.getD j 0 = f) (h2 : B.getD j 0 = b) : rdE P B P.length f b = some j := by
  have j0 : 0 < j := by
    rcases Nat.eq_zero_or_pos j with e | e
    · subst e
      have := h.2.2.1.1
      omega
    · exact e
  cases he : rdE P B P.length f b with
  | none => exact absurd ⟨h1, h2⟩ (rdE_none P B f b _ he j j0 hj)
  | some i =>
    obtain ⟨i1, i2, i3, i4⟩ := rdE_some P B f b i _ he
    rcases Nat.lt_trichotomy i j with e | e | e
    · exact absurd ⟨i3.trans h1.symm, i4.trans h2.symm⟩ (((h.2.2.2 j hj).2 j0).2.2.2 i i1 e)
    · rw [e]
    · exact absurd ⟨h1.trans i3.symm, h2.trans i4.symm⟩ (((h.2.2.2 i i2).2 (by omega)).2.2.2 j j0 e)
theorem okA_none {P B F : List Int} {R : Rw} (_h : okA P B F R) {f b : Int} (hn : ∀ j, j < P.length → ¬ (P.getD j 0 = f ∧ B.getD j 0 = b)) : rdE P B P.length f b = none := by
  cases he : rdE P B P.length f b with
  | none => rfl
  | some i =>
    obtain ⟨i1, i2, i3, i4⟩ := rdE_some P B f b i _ he
    exact absurd ⟨i3, i4⟩ (hn i i2)
def noEdge (P B : List Int) (s : Nat) (r : Int) (k : Nat) : Prop := ∀ j, j < k → ¬ (P.getD j 0 = (s : Int) ∧ B.getD j 0 = r)
set_option maxRecDepth 100000 in
set_option maxHeartbeats 4000000 in
theorem sstep_any (P B F : List Int) (R : Rw) (hok : okA P B F R) (V : Nat → Value) (r : Int) : ∀ (d s : Nat), s < d → s < P.length → ∀ (a b c e : Option Addr) (ca cb cc ne ce : Nat) (w : World), IntsAt w a P → IntsAt w b B → IntsAt w c F →
    Calls Try.prog 68 #[.agg #[.slice a P.length ca, .slice b P.length cb, .slice c P.length cc, .slice e ne ce], .int .i64 s, .int .i64 r] w fun x w' => x = .returned (.int .i64 (stepN (rdQ P B F V P.length) (rdE P B P.length) s r)) ∧ Below w.heap.size w w'
  | 0, _, h, _ => fun _ _ _ _ _ _ _ _ _ _ _ _ _ => absurd h (by omega)
  | d + 1, s, hd, hs => fun a b c e ca cb cc ne ce w hA hB hC => by
    have HIH : Hid (∀ s', s' < d → s' < P.length → ∀ (a b c e : Option Addr) (ca cb cc ne ce : Nat) (w : World), IntsAt w a P → IntsAt w b B → IntsAt w c F → Calls Try.prog 68 #[.agg #[.slice a P.length ca, .slice b P.length cb, .slice c P.length cc, .slice e ne ce], .int .i64 s', .int .i64 r] w fun x w' => x = .returned (.int .i64 (stepN (rdQ P B F V P.length) (rdE P B P.length) s' r)) ∧ Below w.heap.size w w') := fun s' h1 h2 => sstep_any P B F R hok V r d s' h1 h2
    have HOK : Hid _ := hok
    have A1 := al_W w (.cells #[.slice a P.length ca, .slice b P.length cb, .slice c P.length cc, .slice e ne ce] 37)
    have h0 : 0 < P.length := by omega
    obtain ⟨pb, po, rfl, -, -⟩ := hA 0 h0
    obtain ⟨qb, qo, rfl, -, -⟩ := hB 0 (by rw [hok.2.1.1]; exact h0)
    obtain ⟨fb, fo, rfl, -, -⟩ := hC 0 (by rw [hok.2.1.2.1]; exact h0)
    have HA : Hid _ := IntsAt.keepB hA A1
    have HB : Hid _ := IntsAt.keepB hB A1
    have HC : Hid _ := IntsAt.keepB hC A1
    have hbl : (w.alloc (.cells #[.slice (some ⟨pb, po, none⟩) P.length ca, .slice (some ⟨qb, qo, none⟩) P.length cb, .slice (some ⟨fb, fo, none⟩) P.length cc, .slice e ne ce] 37)).heap[w.heap.size]? = some (.cells #[.slice (some ⟨pb, po, none⟩) P.length ca, .slice (some ⟨qb, qo, none⟩) P.length cb, .slice (some ⟨fb, fo, none⟩) P.length cc, .slice e ne ce] 37) := heap_last2 _ _ _ rfl
    have HBL : Hid _ := hbl
    have HA1 : Hid _ := A1
    have H2 : Hid (B.length = P.length ∧ F.length = P.length) := ⟨hok.2.1.1, hok.2.1.2.1⟩
    have hn : P.length ≤ 100 := hok.1.2
    clear hA hB hC hbl A1 hok
    go_enter Try.func68, Try.ntmps68
    go_wp2
    go_loopw [11] (fun i wr => ∃ k : Nat, k ≤ P.length ∧ i = .int .i64 k ∧ noEdge P B s r k ∧ wr = w.alloc (.cells #[.slice (some ⟨pb, po, none⟩) P.length ca, .slice (some ⟨qb, qo, none⟩) P.length cb, .slice (some ⟨fb, fo, none⟩) P.length cc, .slice e ne ce] 37)) (fun i _ => P.length - (intOf i).toNat)
    case atStart => exact ⟨0, Nat.zero_le _, rfl, fun j hj => absurd hj (by omega), rfl⟩
    case round =>
      obtain ⟨k, hk, rfl, hno, rfl⟩ := hrel
      have HNO : Hid _ := hno
      clear hno
      have d0 := cell_of HBL.out 0
      have d1 := cell_of HBL.out 1
      have d2 := cell_of HBL.out 2
      have d3 := cell_of HBL.out 3
      simp only [List.getElem?_toArray, List.getElem?_cons_zero, List.getElem?_cons_succ] at d0 d1 d2 d3
      by_cases hlt : k < P.length
      · have hltI : (k : Int) < (P.length : Int) := by omega
        obtain ⟨_, _, pe, -, pc⟩ := HA.out k hlt
        cases pe
        obtain ⟨_, _, qe, -, qc⟩ := HB.out k (by rw [H2.out.1]; exact hlt)
        cases qe
        by_cases e1 : P.getD k 0 = (s : Int)
        · by_cases e2 : B.getD k 0 = r
          · have HST : Hid (stepN (rdQ P B F V P.length) (rdE P B P.length) s r = k) := stepN_yes (okA_edge HOK.out (by omega) hlt e1 e2)
            rw [e1] at pc
            rw [e2] at qc
            clear e1 e2
            go_wp2
            go_ret
            exact ⟨by rw [HST.out] <;> rfl, HA1.out⟩
          · have HN : Hid (noEdge P B s r (k + 1)) := fun j hj h => by
              by_cases ej : j = k
              · exact e2 (ej ▸ h.2)
              · exact HNO.out j (by omega) h
            rw [e1] at pc
            generalize B.getD k 0 = y at qc e2
            have e2b : decide (y = r) = false := decide_eq_false e2
            have e2c : (y == r) = false := by simpa using e2
            clear e1
            go_wp2
            go_roundw
            case rel => exact ⟨k + 1, by omega, by go_num, HN.out, by first | rfl | trivial⟩
            case measure => simp [intOf]; omega
        · have HN : Hid (noEdge P B s r (k + 1)) := fun j hj h => by
            by_cases ej : j = k
            · exact e1 (ej ▸ h.1)
            · exact HNO.out j (by omega) h
          generalize P.getD k 0 = x at pc e1
          have e1b : decide (x = (s : Int)) = false := decide_eq_false e1
          have e1c : (x == (s : Int)) = false := by simpa using e1
          clear qc
          go_wp2
          go_roundw
          case rel => exact ⟨k + 1, by omega, by go_num, HN.out, by first | rfl | trivial⟩
          case measure => simp [intOf]; omega
      · obtain rfl : k = P.length := by omega
        have hltI : ¬ (P.length : Int) < (P.length : Int) := by omega
        have he := okA_none HOK.out HNO.out
        by_cases hs0 : s = 0
        · have hs0I : ((s : Int) == 0) = true := by simp; omega
          have hs0K : decide ((s : Int) = 0) = true := decide_eq_true (by omega)
          have HST : Hid (stepN (rdQ P B F V P.length) (rdE P B P.length) s r = 0) := by
            subst hs0
            exact stepN_zero he
          clear he hs0
          go_wp2
          go_ret
          exact ⟨by rw [HST.out] <;> rfl, HA1.out⟩
        · have hs0I : ((s : Int) == 0) = false := by simp; omega
          have hs0J : ¬ (s : Int) = 0 := by omega
          have hs0K : decide ((s : Int) = 0) = false := decide_eq_false hs0J
          have hlq := rdQ_len P B F V P.length (by omega)
          obtain ⟨f1, f2⟩ := (okA_fail HOK.out V).lt (s := s) (by omega) (by omega)
          have HST : Hid (stepN (rdQ P B F V P.length) (rdE P B P.length) s r = stepN (rdQ P B F V P.length) (rdE P B P.length) (failN (rdQ P B F V P.length) s) r) := stepN_back (okA_fail HOK.out V) (by omega) (by omega) he
          rw [rdQ_at P B F V s (by omega) _ hs] at f2
          dsimp only at f2
          generalize failN (rdQ P B F V P.length) s = fs at f1 f2 HST
          have hsI : (s : Int) < (P.length : Int) := by omega
          obtain ⟨_, _, fe, -, fc⟩ := HC.out s (by rw [H2.out.2]; exact hs)
          cases fe
          rw [← f2] at fc
          have HREC : Hid _ := fun (w' : World) (hw : w' = (w.alloc (.cells #[.slice (some ⟨pb, po, none⟩) P.length ca, .slice (some ⟨qb, qo, none⟩) P.length cb, .slice (some ⟨fb, fo, none⟩) P.length cc, .slice e ne ce] 37)).drew) => HIH.out fs (by omega) (by omega) (some ⟨pb, po, none⟩) (some ⟨qb, qo, none⟩) (some ⟨fb, fo, none⟩) e ca cb cc ne ce w' (hw ▸ IntsAt.keepB HA.out (Below.refl _ _).drew) (hw ▸ IntsAt.keepB HB.out (Below.refl _ _).drew) (hw ▸ IntsAt.keepB HC.out (Below.refl _ _).drew)
          have HR2 : Hid (Calls Try.prog 68 #[.agg #[.slice (some ⟨pb, po, none⟩) P.length ca, .slice (some ⟨qb, qo, none⟩) P.length cb, .slice (some ⟨fb, fo, none⟩) P.length cc, .slice e ne ce], .int .i64 fs, .int .i64 r] (w.alloc (.cells #[.slice (some ⟨pb, po, none⟩) P.length ca, .slice (some ⟨qb, qo, none⟩) P.length cb, .slice (some ⟨fb, fo, none⟩) P.length cc, .slice e ne ce] 37)).drew fun x w' => x = .returned (.int .i64 (stepN (rdQ P B F V P.length) (rdE P B P.length) fs r)) ∧ Below w.heap.size w w') := (HREC.out _ rfl).mono fun x w' ⟨h1, h2⟩ => ⟨h1, HA1.out.drew.trans (h2.mono HA1.out.drew.size)⟩
          clear he hs0 HREC f1 f2 hlq
          go_wp2
          go_region_law (first
            | (go_simp
               go_at_call 68
               (with_reducible refine Calls.mono HR2.out ?_)
               rintro x w3 ⟨rfl, b3⟩
               have B3 : Hid (Below w.heap.size w w3) := b3
               clear b3
               dsimp only))
          all_goals
            go_wp2
            go_ret
            exact ⟨by rw [HST.out] <;> rfl, B3.out⟩
end Go.Proofs.Ytabjjlcjephhkaa

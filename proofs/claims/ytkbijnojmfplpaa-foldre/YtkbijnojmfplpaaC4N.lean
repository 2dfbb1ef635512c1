/-
  slices.SortFunc at spans; (runeSet).list; impl.joinSpans.
-/
import Derived.Test.YtkbijnojmfplpaaC4M
import Derived.Test.YtkbijnojmfplpaaC4H
namespace Go.Proofs.Ytkbijnojmfplpaa
open Go.ChangeShapes Go.WideShapes Go.ChangeAt Go.RowKit
open Go.Shelf Go.Sort
/-- A span whose first number is no great one. -/
structure Sp where
  p : Int × Int
  h : -4000000 ≤ p.1 ∧ p.1 ≤ 4000000
instance : Inhabited Sp := ⟨⟨(0, 0), by decide⟩⟩
def encSp (x : Sp) : List Value := [.int .i64 x.p.1, .int .i64 x.p.2]
def cfSp (x y : Sp) : Int := x.p.1 - y.p.1
theorem ltSp (x y : Sp) : ltOf cfSp x y = decide (x.p.1 < y.p.1) := by
  unfold ltOf cfSp
  exact decide_eq_decide.2 ⟨fun h => by omega, fun h => by omega⟩
theorem swoSp : SWO (ltOf cfSp) where
  irrefl x := by rw [ltSp]; simp
  trans x y z h1 h2 := by rw [ltSp] at *; simp at *; omega
  ntrans x y z h1 h2 := by rw [ltSp] at *; simp at *; omega
set_option maxRecDepth 100000 in
set_option maxHeartbeats 1000000 in
theorem closure4 (a b c d : Int) (h : -4000000 ≤ a ∧ a ≤ 4000000) (h' : -4000000 ≤ c ∧ c ≤ 4000000) (W : World) : Calls Try.prog 120 #[.agg #[.int .i64 a, .int .i64 b], .agg #[.int .i64 c, .int .i64 d]] W fun e w' => e = .returned (.int .i64 (a - c)) ∧ ∃ q os', w' = grow (W.drewN q) os' := by
  obtain ⟨h1, h2⟩ := h
  obtain ⟨h3, h4⟩ := h'
  go_enter Try.func120, Try.ntmps120
  go_wp2
  go_ret
  exact ⟨rfl, 0, _, by rw [alloc_eq_grow, alloc_eq_grow, grow_grow]; rfl⟩
theorem cmpLays4 (blk off size : Nat) (w : World) : CmpLays Try.prog 120 #[] encSp 2 cfSp blk off size w :=
  fun _ _ _ _ x y => closure4 x.p.1 x.p.2 y.p.1 y.p.2 x.h y.h _
def liftSp (S : List (Int × Int)) (hS : ∀ p ∈ S, -4000000 ≤ p.1 ∧ p.1 ≤ 4000000) : Array Sp := (S.pmap (fun p h => (⟨p, h⟩ : Sp)) hS).toArray
theorem lift_size (S : List (Int × Int)) (hS) : (liftSp S hS).size = S.length := by simp [liftSp]
theorem lift_map (S : List (Int × Int)) (hS) : (liftSp S hS).toList.map (·.p) = S := by
  simp [liftSp, List.map_pmap]
theorem get_bang (d : Array Sp) (j : Nat) (hj : j < d.size) : (d[j]!).p = (d.toList.map (·.p)).getD j (0, 0) := by
  simp [List.getD, hj]
theorem perm_of (d d' : Array Sp) (h : PermIn 0 d.size d d') : (d'.toList.map (·.p)).Perm (d.toList.map (·.p)) := by
  obtain ⟨h1, _, h3⟩ := h
  rw [show d.extract 0 d.size = d by simp, show d'.extract 0 d.size = d' by rw [← h1]; simp] at h3
  exact h3.map _
theorem grown_sort (w : World) (g n : Nat) (d : Array Sp) (os : Array Obj) : w.grownBy (sortWorldK encSp 2 w g 0 n d os) (some g) := by
  refine ⟨rfl, rfl, rfl, ?_, fun k hk hne => ?_⟩
  · simp [sortWorldK, grow, putRowK, putRow, mapBlock]
  · have hk' : k < (putRowK encSp 2 (Sort.ahead w n) g 0 d).heap.size := by simpa [putRowK] using hk
    show ((putRowK encSp 2 (Sort.ahead w n) g 0 d).heap ++ os)[k]? = _
    rw [Array.getElem?_append_left hk']
    show ((Sort.ahead w n).heap.modify g _)[k]? = _
    rw [Array.getElem?_modify, if_neg (fun e => hne (by rw [e]))]
    rfl
theorem sort_any (S : List (Int × Int)) (hS : ∀ p ∈ S, -4000000 ≤ p.1 ∧ p.1 ≤ 4000000) (hl : S.length ≤ 1048576) (base : Nat) (v : Value) (w : World) (h : ownS w base v S) :
    Calls Try.prog 119 #[v, .func (.func 120) #[] #[]] w fun e w' => e = .returned (.tuple #[]) ∧ ∃ S', S'.Perm S ∧ S'.Pairwise (fun p q => p.1 ≤ q.1) ∧ (∃ ao cap, v = .slice ao S'.length cap ∧ SpansAt w' ao S') ∧ w.grownBy w' v.ownBlock := by
  rcases h.2 with ⟨rfl, h0⟩ | ⟨g, cap, cur, rfl, h2, h3, h4⟩
  · obtain rfl : S = [] := List.eq_nil_of_length_eq_zero h0
    have hcon := AnyF.slices_SortFunc_none { Try.sortSp with } none 0 (.func (.func 120) #[] #[]) w
    change Calls Try.prog 119 _ _ _ at hcon
    refine hcon.mono ?_
    rintro e w' ⟨rfl, rfl⟩
    exact ⟨rfl, [], List.Perm.refl _, List.Pairwise.nil, ⟨none, 0, rfl, fun j hj => by simp at hj⟩, ⟨rfl, rfl, rfl, Nat.le_refl _, fun _ _ _ => rfl⟩⟩
  · have eg : ∀ args w, (callFunc 120 args).run Try.prog w = .ok (.enter 120 args) w := enters_of Try.func120 (by kernel_rfl) rfl
    have hds := lift_size S hS
    have hlt : g < w.heap.size := (Array.getElem?_eq_some_iff.1 h3).1
    have hH : HoldsK encSp 2 w g 0 (liftSp S hS) := by
      intro t ht
      rw [size_flatK, hds] at ht
      refine ⟨?_, World.ownsRow.frozenAt h _⟩
      rw [get_flatK encSp 2 _ t (by rw [hds]; exact ht), Nat.zero_add, World.ownsRow.cellAt h t ht]
      have hj : t / 2 < S.length := by omega
      have hf := fl_at S (t / 2) hj
      have hg := get_bang (liftSp S hS) (t / 2) (by rw [hds]; exact hj)
      rw [lift_map] at hg
      unfold encSp
      rw [hg]
      rcases (by omega : t % 2 = 0 ∨ t % 2 = 1) with e | e
      · rw [show t / 2 * 2 = t by omega] at hf
        simp only [ints, List.getElem?_map, hf.1, e]
        rfl
      · rw [show t / 2 * 2 + 1 = t by omega] at hf
        simp only [ints, List.getElem?_map, hf.2, e]
        rfl
    have hcon := AnyQ.slices_SortFunc Try.sortSp 2 Try.isAgg103 Try.sizeOf103 encSp (fun _ => rfl) (fun x v hv => by simp [encSp] at hv; rcases hv with rfl | rfl <;> rfl) cfSp swoSp 120 #[] g 0 cap (liftSp S hS) w eg (cmpLays4 g 0 _ w) hH hlt (by rw [hds]; omega)
    rw [hds] at hcon
    change Calls Try.prog 119 _ _ _ at hcon
    refine hcon.mono ?_
    rintro e w' ⟨rfl, d', n, os, hp, hs, rfl⟩
    have hsz : d'.size = S.length := by rw [← hds]; exact hp.1
    have hp' := hp
    rw [← hds] at hp
    have hperm := perm_of _ _ hp
    rw [lift_map] at hperm
    have hlen : (d'.toList.map (·.p)).length = S.length := by simp [hsz]
    refine ⟨rfl, d'.toList.map (·.p), hperm, ?_, ⟨_, cap, by rw [hlen], ?_⟩, grown_sort w g n d' os⟩
    · rw [List.pairwise_iff_getElem]
      intro i j hi hj hij
      have h5 := hs i j (Nat.zero_le _) hij (by simp at hj; omega)
      rw [ltSp] at h5
      have h5 := of_decide_eq_false h5
      have e1 := get_bang d' i (by simp at hi; exact hi)
      have e2 := get_bang d' j (by simp at hj; exact hj)
      rw [e1, e2] at h5
      simp only [List.getD, List.getElem?_eq_getElem hi, List.getElem?_eq_getElem hj, Option.getD_some] at h5
      omega
    · intro j hj
      have hj' : j < d'.size := by simpa using hj
      have hH' : HoldsK encSp 2 (sortWorldK encSp 2 w g 0 n d' os) g 0 d' := holdsK_grow encSp 2 _ os g 0 d' (by simpa [putRowK] using hlt) (holdsK_putRowK encSp 2 _ g 0 (liftSp S hS) d' hH (by rw [hsz, hds]))
      have c1 := (hH'.cell (c := 0) hj' (by decide)).1
      have c2 := (hH'.cell (c := 1) hj' (by decide)).1
      have e1 := get_bang d' j hj'
      refine ⟨g, 0, rfl, Nat.lt_of_lt_of_le hlt (grown_sort w g n d' os).size, ?_, ?_⟩
      · rw [← e1]
        exact c1
      · rw [← e1]
        exact c2
/-- The numbers of a set: of each span its first and its last. -/
def flS : List (Int × Int) → List Int
  | [] => []
  | p :: r => p.1 :: (p.2 - 1) :: flS r
theorem flS_len (S : List (Int × Int)) : (flS S).length = 2 * S.length := by
  induction S with
  | nil => rfl
  | cons p r ih => simp [flS, ih]; omega
theorem flS_append (A B : List (Int × Int)) : flS (A ++ B) = flS A ++ flS B := by
  induction A with
  | nil => rfl
  | cons p r ih => simp [flS, ih]
theorem pad_get (A : List (Int × Int)) (k : Nat) : (pad A).getD (k * 2) 0 = (A.getD k (0, 0)).1 ∧ (pad A).getD (k * 2 + 1) 0 = (A.getD k (0, 0)).2 := by
  have hl := fl_len A
  by_cases h : k < A.length
  · have hf := fl_at A k h
    unfold pad
    constructor
    · rw [List.getD_eq_getElem?_getD, List.getElem?_append_left (by omega), hf.1]; rfl
    · rw [List.getD_eq_getElem?_getD, List.getElem?_append_left (by omega), hf.2]; rfl
  · have e : A.getD k (0, 0) = (0, 0) := by simp [List.getD, List.getElem?_eq_none (Nat.le_of_not_lt h)]
    rw [e]
    unfold pad
    constructor
    · rw [List.getD_eq_getElem?_getD, List.getElem?_append_right (by omega), List.getElem?_replicate]
      split <;> rfl
    · rw [List.getD_eq_getElem?_getD, List.getElem?_append_right (by omega), List.getElem?_replicate]
      split <;> rfl
theorem flS_take (A : List (Int × Int)) (k : Nat) (h : k < A.length) : flS (A.take (k + 1)) = flS (A.take k) ++ [(A.getD k (0, 0)).1, (A.getD k (0, 0)).2 - 1] := by
  rw [take_snocS A k h, flS_append]
  rfl
theorem ints_new2 (w : World) (x y : Int) (t : TypeId) (B : Nat) (hB : B = w.heap.size) : IntsAt (w.alloc (.cells #[.int .i64 x, .int .i64 y] t)) (some ⟨B, 0, none⟩) [x, y] := fun j hj => by
  subst hB
  refine ⟨w.heap.size, 0, rfl, by simp, ?_⟩
  rw [Nat.zero_add, World.cell?_alloc_new]
  rcases (by simp at hj; omega : j = 0 ∨ j = 1) with e | e <;> subst e <;> rfl
set_option maxRecDepth 100000 in
set_option maxHeartbeats 2000000 in
theorem list_any (A : List (Int × Int)) (w : World) (hA : A.length ≤ 12) (hne : ∀ p ∈ A, p.1 < p.2) (hbd : ∀ p ∈ A, -4000000 ≤ p.1 ∧ p.2 ≤ 4000000) :
    Calls Try.prog 121 #[setV A] w fun e w' => ∃ v, e = .returned v ∧ w'.ownsRow w.heap.size 3 1 v (flS A).length (ints (flS A)) ∧ Below w.heap.size w w' := by
  have HFL : Hid ((pad A).length = 24) := pad_len hA
  have HNE : Hid _ := hne
  have HBD : Hid _ := hbd
  have hix := index64 (pad A) HFL.out
  have HRA : Hid ((w.alloc (.cells (ints (pad A)).toArray 105)).rangeAt w.heap.size 0 (ints (pad A))) := fun j v hv => by
    rw [Nat.zero_add, World.cell?_alloc_new]
    simpa using hv
  clear hne hbd
  unfold setV
  go_enter Try.func121, Try.ntmps121
  go_wp2_with (refine wpList_load_mid rfl 105 (.tmp 1) rfl w.heap.size 0 rfl (ints (pad A)) _ HRA.out Try.underlying105 rfl (by rw [info64, ints_len, HFL.out]) ?_)
  go_loopw [3, 7] (fun v i wr => ∃ k : Nat, k ≤ 12 ∧ i = .int .i64 k ∧ wr.ownsRow w.heap.size 3 1 v (flS (A.take k)).length (ints (flS (A.take k))) ∧ Below w.heap.size w wr) (fun _ i _ => 12 - (intOf i).toNat)
  case atStart => exact ⟨0, Nat.zero_le _, rfl, by simp only [List.take_zero]; exact World.ownsRow_nil _ _ _ _, (Below.refl _ _).alloc (Nat.le_refl _) _⟩
  case round =>
    obtain ⟨k, hk, rfl, hown, hbw⟩ := hrel
    by_cases hlt : k < 12
    · have hltI : (k : Int) < 12 := by omega
      have hik := fun w => hix k hlt w
      have hp := pad_get A k
      rw [hp.1, hp.2] at hik
      have OWN : Hid _ := hown
      have HB : Hid _ := hbw
      clear hp hix hown hbw
      by_cases hka : k < A.length
      · have hmem : A.getD k (0, 0) ∈ A := by simp [List.getD, hka]
        have hlt2 := HNE.out _ hmem
        have hb1 := (HBD.out _ hmem).1
        have hb2 := (HBD.out _ hmem).2
        have HT : Hid _ := flS_take A k hka
        have hlen : (flS (A.take k)).length ≤ 24 := by rw [flS_len]; simp; omega
        clear hmem
        generalize hq : A.getD k (0, 0) = q at *
        obtain ⟨a, b⟩ := q
        simp only at hlt2 hb1 hb2 hik
        have hbf : decide (b ≤ a) = false := decide_eq_false (by omega)
        clear hq
        go_wp2_with fail
        refine (isEmpty_any a b _).mono ?_
        rintro e w2 ⟨rfl, b2⟩
        have B2 : Hid (Below wr.heap.size wr w2) := ((Below.refl _ _).alloc (Nat.le_refl _) _).trans (b2.mono (by simp))
        have c1 : w2.cell? ⟨wr.heap.size, 0, none⟩ = some (.int .i64 a) := (b2.cell (p := ⟨wr.heap.size, 0, none⟩) (by simp)).trans (by simp)
        have c2 : w2.cell? ⟨wr.heap.size, 1, none⟩ = some (.int .i64 b) := (b2.cell (p := ⟨wr.heap.size, 1, none⟩) (by simp)).trans (by simp)
        have OW2 : Hid _ := World.ownsRow.keepB OWN.out B2.out
        have HB2 : Hid (Below w.heap.size w w2) := HB.out.trans (B2.out.mono HB.out.size)
        have AL : ∀ o, Below w2.heap.size w2 (w2.alloc o) := fun o => (Below.refl _ _).alloc (Nat.le_refl _) o
        clear b2
        rw [hbf]
        go_wp2_with (at_builtin; refine wpA _ rfl _ _ rfl w.heap.size _ _ _ rfl (World.ownsRow.keepB OW2.out (AL _)) (some ⟨w2.heap.size, 0, none⟩) [a, b - 1] 2 2 rfl rfl (ints_new2 w2 _ _ _ _ rfl) ?c1 ?c2 ?_)
        case c1 => omega
        case c2 => have := HB2.out.size; simp; omega
        intro v' w3 hown3 hgrow _
        have hb3 : Below w.heap.size w w3 := Below.grown (HB2.out.trans ((AL _).mono HB2.out.size)) hgrow (Below.size (HB2.out.trans ((AL _).mono HB2.out.size))) (fun g hg => (World.ownsRow.lt OW2.out g hg).1)
        clear hgrow
        go_wp2
        go_roundw
        case rel => exact ⟨k + 1, by omega, by go_num, own_cast hown3 (by rw [HT.out]; simp) (by rw [HT.out]; simp [ints]), hb3⟩
        case measure => simp [intOf]; omega
      · have hq : A.getD k (0, 0) = (0, 0) := by simp [List.getD, List.getElem?_eq_none (Nat.le_of_not_lt hka)]
        rw [hq] at hik
        simp only at hik
        have HT : Hid (A.take (k + 1) = A.take k) := by show A.take (k + 1) = A.take k; rw [List.take_of_length_le (by omega), List.take_of_length_le (by omega)]
        have hbf : decide ((0 : Int) ≤ 0) = true := decide_eq_true (by omega)
        clear hq
        go_wp2_with fail
        refine (isEmpty_any 0 0 _).mono ?_
        rintro e w2 ⟨rfl, b2⟩
        have B2 : Hid (Below wr.heap.size wr w2) := ((Below.refl _ _).alloc (Nat.le_refl _) _).trans (b2.mono (by simp))
        clear b2
        rw [hbf]
        go_wp2
        go_roundw
        case rel => exact ⟨k + 1, by omega, by go_num, by rw [HT.out]; exact World.ownsRow.keepB OWN.out B2.out, HB.out.trans (B2.out.mono HB.out.size)⟩
        case measure => simp [intOf]; omega
    · have hk12 : k = 12 := by omega
      subst hk12
      rw [List.take_of_length_le hA] at hown
      clear hix
      go_wp2
      go_ret
      exact ⟨_, rfl, hown, hbw⟩
end Go.Proofs.Ytkbijnojmfplpaa

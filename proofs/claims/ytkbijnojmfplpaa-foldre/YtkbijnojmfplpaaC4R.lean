/-
  A span is added to a set in the specification: l1Least, l1Most, l4Add.
-/
import Derived.Test.YtkbijnojmfplpaaC4P
import Derived.Deep.RegionLaw
namespace Go.Proofs.Ytkbijnojmfplpaa
open Go.ChangeShapes Go.WideShapes Go.ChangeAt Go.RowKit
theorem least_any (a b : Int) (w : World) : Calls Try.prog 115 #[.int .i64 a, .int .i64 b] w fun e w' => e = .returned (.int .i64 (min a b)) ∧ w = w' := by
  by_cases h : a < b
  · rw [show min a b = a by omega]
    go_enter Try.func115, Try.ntmps115
    go_wp2
    go_ret
    exact ⟨rfl, rfl⟩
  · rw [show min a b = b by omega]
    go_enter Try.func115, Try.ntmps115
    go_wp2
    go_ret
    exact ⟨rfl, rfl⟩
theorem most_any (a b : Int) (w : World) : Calls Try.prog 116 #[.int .i64 a, .int .i64 b] w fun e w' => e = .returned (.int .i64 (max a b)) ∧ w = w' := by
  by_cases h : b < a
  · rw [show max a b = a by omega]
    go_enter Try.func116, Try.ntmps116
    go_wp2
    go_ret
    exact ⟨rfl, rfl⟩
  · rw [show max a b = b by omega]
    go_enter Try.func116, Try.ntmps116
    go_wp2
    go_ret
    exact ⟨rfl, rfl⟩
theorem addF_snoc (A : List (Int × Int)) (p : Int × Int) (lo hi : Int) : addF (A ++ [p]) lo hi = if p.2 < (addF A lo hi).2.1 ∨ (addF A lo hi).2.2 < p.1 then ((addF A lo hi).1 ++ [p], (addF A lo hi).2) else ((addF A lo hi).1, min (addF A lo hi).2.1 p.1, max (addF A lo hi).2.2 p.2) := by
  induction A generalizing lo hi with
  | nil =>
    show (if p.2 < lo ∨ hi < p.1 then ([p], lo, hi) else ([], min lo p.1, max hi p.2)) = (if p.2 < lo ∨ hi < p.1 then ([p], lo, hi) else ([], min lo p.1, max hi p.2))
    rfl
  | cons q r ih =>
    simp only [List.cons_append]
    by_cases h : q.2 < lo ∨ hi < q.1
    · rw [show addF (q :: (r ++ [p])) lo hi = (q :: (addF (r ++ [p]) lo hi).1, (addF (r ++ [p]) lo hi).2) by rw [addF, if_pos h], show addF (q :: r) lo hi = (q :: (addF r lo hi).1, (addF r lo hi).2) by rw [addF, if_pos h], ih]
      by_cases h2 : p.2 < (addF r lo hi).2.1 ∨ (addF r lo hi).2.2 < p.1
      · rw [if_pos h2, if_pos h2]; rfl
      · rw [if_neg h2, if_neg h2]
    · rw [show addF (q :: (r ++ [p])) lo hi = addF (r ++ [p]) (min lo q.1) (max hi q.2) by conv => lhs; rw [addF, if_neg h]]
      rw [show addF (q :: r) lo hi = addF r (min lo q.1) (max hi q.2) by conv => lhs; rw [addF, if_neg h]]
      exact ih _ _
theorem insS_at {o : List (Int × Int)} {l h : Int} {i : Nat} (hi : i ≤ o.length) (h1 : ∀ j, j < i → (o.getD j (0, 0)).1 < l) (h2 : i = o.length ∨ ¬ (o.getD i (0, 0)).1 < l) : insS o l h = o.take i ++ (l, h) :: o.drop i := by
  induction o generalizing i with
  | nil =>
    obtain rfl : i = 0 := by simpa using hi
    rfl
  | cons p r ih =>
    cases i with
    | zero =>
      have hp : ¬ p.1 < l := by
        rcases h2 with h2 | h2
        · simp at h2
        · simpa using h2
      have hd : ¬ decide (p.1 < l) = true := by simpa using hp
      unfold insS
      rw [List.takeWhile_cons, List.dropWhile_cons, if_neg hd, if_neg hd]
      rfl
    | succ i =>
      have hp : p.1 < l := by simpa using h1 0 (by omega)
      have hd : decide (p.1 < l) = true := decide_eq_true hp
      have := ih (i := i) (by simpa using hi) (fun j hj => by simpa using h1 (j + 1) (by omega)) (by
        rcases h2 with h2 | h2
        · exact .inl (by simpa using h2)
        · exact .inr (by simpa using h2))
      unfold insS at this ⊢
      rw [List.takeWhile_cons, List.dropWhile_cons, if_pos hd, if_pos hd]
      simp only [List.cons_append, List.take_succ_cons, List.drop_succ_cons]
      rw [this]
theorem flS_take2 : ∀ (G : List (Int × Int)) (i : Nat), (flS G).take (2 * i) = flS (G.take i)
  | [], i => by simp [flS]
  | p :: r, 0 => rfl
  | p :: r, i + 1 => by
    rw [show 2 * (i + 1) = 2 * i + 1 + 1 by omega]
    simp [flS, flS_take2 r i]
theorem flS_drop2 : ∀ (G : List (Int × Int)) (i : Nat), (flS G).drop (2 * i) = flS (G.drop i)
  | [], i => by simp [flS]
  | p :: r, 0 => rfl
  | p :: r, i + 1 => by
    rw [show 2 * (i + 1) = 2 * i + 1 + 1 by omega]
    simp [flS, flS_drop2 r i]
/-- An append in a region that draws its order. -/
theorem step_append_ints {ops : Array Oper} {o : Oper} {a : Act} {w : World} {K : Act → World → Prop} {Q : Exit → Act → World → Prop} {E : Prop} (hg : o.guard = none) (s x : Operand)
    (hop : o.op = .call { callee := .builtin .append, args := #[s, x], argTypes := #[23, 23] })
    (base : Nat) (v : Value) (n : Nat) (xs : List Value) (hs : a.eval s = v) (hown : w.ownsRow base 3 1 v n xs)
    (ao : Option Addr) (L : List Int) (m cap : Nat) (hx : a.eval x = .slice ao m cap) (hm : m = L.length) (hA : IntsAt w ao L) (hlen : n + m ≤ 4000000) (hbase : base ≤ w.heap.size)
    (h : ∀ v' w', w'.ownsRow base 3 1 v' (n + m) (xs ++ ints L) → w.grownBy w' v.ownBlock → K (a.put o.dst v') w') :
    if Region.wanted o (yielded ops a.tmps) = true then Oper.wp Try.prog o a w K Q else E := by
  have hw : Region.wanted o (yielded ops a.tmps) = true := by simp [Region.wanted, hg]
  rw [if_pos hw]
  obtain ⟨v', w', hr, h2, h3, _⟩ := run_append_ints w base o.type v n xs hown ao L m cap hm hA hlen hbase
  unfold Oper.wp execOp
  simp only [hop, resolve, invoke, builtin, Sem.run_bind, Sem.run_pure, Result.andThen_ok, List.map_toArray, List.map_cons, List.map_nil, hs, hx, hr]
  exact h v' w' h2 h3
theorem below_drew1 (w : World) : Below w.heap.size w w.drew := (Below.refl _ _).drew
theorem addF_bd {C : List (Int × Int)} (hb : ∀ p ∈ C, 0 ≤ p.1 ∧ p.1 ≤ 1114112 ∧ 0 ≤ p.2 ∧ p.2 ≤ 1114112) : ∀ {lo hi : Int}, 0 ≤ lo ∧ lo ≤ 1114112 → 0 ≤ hi ∧ hi ≤ 1114112 → (0 ≤ (addF C lo hi).2.1 ∧ (addF C lo hi).2.1 ≤ 1114112) ∧ (0 ≤ (addF C lo hi).2.2 ∧ (addF C lo hi).2.2 ≤ 1114112) ∧ (addF C lo hi).1.length ≤ C.length := by
  induction C with
  | nil => intro lo hi h1 h2; exact ⟨h1, h2, Nat.le_refl _⟩
  | cons p r ih =>
    intro lo hi h1 h2
    have hp := hb p (by simp)
    have hr : ∀ p ∈ r, 0 ≤ p.1 ∧ p.1 ≤ 1114112 ∧ 0 ≤ p.2 ∧ p.2 ≤ 1114112 := fun q hq => hb q (by simp [hq])
    by_cases h : p.2 < lo ∨ hi < p.1
    · rw [show addF (p :: r) lo hi = (p :: (addF r lo hi).1, (addF r lo hi).2) by rw [addF, if_pos h]]
      obtain ⟨i1, i2, i3⟩ := ih hr h1 h2
      exact ⟨i1, i2, by simp; omega⟩
    · rw [show addF (p :: r) lo hi = addF r (min lo p.1) (max hi p.2) by conv => lhs; rw [addF, if_neg h]]
      obtain ⟨i1, i2, i3⟩ := ih hr (lo := min lo p.1) (hi := max hi p.2) (by omega) (by omega)
      exact ⟨i1, i2, by simp; omega⟩
set_option maxRecDepth 100000 in
set_option maxHeartbeats 4000000 in
theorem sadd_any (C : List (Int × Int)) (lo hi : Int) (ao : Option Addr) (cap : Nat) (w : World) (n : Nat) (hn : n = (flS C).length) (hl : C.length ≤ 5000) (hb : ∀ p ∈ C, 0 ≤ p.1 ∧ p.1 ≤ 1114112 ∧ 0 ≤ p.2 ∧ p.2 ≤ 1114112) (hlo : 0 ≤ lo ∧ lo ≤ 1114111) (hhi : 0 ≤ hi ∧ hi ≤ 1114111) (hA : IntsAt w ao (flS C)) :
    Calls Try.prog 96 #[.slice ao n cap, .int .i64 lo, .int .i64 hi] w fun e w' => ∃ v, e = .returned v ∧ w'.ownsRow w.heap.size 3 1 v (flS (addS C lo (hi + 1))).length (ints (flS (addS C lo (hi + 1)))) ∧ Below w.heap.size w w' := by
  have HA : Hid _ := hA
  have HBD : Hid _ := hb
  have HNL : Hid (n = 2 * C.length) := by show n = 2 * C.length; rw [hn, flS_len]
  have hn2 : n ≤ 10000 := by rw [hn, flS_len]; omega
  have HN : Hid _ := hn
  obtain ⟨lo1, lo2⟩ := hlo
  obtain ⟨hi1, hi2⟩ := hhi
  clear hA hb hn
  go_enter Try.func96, Try.ntmps96
  go_wp2
  go_loopw [1, 2, 7, 8] (fun l h v i wr => ∃ k j : Nat, k ≤ n ∧ k = 2 * j ∧ i = .int .i64 k ∧ l = .int .i64 (addF (C.take j) lo (hi + 1)).2.1 ∧ h = .int .i64 ((addF (C.take j) lo (hi + 1)).2.2 - 1) ∧ wr.ownsRow w.heap.size 3 1 v (flS (addF (C.take j) lo (hi + 1)).1).length (ints (flS (addF (C.take j) lo (hi + 1)).1)) ∧ Below w.heap.size w wr) (fun _ _ _ i _ => n - (intOf i).toNat)
  case atStart => exact ⟨0, 0, Nat.zero_le _, rfl, rfl, rfl, by simp [addF], World.ownsRow_nil _ _ _ _, Below.refl _ _⟩
  case round =>
    obtain ⟨k, j, hk, hkj, rfl, rfl, rfl, hown, hbw⟩ := hrel
    have HK : Hid _ := hkj
    obtain ⟨⟨f1, f2⟩, ⟨f3, f4⟩, f5⟩ := addF_bd (C := C.take j) (fun p hp => HBD.out p (List.mem_of_mem_take hp)) (lo := lo) (hi := hi + 1) (by omega) (by omega)
    have OWN : Hid _ := hown
    have HB : Hid _ := hbw
    have hlen : (flS (addF (C.take j) lo (hi + 1)).1).length ≤ 10000 := by rw [flS_len]; simp at f5; omega
    clear f5
    by_cases hlt : k < n
    · have hltI : (k : Int) < (n : Int) := by omega
      have hj : j < C.length := by have := HNL.out; omega
      have hlt2 : k + 1 < n := by have := HNL.out; omega
      have hlt2I : (k : Int) + 1 < (n : Int) := by omega
      have hw1 : IntKind.i64.wrap ((k : Int) + 1) = (k : Int) + 1 := IntWalk.i64_in _ (by omega)
      have hn1 : ((k : Int) + 1).toNat = k + 1 := by omega
      have hp1 : (0 : Int) ≤ (k : Int) + 1 := by omega
      have hf := flS_at C j hj
      rw [← hkj] at hf
      obtain ⟨b1, o1, rfl, l1, c1⟩ := HA.out k (by rw [← HN.out]; exact hlt)
      obtain ⟨b2, o2, e2, l2, c2⟩ := HA.out (k + 1) (by rw [← HN.out]; exact hlt2)
      obtain ⟨rfl, rfl⟩ : b1 = b2 ∧ o1 = o2 := by simp at e2; exact e2
      rw [hf.1] at c1
      rw [hf.2] at c2
      have g1 : wr.cell? ⟨b1, o1 + k, none⟩ = some (.int .i64 (C.getD j (0, 0)).1) := (hbw.cell (p := ⟨b1, o1 + k, none⟩) l1).trans c1
      have g2 : wr.cell? ⟨b1, o1 + (k + 1), none⟩ = some (.int .i64 ((C.getD j (0, 0)).2 - 1)) := (hbw.cell (p := ⟨b1, o1 + (k + 1), none⟩) l1).trans c2
      have hm : C.getD j (0, 0) ∈ C := by simp [List.getD, hj]
      obtain ⟨s1, s2, s3, s4⟩ := HBD.out _ hm
      have HS : Hid _ := addF_snoc (C.take j) (C.getD j (0, 0)) lo (hi + 1)
      have HTK : Hid _ := take_snocS C j hj
      clear c1 c2 e2 hkj hf hm hown hbw
      generalize C.getD j (0, 0) = q at *
      obtain ⟨a, b⟩ := q
      simp only at s1 s2 s3 s4 g1 g2
      generalize addF (C.take j) lo (hi + 1) = G at *
      obtain ⟨G1, l, h⟩ := G
      simp only at f1 f2 f3 f4 hlen
      have AL : ∀ x : World, ∀ o, Below x.heap.size x (x.alloc o) := fun x o => (Below.refl _ _).alloc (Nat.le_refl _) o
      by_cases hsep : b < l ∨ h < a
      · have HE : Hid (addF (C.take (j + 1)) lo (hi + 1) = (G1 ++ [(a, b)], l, h)) := by show addF (C.take (j + 1)) lo (hi + 1) = _; rw [HTK.out, HS.out, if_pos hsep]
        rcases (by omega : b < l ∨ (l ≤ b ∧ h < a)) with q1 | ⟨q1, q2⟩
        · go_wp2
          go_region_law (refine step_append_ints rfl (.tmp 34) (.tmp 44) rfl w.heap.size _ _ _ (by simp [Act.eval]) (World.ownsRow.keepB (World.ownsRow.keepB OWN.out (below_drew1 wr)) (AL _ _)) (some ⟨wr.heap.size, 0, none⟩) [a, b - 1] 2 2 (by simp [Act.eval]) rfl (ints_new2 _ _ _ _ _ (by simp)) (by omega) (by have := HB.out.size; simp; omega) ?_; intro v3 w3 hown3 hgrow)
          all_goals
            have B3 : Hid (Below w.heap.size w w3) := Below.grown ((HB.out.trans ((below_drew1 wr).mono HB.out.size)).trans ((AL _ _).mono (HB.out.trans ((below_drew1 wr).mono HB.out.size)).size)) hgrow (Below.size ((HB.out.trans ((below_drew1 wr).mono HB.out.size)).trans ((AL _ _).mono (HB.out.trans ((below_drew1 wr).mono HB.out.size)).size))) (fun g hg => (World.ownsRow.lt OWN.out g hg).1)
            have O3 : Hid _ := hown3
            clear hgrow hown3
            go_wp2
            go_roundw
            case rel => exact ⟨k + 2, j + 1, by omega, by have := HK.out; omega, by go_num, by rw [HE.out], by rw [HE.out], by rw [HE.out]; exact own_cast O3.out (by rw [flS_append]; simp [flS]) (by rw [flS_append]; simp [ints, flS]), B3.out⟩
            case measure => simp [intOf]; omega
        · go_wp2
          go_region_law (refine step_append_ints rfl (.tmp 34) (.tmp 44) rfl w.heap.size _ _ _ (by simp [Act.eval]) (World.ownsRow.keepB (World.ownsRow.keepB OWN.out (below_drew1 wr)) (AL _ _)) (some ⟨wr.heap.size, 0, none⟩) [a, b - 1] 2 2 (by simp [Act.eval]) rfl (ints_new2 _ _ _ _ _ (by simp)) (by omega) (by have := HB.out.size; simp; omega) ?_; intro v3 w3 hown3 hgrow)
          all_goals
            have B3 : Hid (Below w.heap.size w w3) := Below.grown ((HB.out.trans ((below_drew1 wr).mono HB.out.size)).trans ((AL _ _).mono (HB.out.trans ((below_drew1 wr).mono HB.out.size)).size)) hgrow (Below.size ((HB.out.trans ((below_drew1 wr).mono HB.out.size)).trans ((AL _ _).mono (HB.out.trans ((below_drew1 wr).mono HB.out.size)).size))) (fun g hg => (World.ownsRow.lt OWN.out g hg).1)
            have O3 : Hid _ := hown3
            clear hgrow hown3
            go_wp2
            go_roundw
            case rel => exact ⟨k + 2, j + 1, by omega, by have := HK.out; omega, by go_num, by rw [HE.out], by rw [HE.out], by rw [HE.out]; exact own_cast O3.out (by rw [flS_append]; simp [flS]) (by rw [flS_append]; simp [ints, flS]), B3.out⟩
            case measure => simp [intOf]; omega
      · have HE : Hid (addF (C.take (j + 1)) lo (hi + 1) = (G1, min l a, max h b)) := by show addF (C.take (j + 1)) lo (hi + 1) = _; rw [HTK.out, HS.out, if_neg hsep]
        obtain ⟨q1, q2⟩ : l ≤ b ∧ a ≤ h := by omega
        clear AL
        go_wp2_with fail
        refine (least_any l a _).mono ?_
        rintro e w2 ⟨rfl, rfl⟩
        go_wp2_with fail
        refine (most_any (h - 1) (b - 1) _).mono ?_
        rintro e w3 ⟨rfl, rfl⟩
        have hmx : max (h - 1) (b - 1) = max h b - 1 := by omega
        rw [hmx]
        clear hmx
        go_wp2
        go_roundw
        case rel => exact ⟨k + 2, j + 1, by omega, by have := HK.out; omega, by go_num, by rw [HE.out], by rw [HE.out], by rw [HE.out]; exact OWN.out, HB.out⟩
        case measure => simp [intOf]; omega
    · have hkl : k = n := by omega
      subst hkl
      have hjc : C.take j = C := List.take_of_length_le (by have := HNL.out; omega)
      rw [hjc] at f1 f2 f3 f4 hlen hown ⊢
      have HADD : Hid (addS C lo (hi + 1) = insS (addF C lo (hi + 1)).1 (addF C lo (hi + 1)).2.1 (addF C lo (hi + 1)).2.2) := rfl
      clear hkj hjc hbw OWN
      generalize addF C lo (hi + 1) = G at *
      obtain ⟨G1, l, h⟩ := G
      simp only at f1 f2 f3 f4 hlen hown
      obtain ⟨-, a7, c7, rfl, i7⟩ := ints_of_own hown
      have OWN : Hid _ := hown
      clear hown HA
      go_wp2
      go_loopw [9] (fun i wx => ∃ k' i' : Nat, k' ≤ (flS G1).length ∧ k' = 2 * i' ∧ i = .int .i64 k' ∧ (∀ j', j' < i' → (G1.getD j' (0, 0)).1 < l) ∧ wx = wr) (fun i _ => (flS G1).length - (intOf i).toNat)
      case atStart => exact ⟨0, 0, Nat.zero_le _, rfl, rfl, fun j hj => absurd hj (by omega), rfl⟩
      case round =>
        obtain ⟨k', i', hk', hki, rfl, hall, rfl⟩ := hrel
        have HALL : Hid _ := hall
        have HI7 : Hid _ := i7
        clear hall
        by_cases hlt2 : k' < (flS G1).length
        · have hltI : (k' : Int) < ((flS G1).length : Int) := by omega
          have hii : i' < G1.length := by rw [flS_len] at hlt2; omega
          have hf := (flS_at G1 i' hii).1
          rw [← hki] at hf
          obtain ⟨b1, o1, rfl, l1, c1⟩ := HI7.out k' hlt2
          rw [hf] at c1
          by_cases hql : (G1.getD i' (0, 0)).1 < l
          · have HNX : Hid (∀ j', j' < i' + 1 → (G1.getD j' (0, 0)).1 < l) := fun j' hj' => by
              by_cases e : j' = i'
              · subst e; exact hql
              · exact HALL.out j' (by omega)
            have HK2 : Hid _ := hki
            have hle2 : k' + 2 ≤ (flS G1).length := by rw [flS_len] at hlt2 ⊢; omega
            clear i7 hf hki
            generalize (G1.getD i' (0, 0)).1 = q at *
            go_wp2
            go_roundw
            case rel => exact ⟨k' + 2, i' + 1, by omega, by have := HK2.out; omega, by go_num, HNX.out, by first | rfl | trivial⟩
            case measure => simp [intOf]; omega
          · have HINS : Hid (insS G1 l h = G1.take i' ++ (l, h) :: G1.drop i') := insS_at (by omega) HALL.out (.inr hql)
            have hqb : decide ((G1.getD i' (0, 0)).1 < l) = false := decide_eq_false hql
            clear hf
            generalize (G1.getD i' (0, 0)).1 = q at *
            have hk2 : i' ≤ G1.length := by rw [flS_len] at hk'; omega
            have HT : Hid ((flS G1).take k' = flS (G1.take i')) := by show (flS G1).take k' = _; rw [hki, flS_take2]
            have HD : Hid ((flS G1).drop k' = flS (G1.drop i')) := by show (flS G1).drop k' = _; rw [hki, flS_drop2]
            have hsf := slice_front OWN.out k' hk'
            obtain ⟨A9, C9, hst, i9⟩ := slice_tail OWN.out k' hk'
            have I9 : Hid _ := i9
            have HLT : Hid (k' = ((flS G1).take k').length) := by show k' = ((flS G1).take k').length; simp; omega
            have HLD : Hid ((flS G1).length - k' = ((flS G1).drop k').length) := by show (flS G1).length - k' = ((flS G1).drop k').length; simp
            have IT : Hid (IntsAt wr (some ⟨b1, o1, none⟩) ((flS G1).take k')) := own_ints (own_take OWN.out k' hk')
            clear i7 hki i9
            go_wp2_with fail
            refine (sown_any ((flS G1).take k') (some ⟨b1, o1, none⟩) _ c7 _ HLT.out (by simp; omega) IT.out).mono ?_
            rintro e w4 ⟨v4, rfl, o4, b4⟩
            have B4 : Hid (Below w.heap.size w w4) := HB.out.trans (b4.mono HB.out.size)
            have O4 : Hid (w4.ownsRow wr.heap.size 3 1 v4 ((flS G1).take k').length (ints ((flS G1).take k'))) := o4
            have BX4 : Hid (Below wr.heap.size wr w4) := b4
            have AL4 : ∀ o, Below w4.heap.size w4 (w4.alloc o) := fun o => (Below.refl _ _).alloc (Nat.le_refl _) o
            clear o4 b4
            go_wp2_with (at_builtin; refine wpA _ rfl _ _ rfl wr.heap.size _ _ _ rfl (World.ownsRow.keepB O4.out (AL4 _)) (some ⟨w4.heap.size, 0, none⟩) [l, h - 1] 2 2 rfl rfl (ints_new2 w4 _ _ _ _ rfl) ?c1 ?c2 ?_)
            case c1 => simp; omega
            case c2 => have := BX4.out.size; simp; omega
            intro v5 w5 hown5 hgrow5 _
            have BX5 : Hid (Below wr.heap.size wr w5) := Below.grown (BX4.out.trans ((AL4 _).mono BX4.out.size)) hgrow5 (Below.size (BX4.out.trans ((AL4 _).mono BX4.out.size))) (fun g hg => (World.ownsRow.lt O4.out g hg).1)
            have O5 : Hid _ := hown5
            have I5 : Hid _ := IntsAt.keepB I9.out BX5.out
            clear hgrow5 hown5
            go_wp2_with (at_builtin; refine wpA _ rfl _ _ rfl wr.heap.size _ _ _ rfl O5.out A9 ((flS G1).drop k') _ C9 rfl HLD.out I5.out ?d1 ?d2 ?_)
            case d1 => first | omega | (simp; omega)
            case d2 => exact BX5.out.size
            intro v6 w6 hown6 hgrow6 _
            have BX6 : Hid (Below wr.heap.size wr w6) := Below.grown BX5.out hgrow6 BX5.out.size (fun g hg => (World.ownsRow.lt O5.out g hg).1)
            have O6 : Hid _ := own_mono hown6 HB.out.size
            clear hgrow6 hown6
            go_wp2
            go_ret
            refine ⟨_, rfl, ?_, HB.out.trans (BX6.out.mono HB.out.size)⟩
            rw [HADD.out]
            simp only
            rw [HINS.out, flS_append]
            refine own_cast O6.out ?_ ?_
            · show _ = (flS (G1.take i') ++ (l :: (h - 1) :: flS (G1.drop i'))).length
              rw [← HT.out, ← HD.out]
              simp
              omega
            · show _ = ints (flS (G1.take i') ++ (l :: (h - 1) :: flS (G1.drop i')))
              rw [← HT.out, ← HD.out]
              simp [ints]
        · have hkl : k' = (flS G1).length := by omega
          have HINS : Hid (insS G1 l h = G1.take i' ++ (l, h) :: G1.drop i') := insS_at (by rw [flS_len] at hkl; omega) HALL.out (.inl (by rw [flS_len] at hkl; omega))
          have hdb : decide ((k' : Int) < ((flS G1).length : Int)) = false := decide_eq_false (by omega)
          clear hkl
          have hk2 : i' ≤ G1.length := by rw [flS_len] at hk'; omega
          have HT : Hid ((flS G1).take k' = flS (G1.take i')) := by show (flS G1).take k' = _; rw [hki, flS_take2]
          have HD : Hid ((flS G1).drop k' = flS (G1.drop i')) := by show (flS G1).drop k' = _; rw [hki, flS_drop2]
          have hsf := slice_front OWN.out k' hk'
          obtain ⟨A9, C9, hst, i9⟩ := slice_tail OWN.out k' hk'
          have I9 : Hid _ := i9
          have HLT : Hid (k' = ((flS G1).take k').length) := by show k' = ((flS G1).take k').length; simp; omega
          have HLD : Hid ((flS G1).length - k' = ((flS G1).drop k').length) := by show (flS G1).length - k' = ((flS G1).drop k').length; simp
          have IT : Hid (IntsAt wr a7 ((flS G1).take k')) := own_ints (own_take OWN.out k' hk')
          clear i7 hki i9
          go_wp2_with fail
          refine (sown_any ((flS G1).take k') a7 _ c7 _ HLT.out (by simp; omega) IT.out).mono ?_
          rintro e w4 ⟨v4, rfl, o4, b4⟩
          have B4 : Hid (Below w.heap.size w w4) := HB.out.trans (b4.mono HB.out.size)
          have O4 : Hid (w4.ownsRow wr.heap.size 3 1 v4 ((flS G1).take k').length (ints ((flS G1).take k'))) := o4
          have BX4 : Hid (Below wr.heap.size wr w4) := b4
          have AL4 : ∀ o, Below w4.heap.size w4 (w4.alloc o) := fun o => (Below.refl _ _).alloc (Nat.le_refl _) o
          clear o4 b4
          go_wp2_with (at_builtin; refine wpA _ rfl _ _ rfl wr.heap.size _ _ _ rfl (World.ownsRow.keepB O4.out (AL4 _)) (some ⟨w4.heap.size, 0, none⟩) [l, h - 1] 2 2 rfl rfl (ints_new2 w4 _ _ _ _ rfl) ?c1 ?c2 ?_)
          case c1 => simp; omega
          case c2 => have := BX4.out.size; simp; omega
          intro v5 w5 hown5 hgrow5 _
          have BX5 : Hid (Below wr.heap.size wr w5) := Below.grown (BX4.out.trans ((AL4 _).mono BX4.out.size)) hgrow5 (Below.size (BX4.out.trans ((AL4 _).mono BX4.out.size))) (fun g hg => (World.ownsRow.lt O4.out g hg).1)
          have O5 : Hid _ := hown5
          have I5 : Hid _ := IntsAt.keepB I9.out BX5.out
          clear hgrow5 hown5
          go_wp2_with (at_builtin; refine wpA _ rfl _ _ rfl wr.heap.size _ _ _ rfl O5.out A9 ((flS G1).drop k') _ C9 rfl HLD.out I5.out ?d1 ?d2 ?_)
          case d1 => first | omega | (simp; omega)
          case d2 => exact BX5.out.size
          intro v6 w6 hown6 hgrow6 _
          have BX6 : Hid (Below wr.heap.size wr w6) := Below.grown BX5.out hgrow6 BX5.out.size (fun g hg => (World.ownsRow.lt O5.out g hg).1)
          have O6 : Hid _ := own_mono hown6 HB.out.size
          clear hgrow6 hown6
          go_wp2
          go_ret
          refine ⟨_, rfl, ?_, HB.out.trans (BX6.out.mono HB.out.size)⟩
          rw [HADD.out]
          simp only
          rw [HINS.out, flS_append]
          refine own_cast O6.out ?_ ?_
          · show _ = (flS (G1.take i') ++ (l :: (h - 1) :: flS (G1.drop i'))).length
            rw [← HT.out, ← HD.out]
            simp
            omega
          · show _ = ints (flS (G1.take i') ++ (l :: (h - 1) :: flS (G1.drop i')))
            rw [← HT.out, ← HD.out]
            simp [ints]
end Go.Proofs.Ytkbijnojmfplpaa

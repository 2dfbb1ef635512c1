/-
  impl.joinInOrder: spans are joined in the order in which they stand.
-/
import Derived.Test.YtlkcdcdgpklpoaaC4B
namespace Go.Proofs.Ytlkcdcdgpklpoaa
open Go.ChangeShapes Go.WideShapes Go.ChangeAt Go.RowKit
def AC (S : List (Int × Int)) (k : Nat) : List (Int × Int) := ((S.take k).foldl jStep []).reverse
theorem AC_all (S : List (Int × Int)) : AC S S.length = joinF S := by simp [AC, joinF]
theorem take_snocS (S : List (Int × Int)) (k : Nat) (h : k < S.length) : S.take (k + 1) = S.take k ++ [S.getD k (0, 0)] := by rw [List.take_add_one]; simp [List.getD, h]
theorem AC_step (S : List (Int × Int)) (k : Nat) (h : k < S.length) : AC S (k + 1) = (jStep (AC S k).reverse (S.getD k (0, 0))).reverse := by
  unfold AC
  rw [take_snocS S k h, List.foldl_append]
  simp
theorem AC_skip {S : List (Int × Int)} {k : Nat} {a b : Int} (h : k < S.length) (hp : S.getD k (0, 0) = (a, b)) (he : b ≤ a) : AC S (k + 1) = AC S k := by
  rw [AC_step S k h, hp]
  unfold jStep
  rw [if_pos he]
  simp
theorem AC_join {S : List (Int × Int)} {k : Nat} {a b : Int} {A : List (Int × Int)} {q : Int × Int} (h : k < S.length) (hp : S.getD k (0, 0) = (a, b)) (he : ¬ b ≤ a) (hA : AC S k = A ++ [q]) (hq : a ≤ q.2) : AC S (k + 1) = A ++ [(q.1, max q.2 b)] := by
  rw [AC_step S k h, hp, hA]
  simp only [List.reverse_append, List.reverse_cons, List.reverse_nil, List.nil_append, List.singleton_append]
  rw [jStep_cons, if_neg he, if_pos hq]
  simp
theorem AC_new {S : List (Int × Int)} {k : Nat} {a b : Int} (h : k < S.length) (hp : S.getD k (0, 0) = (a, b)) (he : ¬ b ≤ a) (hA : ∀ A q, AC S k = A ++ [q] → ¬ a ≤ q.2) : AC S (k + 1) = AC S k ++ [(a, b)] := by
  rw [AC_step S k h, hp]
  cases hr : (AC S k).reverse with
  | nil =>
    have : AC S k = [] := by simpa using hr
    rw [jStep_nil, if_neg he, this]
    rfl
  | cons q r =>
    have hA' : AC S k = r.reverse ++ [q] := by
      have := congrArg List.reverse hr
      simpa using this
    rw [jStep_cons, if_neg he, if_neg (hA _ _ hA'), hA']
    simp
theorem AC_len (S : List (Int × Int)) (k : Nat) : (AC S k).length ≤ (joinF S).length := by
  have h := jFold_len (S.drop k) ((S.take k).foldl jStep [])
  rw [← List.foldl_append, List.take_append_drop] at h
  simpa [AC, joinF] using h
def Last (S : List (Int × Int)) : Prop := S = [] ∨ ∃ A q, S = A ++ [q]
theorem last_of (S : List (Int × Int)) : Last S := by
  rcases List.eq_nil_or_concat S with h | ⟨A, q, h⟩
  · exact .inl h
  · exact .inr ⟨A, q, by simpa using h⟩
theorem SetAt.last2 {w : World} {R : Nat} {A : List (Int × Int)} {q : Int × Int} (h : SetAt w R (A ++ [q])) : w.cell? ⟨R, A.length * 2 + 1, none⟩ = some (.int .i64 q.2) := by rw [Nat.mul_comm]; exact h.last.2
theorem SetAt.put2' {w : World} {R : Nat} {A : List (Int × Int)} (h : SetAt w R A) (p : Int × Int) (hA : A.length < 12) (o1 o2 : Nat) (e1 : o1 = 2 * A.length) (e2 : o2 = 2 * A.length + 1) : SetAt ((w.setCell ⟨R, o1, none⟩ (.int .i64 p.1)).setCell ⟨R, o2, none⟩ (.int .i64 p.2)) R (A ++ [p]) := by
  subst e1 e2
  exact h.put2 p hA
theorem SetAt.put1' {w : World} {R : Nat} {A : List (Int × Int)} {q : Int × Int} (h : SetAt w R (A ++ [q])) (x : Int) (o : Nat) (e : o = 2 * A.length + 1) : SetAt (w.setCell ⟨R, o, none⟩ (.int .i64 x)) R (A ++ [(q.1, x)]) := by
  subst e
  exact h.put1 x
theorem below_set {w wr : World} {R : Nat} (h : Below w.heap.size w wr) (hR : w.heap.size ≤ R) (o : Nat) (v : Value) : Below w.heap.size w (wr.setCell ⟨R, o, none⟩ v) :=
  Below.grown h (grown_set wr R o v) h.size (fun g e => by have := Option.some.inj e; omega)
theorem SetAt.drew {w : World} {R : Nat} {A : List (Int × Int)} (h : SetAt w R A) (n : Nat) : SetAt (w.drewN n) R A := h.keep (below_drewN (Below.refl _ _) _)
theorem wpList_store_set {ops : Array Oper} {rest : List Oper} {op : Oper} {a : Act} {w w' : World} {Q : Exit → Act → World → Prop} {v : Value} (hgd : op.guard = none) (x y : Operand) (ho : op.op = .store 205 x y)
    (b : Nat) (hx : a.eval x = .pointer (some ⟨b, 0, none⟩)) (hy : a.eval y = v) (hr : (Instr.storeAt 205 (.pointer (some ⟨b, 0, none⟩)) v).run Try.prog w = .ok () w')
    (h : wpList Try.prog ops Q rest (a.put op.dst undef) w') : wpList Try.prog ops Q (op :: rest) a w :=
  wpList_plain hgd fun _ hK => by
    unfold Oper.wp execOp
    simp only [ho, hx, hy, Sem.run_bind, Sem.run_pure, Result.andThen_ok, hr]
    exact hK _ _ h
set_option maxRecDepth 100000 in
set_option maxHeartbeats 2000000 in
theorem join_any (S : List (Int × Int)) (ao : Option Addr) (cap : Nat) (w : World) (hl : S.length ≤ 1048576) (hA : SpansAt w ao S) :
    Calls Try.prog 164 #[.slice ao S.length cap] w fun e w' => (((joinF S).length ≤ 12 ∧ e = .returned (.tuple #[setV (joinF S), .bool true])) ∨ (12 < (joinF S).length ∧ e = .returned (.tuple #[setV [], .bool false]))) ∧ Below w.heap.size w w' := by
  have HA : Hid _ := hA
  clear hA
  go_enter Try.func164, Try.ntmps164
  go_wp2
  go_loopw [5, 10] (fun nv i wr => ∃ k N : Nat, k ≤ S.length ∧ i = .int .i64 k ∧ nv = .int .i64 N ∧ N = (AC S k).length ∧ SetAt wr w.heap.size [] ∧ SetAt wr (w.heap.size + 1) (AC S k) ∧ Below w.heap.size w wr) (fun _ i _ => S.length - (intOf i).toNat)
  case atStart => exact ⟨0, 0, Nat.zero_le _, rfl, rfl, rfl, (SetAt.new w _ rfl).keep ((Below.refl _ _).alloc (Nat.le_refl _) _), SetAt.new (w.alloc _) _ (by simp), ((Below.refl _ _).alloc (Nat.le_refl _) _).alloc (by simp) _⟩
  case round =>
    obtain ⟨k, N, hk, rfl, rfl, hN, s0, s1, hbw⟩ := hrel
    have HN : Hid _ := hN
    have S0 : Hid _ := s0
    have S1 : Hid _ := s1
    have hN12 : N ≤ 12 := by rw [hN]; exact s1.le
    have HB : Hid _ := hbw
    clear hN s0 s1
    by_cases hlt : k < S.length
    · have hltI : (k : Int) < (S.length : Int) := by omega
      obtain ⟨b1, o1, rfl, l1, h1, h2⟩ := HA.out k hlt
      obtain ⟨p, hp⟩ : ∃ p, S.getD k (0, 0) = p := ⟨_, rfl⟩
      obtain ⟨a, b⟩ := p
      rw [hp] at h1 h2
      have HP : Hid _ := hp
      have g1 : wr.cell? ⟨b1, o1 + k * 2, none⟩ = some (.int .i64 a) := (hbw.cell (p := ⟨b1, o1 + k * 2, none⟩) l1).trans h1
      have g2 : wr.cell? ⟨b1, o1 + k * 2 + 1, none⟩ = some (.int .i64 b) := (hbw.cell (p := ⟨b1, o1 + k * 2 + 1, none⟩) l1).trans h2
      clear h1 h2 hp hbw
      by_cases he : b ≤ a
      · have HC : Hid _ := AC_skip hlt HP.out he
        go_wp2_with fail
        refine (isEmpty_any a b _).mono ?_
        rintro e w2 ⟨rfl, b2⟩
        have B2 : Hid (Below wr.heap.size wr w2) := ((Below.refl _ _).alloc (Nat.le_refl _) _).trans (b2.mono (by simp))
        clear b2 g1 g2
        go_wp2
        go_roundw
        case rel => exact ⟨k + 1, N, by omega, by go_num, rfl, by rw [HC.out]; exact HN.out, S0.out.keep B2.out, by rw [HC.out]; exact S1.out.keep B2.out, HB.out.trans (B2.out.mono HB.out.size)⟩
        case measure => simp [intOf]; omega
      · rcases last_of (AC S k) with hE | ⟨A, q, hE⟩
        · have HC : Hid _ := AC_new hlt HP.out he (fun A q h => by rw [hE] at h; simp at h)
          obtain rfl : N = 0 := by rw [HN.out, hE]; rfl
          have HE : Hid _ := hE
          clear hE
          go_wp2_with fail
          refine (isEmpty_any a b _).mono ?_
          rintro e w2 ⟨rfl, b2⟩
          have B2 : Hid (Below wr.heap.size wr w2) := ((Below.refl _ _).alloc (Nat.le_refl _) _).trans (b2.mono (by simp))
          have c1 : w2.cell? ⟨wr.heap.size, 0, none⟩ = some (.int .i64 a) := (b2.cell (p := ⟨wr.heap.size, 0, none⟩) (by simp)).trans (by simp)
          have c2 : w2.cell? ⟨wr.heap.size, 1, none⟩ = some (.int .i64 b) := (b2.cell (p := ⟨wr.heap.size, 1, none⟩) (by simp)).trans (by simp)
          have T2 : Hid (SetAt w2 (w.heap.size + 1) (AC S k)) := S1.out.keep B2.out
          obtain ⟨v1, d1⟩ := T2.out.isThere 0 (by omega)
          obtain ⟨v2, d2⟩ := T2.out.isThere 1 (by omega)
          have f1 := T2.out.fz 0 (by omega)
          have f2 := T2.out.fz 1 (by omega)
          clear b2 g1 g2
          go_wp2
          go_quiet (fail)
          go_wp2
          go_roundw
          case rel => exact ⟨k + 1, 1, by omega, by go_num, by go_num, by rw [HC.out, HE.out]; rfl, ((S0.out.keep B2.out).drew nq |>.kept (grown_set _ _ _ _) (by omega)).kept (grown_set _ _ _ _) (by omega), by rw [HC.out]; exact (T2.out.drew nq).put2' (a, b) (by rw [HE.out]; simp) 0 1 (by rw [HE.out]; rfl) (by rw [HE.out]; rfl), below_set (below_set (below_drewN (HB.out.trans (B2.out.mono HB.out.size)) _) (by omega) _ _) (by omega) _ _⟩
          case measure => simp [intOf]; omega
        · obtain ⟨m, hm⟩ : ∃ m, A.length = m := ⟨_, rfl⟩
          obtain ⟨q1, q2⟩ := q
          obtain rfl : N = m + 1 := by rw [HN.out, hE]; simp [hm]
          have HE : Hid _ := hE
          have HM : Hid _ := hm
          clear hE hm
          have hg0 : decide ((0 : Int) < (m : Int) + 1) = true := decide_eq_true (by omega)
          by_cases hq : a ≤ q2
          · have HC : Hid _ := AC_join hlt HP.out he HE.out hq
            go_wp2_with fail
            refine (isEmpty_any a b _).mono ?_
            rintro e w2 ⟨rfl, b2⟩
            have B2 : Hid (Below wr.heap.size wr w2) := ((Below.refl _ _).alloc (Nat.le_refl _) _).trans (b2.mono (by simp))
            have c1 : w2.cell? ⟨wr.heap.size, 0, none⟩ = some (.int .i64 a) := (b2.cell (p := ⟨wr.heap.size, 0, none⟩) (by simp)).trans (by simp)
            have c2 : w2.cell? ⟨wr.heap.size, 1, none⟩ = some (.int .i64 b) := (b2.cell (p := ⟨wr.heap.size, 1, none⟩) (by simp)).trans (by simp)
            have T2 : Hid (SetAt w2 (w.heap.size + 1) (A ++ [(q1, q2)])) := by have := S1.out.keep B2.out; rw [HE.out] at this; exact this
            have d2 : w2.cell? ⟨w.heap.size + 1, m * 2 + 1, none⟩ = some (.int .i64 q2) := by have := T2.out.last2; rw [HM.out] at this; exact this
            have f2 := T2.out.fz (m * 2 + 1) (by omega)
            clear b2 g1 g2
            have KEY : ∀ nq x, x = max q2 b → Hid (SetAt ((w2.drewN nq).setCell ⟨w.heap.size + 1, m * 2 + 1, none⟩ (.int .i64 x)) (w.heap.size + 1) (AC S (k + 1)) ∧ SetAt ((w2.drewN nq).setCell ⟨w.heap.size + 1, m * 2 + 1, none⟩ (.int .i64 x)) w.heap.size [] ∧ Below w.heap.size w ((w2.drewN nq).setCell ⟨w.heap.size + 1, m * 2 + 1, none⟩ (.int .i64 x)) ∧ m + 1 = (AC S (k + 1)).length) := fun nq x hx => by
              subst hx
              refine ⟨by rw [HC.out]; exact (T2.out.drew nq).put1' _ _ (by rw [HM.out]; omega), ((S0.out.keep B2.out).drew nq).kept (grown_set _ _ _ _) (by omega), below_set (below_drewN (HB.out.trans (B2.out.mono HB.out.size)) _) (by omega) _ _, by rw [HC.out]; simp [HM.out]⟩
            rcases (by omega : q2 < b ∨ q2 = b ∨ b < q2) with hx | hx | hx
            · go_wp2
              go_quiet (fail)
              go_wp2
              go_region
              go_wp2
              go_roundw
              case rel => exact ⟨k + 1, m + 1, by omega, by go_num, by go_num, (KEY (nq + 1) b (by omega)).out.2.2.2, (KEY (nq + 1) b (by omega)).out.2.1, (KEY (nq + 1) b (by omega)).out.1, (KEY (nq + 1) b (by omega)).out.2.2.1⟩
              case measure => simp [intOf]; omega
            · subst hx
              go_wp2
              go_quiet (fail)
              go_wp2
              go_region
              go_wp2
              go_roundw
              case rel => exact ⟨k + 1, m + 1, by omega, by go_num, by go_num, (KEY (nq + 1) q2 (by omega)).out.2.2.2, (KEY (nq + 1) q2 (by omega)).out.2.1, (KEY (nq + 1) q2 (by omega)).out.1, (KEY (nq + 1) q2 (by omega)).out.2.2.1⟩
              case measure => simp [intOf]; omega
            · go_wp2
              go_quiet (fail)
              go_wp2
              go_region
              go_wp2
              go_roundw
              case rel => exact ⟨k + 1, m + 1, by omega, by go_num, by go_num, (KEY (nq + 1) q2 (by omega)).out.2.2.2, (KEY (nq + 1) q2 (by omega)).out.2.1, (KEY (nq + 1) q2 (by omega)).out.1, (KEY (nq + 1) q2 (by omega)).out.2.2.1⟩
              case measure => simp [intOf]; omega
          · have HC : Hid (AC S (k + 1) = AC S k ++ [(a, b)]) := AC_new hlt HP.out he (fun A' q' h => by
              rw [HE.out] at h
              obtain ⟨_, h2⟩ := List.append_inj' h rfl
              obtain rfl : (q1, q2) = q' := by simpa using h2
              exact hq)
            have hqb : decide (a ≤ q2) = false := decide_eq_false hq
            have HSM : Hid (AC S k = A ++ [(q1, q2)]) := HE.out
            go_wp2_with fail
            refine (isEmpty_any a b _).mono ?_
            rintro e w2 ⟨rfl, b2⟩
            have B2 : Hid (Below wr.heap.size wr w2) := ((Below.refl _ _).alloc (Nat.le_refl _) _).trans (b2.mono (by simp))
            have c1 : w2.cell? ⟨wr.heap.size, 0, none⟩ = some (.int .i64 a) := (b2.cell (p := ⟨wr.heap.size, 0, none⟩) (by simp)).trans (by simp)
            have c2 : w2.cell? ⟨wr.heap.size, 1, none⟩ = some (.int .i64 b) := (b2.cell (p := ⟨wr.heap.size, 1, none⟩) (by simp)).trans (by simp)
            have T1 : Hid (SetAt w2 (w.heap.size + 1) (AC S k)) := S1.out.keep B2.out
            have T0 : Hid (SetAt w2 w.heap.size []) := S0.out.keep B2.out
            have T2 : Hid (SetAt w2 (w.heap.size + 1) (A ++ [(q1, q2)])) := by have := T1.out; rw [HE.out] at this; exact this
            have d2 : w2.cell? ⟨w.heap.size + 1, m * 2 + 1, none⟩ = some (.int .i64 q2) := by have := T2.out.last2; rw [HM.out] at this; exact this
            clear b2 g1 g2
            by_cases h12 : (m : Int) + 1 = 12
            · have HL : Hid (12 < (joinF S).length) := by
                show 12 < (joinF S).length
                have h1 := AC_len S (k + 1)
                rw [HC.out] at h1
                simp at h1
                have h2 := HN.out
                omega
              have hmm : m = 11 := by omega
              subst hmm
              go_wp2
              go_quiet (fail)
              obtain ⟨w', hst, s0', hg⟩ := (T0.out.drew nq).store [] (by simp)
              have HST : Hid _ := hst
              have HRV : Hid _ := s0'.loadV
              have HG : Hid _ := hg
              clear hst hg s0'
              go_wp2_with (refine wpList_store_set rfl (.tmp 2) (.tmp 50) rfl w.heap.size rfl rfl HST.out ?_)
              exact bodyPost_ret (v := .tuple #[setV [], .bool false]) (by simp [results, Try.results164, asAddr, HRV.out]) rfl ⟨.inr ⟨HL.out, rfl⟩, Below.grown (below_drewN (HB.out.trans (B2.out.mono HB.out.size)) _) HG.out (Below.size (below_drewN (HB.out.trans (B2.out.mono HB.out.size)) _)) (fun g e => by have := Option.some.inj e; omega)⟩
            · have h12n : ¬ m + 1 = 12 := by omega
              have hm11 : m + 1 < 12 := by omega
              have hm11I : (m : Int) + 1 < 12 := by omega
              obtain ⟨v1, d3⟩ := T1.out.isThere ((m + 1) * 2) (by omega)
              obtain ⟨v2, d4⟩ := T1.out.isThere ((m + 1) * 2 + 1) (by omega)
              have f1 := T1.out.fz ((m + 1) * 2) (by omega)
              have f2 := T1.out.fz ((m + 1) * 2 + 1) (by omega)
              have hw1 : IntKind.i64.wrap ((m : Int) + 1) = (m : Int) + 1 := IntWalk.i64_in _ (by omega)
              have hn1 : ((m : Int) + 1).toNat = m + 1 := by omega
              go_wp2
              go_quiet (fail)
              go_wp2
              go_roundw
              case rel => exact ⟨k + 1, m + 1 + 1, by omega, by go_num, by go_num, by rw [HC.out, HE.out]; simp [HM.out], (T0.out.drew nq |>.kept (grown_set _ _ _ _) (by omega)).kept (grown_set _ _ _ _) (by omega), by rw [HC.out]; exact (T1.out.drew nq).put2' (a, b) (by rw [← HN.out]; omega) _ _ (by rw [← HN.out]; omega) (by rw [← HN.out]; omega), below_set (below_set (below_drewN (HB.out.trans (B2.out.mono HB.out.size)) _) (by omega) _ _) (by omega) _ _⟩
              case measure => simp [intOf]; omega
    · obtain rfl : k = S.length := by omega
      obtain ⟨w', hst, s0', hg⟩ := S0.out.store (AC S S.length) S1.out.le
      have hrv := s0'.loadV
      have HST : Hid _ := hst
      have HRV : Hid _ := hrv
      have HG : Hid _ := hg
      clear hst hrv hg s0'
      clear HA
      go_wp2_with (first | (refine wpList_load_mid rfl 205 (.tmp 4) rfl (w.heap.size + 1) 0 rfl (ints (pad (AC S S.length))) _ S1.out.ra Try.underlying205 rfl (by rw [info64, ints_len, pad_len S1.out.le]) ?_) | (refine wpList_store_set rfl (.tmp 2) (.tmp 52) rfl w.heap.size rfl rfl HST.out ?_))
      exact bodyPost_ret (v := .tuple #[setV (AC S S.length), .bool true]) (by simp [results, Try.results164, asAddr, HRV.out]) rfl ⟨.inl ⟨by rw [← AC_all]; exact S1.out.le, by rw [AC_all]⟩, Below.grown HB.out HG.out HB.out.size (fun g e => by have := Option.some.inj e; omega)⟩
end Go.Proofs.Ytlkcdcdgpklpoaa

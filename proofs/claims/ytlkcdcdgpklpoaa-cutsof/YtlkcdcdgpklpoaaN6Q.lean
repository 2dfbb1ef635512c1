/-
  l6Cuts and CutsOf of the specification.
-/
import Derived.Test.YtlkcdcdgpklpoaaN6P
import Derived.Test.YtlkcdcdgpklpoaaN6G
namespace Go.Proofs.Ytlkcdcdgpklpoaa
open Go.ChangeShapes Go.WideShapes Go.ChangeAt Go.WideMaps Go.WideElems Go.RowKit
set_option maxRecDepth 100000 in
set_option maxHeartbeats 8000000 in
theorem scuts_any (E : Bool) (S G : Rw) (F L : List Int) (s a b g : Option Addr) (cs ca cb cg : Nat) (w : World) (hg : goodN S G F L = true) (hS : RowsAt w s S) :
    Calls Try.prog 91 #[.agg #[.bool E, .slice s S.length cs, .slice a F.length ca, .slice b L.length cb, .slice g G.length cg]] w fun r w' => ∃ v, r = .returned v ∧ w'.ownsRow w.heap.size 3 1 v (putsL (rowsC S S.length)).length (ints (putsL (rowsC S S.length))) ∧ Below w.heap.size w w' := by
  have hok := goodN_of hg
  have hl24 : ∀ k, k < S.length → (rw_ S k).length ≤ 24 ∧ (rw_ S k).length % 2 = 0 ∧ ∀ j, j < (rw_ S k).length → 0 ≤ (rw_ S k).getD j 0 ∧ (rw_ S k).getD j 0 ≤ 1114111 := fun k hk => by
    have h := goodS_true (hok.2.2.2.2 k hk).1
    exact ⟨h.2.1, h.1, fun j hj => inR_at h.2.2.1 hj⟩
  have hS40 : S.length ≤ 40 := hok.1
  have HL24 : Hid _ := hl24
  have HSA : Hid (RowsAt w s S) := hS
  have A1 : Hid (∀ o, Below w.heap.size w (w.alloc o)) := fun o => (Below.refl _ _).alloc (Nat.le_refl _) o
  have HLB : Hid (∀ k n, k < S.length → 2 * n ≤ (rw_ S k).length → (rowsC S k ++ setC (rw_ S k) n).length ≤ 1000) := fun k n hk hn => by
    rw [List.length_append]
    have h1 := rowsC_len (fun k hk => (hl24 k hk).1) k (by omega)
    have h2 := setC_len (rw_ S k) n
    have h3 := (hl24 k hk).1
    omega
  clear hg hok hl24 hS
  go_enter Try.func91, Try.ntmps91
  go_wp2
  go_loopw [3, 10] (fun v i wr => ∃ k : Nat, k ≤ S.length ∧ i = .int .i64 k ∧ wr.ownsRow w.heap.size 3 1 v (putsL (rowsC S k)).length (ints (putsL (rowsC S k))) ∧ Below w.heap.size w wr) (fun _ i _ => S.length - (intOf i).toNat)
  case atStart => exact ⟨0, Nat.zero_le _, rfl, World.ownsRow_nil _ _ _ _, A1.out _⟩
  case round =>
    obtain ⟨k, hk, rfl, hown, hbw⟩ := hrel
    have OW : Hid (wr.ownsRow w.heap.size 3 1 u3 (putsL (rowsC S k)).length (ints (putsL (rowsC S k)))) := hown
    have BW : Hid (Below w.heap.size w wr) := hbw
    clear hown hbw
    by_cases hlt : k < S.length
    · have hltI : (k : Int) < (S.length : Int) := by omega
      obtain ⟨b1, o1, sa, sc, rfl, l1, c1, iS⟩ := HSA.out k hlt
      have g1 : wr.cell? ⟨b1, o1 + k, none⟩ = some (.slice sa (rw_ S k).length sc) := (BW.out.cell (p := ⟨b1, o1 + k, none⟩) l1).trans c1
      have IS : Hid (IntsAt w sa (rw_ S k)) := iS
      obtain ⟨h24, hev, hbd⟩ := HL24.out k hlt
      have HBD : Hid _ := hbd
      have HEV : Hid _ := hev
      have HX : Hid _ := fun n (hn : 2 * n ≤ (rw_ S k).length) => HLB.out k n hlt hn
      have HKK : Hid (rowsC S (k + 1) = rowsC S k ++ setC (rw_ S k) ((rw_ S k).length / 2)) := rowsC_succ S k
      clear c1 iS hbd hev
      generalize hR : rw_ S k = R at *
      clear hR
      generalize hP : rowsC S k = P at *
      have HPP : Hid (rowsC S k = P) := hP
      clear hP
      have HRL : Hid (R.length ≤ 24) := h24
      go_wp2
      go_loopw [3, 6] (fun v i wr => ∃ n : Nat, 2 * n ≤ R.length ∧ i = .int .i64 ((2 * n : Nat) : Int) ∧ wr.ownsRow w.heap.size 3 1 v (putsL (P ++ setC R n)).length (ints (putsL (P ++ setC R n))) ∧ Below w.heap.size w wr) (fun _ i _ => R.length - (intOf i).toNat)
      case atStart => exact ⟨0, Nat.zero_le _, rfl, by rw [show P ++ setC R 0 = P by simp [setC]]; exact OW.out, BW.out⟩
      case round =>
        obtain ⟨n, hn, rfl, hown, hbw⟩ := hrel
        have OW2 : Hid (wr.ownsRow w.heap.size 3 1 u3 (putsL (P ++ setC R n)).length (ints (putsL (P ++ setC R n)))) := hown
        have BW2 : Hid (Below w.heap.size w wr) := hbw
        clear hown hbw
        by_cases hlt2 : 2 * n < R.length
        · have hltI2 : ((2 * n : Nat) : Int) < (R.length : Int) := by omega
          have hev2 := HEV.out
          have hodd : 2 * n + 1 < R.length := by omega
          obtain ⟨b2, o2, rfl, l2, h2⟩ := IS.out (2 * n) hlt2
          obtain ⟨b3, o3, e3, l3, h3⟩ := IS.out (2 * n + 1) hodd
          simp only [Option.some.injEq, Addr.mk.injEq, and_true] at e3
          obtain ⟨rfl, rfl⟩ := e3
          have gx0 : wr.cell? ⟨b2, o2 + 2 * n, none⟩ = some (.int .i64 (R.getD (2 * n) 0)) := (BW2.out.cell (p := ⟨b2, o2 + 2 * n, none⟩) l2).trans h2
          have gx1 : wr.cell? ⟨b2, o2 + (2 * n + 1), none⟩ = some (.int .i64 (R.getD (2 * n + 1) 0)) := (BW2.out.cell (p := ⟨b2, o2 + (2 * n + 1), none⟩) l3).trans h3
          have HX1 : Hid (∀ wq, Below wr.heap.size wr wq → wq.cell? ⟨b2, o2 + (2 * n + 1), none⟩ = some (.int .i64 (R.getD (2 * n + 1) 0))) := fun wq h => (h.cell (p := ⟨b2, o2 + (2 * n + 1), none⟩) (Nat.lt_of_lt_of_le l3 BW2.out.size)).trans gx1
          have HNX : Hid (P ++ setC R (n + 1) = (P ++ setC R n) ++ pairC R n) := by
            have q : P ++ setC R (n + 1) = (P ++ setC R n) ++ pairC R n := by rw [setC_succ, List.append_assoc]
            exact q
          have hb0 := HBD.out (2 * n) hlt2
          have hb1 := HBD.out (2 * n + 1) hodd
          have hlen : (putsL (P ++ setC R n)).length ≤ 1000 := Nat.le_trans (putsL_len _) (HX.out n hn)
          have HPC : Hid (pairC R n = (if 0 < R.getD (2 * n) 0 then [R.getD (2 * n) 0] else []) ++ (if R.getD (2 * n + 1) 0 < 1114111 then [R.getD (2 * n + 1) 0 + 1] else [])) := rfl
          have hi2 : ((2 * n : Nat) : Int) + 1 = ((2 * n + 1 : Nat) : Int) := by omega
          have hw2 : IntKind.i64.wrap (((2 * n : Nat) : Int) + 1) = ((2 * n + 1 : Nat) : Int) := by rw [hi2]; exact IntWalk.i64_in _ (by omega)
          have hw3 : IntKind.i64.wrap (((2 * n : Nat) : Int) + 2) = ((2 * (n + 1) : Nat) : Int) := by rw [show ((2 * n : Nat) : Int) + 2 = ((2 * (n + 1) : Nat) : Int) by omega]; exact IntWalk.i64_in _ (by omega)
          have hw4 : IntKind.i64.wrap (R.getD (2 * n + 1) 0 + 1) = R.getD (2 * n + 1) 0 + 1 := IntWalk.i64_in _ (by omega)
          have hk1 : 2 * n + 1 < R.length := hodd
          clear h2 h3 hev2
          generalize R.getD (2 * n) 0 = x0 at *
          generalize R.getD (2 * n + 1) 0 = x1 at *
          generalize hXX : P ++ setC R n = X at *
          by_cases q0 : 0 < x0
          · by_cases q1 : x1 < 1114111
            · have hlx : (putsL X).length ≤ 1000 := hlen
              go_wp2_with fail
              refine (sput_own (putsL X) x0 u3 w.heap.size wr (by omega) BW2.out.size OW2.out).mono ?_
              rintro r wa ⟨va, rfl, oa, ba⟩
              rw [← putsL_snoc] at oa
              have OA : Hid (wa.ownsRow w.heap.size 3 1 va (putsL (X ++ [x0])).length (ints (putsL (X ++ [x0])))) := oa
              have BA : Hid (Below w.heap.size w wa) := BW2.out.trans (ba.mono BW2.out.size)
              have gy1 := HX1.out wa ba
              have hla : (putsL (X ++ [x0])).length ≤ 1001 := by rw [putsL_snoc]; have := putL_len x0 (putsL X); omega
              clear oa ba gx0 gx1
              go_wp2_with fail
              refine (sput_own (putsL (X ++ [x0])) (x1 + 1) va w.heap.size wa (by omega) BA.out.size OA.out).mono ?_
              rintro r wb ⟨vb, rfl, ob, bb⟩
              rw [← putsL_snoc] at ob
              have OB2 : Hid (wb.ownsRow w.heap.size 3 1 vb (putsL (X ++ [x0] ++ [x1 + 1])).length (ints (putsL (X ++ [x0] ++ [x1 + 1])))) := ob
              have BB2 : Hid (Below w.heap.size w wb) := BA.out.trans (bb.mono BA.out.size)
              clear ob bb
              have HEQ : Hid (P ++ setC R (n + 1) = X ++ [x0] ++ [x1 + 1]) := by
                have q : P ++ setC R (n + 1) = X ++ [x0] ++ [x1 + 1] := by rw [HNX.out, HPC.out, if_pos q0, if_pos q1]; simp
                exact q
              go_wp2
              go_roundw
              case rel => exact ⟨n + 1, by omega, by go_num, by rw [HEQ.out]; exact OB2.out, BB2.out⟩
              case measure => simp [intOf]; omega
            · have hlx : (putsL X).length ≤ 1000 := hlen
              go_wp2_with fail
              refine (sput_own (putsL X) x0 u3 w.heap.size wr (by omega) BW2.out.size OW2.out).mono ?_
              rintro r wa ⟨va, rfl, oa, ba⟩
              rw [← putsL_snoc] at oa
              have OA : Hid (wa.ownsRow w.heap.size 3 1 va (putsL (X ++ [x0])).length (ints (putsL (X ++ [x0])))) := oa
              have BA : Hid (Below w.heap.size w wa) := BW2.out.trans (ba.mono BW2.out.size)
              have gy1 := HX1.out wa ba
              have hla : (putsL (X ++ [x0])).length ≤ 1001 := by rw [putsL_snoc]; have := putL_len x0 (putsL X); omega
              clear oa ba gx0 gx1
              have HEQ : Hid (P ++ setC R (n + 1) = X ++ [x0]) := by
                have q : P ++ setC R (n + 1) = X ++ [x0] := by rw [HNX.out, HPC.out, if_pos q0, if_neg (by omega : ¬ x1 < 1114111)]; simp
                exact q
              go_wp2
              go_roundw
              case rel => exact ⟨n + 1, by omega, by go_num, by rw [HEQ.out]; exact OA.out, BA.out⟩
              case measure => simp [intOf]; omega
          · by_cases q1 : x1 < 1114111
            · have hlx : (putsL X).length ≤ 1000 := hlen
              go_wp2_with fail
              refine (sput_own (putsL (X)) (x1 + 1) u3 w.heap.size wr (by omega) BW2.out.size OW2.out).mono ?_
              rintro r wb ⟨vb, rfl, ob, bb⟩
              rw [← putsL_snoc] at ob
              have OB2 : Hid (wb.ownsRow w.heap.size 3 1 vb (putsL (X ++ [x1 + 1])).length (ints (putsL (X ++ [x1 + 1])))) := ob
              have BB2 : Hid (Below w.heap.size w wb) := BW2.out.trans (bb.mono BW2.out.size)
              clear ob bb
              have HEQ : Hid (P ++ setC R (n + 1) = X ++ [x1 + 1]) := by
                have q : P ++ setC R (n + 1) = X ++ [x1 + 1] := by rw [HNX.out, HPC.out, if_neg (by omega : ¬ 0 < x0), if_pos q1]; simp
                exact q
              go_wp2
              go_roundw
              case rel => exact ⟨n + 1, by omega, by go_num, by rw [HEQ.out]; exact OB2.out, BB2.out⟩
              case measure => simp [intOf]; omega
            · have hlx : (putsL X).length ≤ 1000 := hlen
              have HEQ : Hid (P ++ setC R (n + 1) = X) := by
                have q : P ++ setC R (n + 1) = X := by rw [HNX.out, HPC.out, if_neg (by omega : ¬ 0 < x0), if_neg (by omega : ¬ x1 < 1114111)]; simp
                exact q
              go_wp2
              go_roundw
              case rel => exact ⟨n + 1, by omega, by go_num, by rw [HEQ.out]; exact OW2.out, BW2.out⟩
              case measure => simp [intOf]; omega
        · have hev2 := HEV.out
          obtain rfl : n = R.length / 2 := by omega
          have hnl : ¬ ((2 * (R.length / 2) : Nat) : Int) < (R.length : Int) := by omega
          go_wp2
          go_roundw
          case rel => exact ⟨k + 1, by omega, by go_num, by rw [HKK.out]; exact OW2.out, BW2.out⟩
          case measure => simp [intOf]; omega
    · obtain rfl : k = S.length := by omega
      go_wp2
      go_ret
      exact ⟨_, rfl, OW.out, BW.out⟩
/-- The cuts of a machine. -/
def cutsN (S : Rw) : List Int := putsL (rowsC S S.length)
set_option maxRecDepth 100000 in
set_option maxHeartbeats 4000000 in
theorem sCutsOf_any (E : Bool) (S G : Rw) (F L : List Int) (s a b g : Option Addr) (cs ca cb cg : Nat) (w : World) (hl : szN S F L G ≤ 1048576) (hS : RowsAt w s S) (hF : IntsAt w a F) (hL : IntsAt w b L) (hG : RowsAt w g G) (f : Bool) (A : List Int)
    (hans : (f = true ∧ goodN S G F L = true ∧ (cutsN S).length ≤ 40 ∧ A = cutsN S) ∨ (f = false ∧ A = [] ∧ ¬ (goodN S G F L = true ∧ (cutsN S).length ≤ 40))) :
    Calls Try.prog 37 #[.agg #[.bool E, .slice s S.length cs, .slice a F.length ca, .slice b L.length cb, .slice g G.length cg]] w fun r w' => ∃ v, r = .returned (.tuple #[v, .bool f]) ∧ w'.ownsRow w.heap.size 3 1 v A.length (ints A) ∧ Below w.heap.size w w' := by
  have A1 : Hid (∀ o, Below w.heap.size w (w.alloc o)) := fun o => (Below.refl _ _).alloc (Nat.le_refl _) o
  have HSG : Hid (∀ o, Calls Try.prog 90 #[.agg #[.bool E, .slice s S.length cs, .slice a F.length ca, .slice b L.length cb, .slice g G.length cg]] (w.alloc o) fun r w' => r = .returned (.bool (goodN S G F L)) ∧ Below (w.alloc o).heap.size (w.alloc o) w') := fun o => sgoodN_any E S G F L s a b g cs ca cb cg (w.alloc o) hl (RowsAt.keepB hS (A1.out o)) (IntsAt.keepB hF (A1.out o)) (IntsAt.keepB hL (A1.out o)) (RowsAt.keepB hG (A1.out o))
  have HSC : Hid (goodN S G F L = true → ∀ w', Below w.heap.size w w' → Calls Try.prog 91 #[.agg #[.bool E, .slice s S.length cs, .slice a F.length ca, .slice b L.length cb, .slice g G.length cg]] w' fun r w'' => ∃ v, r = .returned v ∧ w''.ownsRow w'.heap.size 3 1 v (cutsN S).length (ints (cutsN S)) ∧ Below w'.heap.size w' w'') := fun hg w' h => scuts_any E S G F L s a b g cs ca cb cg w' hg (RowsAt.keepB hS h)
  have HANS : Hid _ := hans
  clear hS hF hL hG hl hans
  go_enter Try.func37, Try.ntmps37
  go_wp2_with fail
  refine Calls.mono (HSG.out _) ?_
  rintro r w1 ⟨rfl, b1⟩
  have hb : w1.heap[w.heap.size]? = some (.cells #[.bool E, .slice s S.length cs, .slice a F.length ca, .slice b L.length cb, .slice g G.length cg] 58) := (b1.block w.heap.size (by simp)).trans (heap_last2 _ _ _ rfl)
  have hs1 : w.heap.size < w1.heap.size := Nat.lt_of_lt_of_le (by simp) b1.size
  have B1 : Hid (Below w.heap.size w w1) := (A1.out _).trans (b1.mono (by simp))
  have HB : Hid _ := hb
  clear b1 HSG
  cases hg : goodN S G F L
  · obtain ⟨rfl, rfl⟩ : f = false ∧ A = [] := by
      rcases HANS.out with ⟨-, h, -⟩ | ⟨h1, h2, -⟩
      · rw [hg] at h; cases h
      · exact ⟨h1, h2⟩
    clear hb HANS HSC hg
    go_wp2
    go_ret2
    exact ⟨_, rfl, World.ownsRow_nil _ _ _ _, B1.out⟩
  · have HC1 : Hid _ := HSC.out hg w1 B1.out
    have c0 : w1.cell? ⟨w.heap.size, 0, none⟩ = some (.bool E) := cell_of hb 0
    have c1 : w1.cell? ⟨w.heap.size, 1, none⟩ = some (.slice s S.length cs) := cell_of hb 1
    have c2 : w1.cell? ⟨w.heap.size, 2, none⟩ = some (.slice a F.length ca) := cell_of hb 2
    have c3 : w1.cell? ⟨w.heap.size, 3, none⟩ = some (.slice b L.length cb) := cell_of hb 3
    have c4 : w1.cell? ⟨w.heap.size, 4, none⟩ = some (.slice g G.length cg) := cell_of hb 4
    have HG : Hid _ := hg
    have HLE : Hid ((cutsN S).length ≤ 960) := by
      have hok := goodN_of hg
      have h1 := rowsC_len (fun k hk => (goodS_true (hok.2.2.2.2 k hk).1).2.1) S.length (Nat.le_refl _)
      have h2 := putsL_len (rowsC S S.length)
      have h3 := hok.1
      show (putsL (rowsC S S.length)).length ≤ 960
      omega
    clear hb hg
    go_wp2_with fail
    refine Calls.mono HC1.out ?_
    rintro r w2 ⟨v2, rfl, o2, b2⟩
    obtain ⟨va, vc, rfl⟩ := own_form' o2
    have hb2 := (b2.block w.heap.size hs1).trans HB.out
    have B2 : Hid (Below w.heap.size w w2) := B1.out.trans (b2.mono B1.out.size)
    have HC2 : Hid _ := HSC.out HG.out w2 B2.out
    clear b2 o2 c0 c1 c2 c3 c4 HC1
    have hle := HLE.out
    by_cases h40 : (cutsN S).length ≤ 40
    · obtain ⟨rfl, rfl⟩ : f = true ∧ A = cutsN S := by
        rcases HANS.out with ⟨h, -, -, h2⟩ | ⟨-, -, h⟩
        · exact ⟨h, h2⟩
        · exact absurd ⟨HG.out, h40⟩ h
      have hn : ¬ (40 : Int) < ((cutsN S).length : Int) := by omega
      have c0 : w2.cell? ⟨w.heap.size, 0, none⟩ = some (.bool E) := cell_of hb2 0
      have c1 : w2.cell? ⟨w.heap.size, 1, none⟩ = some (.slice s S.length cs) := cell_of hb2 1
      have c2 : w2.cell? ⟨w.heap.size, 2, none⟩ = some (.slice a F.length ca) := cell_of hb2 2
      have c3 : w2.cell? ⟨w.heap.size, 3, none⟩ = some (.slice b L.length cb) := cell_of hb2 3
      have c4 : w2.cell? ⟨w.heap.size, 4, none⟩ = some (.slice g G.length cg) := cell_of hb2 4
      clear hb2 HANS HSC hle
      go_wp2_with fail
      refine Calls.mono HC2.out ?_
      rintro r w3 ⟨v3, rfl, o3, b3⟩
      have B3 : Hid (Below w.heap.size w w3) := B2.out.trans (b3.mono B2.out.size)
      have O3 : Hid (w3.ownsRow w.heap.size 3 1 v3 (cutsN S).length (ints (cutsN S))) := own_mono o3 B2.out.size
      clear b3 o3
      go_wp2
      go_ret2
      exact ⟨v3, rfl, O3.out, B3.out⟩
    · obtain ⟨rfl, rfl⟩ : f = false ∧ A = [] := by
        rcases HANS.out with ⟨-, -, h, -⟩ | ⟨h1, h2, -⟩
        · exact absurd h h40
        · exact ⟨h1, h2⟩
      have hn : (40 : Int) < ((cutsN S).length : Int) := by omega
      clear hb2 HANS HSC hle HC2
      go_wp2
      go_ret2
      exact ⟨_, rfl, World.ownsRow_nil _ _ _ _, B2.out⟩
end Go.Proofs.Ytlkcdcdgpklpoaa

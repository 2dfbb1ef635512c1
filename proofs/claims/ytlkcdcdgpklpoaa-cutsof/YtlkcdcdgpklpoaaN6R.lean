/-
  CutsOf of the program: its two loops.
-/
import Derived.Test.YtlkcdcdgpklpoaaN6Q
import Derived.Test.YtlkcdcdgpklpoaaN6S
import Derived.BigQuiet
namespace Go.Proofs.Ytlkcdcdgpklpoaa
open Go.ChangeShapes Go.WideShapes Go.ChangeAt Go.WideMaps Go.WideElems Go.RowKit
set_option maxRecDepth 100000 in
set_option maxHeartbeats 8000000 in
theorem iCutsOf_good (E : Bool) (S G : Rw) (F L : List Int) (s a b g : Option Addr) (cs ca cb cg : Nat) (w : World) (hl : szN S F L G ≤ 1048576) (hg : goodN S G F L = true) (hS : RowsAt w s S) (hF : IntsAt w a F) (hL : IntsAt w b L) (hG : RowsAt w g G) (f : Bool) (A : List Int) (hans : (f = true ∧ (cutsN S).length ≤ 40 ∧ A = cutsN S) ∨ (f = false ∧ ¬ (cutsN S).length ≤ 40 ∧ A = [])) :
    Calls Try.prog 39 #[.agg #[.bool E, .slice s S.length cs, .slice a F.length ca, .slice b L.length cb, .slice g G.length cg]] w fun r w' => ∃ v, r = .returned (.tuple #[v, .bool f]) ∧ w'.ownsRow w.heap.size 3 1 v A.length (ints A) ∧ Below w.heap.size w w' := by
  have HANS : Hid _ := hans
  clear hans
  have hok := goodN_of hg
  have hl24 : ∀ k, k < S.length → (rw_ S k).length ≤ 24 ∧ (rw_ S k).length % 2 = 0 ∧ ∀ j, j < (rw_ S k).length → 0 ≤ (rw_ S k).getD j 0 ∧ (rw_ S k).getD j 0 ≤ 1114111 := fun k hk => by
    have h := goodS_true (hok.2.2.2.2 k hk).1
    exact ⟨h.2.1, h.1, fun j hj => inR_at h.2.2.1 hj⟩
  have hS40 : S.length ≤ 40 := hok.1
  have HL24 : Hid _ := hl24
  have HSA : Hid (RowsAt w s S) := hS
  have A1 : Hid (∀ o, Below w.heap.size w (w.alloc o)) := fun o => (Below.refl _ _).alloc (Nat.le_refl _) o
  have HLB : Hid (∀ k n, k < S.length → 2 * n ≤ (rw_ S k).length → (rowsC S k ++ setC (rw_ S k) n).length ≤ 1000) := fun k n hk hn => by
    rw [List.length_append]
    have h1 := rowsC_len (fun k hk => (hl24 k hk).1) k (by omega)
    have h2 := setC_len (rw_ S k) n
    have h3 := (hl24 k hk).1
    omega
  have HLA : Hid ((rowsC S S.length).length ≤ 1000) := by
    have h1 := rowsC_len (fun k hk => (hl24 k hk).1) S.length (Nat.le_refl _)
    show (rowsC S S.length).length ≤ 1000
    omega
  have HIG : Hid (∀ o, Calls Try.prog 93 #[.agg #[.bool E, .slice s S.length cs, .slice a F.length ca, .slice b L.length cb, .slice g G.length cg]] (w.alloc o) fun r w' => r = .returned (.bool true) ∧ Below (w.alloc o).heap.size (w.alloc o) w') := fun o => by
    have h := igoodN_any E S G F L s a b g cs ca cb cg (w.alloc o) hl (RowsAt.keepB hS (A1.out o)) (IntsAt.keepB hF (A1.out o)) (IntsAt.keepB hL (A1.out o)) (RowsAt.keepB hG (A1.out o))
    rw [hg] at h
    exact h
  clear hg hok hl24 hS hF hL hG hl
  go_enter Try.func39, Try.ntmps39
  go_wp2_with fail
  refine Calls.mono (HIG.out _) ?_
  rintro r w1 ⟨rfl, b1⟩
  have hb : w1.heap[w.heap.size]? = some (.cells #[.bool E, .slice s S.length cs, .slice a F.length ca, .slice b L.length cb, .slice g G.length cg] 58) := (b1.block w.heap.size (by simp)).trans (heap_last2 _ _ _ rfl)
  have B1 : Hid (Below w.heap.size w w1) := (A1.out _).trans (b1.mono (by simp))
  have c1 : w1.cell? ⟨w.heap.size, 1, none⟩ = some (.slice s S.length cs) := cell_of hb 1
  clear b1 HIG hb
  go_wp2
  go_loopw [4, 16] (fun v i wr => ∃ k : Nat, k ≤ S.length ∧ i = .int .i64 k ∧ wr.ownsRow w.heap.size 3 1 v (rowsC S k).length (ints (rowsC S k)) ∧ Below w.heap.size w wr) (fun _ i _ => S.length - (intOf i).toNat)
  case atStart => exact ⟨0, Nat.zero_le _, rfl, World.ownsRow_nil _ _ _ _, B1.out⟩
  case round =>
    obtain ⟨k, hk, rfl, hown, hbw⟩ := hrel
    have OW : Hid (wr.ownsRow w.heap.size 3 1 u4 (rowsC S k).length (ints (rowsC S k))) := hown
    have BW : Hid (Below w.heap.size w wr) := hbw
    clear hown hbw
    by_cases hlt : k < S.length
    · have hltI : (k : Int) < (S.length : Int) := by omega
      obtain ⟨b1, o1, sa, sc, rfl, l1, c1, iS⟩ := HSA.out k hlt
      have g1 : wr.cell? ⟨b1, o1 + k, none⟩ = some (.slice sa (rw_ S k).length sc) := (BW.out.cell (p := ⟨b1, o1 + k, none⟩) l1).trans c1
      have IS : Hid (IntsAt w sa (rw_ S k)) := iS
      obtain ⟨h24, hev, hbd⟩ := HL24.out k hlt
      have HBD : Hid _ := hbd
      have HEV : Hid _ := hev
      have HX : Hid _ := fun n (hn : 2 * n ≤ (rw_ S k).length) => HLB.out k n hlt hn
      have HKK : Hid (rowsC S (k + 1) = rowsC S k ++ setC (rw_ S k) ((rw_ S k).length / 2)) := rowsC_succ S k
      clear c1 iS hbd hev
      generalize hR : rw_ S k = R at *
      clear hR
      generalize hP : rowsC S k = P at *
      have HPP : Hid (rowsC S k = P) := hP
      clear hP
      have HRL : Hid (R.length ≤ 24) := h24
      go_wp2
      go_loopw [4, 7] (fun v i wr => ∃ n : Nat, 2 * n ≤ R.length ∧ i = .int .i64 ((2 * n : Nat) : Int) ∧ wr.ownsRow w.heap.size 3 1 v (P ++ setC R n).length (ints (P ++ setC R n)) ∧ Below w.heap.size w wr) (fun _ i _ => R.length - (intOf i).toNat)
      case atStart => exact ⟨0, Nat.zero_le _, rfl, by rw [show P ++ setC R 0 = P by simp [setC]]; exact OW.out, BW.out⟩
      case round =>
        obtain ⟨n, hn, rfl, hown, hbw⟩ := hrel
        have OW2 : Hid (wr.ownsRow w.heap.size 3 1 u4 (P ++ setC R n).length (ints (P ++ setC R n))) := hown
        have BW2 : Hid (Below w.heap.size w wr) := hbw
        clear hown hbw
        by_cases hlt2 : 2 * n < R.length
        · have hltI2 : ((2 * n : Nat) : Int) < (R.length : Int) := by omega
          have hev2 := HEV.out
          have hodd : 2 * n + 1 < R.length := by omega
          obtain ⟨b2, o2, rfl, l2, h2⟩ := IS.out (2 * n) hlt2
          obtain ⟨b3, o3, e3, l3, h3⟩ := IS.out (2 * n + 1) hodd
          simp only [Option.some.injEq, Addr.mk.injEq, and_true] at e3
          obtain ⟨rfl, rfl⟩ := e3
          have gx0 : wr.cell? ⟨b2, o2 + 2 * n, none⟩ = some (.int .i64 (R.getD (2 * n) 0)) := (BW2.out.cell (p := ⟨b2, o2 + 2 * n, none⟩) l2).trans h2
          have gx1 : wr.cell? ⟨b2, o2 + (2 * n + 1), none⟩ = some (.int .i64 (R.getD (2 * n + 1) 0)) := (BW2.out.cell (p := ⟨b2, o2 + (2 * n + 1), none⟩) l3).trans h3
          have HNX : Hid (P ++ setC R (n + 1) = (P ++ setC R n) ++ pairC R n) := by
            have q : P ++ setC R (n + 1) = (P ++ setC R n) ++ pairC R n := by rw [setC_succ, List.append_assoc]
            exact q
          have hb0 := HBD.out (2 * n) hlt2
          have hb1 := HBD.out (2 * n + 1) hodd
          have hlen : (P ++ setC R n).length ≤ 1000 := HX.out n hn
          have HPC : Hid (pairC R n = (if 0 < R.getD (2 * n) 0 then [R.getD (2 * n) 0] else []) ++ (if R.getD (2 * n + 1) 0 < 1114111 then [R.getD (2 * n + 1) 0 + 1] else [])) := rfl
          have hi2 : ((2 * n : Nat) : Int) + 1 = ((2 * n + 1 : Nat) : Int) := by omega
          have hw2 : IntKind.i64.wrap (((2 * n : Nat) : Int) + 1) = ((2 * n + 1 : Nat) : Int) := by rw [hi2]; exact IntWalk.i64_in _ (by omega)
          have hw4 : IntKind.i64.wrap (R.getD (2 * n + 1) 0 + 1) = R.getD (2 * n + 1) 0 + 1 := IntWalk.i64_in _ (by omega)
          have hk1 : 2 * n + 1 < R.length := hodd
          clear h2 h3 hev2
          generalize R.getD (2 * n) 0 = x0 at *
          generalize R.getD (2 * n + 1) 0 = x1 at *
          generalize hXX : P ++ setC R n = X at *
          go_wp2
          go_quiet (fail)
          obtain ⟨wd, hwd⟩ : ∃ wd, wd = wr.drewN nq := ⟨_, rfl⟩
          have OD : Hid (wd.ownsRow w.heap.size 3 1 u4 X.length (ints X)) := by rw [hwd]; exact OW2.out
          have BD : Hid (Below w.heap.size w wd) := by rw [hwd]; exact below_drewN BW2.out _
          rw [← hwd]
          clear hwd gx0 gx1
          by_cases q0 : 0 < x0
          · by_cases q1 : x1 + 1 ≤ 1114111
            · go_wp2_with (at_builtin; refine wpA _ rfl _ _ rfl w.heap.size u4 (X).length (ints (X)) rfl (World.ownsRow.alloc OD.out _) (some ⟨wd.heap.size, 0, none⟩) [x0] 1 1 rfl rfl (ints_new wd (x0) _ _ rfl) ?cP ?dP ?_)
              case cP => (try simp); omega
              case dP => exact Nat.le_trans BD.out.size (by simp)
              intro va wa oP gP _
              have OP : Hid (wa.ownsRow w.heap.size 3 1 va (X ++ [x0]).length (ints (X ++ [x0]))) := by
                have q : wa.ownsRow w.heap.size 3 1 va (X ++ [x0]).length (ints (X ++ [x0])) := by simpa [ints] using oP
                exact q
              have BP : Hid (Below w.heap.size w wa) := Below.grown (BD.out.alloc BD.out.size _) gP (Nat.le_trans BD.out.size (by simp)) (fun g hg => (World.ownsRow.lt OD.out g hg).1)
              clear oP gP
              go_wp2_with (at_builtin; refine wpA _ rfl _ _ rfl w.heap.size va (X ++ [x0]).length (ints (X ++ [x0])) rfl (World.ownsRow.alloc OP.out _) (some ⟨wa.heap.size, 0, none⟩) [x1 + 1] 1 1 rfl rfl (ints_new wa (x1 + 1) _ _ rfl) ?cQ ?dQ ?_)
              case cQ => (try simp); omega
              case dQ => exact Nat.le_trans BP.out.size (by simp)
              intro vb wb oQ gQ _
              have OQ : Hid (wb.ownsRow w.heap.size 3 1 vb (X ++ [x0] ++ [x1 + 1]).length (ints (X ++ [x0] ++ [x1 + 1]))) := by
                have q : wb.ownsRow w.heap.size 3 1 vb (X ++ [x0] ++ [x1 + 1]).length (ints (X ++ [x0] ++ [x1 + 1])) := by simpa [ints] using oQ
                exact q
              have BQ : Hid (Below w.heap.size w wb) := Below.grown (BP.out.alloc BP.out.size _) gQ (Nat.le_trans BP.out.size (by simp)) (fun g hg => (World.ownsRow.lt OP.out g hg).1)
              clear oQ gQ
              have HEQ : Hid (P ++ setC R (n + 1) = X ++ [x0] ++ [x1 + 1]) := by
                have q : P ++ setC R (n + 1) = X ++ [x0] ++ [x1 + 1] := by rw [HNX.out, HPC.out, if_pos q0, if_pos (by omega : x1 < 1114111)]; simp
                exact q
              go_wp2
              go_roundw
              case rel => exact ⟨n + 1, by omega, by go_num, by rw [HEQ.out]; exact OQ.out, BQ.out⟩
              case measure => simp [intOf]; omega
            · go_wp2_with (at_builtin; refine wpA _ rfl _ _ rfl w.heap.size u4 (X).length (ints (X)) rfl (World.ownsRow.alloc OD.out _) (some ⟨wd.heap.size, 0, none⟩) [x0] 1 1 rfl rfl (ints_new wd (x0) _ _ rfl) ?cP ?dP ?_)
              case cP => (try simp); omega
              case dP => exact Nat.le_trans BD.out.size (by simp)
              intro va wa oP gP _
              have OP : Hid (wa.ownsRow w.heap.size 3 1 va (X ++ [x0]).length (ints (X ++ [x0]))) := by
                have q : wa.ownsRow w.heap.size 3 1 va (X ++ [x0]).length (ints (X ++ [x0])) := by simpa [ints] using oP
                exact q
              have BP : Hid (Below w.heap.size w wa) := Below.grown (BD.out.alloc BD.out.size _) gP (Nat.le_trans BD.out.size (by simp)) (fun g hg => (World.ownsRow.lt OD.out g hg).1)
              clear oP gP
              have HEQ : Hid (P ++ setC R (n + 1) = X ++ [x0]) := by
                have q : P ++ setC R (n + 1) = X ++ [x0] := by rw [HNX.out, HPC.out, if_pos q0, if_neg (by omega : ¬ x1 < 1114111)]; simp
                exact q
              go_wp2
              go_roundw
              case rel => exact ⟨n + 1, by omega, by go_num, by rw [HEQ.out]; exact OP.out, BP.out⟩
              case measure => simp [intOf]; omega
          · by_cases q1 : x1 + 1 ≤ 1114111
            · go_wp2_with (at_builtin; refine wpA _ rfl _ _ rfl w.heap.size u4 (X).length (ints (X)) rfl (World.ownsRow.alloc OD.out _) (some ⟨wd.heap.size, 0, none⟩) [x1 + 1] 1 1 rfl rfl (ints_new wd (x1 + 1) _ _ rfl) ?cQ ?dQ ?_)
              case cQ => (try simp); omega
              case dQ => exact Nat.le_trans BD.out.size (by simp)
              intro vb wb oQ gQ _
              have OQ : Hid (wb.ownsRow w.heap.size 3 1 vb (X ++ [x1 + 1]).length (ints (X ++ [x1 + 1]))) := by
                have q : wb.ownsRow w.heap.size 3 1 vb (X ++ [x1 + 1]).length (ints (X ++ [x1 + 1])) := by simpa [ints] using oQ
                exact q
              have BQ : Hid (Below w.heap.size w wb) := Below.grown (BD.out.alloc BD.out.size _) gQ (Nat.le_trans BD.out.size (by simp)) (fun g hg => (World.ownsRow.lt OD.out g hg).1)
              clear oQ gQ
              have HEQ : Hid (P ++ setC R (n + 1) = X ++ [x1 + 1]) := by
                have q : P ++ setC R (n + 1) = X ++ [x1 + 1] := by rw [HNX.out, HPC.out, if_neg (by omega : ¬ 0 < x0), if_pos (by omega : x1 < 1114111)]; simp
                exact q
              go_wp2
              go_roundw
              case rel => exact ⟨n + 1, by omega, by go_num, by rw [HEQ.out]; exact OQ.out, BQ.out⟩
              case measure => simp [intOf]; omega
            · have HEQ : Hid (P ++ setC R (n + 1) = X) := by
                have q : P ++ setC R (n + 1) = X := by rw [HNX.out, HPC.out, if_neg (by omega : ¬ 0 < x0), if_neg (by omega : ¬ x1 < 1114111)]; simp
                exact q
              go_wp2
              go_roundw
              case rel => exact ⟨n + 1, by omega, by go_num, by rw [HEQ.out]; exact OD.out, BD.out⟩
              case measure => simp [intOf]; omega
        · have hev2 := HEV.out
          obtain rfl : n = R.length / 2 := by omega
          have hnl : ¬ ((2 * (R.length / 2) : Nat) : Int) < (R.length : Int) := by omega
          go_wp2
          go_roundw
          case rel => exact ⟨k + 1, by omega, by go_num, by rw [HKK.out]; exact OW2.out, BW2.out⟩
          case measure => simp [intOf]; omega
    · obtain rfl : k = S.length := by omega
      have hla := HLA.out
      have hcut : Lib.compact ((rowsC S S.length).mergeSort fun x y => decide (x ≤ y)) = cutsN S := comp_sort _
      have hzl : ((rowsC S S.length).mergeSort fun x y => decide (x ≤ y)).length = (rowsC S S.length).length := by simp
      have hcl : (cutsN S).length ≤ 1000 := Nat.le_trans (putsL_len _) hla
      have HCUT : Hid _ := hcut
      have HZL : Hid _ := hzl
      have HLA2 : Hid ((rowsC S S.length).length ≤ 1000) := hla
      clear hcut hzl hla
      generalize hX : rowsC S S.length = X at *
      generalize hZ : (X.mergeSort fun x y => decide (x ≤ y)) = Z at *
      go_wp2_with fail
      refine (sortI_any X u4 w.heap.size wr (by have := HLA2.out; omega) OW.out).mono ?_
      rintro r ws ⟨rfl, os, gs⟩
      rw [hZ] at os
      have OS : Hid (ws.ownsRow w.heap.size 3 1 u4 Z.length (ints Z)) := by
        have q : ws.ownsRow w.heap.size 3 1 u4 Z.length (ints Z) := by rw [HZL.out]; exact os
        exact q
      have BS : Hid (Below w.heap.size w ws) := Below.grown BW.out gs BW.out.size (fun g hg => (World.ownsRow.lt OW.out g hg).1)
      clear os gs
      go_wp2_with fail
      refine (compI_any Z u4 w.heap.size ws (by have := HLA2.out; have := HZL.out; omega) OS.out).mono ?_
      rintro r wc ⟨vc, rfl, oc, gc⟩
      rw [HCUT.out] at oc
      obtain ⟨va, vn, rfl⟩ := own_form' oc
      have OC : Hid (wc.ownsRow w.heap.size 3 1 (.slice va (cutsN S).length vn) (cutsN S).length (ints (cutsN S))) := oc
      have BC : Hid (Below w.heap.size w wc) := Below.grown BS.out gc BS.out.size (fun g hg => (World.ownsRow.lt OS.out g hg).1)
      clear oc gc
      rcases HANS.out with ⟨rfl, h40, rfl⟩ | ⟨rfl, h40, rfl⟩
      · have hn : ¬ (40 : Int) < ((cutsN S).length : Int) := by omega
        clear HANS h40
        go_wp2
        go_ret2
        exact ⟨_, rfl, OC.out, BC.out⟩
      · have hn : (40 : Int) < ((cutsN S).length : Int) := by omega
        clear HANS h40
        go_wp2
        go_ret2
        exact ⟨_, rfl, World.ownsRow_nil _ _ _ _, BC.out⟩
set_option maxRecDepth 100000 in
set_option maxHeartbeats 4000000 in
theorem iCutsOf_bad (E : Bool) (S G : Rw) (F L : List Int) (s a b g : Option Addr) (cs ca cb cg : Nat) (w : World) (hl : szN S F L G ≤ 1048576) (hg : goodN S G F L = false) (hS : RowsAt w s S) (hF : IntsAt w a F) (hL : IntsAt w b L) (hG : RowsAt w g G) :
    Calls Try.prog 39 #[.agg #[.bool E, .slice s S.length cs, .slice a F.length ca, .slice b L.length cb, .slice g G.length cg]] w fun r w' => ∃ v, r = .returned (.tuple #[v, .bool false]) ∧ w'.ownsRow w.heap.size 3 1 v ([] : List Int).length (ints []) ∧ Below w.heap.size w w' := by
  have A1 : Hid (∀ o, Below w.heap.size w (w.alloc o)) := fun o => (Below.refl _ _).alloc (Nat.le_refl _) o
  have HIG : Hid (∀ o, Calls Try.prog 93 #[.agg #[.bool E, .slice s S.length cs, .slice a F.length ca, .slice b L.length cb, .slice g G.length cg]] (w.alloc o) fun r w' => r = .returned (.bool false) ∧ Below (w.alloc o).heap.size (w.alloc o) w') := fun o => by
    have h := igoodN_any E S G F L s a b g cs ca cb cg (w.alloc o) hl (RowsAt.keepB hS (A1.out o)) (IntsAt.keepB hF (A1.out o)) (IntsAt.keepB hL (A1.out o)) (RowsAt.keepB hG (A1.out o))
    rw [hg] at h
    exact h
  clear hg hS hF hL hG hl
  go_enter Try.func39, Try.ntmps39
  go_wp2_with fail
  refine Calls.mono (HIG.out _) ?_
  rintro r w1 ⟨rfl, b1⟩
  have B1 : Hid (Below w.heap.size w w1) := (A1.out _).trans (b1.mono (by simp))
  clear b1 HIG
  go_wp2
  go_ret2
  exact ⟨_, rfl, World.ownsRow_nil _ _ _ _, B1.out⟩
theorem iCutsOf_any (E : Bool) (S G : Rw) (F L : List Int) (s a b g : Option Addr) (cs ca cb cg : Nat) (w : World) (hl : szN S F L G ≤ 1048576) (hS : RowsAt w s S) (hF : IntsAt w a F) (hL : IntsAt w b L) (hG : RowsAt w g G) (f : Bool) (A : List Int)
    (hans : (f = true ∧ goodN S G F L = true ∧ (cutsN S).length ≤ 40 ∧ A = cutsN S) ∨ (f = false ∧ A = [] ∧ ¬ (goodN S G F L = true ∧ (cutsN S).length ≤ 40))) :
    Calls Try.prog 39 #[.agg #[.bool E, .slice s S.length cs, .slice a F.length ca, .slice b L.length cb, .slice g G.length cg]] w fun r w' => ∃ v, r = .returned (.tuple #[v, .bool f]) ∧ w'.ownsRow w.heap.size 3 1 v A.length (ints A) ∧ Below w.heap.size w w' := by
  cases hg : goodN S G F L
  · obtain ⟨rfl, rfl⟩ : f = false ∧ A = [] := by
      rcases hans with ⟨-, h, -⟩ | ⟨h1, h2, -⟩
      · rw [hg] at h; cases h
      · exact ⟨h1, h2⟩
    exact iCutsOf_bad E S G F L s a b g cs ca cb cg w hl hg hS hF hL hG
  · refine iCutsOf_good E S G F L s a b g cs ca cb cg w hl hg hS hF hL hG f A ?_
    rcases hans with ⟨h1, -, h3, h4⟩ | ⟨h1, h2, h3⟩
    · exact .inl ⟨h1, h3, h4⟩
    · exact .inr ⟨h1, fun q => h3 ⟨hg, q⟩, h2⟩
end Go.Proofs.Ytlkcdcdgpklpoaa

/-
  The specification's l5Own, l5First, l5Rev; RevRe of the specification.
-/
import Derived.Test.YtendikiflikobaaT5L
import Derived.Test.YtendikiflikobaaN3E
namespace Go.Proofs.Ytendikiflikobaa
open Go.ChangeShapes Go.WideShapes Go.ChangeAt Go.WideMaps Go.WideElems Go.RowKit
set_option maxRecDepth 100000 in
set_option maxHeartbeats 4000000 in
theorem sown5_any (P : List Nd) (ao : Option Addr) (n cap : Nat) (hn : n = P.length) (w : World) (hp : P.length ≤ 10000) (hl : ∀ y ∈ P, y.2.length ≤ 1048576) (hA : ResAt w ao P) :
    Calls Try.prog 53 #[.slice ao n cap] w fun e w' => ∃ v, e = .returned v ∧ OwnF w' w.heap.size v P.length (nd P) ∧ Below w.heap.size w w' := by
  subst hn
  have HA : Hid (ResAt w ao P) := hA
  have HL : Hid _ := hl
  clear hA hl
  go_enter Try.func53, Try.ntmps53
  go_wp2
  go_loopw [3, 8] (fun v i wr => ∃ k : Nat, k ≤ P.length ∧ i = .int .i64 k ∧ OwnF wr w.heap.size v k (nd P) ∧ Below w.heap.size w wr) (fun _ i _ => P.length - (intOf i).toNat)
  case atStart => exact ⟨0, Nat.zero_le _, rfl, own_none _ _ _, Below.refl _ _⟩
  case round =>
    obtain ⟨k, hk, rfl, hO, hbw⟩ := hrel
    have BW0 : Hid (Below w.heap.size w wr) := hbw
    have hsz := hbw.size
    by_cases hlt : k < P.length
    · have hltI : (k : Int) < (P.length : Int) := by omega
      obtain ⟨Q, hQ, hr, hs, ha⟩ := hO
      have HR : Hid _ := hr
      have HS : Hid _ := hs
      have HAp : Hid _ := ha
      have HQ : Hid _ := hQ
      obtain ⟨b1, o1, sa, sc, rfl, l1, h0, h1, iS⟩ := HA.out k hlt
      have hls : (nd P k).2.length ≤ 1048576 := HL.out _ (by simp [nd, List.getD, hlt])
      have g0 : wr.cell? ⟨b1, o1 + k * 2, none⟩ = some (.int .i64 (nd P k).1) := (hbw.cell (p := ⟨b1, o1 + k * 2, none⟩) l1).trans h0
      have g1 : wr.cell? ⟨b1, o1 + k * 2 + 1, none⟩ = some (.slice sa (nd P k).2.length sc) := (hbw.cell (p := ⟨b1, o1 + k * 2 + 1, none⟩) l1).trans h1
      obtain ⟨op, hop⟩ : ∃ op, op = (nd P k).1 := ⟨_, rfl⟩
      obtain ⟨s, hss⟩ : ∃ s, s = (nd P k).2 := ⟨_, rfl⟩
      rw [← hop] at g0
      rw [← hss] at g1 hls
      have HOP : Hid _ := hop
      have HSS : Hid _ := hss
      have IS : Hid (∀ o, IntsAt (wr.alloc o).drew sa s) := fun o => by rw [hss]; exact IntsAt.keepB iS (hbw.trans (((al_T wr o).drew).mono hsz))
      have W1 : Hid (∀ o, Below wr.heap.size wr (wr.alloc o).drew) := fun o => (al_T wr o).drew
      have N0 : Hid (∀ o : Obj, (wr.alloc o).drew.heap[wr.heap.size]? = some o) := fun o => heap_last2 _ _ _ rfl
      clear hr hs ha hQ h0 h1 iS hbw hop hss
      go_wp2
      go_region_held_law (fun w' => (w'.cell? ⟨wr.heap.size, 0, none⟩ = some (.int .i64 op) ∧ w'.cell? ⟨wr.heap.size, 1, none⟩ = some (.slice sa s.length sc))) (first | exact ⟨cell_of (N0.out _) 0, cell_of (N0.out _) 1⟩ | exact ⟨cell_of NI.out 0, cell_of NI.out 1⟩ | exact ⟨cell_of (NIA.out _) 0, cell_of (NIA.out _) 1⟩ | exact ⟨cell_of N5.out 0, cell_of N5.out 1⟩) (first
        | (refine stepR (w3.alloc (.cells #[.int .i64 op, .slice a3 s.length c3] 81)) rfl (.tmp 12) (.tmp 19) rfl w.heap.size u3 k Q (by simp [Act.eval]) (World.ownsRow.keepB HR.out (B3.out.trans ((al_T _ _).mono B3.out.size))) w3.heap.size 1 op a3 s.length c3 (by simp [Act.eval]) (cell2_new _ _ _ _).1 (cell2_new _ _ _ _).2 (by omega) (Nat.le_trans (Nat.le_trans hsz B3.out.size) (al_T _ _).size) ?_
           intro v5 w5 hown5 hgrow5
           have O5 : Hid _ := hown5
           have G5 : Hid _ := hgrow5
           have N5 : Hid (w5.heap[wr.heap.size]? = some (.cells #[.int .i64 op, .slice sa s.length sc] 81)) := (hgrow5.block _ (lt_of_heap (NIA.out _)) (fun e' => by have := (World.ownsRow.lt HR.out _ e'.symm).2; omega)).trans (NIA.out _)
           clear hown5 hgrow5)
        | (go_at_call 96
           refine (sown_any s sa _ sc _ rfl hls (IS.out _)).mono ?_
           rintro e w3 ⟨v3, rfl, o3, b3⟩
           have O3 : Hid (w3.ownsRow wr.heap.size 3 1 v3 s.length (ints s)) := own_mono o3 (W1.out _).size
           have B3 : Hid (Below wr.heap.size wr w3) := (W1.out _).trans (b3.mono (W1.out _).size)
           obtain ⟨-, a3, c3, hv3, -⟩ := ints_of_own o3
           subst hv3
           have NI : Hid (w3.heap[wr.heap.size]? = some (.cells #[.int .i64 op, .slice sa s.length sc] 81)) := (b3.block wr.heap.size (by simp)).trans (N0.out _)
           have NIA : Hid (∀ o, (w3.alloc o).heap[wr.heap.size]? = some (.cells #[.int .i64 op, .slice sa s.length sc] 81)) := fun o => (heap_prev _ _ _ (lt_of_heap NI.out)).trans NI.out
           clear o3 b3))
      all_goals
        go_wp2
        have bA : Hid (Below wr.heap.size wr (w3.alloc (.cells #[.int .i64 op, .slice a3 s.length c3] 81))) := B3.out.trans ((al_T _ _).mono B3.out.size)
        have FIN : Hid (OwnF w5 w.heap.size v5 (k + 1) (nd P)) := by
          have h := own_push (f := nd P) (op := op) (s := s) Q HQ.out HR.out HS.out HAp.out bA.out (own_mono (World.ownsRow.keepB O3.out (al_T _ _)) hsz) (fun g hg => (World.ownsRow.lt O3.out g hg).1) O5.out G5.out
          exact OwnF.cast h (fun j _ => by
            split
            · rename_i e; subst e; rw [HOP.out, HSS.out]
            · rfl)
        have B5 : Hid (Below w.heap.size w w5) := BW0.out.trans (Below.grown (bA.out.mono hsz) G5.out (Nat.le_trans hsz bA.out.size) (fun g hg => (World.ownsRow.lt HR.out g hg).1))
        go_roundw
        case rel => exact ⟨k + 1, by omega, by go_num, FIN.out, B5.out⟩
        case measure => simp [intOf]; omega
    · obtain rfl : k = P.length := by omega
      have HO : Hid (OwnF wr w.heap.size u3 P.length (nd P)) := hO
      clear hO hbw
      go_wp2
      go_ret
      exact ⟨_, rfl, HO.out, BW0.out⟩
set_option maxRecDepth 100000 in
set_option maxHeartbeats 4000000 in
theorem sfirst_any (P : List Nd) (k : Nat) (op : Int) (s : List Int) (a b : Option Tr) (ha : okT a) (hb : okT b) (hS : Sub P k (some ⟨op, s, a, b⟩)) (ao : Option Addr) (cap : Nat) (w : World) (hp : P.length ≤ 10000) (hA : ResAt w ao P) :
    Calls Try.prog 95 #[.slice ao P.length cap, .int .i64 k] w fun e w' => e = .returned (.int .i64 ((k - 1 - (post b).length : Nat) : Int)) ∧ w' = w := by
  have HA : Hid (ResAt w ao P) := hA
  obtain ⟨t1, t2, t3, t4⟩ := hS.two ha hb
  have hk := hS.2.1
  have hpa : 0 < (post a).length := by
    cases a with
    | none => rw [okT] at ha; exact ha.elim
    | some t => exact post_pos t
  obtain ⟨m, hm⟩ : ∃ m, m = (post b).length := ⟨_, rfl⟩
  have HNE : Hid (∀ j, j ≤ m → (j < m → 0 ≤ bal ((P.take k).drop (k - j))) ∧ (j = m → bal ((P.take k).drop (k - j)) = -1)) := fun j hj => by
    have := t3.need j (by omega)
    rw [show k - 1 + 1 = k by omega, ← hm] at this
    exact this
  have HST : Hid (∀ j, j < m → bal ((P.take k).drop (k - (j + 1))) = bal ((P.take k).drop (k - j)) + (arity (nd P (k - 1 - j)).1 - 1)) := fun j hj => by
    have hlt : k - (j + 1) < (P.take k).length := by rw [List.length_take]; omega
    have e := List.drop_eq_getElem_cons hlt
    rw [show k - (j + 1) + 1 = k - j by omega] at e
    rw [e]
    have e2 : (P.take k)[k - (j + 1)] = nd P (k - 1 - j) := by
      rw [List.getElem_take]
      simp [nd, List.getD, show k - 1 - j < P.length by omega, show k - (j + 1) = k - 1 - j by omega]
    rw [e2]
    simp [bal]
    omega
  have hz : bal ((P.take k).drop (k - 0)) = 0 := by rw [Nat.sub_zero, List.drop_eq_nil_of_le (by rw [List.length_take]; omega)]; rfl
  have HZ : Hid _ := hz
  rw [← hm]
  rw [← hm] at t1 t2
  have hmk : m + 1 ≤ k := by omega
  clear hA t3 t4 hS hm hz
  go_enter Try.func95, Try.ntmps95
  go_wp2
  go_loopw [5, 6] (fun need at_ wr => ∃ (j i : Nat) (q : Int), j ≤ m ∧ i + j + 1 = k ∧ q = bal ((P.take k).drop (k - j)) ∧ -1 ≤ q ∧ q ≤ j ∧ need = .int .i64 (q + 1) ∧ at_ = .int .i64 i ∧ wr = w) (fun _ i _ => (intOf i).toNat)
  case atStart => exact ⟨0, k - 1, 0, Nat.zero_le _, by omega, HZ.out.symm, by omega, by omega, rfl, congrArg (Value.int .i64) (by omega), rfl⟩
  case round =>
    obtain ⟨j, i, q, hj, hij, hq, q0, q1, rfl, rfl, rfl⟩ := hrel
    have HQ : Hid _ := hq
    clear hq
    by_cases hlt : j < m
    · have hq0 : 0 ≤ q := by have := (HNE.out j hj).1 hlt; rw [HQ.out]; exact this
      have hpos : 0 < q + 1 := by omega
      have hilt : i < P.length := by omega
      have hiltI : (i : Int) < (P.length : Int) := by omega
      obtain ⟨b1, o1, sa, sc, rfl, l1, h0, h1, -⟩ := HA.out i hilt
      obtain ⟨ar, har⟩ : ∃ ar, ar = arity (nd P i).1 := ⟨_, rfl⟩
      have hbd := arity_bd (nd P i).1
      rw [← har] at hbd
      have HNX : Hid (q + ar - 1 = bal ((P.take k).drop (k - (j + 1)))) := by
        show q + ar - 1 = _
        rw [HST.out j hlt, ← HQ.out, show k - 1 - j = i by omega, ← har]
        omega
      have HNB : Hid (-1 ≤ q + ar - 1) := by
        show -1 ≤ q + ar - 1
        by_cases h2 : j + 1 < m
        · have := (HNE.out (j + 1) (by omega)).1 h2; rw [HNX.out]; omega
        · have := (HNE.out (j + 1) (by omega)).2 (by omega); rw [HNX.out]; omega
      have HAR : Hid _ := har
      clear har h1
      go_wp2_with fail
      refine (sar_any (nd P i).1 _).mono ?_
      rintro e w1 ⟨rfl, rfl⟩
      rw [← HAR.out]
      go_wp2
      go_roundw
      case rel => exact ⟨j + 1, i - 1, q + ar - 1, by omega, by omega, HNX.out, HNB.out, by omega, by first | rfl | (exact congrArg (Value.int .i64) (by omega)) | go_num, by first | (exact congrArg (Value.int .i64) (by omega)) | go_num, by first | rfl | trivial⟩
      case measure => simp [intOf]; omega
    · have hjm : j = m := by omega
      have hq1 : q = -1 := by rw [HQ.out]; exact (HNE.out j hj).2 hjm
      subst hq1
      go_wp2
      go_ret
      exact ⟨by first | rfl | (exact congrArg (fun z => Ending.returned (Value.int .i64 z)) (by omega)), rfl⟩
end Go.Proofs.Ytendikiflikobaa

/-
  l6Run of the specification.
-/
import Derived.Test.YthhmijobfbjkiaaN6M
import Derived.Deep.RegionHeld
namespace Go.Proofs.Ythhmijobfbjkiaa
open Go.ChangeShapes Go.WideShapes Go.ChangeAt Go.WideMaps Go.WideElems Go.RowKit
theorem getD_mem {X : List Int} {j : Nat} (h : j < X.length) : X.getD j 0 ∈ X := by
  have e : X.getD j 0 = X[j] := by simp [List.getD, h]
  rw [e]
  exact List.getElem_mem h
set_option maxRecDepth 100000 in
set_option maxHeartbeats 8000000 in
theorem srun6_any (E : Bool) (S G : Rw) (F L : List Int) (s a b g : Option Addr) (cs ca cb cg : Nat) (X : List Int) (base : Nat) (xo : Option Addr) (cx : Nat) (w : World) (hx : szR S ≤ 1048576) (hgl : G.length = S.length) (hX : X.length ≤ 1000) (h40 : S.length ≤ 40) (hFI : ∀ x ∈ F, 0 ≤ x ∧ x < (S.length : Int)) (hFs : F.Pairwise (· < ·)) (hGI : ∀ k, k < S.length → ∀ x ∈ rw_ G k, 0 ≤ x ∧ x < (S.length : Int)) (hG4 : ∀ k, k < G.length → (rw_ G k).length ≤ 40) (hLl : L.length ≤ 1048576) (hev : ∀ j, j < S.length → (rw_ S j).length % 2 = 0) (hS : RowsAt w s S) (hF : IntsAt w a F) (hL : IntsAt w b L) (hG : RowsAt w g G) (hO : w.ownsRow base 3 1 (.slice xo X.length cx) X.length (ints X)) :
    Calls Try.prog 42 #[.agg #[.bool E, .slice s S.length cs, .slice a F.length ca, .slice b L.length cb, .slice g G.length cg], .slice xo X.length cx] w fun e w' => e = .returned (.bool (runL E S G F L X)) ∧ Below w.heap.size w w' := by
  have HS : Hid _ := hS
  have HF : Hid _ := hF
  have HL : Hid _ := hL
  have HG : Hid _ := hG
  have HXA : Hid (IntsAt w xo X) := own_ints hO
  have HO : Hid _ := hO
  have HRUN : Hid (runL E S G F L X = if X.length = 0 then E else (atL S G F X (X.length - 1)).any fun k => decide (k ∈ L)) := rfl
  have HF40 : Hid (F.length ≤ 40) := Nat.le_trans (rising_len (a := 0) (m := S.length) hFs fun x hx => by have := hFI x hx; omega) h40
  have HOK : Hid (∀ k, (∀ x ∈ atL S G F X k, 0 ≤ x ∧ x < (S.length : Int)) ∧ (atL S G F X k).length ≤ 40) := fun k => ⟨(atL_ok hFI hFs hGI k).1, Nat.le_trans (rising_len (a := 0) (m := S.length) (atL_ok hFI hFs hGI k).2 fun x hx => by have := (atL_ok (X := X) (S := S) hFI hFs hGI k).1 x hx; omega) h40⟩
  have HST : Hid (∀ (A : List Int) (r : Int) (ao : Option Addr) (c : Nat) (w' : World), A.length ≤ 100000 → (∀ x ∈ A, 0 ≤ x ∧ x < (S.length : Int)) → Below w.heap.size w w' → IntsAt w' ao A → Calls Try.prog 61 #[.agg #[.bool E, .slice s S.length cs, .slice a F.length ca, .slice b L.length cb, .slice g G.length cg], .slice ao A.length c, .int .i64 r] w' fun e w'' => ∃ v, e = .returned v ∧ w''.ownsRow w'.heap.size 3 1 v (stepL S A r).length (ints (stepL S A r)) ∧ Below w'.heap.size w' w'') := fun A r ao c w' hA hin hb hA2 => sstep6_any E S G F L s a b g cs ca cb cg A r ao c w' hx hA hev (fun j hj => hin _ (getD_mem hj)) (RowsAt.keepB hS hb) hA2
  have HBE : Hid (∀ (A : List Int) (ao : Option Addr) (c : Nat) (w' : World), A.length ≤ 1000 → (∀ x ∈ A, 0 ≤ x ∧ x < (S.length : Int)) → Below w.heap.size w w' → IntsAt w' ao A → Calls Try.prog 62 #[.agg #[.bool E, .slice s S.length cs, .slice a F.length ca, .slice b L.length cb, .slice g G.length cg], .slice ao A.length c] w' fun e w'' => ∃ v, e = .returned v ∧ w''.ownsRow w'.heap.size 3 1 v (behL G A).length (ints (behL G A)) ∧ Below w'.heap.size w' w'') := fun A ao c w' hA hin hb hA2 => sbeh6_any E S G F L s a b g cs ca cb cg A ao c w' hA hG4 (fun j hj => by rw [hgl]; exact hin _ (getD_mem hj)) (RowsAt.keepB hG hb) hA2
  have HBB : Hid (∀ k, (behL G (atL S G F X k)).length ≤ 100000 ∧ ∀ x ∈ behL G (atL S G F X k), 0 ≤ x ∧ x < (S.length : Int)) := fun k => by
    have hin : ∀ x ∈ behL G (atL S G F X k), 0 ≤ x ∧ x < (S.length : Int) := fun x hx => by
      obtain ⟨y, hy, hxy⟩ := mem_behL.1 hx
      have := (HOK.out k).1 y hy
      exact hGI y.toNat (by omega) x hxy
    refine ⟨Nat.le_trans (rising_len (a := 0) (m := S.length) (behL_sorted _ _) fun x hx => by have := hin x hx; omega) (by omega), hin⟩
  have HFIN : Hid (∀ x ∈ F, 0 ≤ x ∧ x < (S.length : Int)) := hFI
  have X0 : Hid ((w.alloc (.cells #[.bool E, .slice s S.length cs, .slice a F.length ca, .slice b L.length cb, .slice g G.length cg] 38)).heap[w.heap.size]? = some (.cells #[.bool E, .slice s S.length cs, .slice a F.length ca, .slice b L.length cb, .slice g G.length cg] 38)) := heap_last2 _ _ _ rfl
  clear hS hF hL hG hO hx hgl hFI hFs hGI hG4 hev h40
  by_cases h0 : X.length = 0
  · have HE : Hid (runL E S G F L X = E) := (by rw [HRUN.out, if_pos h0] : runL E S G F L X = E)
    have h0i : ((X.length : Int)) = 0 := by omega
    have h0b : ((X.length : Int) == 0) = true := beq_iff_eq.2 h0i
    have c0 : (w.alloc (.cells #[.bool E, .slice s S.length cs, .slice a F.length ca, .slice b L.length cb, .slice g G.length cg] 38)).cell? ⟨w.heap.size, 0, none⟩ = some (.bool E) := cell_of X0.out 0
    clear h0
    go_enter Try.func42, Try.ntmps42
    go_wp2
    go_ret
    exact ⟨by rw [HE.out] <;> rfl, al_N _ _⟩
  · have h0i : ¬ ((X.length : Int)) = 0 := by omega
    have h0b : ((X.length : Int) == 0) = false := beq_eq_false_iff_ne.2 h0i
    obtain ⟨m, hm⟩ : ∃ m, X.length = m + 1 := ⟨X.length - 1, by omega⟩
    have hm1 : X.length - 1 = m := by omega
    have hpos : 0 < X.length := by omega
    have HE : Hid (runL E S G F L X = (atL S G F X (X.length - 1)).any fun k => decide (k ∈ L)) := (by rw [HRUN.out, if_neg h0] : runL E S G F L X = (atL S G F X (X.length - 1)).any fun k => decide (k ∈ L))
    obtain ⟨b1, o1, rfl, l1, h1⟩ := HXA.out 0 hpos
    obtain ⟨TA, TC, hsl, hTI⟩ := slice_tail HO.out 1 (by omega)
    have HTI : Hid (IntsAt w TA (X.drop 1)) := hTI
    rw [hm1] at hsl HE
    have HM : Hid (X.length = m + 1) := hm
    have hmB : m ≤ 1000 := by omega
    have hsl1 : ∀ w, (Instr.slice 23 (.slice (some ⟨b1, o1, none⟩) X.length cx) (some (.int .i64 1)) none none).run Try.prog w = .ok (.slice TA m TC) w := hsl
    clear hsl
    have BD : Hid (Below w.heap.size w (w.alloc (.cells #[.bool E, .slice s S.length cs, .slice a F.length ca, .slice b L.length cb, .slice g G.length cg] 38)).drew) := (al_N w _).drew
    have gL : (w.alloc (.cells #[.bool E, .slice s S.length cs, .slice a F.length ca, .slice b L.length cb, .slice g G.length cg] 38)).drew.cell? ⟨b1, o1 + 0, none⟩ = some (.int .i64 (X.getD 0 0)) := (BD.out.cell (p := ⟨b1, o1 + 0, none⟩) l1).trans h1
    rw [Nat.add_zero] at gL
    have HB0 : Hid ((w.alloc (.cells #[.bool E, .slice s S.length cs, .slice a F.length ca, .slice b L.length cb, .slice g G.length cg] 38)).drew.heap[w.heap.size]? = some (.cells #[.bool E, .slice s S.length cs, .slice a F.length ca, .slice b L.length cb, .slice g G.length cg] 38)) := X0.out
    have c0 : (w.alloc (.cells #[.bool E, .slice s S.length cs, .slice a F.length ca, .slice b L.length cb, .slice g G.length cg] 38)).drew.cell? ⟨w.heap.size, 0, none⟩ = some (.bool E) := cell_of HB0.out 0
    have c1 : (w.alloc (.cells #[.bool E, .slice s S.length cs, .slice a F.length ca, .slice b L.length cb, .slice g G.length cg] 38)).drew.cell? ⟨w.heap.size, 1, none⟩ = some (.slice s S.length cs) := cell_of HB0.out 1
    have c2 : (w.alloc (.cells #[.bool E, .slice s S.length cs, .slice a F.length ca, .slice b L.length cb, .slice g G.length cg] 38)).drew.cell? ⟨w.heap.size, 2, none⟩ = some (.slice a F.length ca) := cell_of HB0.out 2
    have c3 : (w.alloc (.cells #[.bool E, .slice s S.length cs, .slice a F.length ca, .slice b L.length cb, .slice g G.length cg] 38)).drew.cell? ⟨w.heap.size, 3, none⟩ = some (.slice b L.length cb) := cell_of HB0.out 3
    have c4 : (w.alloc (.cells #[.bool E, .slice s S.length cs, .slice a F.length ca, .slice b L.length cb, .slice g G.length cg] 38)).drew.cell? ⟨w.heap.size, 4, none⟩ = some (.slice g G.length cg) := cell_of HB0.out 4
    have HC1 : Hid (Calls Try.prog 61 #[.agg #[.bool E, .slice s S.length cs, .slice a F.length ca, .slice b L.length cb, .slice g G.length cg], .slice a F.length ca, .int .i64 (X.getD 0 0)] (w.alloc (.cells #[.bool E, .slice s S.length cs, .slice a F.length ca, .slice b L.length cb, .slice g G.length cg] 38)).drew fun e w'' => ∃ v, e = .returned v ∧ w''.ownsRow (w.alloc (.cells #[.bool E, .slice s S.length cs, .slice a F.length ca, .slice b L.length cb, .slice g G.length cg] 38)).drew.heap.size 3 1 v (atL S G F X 0).length (ints (atL S G F X 0)) ∧ Below (w.alloc (.cells #[.bool E, .slice s S.length cs, .slice a F.length ca, .slice b L.length cb, .slice g G.length cg] 38)).drew.heap.size (w.alloc (.cells #[.bool E, .slice s S.length cs, .slice a F.length ca, .slice b L.length cb, .slice g G.length cg] 38)).drew w'') := HST.out F _ a ca _ (Nat.le_trans HF40.out (by omega)) HFIN.out BD.out (IntsAt.keepB HF.out BD.out)
    have HBL : Hid (∀ k, (behL G (atL S G F X k)).length ≤ 100000 ∧ ∀ x ∈ behL G (atL S G F X k), 0 ≤ x ∧ x < (S.length : Int)) := fun k => HBB.out k
    clear h0 h1 hTI hm hm1 HRUN
    generalize X.getD 0 0 = x at gL HC1
    go_enter Try.func42, Try.ntmps42
    go_wp2
    go_region_law (first
      | (go_simp
         go_at_call 61
         (with_reducible refine Calls.mono HC1.out ?_)
         rintro r w1 ⟨v1, rfl, k1, k2⟩
         have OW1 : Hid (w1.ownsRow (w.heap.size + 1) 3 1 v1 (atL S G F X 0).length (ints (atL S G F X 0))) := own_mono k1 (by simp)
         have B1 : Hid (Below (w.alloc (.cells #[.bool E, .slice s S.length cs, .slice a F.length ca, .slice b L.length cb, .slice g G.length cg] 38)).drew.heap.size (w.alloc (.cells #[.bool E, .slice s S.length cs, .slice a F.length ca, .slice b L.length cb, .slice g G.length cg] 38)).drew w1) := k2
         clear k1 k2
         dsimp only))
    all_goals
      obtain ⟨va, vc, rfl⟩ := own_form' OW1.out
      have HB1 : Hid (w1.heap[w.heap.size]? = some (.cells #[.bool E, .slice s S.length cs, .slice a F.length ca, .slice b L.length cb, .slice g G.length cg] 38)) := (B1.out.block _ (by simp)).trans HB0.out
      have BW1 : Hid (Below w.heap.size w w1) := BD.trans (B1.out.mono (by simp))
      clear gL c0 c1 c2 c3 c4 BD
      go_wp2
      go_loopw [5, 25] (fun v i wr => ∃ k : Nat, k ≤ m ∧ i = .int .i64 k ∧ wr.heap[w.heap.size]? = some (.cells #[.bool E, .slice s S.length cs, .slice a F.length ca, .slice b L.length cb, .slice g G.length cg] 38) ∧ wr.ownsRow (w.heap.size + 1) 3 1 v (atL S G F X k).length (ints (atL S G F X k)) ∧ Below w.heap.size w wr) (fun _ i _ => m - (intOf i).toNat)
      case atStart => exact ⟨0, Nat.zero_le _, rfl, HB1.out, OW1.out, BW1.out⟩
      case round =>
        obtain ⟨k, hk, rfl, hb, hown, hbw⟩ := hrel
        have BW : Hid (Below w.heap.size w wr) := hbw
        have HB : Hid (wr.heap[w.heap.size]? = some (.cells #[.bool E, .slice s S.length cs, .slice a F.length ca, .slice b L.length cb, .slice g G.length cg] 38)) := hb
        have hsz : w.heap.size < wr.heap.size := (Array.getElem?_eq_some_iff.1 hb).1
        obtain ⟨ya, yc, rfl⟩ := own_form' hown
        have OW : Hid (wr.ownsRow (w.heap.size + 1) 3 1 (.slice ya (atL S G F X k).length yc) (atL S G F X k).length (ints (atL S G F X k))) := hown
        clear hb hown hbw
        by_cases hlt : k < m
        · have hltI : (k : Int) < (m : Int) := by omega
          have HK : Hid (k + 1 ≤ m) := hlt
          obtain ⟨b2, o2, rfl, l2, h2⟩ := HTI.out k (by rw [List.length_drop, HM.out]; omega)
          have eX : (X.drop 1).getD k 0 = X.getD (k + 1) 0 := by
            rw [List.getD_eq_getElem?_getD, List.getD_eq_getElem?_getD, List.getElem?_drop, Nat.add_comm]
          rw [eX] at h2
          have gx : wr.cell? ⟨b2, o2 + k, none⟩ = some (.int .i64 (X.getD (k + 1) 0)) := (BW.out.cell (p := ⟨b2, o2 + k, none⟩) l2).trans h2
          have hlk := (HOK.out k).2
          have BD : Hid (Below w.heap.size w wr.drew) := BW.out.drew
          have HC2 : Hid (Calls Try.prog 62 #[.agg #[.bool E, .slice s S.length cs, .slice a F.length ca, .slice b L.length cb, .slice g G.length cg], .slice ya (atL S G F X k).length yc] wr.drew fun e w'' => ∃ v, e = .returned v ∧ w''.ownsRow wr.drew.heap.size 3 1 v (behL G (atL S G F X k)).length (ints (behL G (atL S G F X k))) ∧ Below wr.drew.heap.size wr.drew w'') := HBE.out _ ya yc _ (by omega) (HOK.out k).1 BD.out (own_ints (World.ownsRow.keepB OW.out (Below.refl _ _).drew))
          have HC3 : Hid (∀ (ba : Option Addr) (bc : Nat) (w' : World), Below w.heap.size w w' → IntsAt w' ba (behL G (atL S G F X k)) → Calls Try.prog 61 #[.agg #[.bool E, .slice s S.length cs, .slice a F.length ca, .slice b L.length cb, .slice g G.length cg], .slice ba (behL G (atL S G F X k)).length bc, .int .i64 (X.getD (k + 1) 0)] w' fun e w'' => ∃ v, e = .returned v ∧ w''.ownsRow w'.heap.size 3 1 v (atL S G F X (k + 1)).length (ints (atL S G F X (k + 1))) ∧ Below w'.heap.size w' w'') := fun ba bc w' h1 h2 => HST.out _ _ ba bc w' (HBL.out k).1 (HBL.out k).2 h1 h2
          have HBd : Hid (wr.drew.heap[w.heap.size]? = some (.cells #[.bool E, .slice s S.length cs, .slice a F.length ca, .slice b L.length cb, .slice g G.length cg] 38)) := HB.out
          have c0 : wr.drew.cell? ⟨w.heap.size, 0, none⟩ = some (.bool E) := cell_of HBd.out 0
          have c1 : wr.drew.cell? ⟨w.heap.size, 1, none⟩ = some (.slice s S.length cs) := cell_of HBd.out 1
          have c2 : wr.drew.cell? ⟨w.heap.size, 2, none⟩ = some (.slice a F.length ca) := cell_of HBd.out 2
          have c3 : wr.drew.cell? ⟨w.heap.size, 3, none⟩ = some (.slice b L.length cb) := cell_of HBd.out 3
          have c4 : wr.drew.cell? ⟨w.heap.size, 4, none⟩ = some (.slice g G.length cg) := cell_of HBd.out 4
          have ATN : Hid (∃ R2, R2 = atL S G F X (k + 1)) := ⟨_, rfl⟩
          obtain ⟨R2, hR2⟩ := ATN.out
          rw [← hR2] at HC3
          have HR2 : Hid (R2 = atL S G F X (k + 1)) := hR2
          clear h2 hR2 eX ATN
          generalize X.getD (k + 1) 0 = x at gx HC3
          generalize behL G (atL S G F X k) = Bk at HC2 HC3
          generalize atL S G F X k = Ak at OW HC2 hlk
          go_wp2
          go_region_law (first
            | (go_simp
               go_at_call 62
               (with_reducible refine Calls.mono HC2.out ?_)
               rintro r w2 ⟨v2, rfl, k1, k2⟩
               obtain ⟨ba, bc, rfl⟩ := own_form' k1
               have I2 : Hid (IntsAt w2 ba Bk) := own_ints k1
               have B2 : Hid (Below w.heap.size w w2) := BD.out.trans (k2.mono BD.out.size)
               have HB2 : Hid (w2.heap[w.heap.size]? = some (.cells #[.bool E, .slice s S.length cs, .slice a F.length ca, .slice b L.length cb, .slice g G.length cg] 38)) := (k2.block _ hsz).trans HBd.out
               have d0 : w2.cell? ⟨w.heap.size, 0, none⟩ = some (.bool E) := cell_of HB2.out 0
               have d1 : w2.cell? ⟨w.heap.size, 1, none⟩ = some (.slice s S.length cs) := cell_of HB2.out 1
               have d2 : w2.cell? ⟨w.heap.size, 2, none⟩ = some (.slice a F.length ca) := cell_of HB2.out 2
               have d3 : w2.cell? ⟨w.heap.size, 3, none⟩ = some (.slice b L.length cb) := cell_of HB2.out 3
               have d4 : w2.cell? ⟨w.heap.size, 4, none⟩ = some (.slice g G.length cg) := cell_of HB2.out 4
               clear k1 k2
               dsimp only)
            | (go_simp
               go_at_call 61
               (with_reducible refine Calls.mono (HC3.out _ _ _ B2.out I2.out) ?_)
               rintro r w3 ⟨v3, rfl, k1, k2⟩
               have hz2 : w.heap.size < w2.heap.size := (Array.getElem?_eq_some_iff.1 HB2.out).1
               have OW3 : Hid (w3.ownsRow (w.heap.size + 1) 3 1 v3 R2.length (ints R2)) := own_mono k1 hz2
               have B3 : Hid (Below w.heap.size w w3) := B2.out.trans (k2.mono B2.out.size)
               have HB3 : Hid (w3.heap[w.heap.size]? = some (.cells #[.bool E, .slice s S.length cs, .slice a F.length ca, .slice b L.length cb, .slice g G.length cg] 38)) := (k2.block _ hz2).trans HB2.out
               clear k1 k2
               dsimp only))
          all_goals
            go_wp2
            go_roundw
            case rel => exact ⟨k + 1, HK.out, by go_num, HB3.out, by rw [← HR2.out]; exact OW3.out, B3.out⟩
            case measure =>
              have := HK.out
              simp [intOf]
              omega
        · obtain rfl : k = m := by omega
          have hltI : ¬ (k : Int) < (k : Int) := by omega
          have I5 : Hid (IntsAt wr ya (atL S G F X k)) := own_ints OW.out
          have c3 : wr.cell? ⟨w.heap.size, 3, none⟩ = some (.slice b L.length cb) := cell_of HB.out 3
          have HHAS : Hid (∀ n, Calls Try.prog 63 #[.slice b L.length cb, .int .i64 n] wr fun e w' => e = .returned (.bool (decide (n ∈ L))) ∧ w' = wr) := fun n => shasN_any L n b cb wr hLl (IntsAt.keepB HL.out BW.out)
          have hlk := (HOK.out k).2
          have HEE : Hid (runL E S G F L X = (atL S G F X k).any fun k => decide (k ∈ L)) := HE.out
          clear HE OW HOK
          generalize atL S G F X k = Ak at I5 hlk HEE
          go_wp2
          go_loopw [38] (fun i wi => ∃ j : Nat, j ≤ Ak.length ∧ i = .int .i64 j ∧ (∀ q, q < j → ¬ Ak.getD q 0 ∈ L) ∧ wi = wr) (fun i _ => Ak.length - (intOf i).toNat)
          case atStart => exact ⟨0, Nat.zero_le _, rfl, fun q hq => absurd hq (by omega), rfl⟩
          case round =>
            obtain ⟨j, hj, rfl, hall, rfl⟩ := hrel
            have HALL : Hid _ := hall
            clear hall
            by_cases hlj : j < Ak.length
            · have hljI : (j : Int) < (Ak.length : Int) := by omega
              obtain ⟨b3, o3, rfl, l3, g3⟩ := I5.out j hlj
              have HH1 : Hid _ := HHAS.out (Ak.getD j 0)
              by_cases hq : Ak.getD j 0 ∈ L
              · have HR : Hid (runL E S G F L X = true) := (by rw [HEE.out]; exact List.any_eq_true.2 ⟨_, getD_mem hlj, decide_eq_true hq⟩ : runL E S G F L X = true)
                rw [decide_eq_true hq] at HH1
                clear hq
                generalize Ak.getD j 0 = y at g3 HH1
                go_wp2_with fail
                refine Calls.mono HH1.out ?_
                rintro r w5 ⟨rfl, rfl⟩
                go_wp2
                go_ret
                exact ⟨by rw [HR.out] <;> rfl, BW.out⟩
              · have HN : Hid (∀ q, q < j + 1 → ¬ Ak.getD q 0 ∈ L) := fun q hq2 => by
                  by_cases e : q = j
                  · subst e; exact hq
                  · exact HALL.out q (by omega)
                rw [decide_eq_false hq] at HH1
                clear hq
                generalize Ak.getD j 0 = y at g3 HH1
                go_wp2_with fail
                refine Calls.mono HH1.out ?_
                rintro r w5 ⟨rfl, rfl⟩
                go_wp2
                go_roundw
                case rel => exact ⟨j + 1, by omega, by go_num, HN.out, by first | rfl | trivial⟩
                case measure => simp [intOf]; omega
            · have hje : j = Ak.length := by omega
              have hljI : ¬ (j : Int) < (Ak.length : Int) := by omega
              have HR : Hid (runL E S G F L X = false) := (by
                rw [HEE.out]
                refine List.any_eq_false.2 fun x hx hc => ?_
                obtain ⟨q, hq, rfl⟩ := List.mem_iff_getElem.1 hx
                have := HALL.out q (by omega)
                apply this
                have e : Ak.getD q 0 = Ak[q] := by simp [List.getD, hq]
                rw [e]
                simpa using hc : runL E S G F L X = false)
              clear hje
              go_wp2
              go_ret
              exact ⟨by rw [HR.out] <;> rfl, BW.out⟩
end Go.Proofs.Ythhmijobfbjkiaa

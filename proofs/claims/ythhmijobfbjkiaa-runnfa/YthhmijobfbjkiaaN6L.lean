/-
  l6Behind, l1Has of the specification.
-/
import Derived.Test.YthhmijobfbjkiaaN6K
namespace Go.Proofs.Ythhmijobfbjkiaa
open Go.ChangeShapes Go.WideShapes Go.ChangeAt Go.WideMaps Go.WideElems Go.RowKit
set_option maxRecDepth 100000 in
set_option maxHeartbeats 4000000 in
theorem sbeh6_any (E : Bool) (S G : Rw) (F L : List Int) (s a b g : Option Addr) (cs ca cb cg : Nat) (X : List Int) (xo : Option Addr) (cx : Nat) (w : World) (hX : X.length ≤ 1000) (hG4 : ∀ k, k < G.length → (rw_ G k).length ≤ 40) (hin : ∀ j, j < X.length → 0 ≤ X.getD j 0 ∧ X.getD j 0 < G.length) (hG : RowsAt w g G) (hA : IntsAt w xo X) :
    Calls Try.prog 62 #[.agg #[.bool E, .slice s S.length cs, .slice a F.length ca, .slice b L.length cb, .slice g G.length cg], .slice xo X.length cx] w fun e w' => ∃ v, e = .returned v ∧ w'.ownsRow w.heap.size 3 1 v (behL G X).length (ints (behL G X)) ∧ Below w.heap.size w w' := by
  have HG : Hid _ := hG
  have HA : Hid (IntsAt w xo X) := hA
  have HG4 : Hid _ := hG4
  have HIN : Hid _ := hin
  have X0 : Hid ((w.alloc (.cells #[.bool E, .slice s S.length cs, .slice a F.length ca, .slice b L.length cb, .slice g G.length cg] 38)).heap[w.heap.size]? = some (.cells #[.bool E, .slice s S.length cs, .slice a F.length ca, .slice b L.length cb, .slice g G.length cg] 38)) := heap_last2 _ _ _ rfl
  clear hG hA hG4 hin
  go_enter Try.func62, Try.ntmps62
  go_wp2
  go_loopw [5, 10] (fun v i wr => ∃ k : Nat, k ≤ X.length ∧ i = .int .i64 k ∧ wr.heap[w.heap.size]? = some (.cells #[.bool E, .slice s S.length cs, .slice a F.length ca, .slice b L.length cb, .slice g G.length cg] 38) ∧ wr.ownsRow (w.heap.size + 1) 3 1 v (behL G (X.take k)).length (ints (behL G (X.take k))) ∧ Below w.heap.size w wr) (fun _ i _ => X.length - (intOf i).toNat)
  case atStart => exact ⟨0, Nat.zero_le _, rfl, X0.out, World.ownsRow_nil _ _ _ _, al_N _ _⟩
  case round =>
    obtain ⟨k, hk, rfl, hb, hown, hbw⟩ := hrel
    have BW : Hid (Below w.heap.size w wr) := hbw
    have HB : Hid _ := hb
    have hsz : w.heap.size < wr.heap.size := (Array.getElem?_eq_some_iff.1 hb).1
    by_cases hlt : k < X.length
    · have hltI : (k : Int) < (X.length : Int) := by omega
      obtain ⟨b1, o1, rfl, l1, h1⟩ := HA.out k hlt
      have hc : wr.cell? ⟨b1, o1 + k, none⟩ = some (.int .i64 (X.getD k 0)) := (BW.out.cell (p := ⟨b1, o1 + k, none⟩) l1).trans h1
      obtain ⟨hi0, hi1⟩ := HIN.out k hlt
      have HST := behL_take G X hlt
      have hlen : (behL G (X.take k)).length ≤ 0 + 40 * (X.take k).length := behL_len HG4.out (X.take k) [] fun y hy => by
        obtain ⟨j, hj, rfl⟩ := List.mem_iff_getElem.1 hy
        have hj2 : j < k ∧ j < X.length := by rw [List.length_take] at hj; omega
        have e : (X.take k)[j] = X.getD j 0 := by simp [List.getD, hj2.2]
        rw [e]
        exact HIN.out j hj2.2
      have htk : (X.take k).length ≤ X.length := by simp; omega
      obtain ⟨y, hy⟩ : ∃ y : Nat, X.getD k 0 = (y : Int) := ⟨(X.getD k 0).toNat, by omega⟩
      rw [hy] at hc hi0 hi1 HST
      have hyG : y < G.length := by omega
      obtain ⟨gb, go_, ga, gc, rfl, gl, gce, gi⟩ := HG.out y hyG
      have cG : wr.cell? ⟨w.heap.size, 4, none⟩ = some (.slice (some ⟨gb, go_, none⟩) G.length cg) := cell_of hb 4
      have gG : wr.cell? ⟨gb, go_ + y, none⟩ = some (.slice ga (rw_ G y).length gc) := (BW.out.cell (p := ⟨gb, go_ + y, none⟩) gl).trans gce
      have e1 : ((y : Int)).toNat = y := by omega
      rw [e1] at HST
      have h40 := HG4.out y hyG
      obtain ⟨_, va, vc, rfl, vi⟩ := ints_of_own hown
      have HJ : Hid (Calls Try.prog 75 #[.slice va (behL G (X.take k)).length vc, .slice ga (rw_ G y).length gc] wr fun e w' => ∃ v, e = .returned v ∧ w'.ownsRow wr.heap.size 3 1 v (behL G (X.take (k + 1))).length (ints (behL G (X.take (k + 1)))) ∧ Below wr.heap.size wr w') := by
        rw [HST]
        exact sjoin_own _ _ va ga vc gc wr (by omega) vi (IntsAt.keepB gi BW.out)
      clear h1 hb hown hbw gce gi gl HST vi hlen h40
      obtain ⟨R2, hR2⟩ : ∃ R2, R2 = behL G (X.take (k + 1)) := ⟨_, rfl⟩
      rw [← hR2] at HJ
      have HR2 : Hid (R2 = behL G (X.take (k + 1))) := hR2
      have hy2 : Hid (X.getD k 0 = (y : Int)) := hy
      clear hy hR2
      generalize (rw_ G y).length = ly at gG HJ
      generalize behL G (X.take k) = R at HJ
      go_wp2_with fail
      refine Calls.mono HJ.out ?_
      rintro r2 w2 ⟨v2, rfl, o2, b2⟩
      have HB2 : Hid (w2.heap[w.heap.size]? = some _) := (b2.block _ hsz).trans HB.out
      have BW2 : Hid (Below w.heap.size w w2) := BW.out.trans (b2.mono BW.out.size)
      have OW2 : Hid (w2.ownsRow (w.heap.size + 1) 3 1 v2 R2.length (ints R2)) := own_mono o2 (by omega)
      clear b2 o2
      go_wp2
      go_roundw
      case rel => exact ⟨k + 1, by omega, by go_num, HB2.out, by rw [← HR2.out]; exact OW2.out, BW2.out⟩
      case measure => simp [intOf]; omega
    · obtain rfl : k = X.length := by omega
      have hltI : ¬ (X.length : Int) < (X.length : Int) := by omega
      rw [List.take_length] at hown
      have OWF : Hid (wr.ownsRow (w.heap.size + 1) 3 1 _ (behL G X).length (ints (behL G X))) := hown
      clear hown hbw hb
      go_wp2
      go_ret
      exact ⟨_, rfl, own_mono OWF.out (by omega), BW.out⟩
set_option maxRecDepth 100000 in
set_option maxHeartbeats 1000000 in
theorem shasN_any (X : List Int) (n : Int) (xo : Option Addr) (cx : Nat) (w : World) (hX : X.length ≤ 1048576) (hA : IntsAt w xo X) :
    Calls Try.prog 63 #[.slice xo X.length cx, .int .i64 n] w fun e w' => e = .returned (.bool (decide (n ∈ X))) ∧ w' = w := by
  have HA : Hid (IntsAt w xo X) := hA
  clear hA
  go_enter Try.func63, Try.ntmps63
  go_wp2
  go_loopw [9] (fun i wr => ∃ k : Nat, k ≤ X.length ∧ i = .int .i64 k ∧ (∀ j, j < k → ¬ X.getD j 0 = n) ∧ wr = w) (fun i _ => X.length - (intOf i).toNat)
  case atStart => exact ⟨0, Nat.zero_le _, rfl, fun j hj => absurd hj (by omega), rfl⟩
  case round =>
    obtain ⟨k, hk, rfl, hall, rfl⟩ := hrel
    have HALL : Hid _ := hall
    clear hall
    by_cases hlt : k < X.length
    · have hltI : (k : Int) < (X.length : Int) := by omega
      obtain ⟨b1, o1, rfl, l1, c1⟩ := HA.out k hlt
      by_cases q : X.getD k 0 = n
      · have HM : Hid (decide (n ∈ X) = true) := decide_eq_true (by
          have e : X[k] = n := by rw [← q]; simp [List.getD, hlt]
          exact e ▸ List.getElem_mem hlt)
        rw [q] at c1
        clear q
        go_wp2
        go_ret
        exact ⟨by rw [HM.out] <;> rfl, by first | rfl | trivial⟩
      · have HN : Hid (∀ j, j < k + 1 → ¬ X.getD j 0 = n) := fun j hj => by
          by_cases e : j = k
          · subst e; exact q
          · exact HALL.out j (by omega)
        generalize X.getD k 0 = y at c1 q
        have qb : (y == n) = false := by simpa using q
        go_wp2
        go_roundw
        case rel => exact ⟨k + 1, by omega, by go_num, HN.out, by first | rfl | trivial⟩
        case measure => simp [intOf]; omega
    · have hke : k = X.length := by omega
      have hltI : ¬ (k : Int) < (X.length : Int) := by omega
      have HM : Hid (decide (n ∈ X) = false) := decide_eq_false fun h => by
        obtain ⟨j, hj, e⟩ := List.mem_iff_getElem.1 h
        exact HALL.out j (by omega) (by rw [← e]; simp [List.getD, hj])
      clear hke
      go_wp2
      go_ret
      exact ⟨by rw [HM.out] <;> rfl, by first | rfl | trivial⟩
theorem putL_sorted {n : Int} : ∀ {L : List Int}, L.Pairwise (· < ·) → (putL n L).Pairwise (· < ·)
  | [], _ => by simp [putL]
  | y :: L, h => by
    obtain ⟨h1, h2⟩ := List.pairwise_cons.1 h
    unfold putL
    split
    · rename_i hy
      refine List.pairwise_cons.2 ⟨fun x hx => ?_, putL_sorted h2⟩
      rcases mem_putL.1 hx with rfl | hx
      · exact hy
      · exact h1 x hx
    · split
      · exact h
      · rename_i hy hn
        refine List.pairwise_cons.2 ⟨fun x hx => ?_, h⟩
        rcases List.mem_cons.1 hx with rfl | hx
        · omega
        · have := h1 x hx; omega
theorem joinB_sorted : ∀ {B A : List Int}, A.Pairwise (· < ·) → (joinB A B).Pairwise (· < ·)
  | [], _, h => h
  | y :: B, A, h => joinB_sorted (B := B) (A := putL y A) (putL_sorted h)
theorem behL_sorted_go {G : Rw} : ∀ {A O : List Int}, O.Pairwise (· < ·) → (A.foldl (fun o k => joinB o (rw_ G k.toNat)) O).Pairwise (· < ·)
  | [], _, h => h
  | _ :: A, _, h => behL_sorted_go (A := A) (joinB_sorted h)
theorem behL_sorted (G : Rw) (A : List Int) : (behL G A).Pairwise (· < ·) := behL_sorted_go List.Pairwise.nil
theorem rising_len : ∀ {L : List Int} {a : Int} {m : Nat}, L.Pairwise (· < ·) → (∀ x ∈ L, a ≤ x ∧ x < a + m) → L.length ≤ m
  | [], _, _, _, _ => by simp
  | y :: L, a, m, h, hb => by
    obtain ⟨h1, h2⟩ := List.pairwise_cons.1 h
    have hy := hb y (by simp)
    have ih := rising_len (L := L) (a := y + 1) (m := (a + m - (y + 1)).toNat) h2 fun x hx => by
      have := h1 x hx
      have := hb x (by simp [hx])
      omega
    simp
    omega
/-- The places behind the first runes and one more. -/
def atL (S G : Rw) (F X : List Int) : Nat → List Int
  | 0 => stepL S F (X.getD 0 0)
  | k + 1 => stepL S (behL G (atL S G F X k)) (X.getD (k + 1) 0)
theorem mem_stepL {S : Rw} {A : List Int} {r x : Int} : x ∈ stepL S A r ↔ x ∈ A ∧ memS (rw_ S x.toNat) r = true := by
  unfold stepL
  exact List.mem_filter
theorem atL_ok {S G : Rw} {F X : List Int} {N : Nat} (hF : ∀ x ∈ F, 0 ≤ x ∧ x < (N : Int)) (hFs : F.Pairwise (· < ·)) (hG : ∀ k, k < N → ∀ x ∈ rw_ G k, 0 ≤ x ∧ x < (N : Int)) : ∀ k, (∀ x ∈ atL S G F X k, 0 ≤ x ∧ x < (N : Int)) ∧ (atL S G F X k).Pairwise (· < ·)
  | 0 => ⟨fun x hx => hF x (mem_stepL.1 hx).1, List.Pairwise.filter _ hFs⟩
  | k + 1 => by
    obtain ⟨i1, i2⟩ := atL_ok (X := X) (S := S) hF hFs hG k
    refine ⟨fun x hx => ?_, List.Pairwise.filter _ (behL_sorted _ _)⟩
    obtain ⟨y, hy, hxy⟩ := mem_behL.1 (mem_stepL.1 hx).1
    have := i1 y hy
    exact hG y.toNat (by omega) x hxy
end Go.Proofs.Ythhmijobfbjkiaa

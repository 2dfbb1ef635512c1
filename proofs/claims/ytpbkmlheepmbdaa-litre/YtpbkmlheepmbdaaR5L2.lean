/-
  LitRe of the specification.
-/
import Derived.Test.YtpbkmlheepmbdaaR5L
namespace Go.Proofs.Ytpbkmlheepmbdaa
open Go.ChangeShapes Go.WideShapes Go.ChangeAt Go.RowKit
set_option maxRecDepth 100000 in
set_option maxHeartbeats 2000000 in
theorem slit_any (L : List Int) (ao : Option Addr) (cap : Nat) (w : World) (hl : L.length ≤ 40) (hA : IntsAt w ao L) :
    Calls Try.prog 74 #[.slice ao L.length cap] w fun e w' => ∃ v, e = .returned v ∧ OwnF w' w.heap.size v (litL L).length (nd (litL L)) ∧ Below w.heap.size w w' := by
  have HA : Hid _ := hA
  clear hA
  by_cases h0 : L.length = 0
  · have HLL : Hid (litL L = [(1, [])]) := by show litL L = _; simp [litL, h0]
    have h0I : (L.length : Int) = 0 := by omega
    go_enter Try.func74, Try.ntmps74
    go_wp2
    go_ret
    refine ⟨_, rfl, ?_, by go_grown⟩
    rw [HLL.out]
    exact ⟨[(1, .slice none 0 0)], rfl, ⟨rfl, .inr ⟨w.heap.size, 1, _, rfl, Nat.le_refl _, heap_last2 _ _ _ rfl, Nat.le_refl _, by unfold maxLen; omega, rfl, rfl⟩⟩, fun j hj => by
      obtain rfl : j = 0 := by simp at hj; omega
      exact ⟨rfl, World.ownsRow_nil _ _ _ _⟩, fun i j hi hj hij => by simp at hi hj; omega⟩
  · have HLL : Hid (litL L = litK L L.length) := by show litL L = _; simp [litL, h0]
    have h0I : ¬ (L.length : Int) = 0 := by omega
    have hb0 : ((L.length : Int) == 0) = false := by simpa using h0I
    go_enter Try.func74, Try.ntmps74
    go_wp2
    go_loopw [3, 13] (fun v i wr => ∃ k : Nat, k ≤ L.length ∧ i = .int .i64 k ∧ OwnF wr w.heap.size v (litK L k).length (nd (litK L k)) ∧ Below w.heap.size w wr) (fun _ i _ => L.length - (intOf i).toNat)
    case atStart => exact ⟨0, Nat.zero_le _, rfl, own_none _ _ _, Below.refl _ _⟩
    case round =>
      obtain ⟨k, hk, rfl, hown, hbw⟩ := hrel
      have BW0 : Hid _ := hbw
      have hkl := litK_len L k
      have OW : Hid (OwnF wr w.heap.size u3 (litK L k).length (nd (litK L k))) := hown
      clear hbw hown
      by_cases hlt : k < L.length
      · have hltI : (k : Int) < (L.length : Int) := by omega
        obtain ⟨b1, o1, rfl, l1, h1⟩ := HA.out k hlt
        have g1 : wr.cell? ⟨b1, o1 + k, none⟩ = some (.int .i64 (L.getD k 0)) := (BW0.out.cell (p := ⟨b1, o1 + k, none⟩) l1).trans h1
        obtain ⟨Q, hQ, hr, hs, ha⟩ := OW.out
        have HR : Hid _ := hr
        have HS : Hid _ := hs
        have HAP : Hid _ := ha
        have HQ : Hid _ := hQ
        have hlk : (litK L k).length ≤ 100 := by omega
        have hw0 := BW0.out.size
        have HK1 : Hid _ := litK_one L k
        have HK2 : Hid _ := litK_more L k
        clear h1 hQ hr hs ha OW hkl
        generalize litK L k = A at *
        obtain ⟨x, hx⟩ : ∃ x, L.getD k 0 = x := ⟨_, rfl⟩
        rw [hx] at g1 HK1 HK2
        have A1 : ∀ o, Below wr.heap.size wr (wr.alloc o) := fun o => (Below.refl _ _).alloc (Nat.le_refl _) o
        have A2 : ∀ o p, Below wr.heap.size wr ((wr.alloc o).alloc p) := fun o p => (A1 o).alloc (by simp) p
        have L2 : ∀ o p, ((wr.alloc o).alloc p).heap.size = wr.heap.size + 2 := fun o p => by simp
        have K0 : ∀ o p, ((wr.alloc o).alloc p).heap[wr.heap.size]? = some o := fun o p => (heap_prev _ _ _ (by simp)).trans (heap_last2 _ _ _ rfl)
        have K1 : ∀ o p, ((wr.alloc o).alloc p).heap[wr.heap.size + 1]? = some p := fun o p => heap_last2 _ _ _ (by simp)
        go_wp2_with (at_builtin; refine wpR _ rfl _ _ rfl w.heap.size _ A.length Q rfl (World.ownsRow.keepB HR.out (A2 _ _)) (wr.heap.size + 1) 1 2 (some ⟨wr.heap.size, 0, none⟩) 2 2 rfl (cell_of (K1 _ _) 0) (cell_of (K1 _ _) 1) ?c1 ?c2 ?_)
        case c1 => omega
        case c2 => rw [L2]; omega
        intro v5 w5 hown5 hgrow
        have O5 : Hid (OwnF w5 w.heap.size v5 (A ++ [(2, [x, x])]).length (nd (A ++ [(2, [x, x])]))) := own_push_list Q HQ.out HR.out HS.out HAP.out (A2 _ _) (own_of_two (by omega) (K0 _ _)) (fun g hg => by simp [Value.ownBlock] at hg; omega) hown5 hgrow
        have B5 : Hid (Below w.heap.size w w5) := Below.grown (BW0.out.trans ((A2 _ _).mono BW0.out.size)) hgrow (by rw [L2]; omega) (fun g e => (World.ownsRow.lt HR.out g e).1)
        have hs5 : wr.heap.size + 2 ≤ w5.heap.size := by have := hgrow.size; rw [L2] at this; exact this
        clear hown5 hgrow HR HS HAP HQ g1 K0 K1 L2 A1 A2
        by_cases hk0 : 0 < k
        · have hk0I : (0 : Int) < (k : Int) := by omega
          obtain ⟨Q2, hQ2, hr2, hs2, ha2⟩ := O5.out
          have HR2 : Hid _ := hr2
          have HS2 : Hid _ := hs2
          have HAP2 : Hid _ := ha2
          have HQ2 : Hid _ := hQ2
          have HE : Hid _ := HK2.out hk0
          have hl5 : (A ++ [((2 : Int), [x, x])]).length ≤ 200 := by simp; omega
          clear hQ2 hr2 hs2 ha2 O5 HK1 HK2
          generalize A ++ [((2 : Int), [x, x])] = A2 at *
          have A1 : ∀ o, Below w5.heap.size w5 (w5.alloc o) := fun o => (Below.refl _ _).alloc (Nat.le_refl _) o
          have K1 : ∀ o, (w5.alloc o).heap[w5.heap.size]? = some o := fun o => heap_last2 _ _ _ rfl
          go_wp2_with (at_builtin; refine wpR _ rfl _ _ rfl w.heap.size _ A2.length Q2 rfl (World.ownsRow.keepB HR2.out (A1 _)) w5.heap.size 1 3 none 0 0 rfl (cell_of (K1 _) 0) (cell_of (K1 _) 1) ?c1 ?c2 ?_)
          case c1 => omega
          case c2 => simp; omega
          intro v6 w6 hown6 hgrow6
          have O6 : Hid (OwnF w6 w.heap.size v6 (A2 ++ [(3, [])]).length (nd (A2 ++ [(3, [])]))) := own_push_list Q2 HQ2.out HR2.out HS2.out HAP2.out (A1 _) (World.ownsRow_nil _ _ _ _) (fun g hg => by simp [Value.ownBlock] at hg) hown6 hgrow6
          have B6 : Hid (Below w.heap.size w w6) := Below.grown (B5.out.trans ((A1 _).mono B5.out.size)) hgrow6 (by simp; omega) (fun g e => (World.ownsRow.lt HR2.out g e).1)
          clear hown6 hgrow6 HR2 HS2 HAP2 HQ2 K1 A1
          go_wp2
          go_roundw
          case rel => exact ⟨k + 1, by omega, by go_num, by rw [HE.out]; exact O6.out, B6.out⟩
          case measure => simp [intOf]; omega
        · have hk0I : ¬ (0 : Int) < (k : Int) := by omega
          have HE : Hid _ := HK1.out hk0
          clear HK1 HK2
          go_wp2
          go_roundw
          case rel => exact ⟨k + 1, by omega, by go_num, by rw [HE.out]; exact O5.out, B5.out⟩
          case measure => simp [intOf]; omega
      · obtain rfl : k = L.length := by omega
        go_wp2
        go_ret
        exact ⟨_, rfl, by rw [HLL.out]; exact OW.out, BW0.out⟩
end Go.Proofs.Ytpbkmlheepmbdaa

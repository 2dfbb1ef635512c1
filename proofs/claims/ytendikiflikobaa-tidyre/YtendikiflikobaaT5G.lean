/-
  The program's trees: whether the empty list is matched, turned round.
-/
import Derived.Test.YtendikiflikobaaT5F
import Derived.Test.YtendikiflikobaaT5P
import Derived.Deep.RegionHeld
namespace Go.Proofs.Ytendikiflikobaa
open Go.ChangeShapes Go.WideShapes Go.ChangeAt Go.WideMaps Go.WideElems Go.RowKit
theorem arity_zero {op : Int} (h : arity op = 0) : op = 1 ∨ op = 2 := by
  unfold arity at h
  split at h
  · assumption
  · split at h
    · cases h
    · split at h <;> cases h
theorem arity_one {op : Int} (h : arity op = 1) : op = 6 ∨ op = 7 := by
  unfold arity at h
  split at h
  · cases h
  · split at h
    · assumption
    · split at h <;> cases h
theorem arity_two {op : Int} (h : arity op = 2) : op = 3 ∨ op = 4 ∨ op = 5 := by
  unfold arity at h
  split at h
  · cases h
  · split at h
    · cases h
    · split at h
      · assumption
      · cases h
/-- A node's cells, as loads want them. -/
theorem node_cells {w : World} {x : Nat} {op : Int} {sa : Option Addr} {n sc : Nat} {pa pb : Option Addr} (h : w.heap[x]? = some (.cells #[.int .i64 op, .slice sa n sc, .pointer pa, .pointer pb] 108)) :
    w.cell? ⟨x, 0, none⟩ = some (.int .i64 op) ∧ w.cell? ⟨x, 1, none⟩ = some (.slice sa n sc) ∧ w.cell? ⟨x, 2, none⟩ = some (.pointer pa) ∧ w.cell? ⟨x, 3, none⟩ = some (.pointer pb) := ⟨cell_of h 0, cell_of h 1, cell_of h 2, cell_of h 3⟩
set_option maxRecDepth 100000 in
set_option maxHeartbeats 4000000 in
theorem inul_any (B U : Nat) : ∀ t : Option Tr, okT t → ∀ (p : Option Addr) (w : World), TreeAt B U w t p → Calls Try.prog 55 #[.pointer p] w fun e w' => e = .returned (.bool (nul t)) ∧ w' = w
  | none, h => by rw [okT] at h; exact h.elim
  | some ⟨op, s, a, b⟩, h => by
    intro p w ht
    have IA : Hid (okT a → ∀ (p : Option Addr) (w : World), TreeAt B U w a p → Calls Try.prog 55 #[.pointer p] w fun e w' => e = .returned (.bool (nul a)) ∧ w' = w) := inul_any B U a
    have IB : Hid (okT b → ∀ (p : Option Addr) (w : World), TreeAt B U w b p → Calls Try.prog 55 #[.pointer p] w fun e w' => e = .returned (.bool (nul b)) ∧ w' = w) := inul_any B U b
    obtain ⟨x, sa, sc, pa, pb, rfl, -, -, hx, -, ta, tb⟩ := ht.node
    obtain ⟨c0, c1, c2, c3⟩ := node_cells hx
    have TA : Hid _ := ta
    have TB : Hid _ := tb
    clear ht hx ta tb
    rw [okT] at h
    rcases h with ⟨h1, -, -, -⟩ | ⟨h1, -, ha, -⟩ | ⟨h1, -, ha, hb⟩
    · rcases arity_zero h1 with rfl | rfl
      · have HV : Hid (nul (some ⟨1, s, a, b⟩) = true) := by show nul _ = _; rw [nul]; rfl
        clear h1
        go_enter Try.func55, Try.ntmps55
        go_wp2
        go_ret
        exact ⟨by rw [HV.out] <;> rfl, rfl⟩
      · have HV : Hid (nul (some ⟨2, s, a, b⟩) = false) := by show nul _ = _; rw [nul]; rfl
        clear h1
        go_enter Try.func55, Try.ntmps55
        go_wp2
        go_ret
        exact ⟨by rw [HV.out] <;> rfl, rfl⟩
    · rcases arity_one h1 with rfl | rfl
      · have HV : Hid (nul (some ⟨6, s, a, b⟩) = true) := by show nul _ = _; rw [nul]; rfl
        clear h1
        go_enter Try.func55, Try.ntmps55
        go_wp2
        go_ret
        exact ⟨by rw [HV.out] <;> rfl, rfl⟩
      · have HV : Hid (nul (some ⟨7, s, a, b⟩) = !nul a) := by show nul _ = _; rw [nul]; rfl
        clear h1
        go_enter Try.func55, Try.ntmps55
        go_wp2_with fail
        refine (IA.out ha pa w TA.out).mono ?_
        rintro e w1 ⟨rfl, rfl⟩
        go_wp2
        go_ret
        exact ⟨by rw [HV.out] <;> rfl, rfl⟩
    · rcases arity_two h1 with rfl | rfl | rfl
      · have HV : Hid (nul (some ⟨3, s, a, b⟩) = (nul a && nul b)) := by show nul _ = _; rw [nul]; rfl
        clear h1
        go_enter Try.func55, Try.ntmps55
        go_wp2_with fail
        refine (IA.out ha pa w TA.out).mono ?_
        rintro e w1 ⟨rfl, rfl⟩
        cases hna : nul a
        · go_wp2
          go_ret
          exact ⟨by rw [HV.out, hna] <;> rfl, rfl⟩
        · go_wp2_with fail
          refine (IB.out hb pb _ TB.out).mono ?_
          rintro e w1 ⟨rfl, rfl⟩
          go_wp2
          go_ret
          exact ⟨by rw [HV.out, hna] <;> rfl, rfl⟩
      · have HV : Hid (nul (some ⟨4, s, a, b⟩) = (nul a || nul b)) := by show nul _ = _; rw [nul]; rfl
        clear h1
        go_enter Try.func55, Try.ntmps55
        go_wp2_with fail
        refine (IA.out ha pa w TA.out).mono ?_
        rintro e w1 ⟨rfl, rfl⟩
        cases hna : nul a
        · go_wp2_with fail
          refine (IB.out hb pb _ TB.out).mono ?_
          rintro e w1 ⟨rfl, rfl⟩
          go_wp2
          go_ret
          exact ⟨by rw [HV.out, hna] <;> rfl, rfl⟩
        · go_wp2
          go_ret
          exact ⟨by rw [HV.out, hna] <;> rfl, rfl⟩
      · have HV : Hid (nul (some ⟨5, s, a, b⟩) = (nul a && nul b)) := by show nul _ = _; rw [nul]; rfl
        clear h1
        go_enter Try.func55, Try.ntmps55
        go_wp2_with fail
        refine (IA.out ha pa w TA.out).mono ?_
        rintro e w1 ⟨rfl, rfl⟩
        cases hna : nul a
        · go_wp2
          go_ret
          exact ⟨by rw [HV.out, hna] <;> rfl, rfl⟩
        · go_wp2_with fail
          refine (IB.out hb pb _ TB.out).mono ?_
          rintro e w1 ⟨rfl, rfl⟩
          go_wp2
          go_ret
          exact ⟨by rw [HV.out, hna] <;> rfl, rfl⟩
theorem IntsB.low {B V : Nat} {w w' : World} {sa : Option Addr} {s : List Int} (h : IntsB B w sa s) (hb : Below V w w') (hB : B ≤ V) : IntsB B w' sa s := by
  refine ⟨fun j hj => ?_, h.2⟩
  obtain ⟨b, off, rfl, h2, h3⟩ := h.1 j hj
  obtain ⟨b', off', he, hlt⟩ := h.2 j hj
  cases he
  have hbl := hb.block b (by omega)
  exact ⟨b, off, rfl, Nat.lt_of_lt_of_le h2 hb.size, by simpa [World.cell?, hbl] using h3⟩
/-- A tree stays where all that lies below stays. -/
theorem TreeAt.low {B U V : Nat} {w w' : World} (hb : Below V w w') (hU : U ≤ V) (hB : B ≤ V) : ∀ (t : Option Tr) (p : Option Addr), TreeAt B U w t p → TreeAt B U w' t p
  | none, p, h => by rw [TreeAt] at h ⊢; exact h
  | some ⟨op, s, a, b⟩, p, h => by
    rw [TreeAt] at h ⊢
    obtain ⟨x, sa, sc, pa, pb, h1, h2, h3, h4, h5, h6, h7⟩ := h
    exact ⟨x, sa, sc, pa, pb, h1, h2, h3, (hb.block x (by omega)).trans h4, h5.low hb hB, TreeAt.low hb hU hB a pa h6, TreeAt.low hb hU hB b pb h7⟩
theorem al_T (w : World) (o : Obj) : Below w.heap.size w (w.alloc o) := (Below.refl _ _).alloc (Nat.le_refl _) o
end Go.Proofs.Ytendikiflikobaa

/-
  Contracts of (*l1Cur).pick, one, among, of, rune and runes.
-/
import Derived.Test.YtdhppigjlldfmaaCur
namespace Go.Proofs.Ytdhppigjlldfmaa
open Go.ChangeShapes Go.WideShapes Go.ChangeAt Go.RowKit
set_option maxRecDepth 100000 in
set_option maxHeartbeats 1000000 in
theorem pick_any (N : Int) (B b : Nat) (ao : Option Addr) (n cap k : Nat) (w : World) (hk : k ≤ 900) (h : Cur w B b ao n cap k) :
    Calls Try.prog 53 #[.pointer (some ⟨b, 0, none⟩), .int .i64 N] w fun e w' => ∃ (r : Int) (k' : Nat), e = .returned (.int .i64 r) ∧ 0 ≤ r ∧ (r < N ∨ r = 0) ∧ k' ≤ k + 2 ∧ Cur w' B b ao n cap k' ∧ w.grownBy w' (some b) := by
  have HC : Hid _ := h
  clear h
  by_cases h1 : N ≤ 1
  · go_enter Try.func53, Try.ntmps53
    go_wp2
    go_ret
    exact ⟨0, k, rfl, by omega, .inr rfl, by omega, HC.out, grown_of_below (Below.refl _ _) _⟩
  · by_cases h2 : 200 < N
    · go_enter Try.func53, Try.ntmps53
      go_wp2_with fail
      refine (next_any B b ao n cap k _ (by omega) HC.out).mono ?_
      rintro e w1 ⟨r1, rfl, p0, p1, C1, g1⟩
      have HC1 : Hid _ := C1
      have G1 : Hid _ := g1
      clear C1 g1
      go_wp2_with fail
      refine (next_any B b ao n cap (k + 1) _ (by omega) HC1.out).mono ?_
      rintro e w2 ⟨r2, rfl, q0, q1, C2, g2⟩
      have HC2 : Hid _ := C2
      have G2 : Hid _ := grown_trans' G1.out g2
      clear C2 g2
      go_wp2
      go_ret
      exact ⟨(r1 * 256 + r2) % N, k + 2, rfl, Int.emod_nonneg _ (by omega), .inl (Int.emod_lt_of_pos _ (by omega)), by omega, HC2.out, G2.out⟩
    · go_enter Try.func53, Try.ntmps53
      go_wp2_with fail
      refine (next_any B b ao n cap k _ (by omega) HC.out).mono ?_
      rintro e w1 ⟨r1, rfl, p0, p1, C1, g1⟩
      have HC1 : Hid _ := C1
      have G1 : Hid _ := g1
      clear C1 g1
      go_wp2
      go_ret
      exact ⟨r1 % N, k + 1, rfl, Int.emod_nonneg _ (by omega), .inl (Int.emod_lt_of_pos _ (by omega)), by omega, HC1.out, G1.out⟩
set_option maxRecDepth 100000 in
set_option maxHeartbeats 1000000 in
theorem one_any (N : Int) (B b : Nat) (ao : Option Addr) (n cap k : Nat) (w : World) (hk : k ≤ 900) (h : Cur w B b ao n cap k) :
    Calls Try.prog 64 #[.pointer (some ⟨b, 0, none⟩), .int .i64 N] w fun e w' => ∃ (r : Bool) (k' : Nat), e = .returned (.bool r) ∧ k' ≤ k + 2 ∧ Cur w' B b ao n cap k' ∧ w.grownBy w' (some b) := by
  have HC : Hid _ := h
  clear h
  go_enter Try.func64, Try.ntmps64
  go_wp2_with fail
  refine (pick_any N B b ao n cap k _ hk HC.out).mono ?_
  rintro e w1 ⟨r, k', rfl, p0, p1, hk', C1, g1⟩
  have HC1 : Hid _ := C1
  have G1 : Hid _ := g1
  clear C1 g1 p1
  go_wp2
  go_ret
  exact ⟨_, k', rfl, hk', HC1.out, G1.out⟩
/-- Values lie where a slice begins, in another block than b. -/
def ValsAt (w : World) (b : Nat) (la : Option Addr) (L : List Value) : Prop :=
  ∀ j (hj : j < L.length), ∃ lb off, la = some ⟨lb, off, none⟩ ∧ lb ≠ b ∧ lb < w.heap.size ∧ w.cell? ⟨lb, off + j, none⟩ = some L[j]
theorem ValsAt.grown {w w' : World} {b : Nat} {la : Option Addr} {L : List Value} (h : ValsAt w b la L) (hg : w.grownBy w' (some b)) : ValsAt w' b la L := fun j hj => by
  obtain ⟨lb, off, h1, h2, h3, h4⟩ := h j hj
  have hb : w'.heap[lb]? = w.heap[lb]? := hg.block lb h3 (fun e => h2 (Option.some.inj e))
  exact ⟨lb, off, h1, h2, Nat.lt_of_lt_of_le h3 hg.size, (World.cell?_of_block (a := ⟨lb, off + j, none⟩) hb).trans h4⟩
theorem vals_new (w : World) (b : Nat) (hb : b < w.heap.size) (C : Array Value) (L : List Value) (hC : C = L.toArray) (t : TypeId) : ValsAt (w.alloc (.cells C t)) b (some ⟨w.heap.size, 0, none⟩) L := fun j hj => by
  subst hC
  refine ⟨w.heap.size, 0, rfl, by omega, by simp, ?_⟩
  rw [Nat.zero_add, World.cell?_alloc_new]
  simp [hj]
set_option maxRecDepth 100000 in
set_option maxHeartbeats 1000000 in
theorem among_any (L : List Int) (la : Option Addr) (lc : Nat) (B b : Nat) (ao : Option Addr) (n cap k : Nat) (w : World) (hk : k ≤ 900) (hl : 0 < L.length) (hl2 : L.length ≤ 1000) (hL : ValsAt w b la (ints L)) (h : Cur w B b ao n cap k) :
    Calls Try.prog 54 #[.pointer (some ⟨b, 0, none⟩), .slice la L.length lc] w fun e w' => ∃ (r : Int) (k' : Nat), e = .returned (.int .i64 r) ∧ r ∈ L ∧ k' ≤ k + 2 ∧ Cur w' B b ao n cap k' ∧ w.grownBy w' (some b) := by
  have HC : Hid _ := h
  have HL : Hid _ := hL
  clear h hL
  go_enter Try.func54, Try.ntmps54
  go_wp2_with fail
  refine (pick_any L.length B b ao n cap k _ hk HC.out).mono ?_
  rintro e w1 ⟨r, k', rfl, p0, p1, hk', C1, g1⟩
  have HC1 : Hid _ := C1
  have G1 : Hid _ := g1
  have HV : Hid _ := ValsAt.grown HL.out g1
  clear C1 g1
  obtain ⟨i, rfl⟩ := Int.eq_ofNat_of_zero_le p0
  have hi : i < L.length := by omega
  have hi' : i < (ints L).length := by simpa [ints] using hi
  obtain ⟨lb, off, rfl, _, _, hc⟩ := HV.out i hi'
  have hiI : (i : Int) < (L.length : Int) := by omega
  have e1 : (ints L)[i] = .int .i64 L[i] := by simp [ints]
  rw [e1] at hc
  have HM : Hid (L[i] ∈ L) := List.getElem_mem hi
  clear e1 p1 p0 hi'
  generalize L[i] = x at *
  go_wp2
  go_ret
  exact ⟨x, k', rfl, HM.out, hk', HC1.out, G1.out⟩
def runeL : List Int := [97, 98, 99, 120, 32, 49, 10, 0, 127, 128, 228, 769, 770, 2047, 2048, 4352, 4449, 12354, 44032, 55295, 57344, 65533, 65536, 128512, 1114111]
theorem runeL_good : ∀ r ∈ runeL, goodB r = true := by decide
end Go.Proofs.Ytdhppigjlldfmaa

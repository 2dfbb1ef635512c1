/-
  Contract of impl.RunesOf and spec.RunesOf.
-/
import Derived.Test.YtcclollclbegoaaDoorLst
namespace Go.Proofs.YtcclollclbegoaaDoor
open Go.ChangeShapes Go.WideShapes Go.ChangeAt Go.RowKit
theorem own_iter {w : World} {base : Nat} {e : TypeId} {size : Nat} {v : Value} {n : Nat} {xs : List Value} (h : w.ownsRow base e size v n xs) {k : Nat} {s : ByteArray} {p : Nat} (hk : w.heap[k]? = some (.stringIter s p)) (q : Nat) : (w.iterAt k s q).ownsRow base e size v n xs := by
  refine ⟨h.1, ?_⟩
  rcases h.2 with h2 | ⟨g, cap, cur, h1, h2, h3, h4⟩
  · exact .inl h2
  · have hne : g ≠ k := by
      intro e'
      subst e'
      rw [hk] at h3
      cases h3
    exact .inr ⟨g, cap, cur, h1, h2, by rw [Lib.iterAt_other w k g s q hne]; exact h3, h4⟩
theorem own_ne_iter {w : World} {base : Nat} {e : TypeId} {size : Nat} {v : Value} {n : Nat} {xs : List Value} (h : w.ownsRow base e size v n xs) {k : Nat} {s : ByteArray} {p : Nat} (hk : w.heap[k]? = some (.stringIter s p)) : some k ≠ v.ownBlock := by
  rcases h.2 with ⟨rfl, _⟩ | ⟨g, cap, cur, rfl, h2, h3, h4⟩
  · intro e'; cases e'
  · intro e'
    obtain rfl : k = g := Option.some.inj e'
    rw [hk] at h3
    cases h3
set_option maxRecDepth 100000 in
set_option maxHeartbeats 1000000 in
theorem irunes_any (s : ByteArray) (w : World) (hs : s.size ≤ 1000) :
    Calls Tryd.prog 80 #[.string s] w fun e w' => ∃ v, e = .returned (.tuple #[v, .bool true]) ∧ w'.ownsRow w.heap.size 3 1 v (runes s).length (ints (runes s)) ∧ Below w.heap.size w w' := by
  obtain ⟨i0, hi, hz0, hz1, hz2⟩ := info_parts Tryd.info3
  go_enter Tryd.func80, Tryd.ntmps80
  go_wp2_with (at_make; refine wpList_make_own _ rfl _ _ 28 rfl w.heap.size 3 i0 (.int .i64 0) 1 Tryd.underlying28 hi hz0 hz1 _ _ _ s.size rfl rfl rfl (by rw [hz2]; omega) (by unfold maxLen; omega) (Nat.le_refl _) ?_)
  intro w1 hown1 hg1
  have hb1 : Below w.heap.size w w1 := Below.grown (Below.refl _ _) hg1 (Nat.le_refl _) (fun k hk => by cases hk)
  clear hg1
  go_wp2
  go_loopw [4] (fun v wr => ∃ (p f : Nat) (L : List Int), wr.heap[w1.heap.size]? = some (.stringIter s p) ∧ L ++ runesFrom s f p = runes s ∧ s.size ≤ p + f ∧ wr.ownsRow w.heap.size 3 1 v L.length (ints L) ∧ Below w.heap.size w wr) (fun _ wr => s.size - wr.iterPos w1.heap.size)
  case atStart =>
    refine ⟨0, s.size, [], ?_, rfl, by omega, hown1.alloc _, hb1.alloc hb1.size _⟩
    exact World.iter_heap w1 s 0
  case round =>
    obtain ⟨p, f, L, hit, hL, hf, hown, hbw⟩ := hrel
    have HL : Hid _ := hL
    clear hL
    have hI : w.heap.size ≤ w1.heap.size := hb1.size
    have hsz : w1.heap.size < wr.heap.size := (Array.getElem?_eq_some_iff.1 hit).1
    by_cases hlt : p < s.size
    · have hnx : ∀ ty, (Instr.next (.pointer (some ⟨w1.heap.size, 0, none⟩)) true ty).run Tryd.prog wr = _ := fun ty => Lib.run_next_any_at wr w1.heap.size s p ty hit hlt
      obtain ⟨f, rfl⟩ : ∃ f', f = f' + 1 := ⟨f - 1, by omega⟩
      have HS : Hid (runesFrom s (f + 1) p = decR s p :: runesFrom s f (p + decW s p)) := by show runesFrom s (f + 1) p = _; rw [runesFrom, if_pos hlt]
      have HR : Hid (decR s p = ((Utf8.decode s p).1 : Int)) := rfl
      have HW : Hid (decW s p = (Utf8.decode s p).2) := rfl
      have hw := decW_pos s p hlt
      have hd := decode_le s p
      have hlen : L.length ≤ 1000 := by
        have h1 := congrArg List.length HL.out
        have h2 := runes_len s
        rw [List.length_append] at h1
        omega
      have hown2 := own_iter hown hit (p + (Utf8.decode s p).2)
      have hit2 := Lib.iterAt_heap wr w1.heap.size s p (p + (Utf8.decode s p).2) hit
      have hbw2 := Lib.below_iterAt hbw (k := w1.heap.size) hI s (p + (Utf8.decode s p).2)
      rw [HW.out] at hw
      have HS' : Hid (runesFrom s (f + 1) p = ((Utf8.decode s p).1 : Int) :: runesFrom s f (p + (Utf8.decode s p).2)) := HS.out
      clear HS HR HW hown hbw
      generalize (Utf8.decode s p).1 = r at *
      generalize (Utf8.decode s p).2 = d at *
      go_wp2_with (at_builtin; refine wpList_append_own _ rfl _ _ 28 rfl w.heap.size 3 i0 (.int .i64 0) 1 8 Tryd.underlying28 hi hz0 hz1 hz2 rfl (by decide) _ _ _ rfl (hown2.alloc _) ⟨(wr.iterAt w1.heap.size s (p + d)).heap.size, 0, none⟩ 1 1 [.int .i64 r] rfl rfl ?c1 ?c2 ?c3 ?c4 ?c5 ?_)
      case c1 => exact cell_one_new _ _ _
      case c2 => intro u hu; simp at hu; subst hu; rfl
      case c3 => unfold maxLen; omega
      case c4 => omega
      case c5 => have := hbw2.size; simp; omega
      intro v' w2 hown3 hgrow _
      have hne := own_ne_iter hown2 hit2
      have hsz2 : w1.heap.size < (wr.iterAt w1.heap.size s (p + d)).heap.size := by rw [Lib.iterAt_size]; exact hsz
      have hit3 : w2.heap[w1.heap.size]? = some (.stringIter s (p + d)) := by
        rw [hgrow.block w1.heap.size (by simp; omega) hne, Below.heap_alloc _ _ _ hsz2]
        exact hit2
      have hb2 : Below w.heap.size w w2 := by
        refine Below.grown (hbw2.alloc hbw2.size _) hgrow (by have := hbw2.size; simp; omega) (fun g hg => ?_)
        exact (hown2.lt g hg).1
      have HM : Hid (wr.iterPos w1.heap.size = p ∧ w2.iterPos w1.heap.size = p + d) := by
        show _ ∧ _
        simp only [World.iterPos, hit, hit3]
        exact ⟨trivial, trivial⟩
      clear hgrow hown2 hbw2 hit hit2 hnx
      go_wp2
      go_roundw
      case rel => exact ⟨p + d, f, L ++ [(r : Int)], hit3, by rw [← HL.out, HS'.out]; simp, by omega, by simpa [ints] using hown3, hb2⟩
      case measure => rw [HM.out.1, HM.out.2]; omega
    · have hnx : ∀ ty, (Instr.next (.pointer (some ⟨w1.heap.size, 0, none⟩)) true ty).run Tryd.prog wr = _ := fun ty => Lib.run_next_end_at wr w1.heap.size s p ty hit hlt
      go_wp2
      go_ret2
      refine ⟨_, rfl, ?_, hbw⟩
      have : L = runes s := by rw [← HL.out, runesFrom_end s f p hlt, List.append_nil]
      rw [← this]
      exact hown
set_option maxRecDepth 100000 in
set_option maxHeartbeats 1000000 in
theorem irunes_big (s : ByteArray) (w : World) (hs : (1000 : Int) < s.size) :
    Calls Tryd.prog 80 #[.string s] w fun e w' => e = .returned (.tuple #[.slice none 0 0, .bool false]) ∧ w' = w := by
  go_enter Tryd.func80, Tryd.ntmps80
  go_wp2
  go_ret2
  exact ⟨rfl, rfl⟩
end Go.Proofs.YtcclollclbegoaaDoor

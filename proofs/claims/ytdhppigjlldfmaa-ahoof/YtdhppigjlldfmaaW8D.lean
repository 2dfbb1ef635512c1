/-
  One state more in a trie: add.
-/
import Derived.Test.YtdhppigjlldfmaaW8C
namespace Go.Proofs.Ytdhppigjlldfmaa
open Go.ChangeShapes Go.WideShapes Go.ChangeAt Go.RowKit Go.Maps
set_option maxRecDepth 100000 in
set_option maxHeartbeats 16000000 in
theorem add_any (base tb f : Nat) (b q : Int) (ea : Option Addr) (en ec : Nat) (Q : List Sq) (E : Ed) (w : World) (hT : TrieAt w base tb Q E) (hf : f < Q.length) (hn : Q.length ≤ 1000) (hb : wf64 b) (hl : 0 ≤ (sq Q f).l ∧ (sq Q f).l ≤ 1000) :
    Calls Try.prog 73 #[.pointer (some ⟨tb, 0, none⟩), .agg #[.int .i64 f, .int .i64 b], .int .i64 q, .slice ea en ec] w fun e w' => e = .returned (.int .i64 Q.length) ∧ TrieAt w' base tb (Q ++ [⟨f, b, (sq Q f).l + 1, q, .slice ea en ec⟩]) (upE E f b Q.length) ∧ Below base w w' ∧ KeepI w w' := by
  obtain ⟨x, hx⟩ : ∃ x, x = (sq Q f).l := ⟨_, rfl⟩
  rw [← hx] at hl ⊢
  have HT : Hid _ := hT
  obtain ⟨g, cap, m, hg1, hg2', hbl, hE, hc, hrow, hbm⟩ := hT.form' (by omega)
  have hcl := (hc f hf).2.2.1
  rw [← hx] at hcl
  have hfw : wf64 f := WalkArith.wf_i64 (by omega)
  obtain ⟨X, hX⟩ : ∃ X, X = w.heap.size := ⟨_, rfl⟩
  have b1 := al_W w (.cells #[.int .i64 f, .int .i64 b] 73)
  have hx1 : (w.alloc (.cells #[.int .i64 f, .int .i64 b] 73)).heap[X]? = some (.cells #[.int .i64 f, .int .i64 b] 73) := heap_last2 _ _ _ hX
  have b2 : Below w.heap.size w (w.alloc (.cells #[.int .i64 f, .int .i64 b] 73)).drew := b1.drew
  obtain ⟨w2, st1, st2, st3⟩ := (hE.keepB b2).store f b hfw hb Q.length (by omega) (by omega)
  unfold edgeV at st1
  have hbl1 := (b1.block tb (Array.getElem?_eq_some_iff.1 hbl).1).trans hbl
  go_enter Try.func73, Try.ntmps73
  have c0 : (w.alloc (.cells #[.int .i64 f, .int .i64 b] 73)).cell? ⟨tb, 0, none⟩ = some (.slice (some ⟨g, 0, none⟩) Q.length cap) := cell_of hbl1 0
  go_wp2
  have s1 : (w.alloc (.cells #[.int .i64 f, .int .i64 b] 73)).drew.cell? ⟨tb, 1, none⟩ = some (.map (some m)) ∧ (w.alloc (.cells #[.int .i64 f, .int .i64 b] 73)).drew.cell? ⟨w.heap.size, 0, none⟩ = some (.int .i64 f) ∧ (w.alloc (.cells #[.int .i64 f, .int .i64 b] 73)).drew.cell? ⟨w.heap.size, 1, none⟩ = some (.int .i64 b) := ⟨cell_of hbl1 1, cell_of (hX ▸ hx1) 0, cell_of (hX ▸ hx1) 1⟩
  have hlt := (Array.getElem?_eq_some_iff.1 hbl).1
  have hmt : tb ≠ m := fun e => by
    obtain ⟨es, c, hm⟩ := hE.isMap
    rw [e, hm] at hbl
    cases hbl
  have hml := hE.lt
  have hg2 := st3.grown
  have hb2 : w2.heap[tb]? = some (.cells #[.slice (some ⟨g, 0, none⟩) Q.length cap, .map (some m)] 71) := (hg2.block tb (by simp; omega) (fun e => hmt (Option.some.inj e))).trans hbl1
  have hX2 : w2.heap[w.heap.size]? = some (.cells #[.int .i64 f, .int .i64 b] 73) := (hg2.block w.heap.size (by simp) (fun e => by have := Option.some.inj e; omega)).trans (hX ▸ hx1)
  have s2 : w2.cell? ⟨tb, 1, none⟩ = some (.map (some m)) ∧ w2.cell? ⟨w.heap.size, 0, none⟩ = some (.int .i64 f) ∧ w2.cell? ⟨w.heap.size, 1, none⟩ = some (.int .i64 b) := ⟨cell_of hb2 1, cell_of hX2 0, cell_of hX2 1⟩
  go_region_held (fun w' => w'.cell? ⟨tb, 1, none⟩ = some (.map (some m)) ∧ w'.cell? ⟨w.heap.size, 0, none⟩ = some (.int .i64 f) ∧ w'.cell? ⟨w.heap.size, 1, none⟩ = some (.int .i64 b)) (first | assumption) (fail)
  have htg : tb ≠ g := fun e => by
    have := World.ownsRow.cellAt hrow 0 (by omega)
    rcases hrow.2 with ⟨h, -⟩ | ⟨g', c', cur, e', k1, k2, -⟩
    · cases h
    · simp only [Value.slice.injEq, Option.some.injEq, Addr.mk.injEq, and_true, true_and] at e'
      rw [← e'.1, ← e, hbl] at k2
      simp at k2
  have hmg : g ≠ m := fun e => by
    obtain ⟨es, c, hm⟩ := hE.isMap
    have := (hc f hf).1
    rw [e] at this
    simp [World.cell?, hm] at this
  have hcl2 : w2.cell? ⟨g, f * 5 + 2, none⟩ = some (.int .i64 x) := by
    have h1 : w2.heap[g]? = w.heap[g]? := (hg2.block g (by simp; omega) (fun e => hmg (Option.some.inj e))).trans (b2.block g hg2')
    rw [← hcl]
    simp [World.cell?, h1]
  have hfI : (f : Int) < (Q.length : Int) := by omega
  have hx64 : IntKind.i64.wrap (x + 1) = x + 1 := IntWalk.i64_in _ (by omega)
  have OWN : Hid (w2.ownsRow base 75 5 (.slice (some ⟨g, 0, none⟩) Q.length cap) Q.length (fl5 Q)) := World.ownsRow.kept (World.ownsRow.keepB hrow b2) hg2 (.inr (fun e => hmg (Option.some.inj e)))
  have hfz : w2.frozen? ⟨tb, 0, none⟩ = false := frozen_of_row w2 _ _ _ _ hb2
  have HB2 : Hid _ := hb2
  have HX2 : Hid _ := hX2
  have HXL : Hid (x = (sq Q f).l) := hx
  have al2 : ∀ o, Below w2.heap.size w2 (w2.alloc o).drew := fun o => (al_W w2 o).drew
  have KEEP : Hid (∀ o, (w2.alloc o).drew.cell? ⟨tb, 0, none⟩ = some (.slice (some ⟨g, 0, none⟩) Q.length cap) ∧ (w2.alloc o).drew.cell? ⟨w.heap.size, 0, none⟩ = some (.int .i64 f) ∧ (w2.alloc o).drew.cell? ⟨w.heap.size, 1, none⟩ = some (.int .i64 b) ∧ (w2.alloc o).drew.cell? ⟨g, f * 5 + 2, none⟩ = some (.int .i64 x)) := fun o => by
    have lx := (Array.getElem?_eq_some_iff.1 hX2).1
    have lt := (Array.getElem?_eq_some_iff.1 hb2).1
    exact ⟨cell_of (((al2 o).block tb lt).trans hb2) 0, cell_of (((al2 o).block _ lx).trans hX2) 0, cell_of (((al2 o).block _ lx).trans hX2) 1, ((al2 o).cell (p := ⟨g, f * 5 + 2, none⟩) (World.block_lt_of_cell? _ _ hcl2)).trans hcl2⟩
  have LT : Hid (tb < w2.heap.size ∧ w.heap.size < w2.heap.size ∧ tb ≠ g ∧ w.heap.size ≠ g) := (⟨(Array.getElem?_eq_some_iff.1 hb2).1, (Array.getElem?_eq_some_iff.1 hX2).1, htg, by omega⟩ : tb < w2.heap.size ∧ w.heap.size < w2.heap.size ∧ tb ≠ g ∧ w.heap.size ≠ g)
  have MID : Hid (AddMid w w2 base tb g m Q.length cap (upE E f b Q.length)) := ⟨hT.lt.1, hbm, hg1, Nat.lt_of_lt_of_le hg2' (Nat.le_trans b2.size hg2.size), hmg, htg, hb2, st2, Below.grown (b2.mono (Nat.le_trans hg1 (Nat.le_of_lt hg2'))) hg2 (Nat.le_trans (Nat.le_trans hg1 (Nat.le_of_lt hg2')) b2.size) (fun k e => by have := Option.some.inj e; omega), (KeepI.below b2).trans (KeepI.map (EdgesAt.isMap (EdgesAt.keepB hE b2)) hg2), ⟨_, World.ownsRow.kept (World.ownsRow.keepB hrow b2) hg2 (.inr (fun e => hmg (Option.some.inj e)))⟩⟩
  clear hx
  have hsz2 : base ≤ w2.heap.size := Nat.le_trans hg1 (Nat.le_trans (Nat.le_of_lt hg2') (Nat.le_trans b2.size hg2.size))
  have s3 : w2.drew.cell? ⟨tb, 0, none⟩ = some (.slice (some ⟨g, 0, none⟩) Q.length cap) ∧ w2.drew.cell? ⟨w.heap.size, 0, none⟩ = some (.int .i64 f) ∧ w2.drew.cell? ⟨w.heap.size, 1, none⟩ = some (.int .i64 b) ∧ w2.drew.cell? ⟨g, f * 5 + 2, none⟩ = some (.int .i64 x) := ⟨cell_of hb2 0, cell_of hX2 0, cell_of hX2 1, hcl2⟩
  go_wp2
  obtain ⟨d0, d1, d2, d3⟩ := s3
  have k0 : (w2.alloc (.cells #[.int .i64 f, .int .i64 b, .int .i64 (x + 1), .int .i64 q, .slice ea en ec] 75)).drew.cell? ⟨tb, 0, none⟩ = some (.slice (some ⟨g, 0, none⟩) Q.length cap) := (KEEP.out _).1
  go_region_law (first
    | (refine step_st2 _ rfl (.tmp 25) (.tmp 40) rfl base g Q.length cap Q (by simp [Act.eval]) (World.ownsRow.keepB OWN.out (al_W w2 _).drew) w2.heap.size 1 f b (x + 1) q ea en ec (by simp [Act.eval]) (heap_last2 w2 _ _ rfl) (by omega) (Nat.le_trans hsz2 (al_W w2 _).size) ?_
       intro v3 w3 hr3 hg3 hold3
       obtain ⟨av, cv, rfl⟩ := own_slice hr3
       have hb3 : w3.heap[tb]? = some (.cells #[.slice (some ⟨g, 0, none⟩) Q.length cap, .map (some m)] 71) := (hg3.block tb (by exact Nat.lt_of_lt_of_le LT.out.1 (al_W w2 _).size) (fun e => LT.out.2.2.1 (Option.some.inj e))).trans (((al_W w2 _).block tb LT.out.1).trans HB2.out)
       have hx3 : w3.heap[w.heap.size]? = some (.cells #[.int .i64 f, .int .i64 b] 73) := (hg3.block w.heap.size (by exact Nat.lt_of_lt_of_le LT.out.2.1 (al_W w2 _).size) (fun e => LT.out.2.2.2 (Option.some.inj e))).trans (((al_W w2 _).block w.heap.size LT.out.2.1).trans HX2.out)
       have F3 : w3.frozen? ⟨tb, 0, none⟩ = false := frozen_of_row w3 _ _ _ _ hb3
       have C3 : w3.cell? ⟨tb, 0, none⟩ = some (.slice (some ⟨g, 0, none⟩) Q.length cap) := cell_of hb3 0
       have END : Hid _ := add_mid (Q := Q ++ [⟨f, b, x + 1, q, .slice ea en ec⟩]) MID.out (by rw [List.length_append]; exact hr3) (by simp) hg3
       clear hb3 hx3 hr3 hg3 hold3))
  all_goals
    go_wp2
    go_ret
    exact ⟨by first | rfl | simp, END.out⟩
end Go.Proofs.Ytdhppigjlldfmaa

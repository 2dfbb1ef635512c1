/-
  The program's sorting by buckets: rows apart from each other, appendLists.
-/
import Derived.Test.YtjfehgmpcgepnaaN3E
import Derived.Lib.SliceRun
namespace Go.Proofs.Ytjfehgmpcgepnaa
open Go.ChangeShapes Go.WideShapes Go.ChangeAt Go.RowKit
/-- Two rows share no block. -/
def SA (a b : Value) : Prop := ∀ g, a.ownBlock = some g → b.ownBlock ≠ some g
theorem SA.symm {a b : Value} (h : SA a b) : SA b a := fun g hb ha => h g ha hb
theorem SA.ne {a b : Value} (h : SA a b) : a.ownBlock = none ∨ a.ownBlock ≠ b.ownBlock := by
  cases ha : a.ownBlock with
  | none => exact .inl rfl
  | some g => exact .inr fun e => h g ha e.symm
theorem grown_then {a b c : World} {row row' : Option Nat} (h : a.grownBy b row) (k : b.grownBy c row') (hr : row' = row ∨ ∃ g, row' = some g ∧ a.heap.size ≤ g) : a.grownBy c row :=
  ⟨k.os.trans h.os, k.tape.trans h.tape, k.output.trans h.output, Nat.le_trans h.size k.size, fun i hi hn => (k.block i (Nat.lt_of_lt_of_le hi h.size) (fun e => by
    rcases hr with hr | ⟨g, hr, hg⟩
    · exact hn (e.trans hr)
    · rw [hr] at e
      have := Option.some.inj e
      omega)).trans (h.block i hi hn)⟩
/-- A row as it grows: from vo in w to vc in wc. -/
structure AL (w wc : World) (base : Nat) (vo vc : Value) (X : List Int) : Prop where
  own : wc.ownsRow base 3 1 vc X.length (ints X)
  gr : w.grownBy wc vo.ownBlock
  blk : vc.ownBlock = vo.ownBlock ∨ ∃ g, vc.ownBlock = some g ∧ w.heap.size ≤ g
theorem AL.start {w : World} {base : Nat} {vo : Value} {X : List Int} (h : w.ownsRow base 3 1 vo X.length (ints X)) (o : Obj) : AL w (w.alloc o) base vo vo X :=
  have b : Below w.heap.size w (w.alloc o) := (Below.refl _ _).alloc (Nat.le_refl _) o
  ⟨h.alloc o, ⟨b.os, b.tape, b.output, b.size, fun k hk _ => b.block k hk⟩, .inl rfl⟩
theorem AL.step {w wc w' : World} {base : Nat} {vo vc v' : Value} {X Y : List Int} {m : Nat} (h : AL w wc base vo vc X) (hown : w'.ownsRow base 3 1 v' (X.length + m) (ints X ++ ints Y)) (hm : m = Y.length) (hg : wc.grownBy w' vc.ownBlock) (hb : v'.ownBlock = vc.ownBlock ∨ v'.ownBlock = some wc.heap.size) : AL w w' base vo v' (X ++ Y) := by
  refine ⟨own_cast hown (by simp [hm]) (by simp [ints]), grown_then h.gr hg h.blk, ?_⟩
  rcases hb with hb | hb
  · rw [hb]; exact h.blk
  · exact .inr ⟨_, hb, h.gr.size⟩
theorem AL.row {w wc : World} {base base' : Nat} {vo vc v : Value} {X : List Int} {n : Nat} {xs : List Value} (h : AL w wc base vo vc X) (hr : w.ownsRow base' 3 1 v n xs) (ha : SA v vo) : wc.ownsRow base' 3 1 v n xs := World.ownsRow.kept hr h.gr ha.ne
theorem AL.ap {w wc : World} {base base' : Nat} {vo vc v : Value} {X : List Int} {n : Nat} {xs : List Value} (h : AL w wc base vo vc X) (hr : w.ownsRow base' 3 1 v n xs) (ha : SA v vo) : SA v vc := fun g hg e => by
  rcases h.blk with hb | ⟨g', hb, hl⟩
  · exact ha g hg (hb ▸ e)
  · rw [hb] at e
    have h1 := (World.ownsRow.lt hr g hg).2
    have := Option.some.inj e
    omega
theorem idx_0 (w : World) (a b c d e : Value) : (Instr.index 54 (.agg #[a, b, c, d, e]) (.int .i64 0)).run Try.prog w = .ok a w := by kernel_rfl
theorem idx_1 (w : World) (a b c d e : Value) : (Instr.index 54 (.agg #[a, b, c, d, e]) (.int .i64 1)).run Try.prog w = .ok b w := by kernel_rfl
theorem idx_2 (w : World) (a b c d e : Value) : (Instr.index 54 (.agg #[a, b, c, d, e]) (.int .i64 2)).run Try.prog w = .ok c w := by kernel_rfl
theorem idx_3 (w : World) (a b c d e : Value) : (Instr.index 54 (.agg #[a, b, c, d, e]) (.int .i64 3)).run Try.prog w = .ok d w := by kernel_rfl
theorem idx_4 (w : World) (a b c d e : Value) : (Instr.index 54 (.agg #[a, b, c, d, e]) (.int .i64 4)).run Try.prog w = .ok e w := by kernel_rfl
set_option maxRecDepth 100000 in
set_option maxHeartbeats 4000000 in
theorem iapp_any (w : World) (base : Nat) (vo v1 v2 v3 v4 v5 : Value) (O B1 B2 B3 B4 B5 : List Int) (ho : w.ownsRow base 3 1 vo O.length (ints O)) (h1 : w.ownsRow base 3 1 v1 B1.length (ints B1)) (h2 : w.ownsRow base 3 1 v2 B2.length (ints B2)) (h3 : w.ownsRow base 3 1 v3 B3.length (ints B3)) (h4 : w.ownsRow base 3 1 v4 B4.length (ints B4)) (h5 : w.ownsRow base 3 1 v5 B5.length (ints B5)) (a1 : SA v1 vo) (a2 : SA v2 vo) (a3 : SA v3 vo) (a4 : SA v4 vo) (a5 : SA v5 vo) (hlen : O.length + B1.length + B2.length + B3.length + B4.length + B5.length ≤ 2000) (hbase : base ≤ w.heap.size) :
    Calls Try.prog 45 #[vo, .agg #[v1, v2, v3, v4, v5]] w fun e w' => ∃ v, e = .returned v ∧ AL w w' base vo v (O ++ B1 ++ B2 ++ B3 ++ B4 ++ B5) := by
  have H1 : Hid (w.ownsRow base 3 1 v1 B1.length (ints B1)) := h1
  have A1 : Hid (SA v1 vo) := a1
  obtain ⟨_, p1, c1, rfl, _⟩ := ints_of_own h1
  have H2 : Hid (w.ownsRow base 3 1 v2 B2.length (ints B2)) := h2
  have A2 : Hid (SA v2 vo) := a2
  obtain ⟨_, p2, c2, rfl, _⟩ := ints_of_own h2
  have H3 : Hid (w.ownsRow base 3 1 v3 B3.length (ints B3)) := h3
  have A3 : Hid (SA v3 vo) := a3
  obtain ⟨_, p3, c3, rfl, _⟩ := ints_of_own h3
  have H4 : Hid (w.ownsRow base 3 1 v4 B4.length (ints B4)) := h4
  have A4 : Hid (SA v4 vo) := a4
  obtain ⟨_, p4, c4, rfl, _⟩ := ints_of_own h4
  have H5 : Hid (w.ownsRow base 3 1 v5 B5.length (ints B5)) := h5
  have A5 : Hid (SA v5 vo) := a5
  obtain ⟨_, p5, c5, rfl, _⟩ := ints_of_own h5
  have HO : Hid (w.ownsRow base 3 1 vo O.length (ints O)) := ho
  clear ho h1 h2 h3 h4 h5 a1 a2 a3 a4 a5
  have x0 := idx_0
  have x1 := idx_1
  have x2 := idx_2
  have x3 := idx_3
  have x4 := idx_4
  go_enter Try.func45, Try.ntmps45
  go_wp2
  have L0 : Hid (AL w (w.alloc (.cells #[.slice p1 B1.length c1, .slice p2 B2.length c2, .slice p3 B3.length c3, .slice p4 B4.length c4, .slice p5 B5.length c5] 54)) base vo vo O) := AL.start HO.out _
  generalize w.alloc (.cells #[.slice p1 B1.length c1, .slice p2 B2.length c2, .slice p3 B3.length c3, .slice p4 B4.length c4, .slice p5 B5.length c5] 54) = w0 at *
  refine wp_loop_rounds 6 ?_
  rw [rounds_succ]
  go_wp2_with (at_builtin; refine wpA _ rfl _ _ rfl base _ _ _ rfl (AL.own L0.out) _ B1 _ _ rfl rfl (own_ints (AL.row L0.out H1.out A1.out)) ?c1 ?c2 ?_)
  all_goals try (case c1 => first | omega | (simp; omega))
  all_goals try (case c2 => exact Nat.le_trans hbase (World.grownBy.size (AL.gr L0.out)))
  intro u1 w1 hown hgr hblk
  have L1 : Hid (AL w w1 base vo u1 (O ++ B1)) := AL.step (m := B1.length) L0.out (own_cast hown (by first | rfl | simp) (by first | rfl | simp [ints])) rfl hgr hblk
  clear hown hgr hblk
  go_wp2
  rw [rounds_succ]
  go_wp2_with (at_builtin; refine wpA _ rfl _ _ rfl base _ _ _ rfl (AL.own L1.out) _ B2 _ _ rfl rfl (own_ints (AL.row L1.out H2.out A2.out)) ?c1 ?c2 ?_)
  all_goals try (case c1 => first | omega | (simp; omega))
  all_goals try (case c2 => exact Nat.le_trans hbase (World.grownBy.size (AL.gr L1.out)))
  intro u2 w2 hown hgr hblk
  have L2 : Hid (AL w w2 base vo u2 (O ++ B1 ++ B2)) := AL.step (m := B2.length) L1.out (own_cast hown (by first | rfl | simp) (by first | rfl | simp [ints])) rfl hgr hblk
  clear hown hgr hblk
  go_wp2
  rw [rounds_succ]
  go_wp2_with (at_builtin; refine wpA _ rfl _ _ rfl base _ _ _ rfl (AL.own L2.out) _ B3 _ _ rfl rfl (own_ints (AL.row L2.out H3.out A3.out)) ?c1 ?c2 ?_)
  all_goals try (case c1 => first | omega | (simp; omega))
  all_goals try (case c2 => exact Nat.le_trans hbase (World.grownBy.size (AL.gr L2.out)))
  intro u3 w3 hown hgr hblk
  have L3 : Hid (AL w w3 base vo u3 (O ++ B1 ++ B2 ++ B3)) := AL.step (m := B3.length) L2.out (own_cast hown (by first | rfl | simp) (by first | rfl | simp [ints])) rfl hgr hblk
  clear hown hgr hblk
  go_wp2
  rw [rounds_succ]
  go_wp2_with (at_builtin; refine wpA _ rfl _ _ rfl base _ _ _ rfl (AL.own L3.out) _ B4 _ _ rfl rfl (own_ints (AL.row L3.out H4.out A4.out)) ?c1 ?c2 ?_)
  all_goals try (case c1 => first | omega | (simp; omega))
  all_goals try (case c2 => exact Nat.le_trans hbase (World.grownBy.size (AL.gr L3.out)))
  intro u4 w4 hown hgr hblk
  have L4 : Hid (AL w w4 base vo u4 (O ++ B1 ++ B2 ++ B3 ++ B4)) := AL.step (m := B4.length) L3.out (own_cast hown (by first | rfl | simp) (by first | rfl | simp [ints])) rfl hgr hblk
  clear hown hgr hblk
  go_wp2
  rw [rounds_succ]
  go_wp2_with (at_builtin; refine wpA _ rfl _ _ rfl base _ _ _ rfl (AL.own L4.out) _ B5 _ _ rfl rfl (own_ints (AL.row L4.out H5.out A5.out)) ?c1 ?c2 ?_)
  all_goals try (case c1 => first | omega | (simp; omega))
  all_goals try (case c2 => exact Nat.le_trans hbase (World.grownBy.size (AL.gr L4.out)))
  intro u5 w5 hown hgr hblk
  have L5 : Hid (AL w w5 base vo u5 (O ++ B1 ++ B2 ++ B3 ++ B4 ++ B5)) := AL.step (m := B5.length) L4.out (own_cast hown (by first | rfl | simp) (by first | rfl | simp [ints])) rfl hgr hblk
  clear hown hgr hblk
  go_wp2
  rw [rounds_succ]
  go_wp2
  go_ret
  exact ⟨_, rfl, L5.out⟩
end Go.Proofs.Ytjfehgmpcgepnaa

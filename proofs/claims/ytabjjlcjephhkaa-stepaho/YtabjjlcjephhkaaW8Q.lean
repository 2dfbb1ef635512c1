/-
  The draws of chapter 8's lists of ints.
-/
import Derived.Test.YtabjjlcjephhkaaDraw
import Derived.Test.YtabjjlcjephhkaaCur3
import Derived.Test.YtabjjlcjephhkaaW8O
namespace Go.Proofs.Ytabjjlcjephhkaa
open Go.ChangeShapes Go.WideShapes Go.ChangeAt Go.RowKit
def smallDL : List Int := [97, 98, 97, 98, 99, 12354]
theorem amongS (W0 : World) (S : Nat) (hS : S = W0.heap.size) (B b : Nat) (ao : Option Addr) (n cap k : Nat) (hk : k ≤ 900) (h : Cur W0 B b ao n cap k) :
    Calls Try.prog 71 #[.pointer (some ⟨b, 0, none⟩), .slice (some ⟨S, 0, none⟩) 6 6] (W0.alloc (.cells #[.int .i64 97, .int .i64 98, .int .i64 97, .int .i64 98, .int .i64 99, .int .i64 12354] 3)) fun e w' => ∃ (r : Int) (k' : Nat), e = .returned (.int .i64 r) ∧ k' ≤ k + 2 ∧ Cur w' B b ao n cap k' ∧ W0.grownBy w' (some b) := by
  subst hS
  have hb : b < W0.heap.size := Nat.lt_of_lt_of_le h.lt h.le
  have HV := vals_new W0 b hb _ (ints smallDL) rfl 3
  have HB : Below W0.heap.size W0 (W0.alloc (.cells (ints smallDL).toArray 3)) := (Below.refl _ _).alloc (Nat.le_refl _) _
  refine (among_any smallDL _ 6 B b ao n cap k _ hk (by decide) (by decide) HV (Cur.below h HB)).mono ?_
  rintro e w1 ⟨r, k', rfl, -, hk', C1, g1⟩
  exact ⟨r, k', rfl, hk', C1, grown_trans' (grown_of_below HB (some b)) g1⟩
set_option maxRecDepth 100000 in
set_option maxHeartbeats 1000000 in
theorem csmall_any (M : Nat) (B b : Nat) (ao : Option Addr) (n cap k : Nat) (w : World) (hM : M ≤ 100) (hk : k ≤ 500) (h : Cur w B b ao n cap k) :
    Calls Try.prog 51 #[.pointer (some ⟨b, 0, none⟩), .int .i64 M] w fun e w' => ∃ (v : Value) (L : List Int) (k' : Nat), e = .returned v ∧ L.length ≤ M ∧ k' ≤ k + 2 + 2 * M ∧ Cur w' B b ao n cap k' ∧ w'.ownsRow w.heap.size 3 1 v L.length (ints L) ∧ w.grownBy w' (some b) := by
  obtain ⟨i0, hi, hz0, hz1, hz2⟩ := info_parts Try.info3
  have hbw : b < w.heap.size := Nat.lt_of_lt_of_le h.lt h.le
  have HBW : Hid _ := h.le
  have HC : Hid _ := h
  clear h
  go_enter Try.func51, Try.ntmps51
  go_wp2_with fail
  refine (pick_any ((M : Int) + 1) B b ao n cap k _ (by omega) HC.out).mono ?_
  rintro e w1 ⟨r, k1, rfl, p0, p1, hk1, C1, g1⟩
  obtain ⟨m0, rfl⟩ := Int.eq_ofNat_of_zero_le p0
  have hm0 : m0 ≤ M := by omega
  have HC1 : Hid _ := C1
  have G1 : Hid _ := g1
  clear C1 g1 p0 p1
  go_wp2
  go_loopw [5, 6] (fun v i wr => ∃ (m k' : Nat) (L : List Int), i = .int .i64 m ∧ L.length + m ≤ M ∧ k' + 2 * m ≤ k + 2 + 2 * M ∧ Cur wr B b ao n cap k' ∧ wr.ownsRow w.heap.size 3 1 v L.length (ints L) ∧ w.grownBy wr (some b)) (fun _ i _ => (intOf i).toNat)
  case atStart => exact ⟨m0, k1, [], rfl, by simpa using hm0, by omega, HC1.out, World.ownsRow_nil _ _ _ _, G1.out⟩
  case round =>
    obtain ⟨m, k', L, rfl, hlm, hk', C2, own2, g2⟩ := hrel
    have HC2 : Hid _ := C2
    have OW2 : Hid _ := own2
    have G2 : Hid _ := g2
    clear C2 own2 g2
    by_cases hlt : 0 < m
    · have hltI : (0 : Int) < (m : Int) := by omega
      obtain ⟨m', rfl⟩ : ∃ m', m = m' + 1 := ⟨m - 1, by omega⟩
      go_wp2_with fail
      refine (amongS _ _ rfl B b ao n cap k' (by omega) HC2.out).mono ?_
      rintro e w3 ⟨x, k3, rfl, hk3, C3, g3⟩
      have hown3 := World.ownsRow.kept OW2.out g3 (own_ne_cur OW2.out hbw)
      have HC3 : Hid _ := C3
      have G3 : Hid _ := grown_trans' G2.out g3
      have hsz : w.heap.size ≤ w3.heap.size := G3.out.size
      clear C3 g3
      go_wp2_with (at_builtin; refine wpList_append_own _ rfl _ _ 24 rfl w.heap.size 3 i0 (.int .i64 0) 1 8 Try.underlying24 hi hz0 hz1 hz2 rfl (by decide) _ _ _ rfl (hown3.alloc _) ⟨w3.heap.size, 0, none⟩ 1 1 [.int .i64 x] rfl rfl ?c1 ?c2 ?c3 ?c4 ?c5 ?_)
      case c1 => exact cell_one_new _ _ _
      case c2 => intro u hu; simp at hu; subst hu; rfl
      case c3 => unfold maxLen; omega
      case c4 => omega
      case c5 => simp; omega
      intro v' w4 hown4 hgrow _
      have hal : Below w3.heap.size w3 (w3.alloc (.cells #[.int .i64 x] 3)) := (Below.refl _ _).alloc (Nat.le_refl _) _
      have HC4 : Hid (Cur w4 B b ao n cap k3) := Cur.grown (Cur.below HC3.out hal) hgrow (fun g hg => by have := (hown3.lt g hg).1; have := HBW.out; omega)
      have G4 : Hid (w.grownBy w4 (some b)) := by
        have ga := grown_trans' G3.out (grown_of_below hal (some b))
        exact ⟨hgrow.os.trans ga.os, hgrow.tape.trans ga.tape, hgrow.output.trans ga.output, Nat.le_trans ga.size hgrow.size, fun i hi hn => (hgrow.block i (Nat.lt_of_lt_of_le hi ga.size) (fun e => by have := (hown3.lt i e.symm).1; omega)).trans (ga.block i hi hn)⟩
      have OW4 : Hid (w4.ownsRow w.heap.size 3 1 v' (L ++ [x]).length (ints (L ++ [x]))) := by
        show w4.ownsRow w.heap.size 3 1 v' (L ++ [x]).length (ints (L ++ [x]))
        simpa [ints] using hown4
      clear hown4 hgrow hown3 hal
      go_wp2
      go_roundw
      case rel => exact ⟨m', k3, L ++ [x], by go_num, by simp; omega, by omega, HC4.out, OW4.out, G4.out⟩
      case measure => simp [intOf]
    · obtain rfl : m = 0 := by omega
      go_wp2
      go_ret
      exact ⟨_, L, k', rfl, by omega, by omega, HC2.out, OW2.out, G2.out⟩
set_option maxRecDepth 100000 in
set_option maxHeartbeats 1000000 in
theorem dplc_any (ao : Option Addr) (n cap : Nat) (w : World) (h : ArgB w ao n) :
    Calls Try.prog 19 #[.slice ao n cap] w fun e w' => ∃ (v1 v2 : Value) (L1 L2 : List Int), e = .returned (.tuple #[v1, v2]) ∧ L1.length ≤ 30 ∧ L2.length ≤ 30 ∧ w'.ownsRow w.heap.size 3 1 v1 L1.length (ints L1) ∧ w'.ownsRow w.heap.size 3 1 v2 L2.length (ints L2) ∧ Below w.heap.size w w' := by
  have HC : Hid _ := cur_new cap h
  clear h
  go_enter Try.func19, Try.ntmps19
  go_wp2_with fail
  refine (csmall_any 12 _ _ ao n cap 0 _ (by omega) (by omega) HC.out).mono ?_
  rintro e w1 ⟨v1, L1, k1, rfl, l1, hk1, C1, o1, g1⟩
  have HC1 : Hid _ := C1
  have G1 : Hid _ := g1
  have O1 : Hid _ := o1
  clear C1 g1 o1
  go_wp2_with fail
  refine (csmall_any 2 _ _ ao n cap k1 _ (by omega) (by omega) HC1.out).mono ?_
  rintro e w2 ⟨v2, L2, k2, rfl, l2, hk2, C2, o2, g2⟩
  have O1' : Hid _ := World.ownsRow.kept O1.out g2 (own_ne_cur O1.out (by simp))
  have G2 : Hid _ := grown_trans' G1.out g2
  have O2 : Hid (w2.ownsRow w.heap.size 3 1 v2 L2.length (ints L2)) := own_mono o2 (Nat.le_trans (by simp) G1.out.size)
  clear C2 g2 o2
  go_wp2
  go_ret2
  exact ⟨v1, v2, L1, L2, rfl, by omega, by omega, own_mono O1'.out (by simp), O2.out, below_of_cur G2.out⟩
set_option maxRecDepth 100000 in
/-- An own row behind which ints are laid is still read where it stood. -/
theorem run_append_keep (w : World) (base : Nat) (ty : TypeId) (g n cp : Nat) (L : List Int) (hL : L.length = n) (hown : w.ownsRow base 3 1 (.slice (some ⟨g, 0, none⟩) n cp) n (ints L)) (gb go' : Nat) (M : List Int) (m cap : Nat) (hm : m = M.length) (hA : IntsAt w (some ⟨gb, go', none⟩) M) (hlen : n + m ≤ 4000000) (hbase : base ≤ w.heap.size) :
    ∃ v' w', (Builtin.append_ #[24, 24] ty #[.slice (some ⟨g, 0, none⟩) n cp, .slice (some ⟨gb, go', none⟩) m cap]).run Try.prog w = .ok v' w' ∧ w'.ownsRow base 3 1 v' (n + m) (ints L ++ ints M) ∧ w.grownBy w' (some g) ∧ IntsAt w' (some ⟨g, 0, none⟩) L := by
  obtain ⟨v', w', hr, ho, hg, hat⟩ := run_append_ints w base ty _ n (ints L) hown (some ⟨gb, go', none⟩) M m cap hm hA hlen hbase
  refine ⟨v', w', hr, ho, hg, ?_⟩
  obtain ⟨i0, hi, hz0, hz1, hz2⟩ := info_parts Try.info3
  have hlI : (ints M).length = m * 1 := by simp [ints, hm]
  have hlL : (ints L).length = n := by simp [ints, hL]
  have hnews : ∀ j u, (ints M)[j]? = some u → w.cell? ((⟨gb, go', none⟩ : Addr).add j) = some u := fun j u hj => by
    have hjl : j < M.length := by
      have := (List.getElem?_eq_some_iff.1 hj).1
      simpa [ints] using this
    obtain ⟨b, off, e, -, h3⟩ := hA j hjl
    simp only [Option.some.injEq, Addr.mk.injEq, and_true] at e
    obtain ⟨rfl, rfl⟩ := e
    have e2 : u = .int .i64 (M.getD j 0) := by
      simp only [ints, List.getElem?_map, List.getElem?_eq_getElem hjl, Option.map_some, Option.some.injEq] at hj
      rw [← hj]
      simp [List.getD, hjl]
    rw [e2, ← h3]
    congr 1
    unfold Addr.add
    split
    · simp
    · rfl
  have hone : ∀ u ∈ ints M, u.oneCell' = true := fun u hu => by
    obtain ⟨x, -, rfl⟩ := List.mem_map.1 hu
    rfl
  have lt := World.ownsRow.lt hown g rfl
  have keep : (∀ j, j < n → w'.cell? ⟨g, j, none⟩ = w.cell? ⟨g, j, none⟩) → IntsAt w' (some ⟨g, 0, none⟩) L := fun h j hj => by
    refine ⟨g, 0, rfl, Nat.lt_of_lt_of_le lt.2 hg.size, ?_⟩
    rw [Nat.zero_add, h j (by omega), World.ownsRow.cellAt hown j (by omega)]
    simp [ints, List.getD, hj]
  by_cases hroom : n + m ≤ cp
  · rcases hown.2 with ⟨h, -⟩ | ⟨g', c', cur, e, k1, k2, k3, k4, k5, k6⟩
    · cases h
    · simp only [Value.slice.injEq, Option.some.injEq, Addr.mk.injEq, and_true, true_and] at e
      obtain ⟨rfl, rfl⟩ := e
      have hr2 := run_append_room_cells (P := Try.prog) w 24 ty 3 i0 Try.underlying24 hi g 0 n cp ⟨gb, go', none⟩ m cap (ints M) (by rw [hz1]; exact hlI) hnews hone hroom (fun j hj => by
        have : 0 + n * 1 + j < cur.size := by rw [hlI] at hj; omega
        rw [cell_of k2, hz1, Array.getElem?_eq_getElem this]
        rfl) (fun j hj => frozen_of_row w _ _ _ _ k2)
      rw [hr] at hr2
      simp only [Result.ok.injEq] at hr2
      obtain ⟨rfl, -⟩ := hr2
      refine keep fun j hj => ?_
      rw [World.ownsRow.cellAt ho j (by omega), World.ownsRow.cellAt hown j (by omega), List.getElem?_append_left (by omega)]
  · have holds : ∀ j u, (ints L)[j]? = some u → w.cell? ((⟨g, 0, none⟩ : Addr).add j) = some u := hown.cells (g := g) rfl
    obtain ⟨v2, w2, hr2, -, hg2⟩ := run_append_arg_grows (P := Try.prog) w 24 ty 3 i0 (.int .i64 0) 1 8 Try.underlying24 hi hz0 hz1 hz2 rfl (by decide) ⟨g, 0, none⟩ n cp (ints L) hown.1 holds ⟨gb, go', none⟩ m cap (ints M) hlI hnews (by omega) (by unfold maxLen; omega) (by omega)
    rw [hr] at hr2
    simp only [Result.ok.injEq] at hr2
    obtain ⟨rfl, rfl⟩ := hr2
    exact keep fun j _ => World.cell?_of_block (hg2.block g lt.2 (by simp))
theorem wpK (w : World) {ops : Array Oper} {rest : List Oper} {o : Oper} {a : Act} {Q : Exit → Act → World → Prop} (hgd : o.guard = none) (s x : Operand)
    (ho : o.op = .call { callee := .builtin .append, args := #[s, x], argTypes := #[24, 24] })
    (base : Nat) (g n cp : Nat) (L : List Int) (hL : L.length = n) (hs : a.eval s = .slice (some ⟨g, 0, none⟩) n cp) (hown : w.ownsRow base 3 1 (.slice (some ⟨g, 0, none⟩) n cp) n (ints L)) (gb go' : Nat) (M : List Int) (m cap : Nat) (hx : a.eval x = .slice (some ⟨gb, go', none⟩) m cap) (hm : m = M.length) (hA : IntsAt w (some ⟨gb, go', none⟩) M)
    (hlen : n + m ≤ 4000000) (hbase : base ≤ w.heap.size)
    (h : ∀ v' w', w'.ownsRow base 3 1 v' (n + m) (ints L ++ ints M) → w.grownBy w' (some g) → IntsAt w' (some ⟨g, 0, none⟩) L → wpList Try.prog ops Q rest (a.put o.dst v') w') :
    wpList Try.prog ops Q (o :: rest) a w := by
  refine wpList_plain hgd fun K hK => ?_
  obtain ⟨v', w', hr, h2, h3, h5⟩ := run_append_keep w base o.type g n cp L hL hown gb go' M m cap hm hA hlen hbase
  unfold Oper.wp execOp
  simp only [ho, resolve, invoke, builtin, Sem.run_bind, Sem.run_pure, Result.andThen_ok, List.map_toArray, List.map_cons, List.map_nil, hs, hx, hr]
  exact hK _ _ (h v' w' h2 h3 h5)
/-- A cursor and a row, behind an append to the row. -/
theorem cur_app {w0 w w' : World} {B b k base : Nat} {ao : Option Addr} {n cap : Nat} {v : Value} {m : Nat} {xs : List Value} (hC : Cur w B b ao n cap k) (hg0 : w0.grownBy w (some b)) (ho : w.ownsRow base 3 1 v m xs) (hB : B ≤ base) (hb0 : w0.heap.size ≤ base) (hg : w.grownBy w' v.ownBlock) : Cur w' B b ao n cap k ∧ w0.grownBy w' (some b) :=
  ⟨Cur.grown hC hg (fun g e => by have := (World.ownsRow.lt ho g e).1; omega), ⟨hg.os.trans hg0.os, hg.tape.trans hg0.tape, hg.output.trans hg0.output, Nat.le_trans hg0.size hg.size, fun i hi hn => (hg.block i (Nat.lt_of_lt_of_le hi hg0.size) (fun e => by have := (World.ownsRow.lt ho i e.symm).1; omega)).trans (hg0.block i hi hn)⟩⟩
set_option maxRecDepth 100000 in
set_option maxHeartbeats 1000000 in
theorem dbord_any (ao : Option Addr) (n cap : Nat) (w : World) (h : ArgB w ao n) :
    Calls Try.prog 13 #[.slice ao n cap] w fun e w' => ∃ (v : Value) (L : List Int), e = .returned v ∧ L.length ≤ 30 ∧ w'.ownsRow w.heap.size 3 1 v L.length (ints L) ∧ Below w.heap.size w w' := by
  have HC : Hid _ := cur_new cap h
  have HZ0 : Hid ((w.alloc (curObj ao n cap)).heap.size = w.heap.size + 1) := (by simp : (w.alloc (curObj ao n cap)).heap.size = w.heap.size + 1)
  clear h
  go_enter Try.func13, Try.ntmps13
  go_wp2_with fail
  refine (csmall_any 4 _ _ ao n cap 0 _ (by omega) (by omega) HC.out).mono ?_
  rintro e w1 ⟨v1, L1, k1, rfl, l1, hk1, C1, o1, g1⟩
  have HC1 : Hid _ := C1
  have G1 : Hid _ := g1
  have O1 : Hid _ := o1
  clear C1 g1 o1
  go_wp2_with fail
  refine (one_any 2 _ _ ao n cap k1 _ (by omega) HC1.out).mono ?_
  rintro e w2 ⟨r, k2, rfl, hk2, C2, g2⟩
  have HC2 : Hid _ := C2
  have O2 : Hid (w2.ownsRow (w.heap.size + 1) 3 1 v1 L1.length (ints L1)) := by
    have := World.ownsRow.kept O1.out g2 (own_ne_cur O1.out (by simp))
    rwa [HZ0.out] at this
  have G2 : Hid ((w.alloc (curObj ao n cap)).grownBy w2 (some w.heap.size)) := grown_trans' G1.out g2
  have Z2 : Hid (w.heap.size + 1 ≤ w2.heap.size) := (by have := G2.out.size; rw [HZ0.out] at this; exact this : w.heap.size + 1 ≤ w2.heap.size)
  clear C2 g2 O1 HC1 G1
  have LAST : Hid (∀ (W : World) (v : Value) (L : List Int) (kk : Nat), L.length ≤ 20 → kk ≤ 100 → Cur W (w.heap.size + 1) w.heap.size ao n cap kk → (w.alloc (curObj ao n cap)).grownBy W (some w.heap.size) → W.ownsRow (w.heap.size + 1) 3 1 v L.length (ints L) → Calls Try.prog 51 #[.pointer (some ⟨w.heap.size, 0, none⟩), .int .i64 2] W fun e w' => ∃ (u : Value) (M : List Int), e = .returned u ∧ M.length ≤ 2 ∧ w'.ownsRow (w.heap.size + 1) 3 1 v L.length (ints L) ∧ w'.ownsRow (w.heap.size + 1) 3 1 u M.length (ints M) ∧ (w.alloc (curObj ao n cap)).grownBy w' (some w.heap.size)) := fun W v L kk hL hkk hc hg ho => by
    refine (csmall_any 2 _ _ ao n cap kk W (by omega) (by omega) hc).mono ?_
    rintro e w9 ⟨u, M, k9, rfl, lM, -, -, o9, g9⟩
    have hz : w.heap.size + 1 ≤ W.heap.size := hc.le
    exact ⟨u, M, rfl, lM, World.ownsRow.kept ho g9 (own_ne_cur ho (by omega)), own_mono o9 hz, grown_trans' hg g9⟩
  have FIN : Hid (∀ (W W' : World) (v v' : Value) (L M : List Int), L.length ≤ 20 → M.length ≤ 2 → (w.alloc (curObj ao n cap)).grownBy W (some w.heap.size) → W.ownsRow (w.heap.size + 1) 3 1 v L.length (ints L) → W'.ownsRow (w.heap.size + 1) 3 1 v' (L.length + M.length) (ints L ++ ints M) → W.grownBy W' v.ownBlock → ∃ L9 : List Int, L9.length ≤ 30 ∧ W'.ownsRow w.heap.size 3 1 v' L9.length (ints L9) ∧ Below w.heap.size w W') := fun W W' v v' L M hL hM hg ho hr hgr => by
    refine ⟨L ++ M, by rw [List.length_append]; omega, ?_, Below.grown (below_of_cur hg) hgr ?_ (fun i e => by have := (World.ownsRow.lt ho i e).1; omega)⟩
    · rw [List.length_append]
      have : ints (L ++ M) = ints L ++ ints M := by simp [ints]
      rw [this]
      exact own_mono hr (by omega)
    · have := hg.size
      rw [HZ0.out] at this
      omega
  cases r with
  | false =>
    obtain ⟨a1, c1, rfl⟩ := own_slice O2.out
    go_wp2_with fail
    refine Calls.mono (LAST.out _ _ L1 k2 (by omega) (by omega) HC2.out G2.out O2.out) ?_
    rintro e w3 ⟨u, M, rfl, lM, o3, o4, g3⟩
    have O3 : Hid _ := o3
    have G3 : Hid _ := g3
    obtain ⟨_, au, cu, rfl, iu⟩ := ints_of_own o4
    have IU : Hid _ := iu
    have Z3 : Hid (w.heap.size + 1 ≤ w3.heap.size) := (by have := g3.size; rw [HZ0.out] at this; exact this : w.heap.size + 1 ≤ w3.heap.size)
    clear o3 g3 o4 iu
    go_wp2_with (at_builtin; refine wpA _ rfl (.tmp 17) (.tmp 19) rfl (w.heap.size + 1) (.slice a1 L1.length c1) L1.length (ints L1) rfl O3.out au M M.length cu rfl rfl IU.out (by omega) Z3.out ?_; intro v' w5 hr hg hat; have END : Hid _ := FIN.out w3 w5 (.slice a1 L1.length c1) v' L1 M (by omega) lM G3.out O3.out hr hg; clear hr hg hat)
    go_wp2
    go_ret
    obtain ⟨L9, e1, e2, e3⟩ := END.out
    exact ⟨_, L9, rfl, e1, e2, e3⟩
  | true =>
    have STEP : Hid (∀ (W W' : World) (v v' : Value) (L M : List Int), Cur W (w.heap.size + 1) w.heap.size ao n cap k2 → (w.alloc (curObj ao n cap)).grownBy W (some w.heap.size) → W.ownsRow (w.heap.size + 1) 3 1 v L.length (ints L) → W'.ownsRow (w.heap.size + 1) 3 1 v' (L.length + M.length) (ints L ++ ints M) → W.grownBy W' v.ownBlock → Cur W' (w.heap.size + 1) w.heap.size ao n cap k2 ∧ (w.alloc (curObj ao n cap)).grownBy W' (some w.heap.size) ∧ W'.ownsRow (w.heap.size + 1) 3 1 v' (L ++ M).length (ints (L ++ M)) ∧ w.heap.size + 1 ≤ W'.heap.size) := fun W W' v v' L M hc hg ho hr hgr => by
      obtain ⟨q1, q2⟩ := cur_app hc hg ho (Nat.le_refl _) (by rw [HZ0.out]; exact Nat.le_refl _) hgr
      refine ⟨q1, q2, ?_, q1.le⟩
      have : ints (L ++ M) = ints L ++ ints M := by simp [ints]
      rw [List.length_append, this]
      exact hr
    rcases O2.out.2 with ⟨rfl, h0⟩ | ⟨g, c1, cur, rfl, -⟩
    · have hL0 : L1 = [] := List.eq_nil_of_length_eq_zero h0
      subst hL0
      have I0 : Hid (∀ W : World, IntsAt W none ([] : List Int)) := fun W j hj => absurd hj (by simp)
      clear h0
      go_wp2_with first
        | (at_builtin; refine wpA _ rfl (.tmp 12) (.tmp 13) rfl (w.heap.size + 1) (.slice none 0 0) 0 (ints []) rfl O2.out none [] 0 0 rfl rfl (I0.out _) (by omega) Z2.out ?_; intro v' w5 hr hg hat; have S5 : Hid _ := STEP.out w2 w5 (.slice none 0 0) v' [] [] HC2.out G2.out O2.out hr hg; obtain ⟨a5, c5, rfl⟩ := own_slice hr; clear hr hg hat)
        | (at_builtin; refine wpA _ rfl (.tmp 14) (.tmp 15) rfl (w.heap.size + 1) (.slice a5 0 c5) 0 (ints []) rfl S5.out.2.2.1 none [] 0 0 rfl rfl (I0.out _) (by omega) S5.out.2.2.2 ?_; intro v'' w6 hr hg hat; have S6 : Hid _ := STEP.out w5 w6 (.slice a5 0 c5) v'' [] [] S5.out.1 S5.out.2.1 S5.out.2.2.1 hr hg; obtain ⟨a6, c6, rfl⟩ := own_slice hr; clear hr hg hat)
        | fail
      refine Calls.mono (LAST.out _ _ [] k2 (by simp) (by omega) S6.out.1 S6.out.2.1 S6.out.2.2.1) ?_
      rintro e w3 ⟨u, M, rfl, lM, o3, o4, g3⟩
      have O3 : Hid _ := o3
      have G3 : Hid _ := g3
      obtain ⟨_, au, cu, rfl, iu⟩ := ints_of_own o4
      have IU : Hid _ := iu
      have Z3 : Hid (w.heap.size + 1 ≤ w3.heap.size) := (by have := g3.size; rw [HZ0.out] at this; exact this : w.heap.size + 1 ≤ w3.heap.size)
      clear o3 g3 o4 iu
      go_wp2_with (at_builtin; refine wpA _ rfl (.tmp 17) (.tmp 19) rfl (w.heap.size + 1) (.slice a6 0 c6) 0 (ints []) rfl O3.out au M M.length cu rfl rfl IU.out (by omega) Z3.out ?_; intro v' w9 hr hg hat; have END : Hid _ := FIN.out w3 w9 (.slice a6 0 c6) v' [] M (by simp) lM G3.out O3.out (by simpa using hr) hg; clear hr hg hat)
      go_wp2
      go_ret
      obtain ⟨L9, e1, e2, e3⟩ := END.out
      exact ⟨_, L9, rfl, e1, e2, e3⟩
    · obtain ⟨_, a0, c0, e0, i0⟩ := ints_of_own O2.out
      cases e0
      have I0 : Hid _ := i0
      have hl2 : (L1 ++ L1).length = L1.length + L1.length := by rw [List.length_append]
      have hl3 : (L1 ++ L1 ++ L1).length = L1.length + L1.length + L1.length := by rw [List.length_append, List.length_append]
      clear i0
      go_wp2_with first
        | (at_builtin; refine wpK _ rfl (.tmp 12) (.tmp 13) rfl (w.heap.size + 1) g L1.length c1 L1 rfl rfl O2.out g 0 L1 L1.length c1 rfl rfl I0.out (by omega) Z2.out ?_; intro v' w5 hr hg hat; have I5 : Hid _ := hat; have S5 : Hid _ := STEP.out w2 w5 (.slice (some ⟨g, 0, none⟩) L1.length c1) v' L1 L1 HC2.out G2.out O2.out hr hg; obtain ⟨a5, c5, rfl⟩ := own_slice hr; clear hr hg hat)
        | (at_builtin; refine wpA _ rfl (.tmp 14) (.tmp 15) rfl (w.heap.size + 1) (.slice a5 (L1.length + L1.length) c5) (L1.length + L1.length) (ints (L1 ++ L1)) rfl (by have := S5.out.2.2.1; rwa [hl2] at this) (some ⟨g, 0, none⟩) L1 L1.length c1 rfl rfl I5.out (by omega) S5.out.2.2.2 ?_; intro v'' w6 hr hg hat; have S6 : Hid _ := STEP.out w5 w6 (.slice a5 (L1.length + L1.length) c5) v'' (L1 ++ L1) L1 S5.out.1 S5.out.2.1 S5.out.2.2.1 (by rw [hl2]; exact hr) hg; obtain ⟨a6, c6, rfl⟩ := own_slice hr; clear hr hg hat)
        | fail
      refine Calls.mono (LAST.out _ _ (L1 ++ L1 ++ L1) k2 (by omega) (by omega) S6.out.1 S6.out.2.1 S6.out.2.2.1) ?_
      rintro e w3 ⟨u, M, rfl, lM, o3, o4, g3⟩
      have O3 : Hid _ := o3
      have G3 : Hid _ := g3
      obtain ⟨_, au, cu, rfl, iu⟩ := ints_of_own o4
      have IU : Hid _ := iu
      have Z3 : Hid (w.heap.size + 1 ≤ w3.heap.size) := (by have := g3.size; rw [HZ0.out] at this; exact this : w.heap.size + 1 ≤ w3.heap.size)
      clear o3 g3 o4 iu
      go_wp2_with (at_builtin; refine wpA _ rfl (.tmp 17) (.tmp 19) rfl (w.heap.size + 1) (.slice a6 (L1.length + L1.length + L1.length) c6) (L1.length + L1.length + L1.length) (ints (L1 ++ L1 ++ L1)) rfl (by have := O3.out; rwa [hl3] at this) au M M.length cu rfl rfl IU.out (by omega) Z3.out ?_; intro v' w9 hr hg hat; have END : Hid _ := FIN.out w3 w9 (.slice a6 (L1.length + L1.length + L1.length) c6) v' (L1 ++ L1 ++ L1) M (by omega) lM G3.out O3.out (by rw [hl3]; exact hr) hg; clear hr hg hat)
      go_wp2
      go_ret
      obtain ⟨L9, e1, e2, e3⟩ := END.out
      exact ⟨_, L9, rfl, e1, e2, e3⟩
end Go.Proofs.Ytabjjlcjephhkaa

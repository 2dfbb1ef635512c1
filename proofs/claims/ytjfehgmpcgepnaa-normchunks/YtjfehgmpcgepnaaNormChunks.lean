/-
  For every two lists of bytes, laws.FnNormChunks returns true: at drawn runes FeedNorm and FlushNorm answer as the specification's, and the one form of what comes in two pieces is that of all at once, which is NormalOf where nothing was held. No conditions.
-/
import Derived.Test.YtjfehgmpcgepnaaN3S
import Derived.Deep.DeepCutAuto
import Derived.Deep.RegionHeld
namespace Go.Proofs.Ytjfehgmpcgepnaa
open Go.ChangeShapes Go.WideShapes Go.ChangeAt Go.WideMaps Go.WideElems Go.RowKit
namespace LawNorm
theorem oper_append_run {P : Program} {w w' : World} {o : Oper} {a : Act} {K : Act → World → Prop} {Q : Exit → Act → World → Prop} {t : TypeId} {v' : Value} (s x : Operand)
    (ho : o.op = .call { callee := .builtin .append, args := #[s, x], argTypes := #[t, t] }) (v u : Value) (hs : a.eval s = v) (hx : a.eval x = u)
    (hr : (Builtin.append_ #[t, t] o.type #[v, u]).run P w = .ok v' w') (h : K (a.put o.dst v') w') : Oper.wp P o a w K Q := by
  unfold Oper.wp execOp
  simp only [ho, resolve, invoke, builtin, Sem.run_bind, Sem.run_pure, Result.andThen_ok, List.map_toArray, List.map_cons, List.map_nil, hs, hx, hr]
  exact h
theorem own : ownKnob Try.prog.godebug = none := by kernel_rfl
theorem laidOut : laidOutB Try.prog = true := by kernel_rfl
set_option maxRecDepth 100000 in
set_option maxHeartbeats 1000000 in
theorem number_any (ao : Option Addr) (n cap : Nat) (w : World) (hn : n ≤ 1048576) (h : ArgB w ao n) :
    Calls Try.prog 9 #[.slice ao n cap] w fun e w' => ∃ r : Int, e = .returned (.int .i64 r) ∧ 0 ≤ r ∧ r ≤ 1000002 ∧ w' = w := by
  have HA : Hid _ := h
  clear h
  go_enter Try.func9, Try.ntmps9
  go_wp2
  go_loopw [3, 8] (fun sv iv wr => ∃ (k : Nat) (y : Int), k ≤ n ∧ iv = .int .i64 k ∧ sv = .int .i64 y ∧ 0 ≤ y ∧ y ≤ 1000002 ∧ wr = w) (fun _ i _ => n - (intOf i).toNat)
  case atStart => exact ⟨0, 0, Nat.zero_le _, rfl, rfl, by omega, by omega, rfl⟩
  case round =>
    obtain ⟨k, y, hk, rfl, rfl, y0, y1, rfl⟩ := hrel
    by_cases hlt : k < n
    · have hltI : (k : Int) < (n : Int) := by omega
      obtain ⟨b1, o1, z, rfl, l1, h1, z0, z1⟩ := HA.out k hlt
      go_wp2
      go_roundw
      case rel => exact ⟨k + 1, (31 * y + z) % 1000003, by omega, by go_num, rfl, by omega, by omega, by first | rfl | trivial⟩
      case measure => simp [intOf]; omega
    · obtain rfl : k = n := by omega
      go_wp2
      go_ret
      exact ⟨y, rfl, y0, y1, rfl⟩
def NmO (a : Option Addr) (n c : Nat) : Obj := .cells #[.slice a n c] 26
def NmAt (w : World) (P : Nat) (a : Option Addr) (n c : Nat) : Prop := w.heap[P]? = some (.cells #[.slice a n c] 26)
theorem NmAt.cell {w : World} {P : Nat} {a : Option Addr} {n c : Nat} (h : NmAt w P a n c) : w.cell? ⟨P, 0, none⟩ = some (.slice a n c) := cell_of h 0
theorem NmAt.lt {w : World} {P : Nat} {a : Option Addr} {n c : Nat} (h : NmAt w P a n c) : P < w.heap.size := (Array.getElem?_eq_some_iff.1 h).1
theorem NmAt.below {w w' : World} {P : Nat} {a : Option Addr} {n c : Nat} (h : NmAt w P a n c) (b : Below w.heap.size w w') : NmAt w' P a n c := (b.block _ h.lt).trans h
theorem NmAt.new (w : World) (a : Option Addr) (n c : Nat) : NmAt (w.alloc (.cells #[.slice a n c] 26)) w.heap.size a n c := heap_last2 _ _ _ rfl
theorem NmAt.put {w : World} {P : Nat} {a : Option Addr} {n c : Nat} (h : NmAt w P a n c) (a' : Option Addr) (n' c' : Nat) : NmAt (w.setCell ⟨P, 0, none⟩ (.slice a' n' c')) P a' n' c' := by
  unfold NmAt at h ⊢
  simp [World.setCell, Array.getElem?_modify, h]
theorem NmAt.far {w : World} {P Q : Nat} {a : Option Addr} {n c : Nat} (h : NmAt w P a n c) (hne : P ≠ Q) (u : Value) : NmAt (w.setCell ⟨Q, 0, none⟩ u) P a n c := ((grown_set w Q 0 u).block _ h.lt (fun e => hne (Option.some.inj e))).trans h
theorem ints_far {w : World} {P : Nat} {a0 ao : Option Addr} {n c : Nat} {X : List Int} (h : IntsAt w ao X) (hn : NmAt w P a0 n c) (u : Value) : IntsAt (w.setCell ⟨P, 0, none⟩ u) ao X := fun j hj => by
  obtain ⟨b, off, rfl, h2, h3⟩ := h j hj
  have hne : b ≠ P := by
    rintro rfl
    rw [cell_of hn] at h3
    rcases Nat.eq_zero_or_pos (off + j) with e | e
    · rw [e] at h3
      simp at h3
    · rw [Array.getElem?_eq_none (by simp; omega)] at h3
      cases h3
  have hb := (grown_set w P 0 u).block b h2 (fun e => hne (Option.some.inj e))
  exact ⟨b, off, rfl, by simpa [World.setCell] using h2, by simpa [World.cell?, hb] using h3⟩
theorem ints_low {w w' : World} {B : Nat} {ao : Option Addr} {X : List Int} (h : IntsAt w ao X) (hl : ∀ j, j < X.length → ∃ b off, ao = some ⟨b, off, none⟩ ∧ b < B) (hb : Below B w w') : IntsAt w' ao X := fun j hj => by
  obtain ⟨b, off, rfl, h2, h3⟩ := h j hj
  obtain ⟨b', off', he, hlt⟩ := hl j hj
  cases he
  exact ⟨b, off, rfl, Nat.lt_of_lt_of_le h2 hb.size, by have := hb.block b hlt; simpa [World.cell?, this] using h3⟩
theorem own_low {w w' : World} {B lo : Nat} {v : Value} {X : List Int} (h : OwnB w lo B v X) (hb : Below B w w') : OwnB w' lo B v X := by
  refine ⟨⟨h.1.1, ?_⟩, h.2⟩
  rcases h.1.2 with e | ⟨g, cap, cur, rfl, h1, h2, h3⟩
  · exact .inl e
  · exact .inr ⟨g, cap, cur, rfl, h1, (hb.block g (h.2 g rfl)).trans h2, h3⟩
theorem al {w : World} (o : Obj) : Below w.heap.size w (w.alloc o) := (Below.refl _ _).alloc (Nat.le_refl _) o
set_option maxRecDepth 100000 in
set_option maxHeartbeats 16000000 in
theorem walk_in (a0 : Option Addr) (n0 c0 : Nat) (a1 : Option Addr) (n1 c1 : Nat) (w : World) (hA : ArgB w a0 n0) (hM : ArgB w a1 n1) (hn0 : (n0 : Int) ≤ 1048576) (hn1 : (n1 : Int) ≤ 1048576 - n0) :
    Calls Try.prog 3 #[.slice a0 n0 c0, .slice a1 n1 c1] w fun e w' => e = .returned (.bool true) ∧ Below w.heap.size w w' := by
  have HA : Hid _ := hA
  have HM : Hid _ := hM
  have hn0' : ¬ (1048576 : Int) < (n0 : Int) := by omega
  have hn1' : ¬ (1048576 : Int) - n0 < (n1 : Int) := by omega
  have B0 : Hid (Below w.heap.size w w) := Below.refl _ _
  clear hA hM
  go_enter Try.func3, Try.ntmps3
  go_wp2_with (first | (go_at_call 4; go_in) | fail)
  refine (dfn_any a0 n0 c0 _ HA.out).mono ?_
  rintro e w1 ⟨ah, al', ch, cl, H, L, rfl, lH, lL, oH, oL, b⟩
  have IH1 : Hid (IntsAt (w1.alloc (.cells #[.slice ah H.length ch] 26)) ah H) := (ints_val oH).keepB (al _)
  have IL1 : Hid (IntsAt (w1.alloc (.cells #[.slice ah H.length ch] 26)) al' L) := (ints_val oL).keepB (al _)
  have hcl := own_cap oL
  have B1 : Hid (Below w.heap.size w (w1.alloc (.cells #[.slice ah H.length ch] 26))) := b.alloc b.size _
  clear oH oL b
  obtain ⟨ok, X, Y, lX, lY, IM, SP, yes, -⟩ := feed_both H L (by omega)
  have HIM : Hid _ := IM
  have HSP : Hid _ := SP
  have HYES : Hid _ := yes
  clear IM SP yes
  have N1 : Hid (NmAt (w1.alloc (.cells #[.slice ah H.length ch] 26)) w1.heap.size ah H.length ch) := NmAt.new _ _ _ _
  go_wp2_with fail
  refine (HIM.out _ _ _ _ _ _ rfl IH1.out IL1.out).mono ?_
  rintro e w2 ⟨A, C, v, rfl, iX, oY, b⟩
  obtain ⟨-, aY, cY, rfl, -⟩ := ints_of_own oY
  have N2 : Hid (NmAt (w2.alloc (.cells #[.slice A X.length C] 26)) w1.heap.size ah H.length ch) := (N1.out.below b).below (al _)
  have M2 : Hid (NmAt (w2.alloc (.cells #[.slice A X.length C] 26)) w2.heap.size A X.length C) := NmAt.new _ _ _ _
  have IH2 : Hid (IntsAt (w2.alloc (.cells #[.slice A X.length C] 26)) ah H) := (IH1.out.keepB b).keepB (al _)
  have IL2 : Hid (IntsAt (w2.alloc (.cells #[.slice A X.length C] 26)) al' L) := (IL1.out.keepB b).keepB (al _)
  have IX2 : Hid (IntsAt (w2.alloc (.cells #[.slice A X.length C] 26)) A X) := iX.keepB (al _)
  have OY2 : Hid ((w2.alloc (.cells #[.slice A X.length C] 26)).ownsRow (w1.alloc (.cells #[.slice ah H.length ch] 26)).heap.size 3 1 (.slice aY Y.length cY) Y.length (ints Y)) := ownsRow_below oY (al _)
  have B2 : Hid (Below w.heap.size w (w2.alloc (.cells #[.slice A X.length C] 26))) := (B1.out.trans (b.mono B1.out.size)).alloc (Nat.le_trans B1.out.size b.size) _
  clear b iX oY N1 IH1 IL1 B1
  have n2 := N2.out.cell
  go_wp2_with fail
  refine (HSP.out _ _ _ _ _ _ rfl IH2.out IL2.out).mono ?_
  rintro e w3 ⟨A3, C3, v3, rfl, iW, oT, b⟩
  obtain ⟨-, aT, cT, rfl, iT⟩ := ints_of_own oT
  have f4 : NmAt (w3.alloc (.cells #[.slice A3 X.length C3] 26)) w1.heap.size ah H.length ch ∧ NmAt (w3.alloc (.cells #[.slice A3 X.length C3] 26)) w2.heap.size A X.length C ∧ NmAt (w3.alloc (.cells #[.slice A3 X.length C3] 26)) w3.heap.size A3 X.length C3 ∧ IntsAt (w3.alloc (.cells #[.slice A3 X.length C3] 26)) ah H ∧ IntsAt (w3.alloc (.cells #[.slice A3 X.length C3] 26)) al' L ∧ IntsAt (w3.alloc (.cells #[.slice A3 X.length C3] 26)) A X ∧ IntsAt (w3.alloc (.cells #[.slice A3 X.length C3] 26)) A3 X ∧ (w3.alloc (.cells #[.slice A3 X.length C3] 26)).ownsRow (w1.alloc (.cells #[.slice ah H.length ch] 26)).heap.size 3 1 (.slice aY Y.length cY) Y.length (ints Y) ∧ IntsAt (w3.alloc (.cells #[.slice A3 X.length C3] 26)) aT Y ∧ Below w.heap.size w (w3.alloc (.cells #[.slice A3 X.length C3] 26)) :=
    ⟨(N2.out.below b).below (al _), (M2.out.below b).below (al _), NmAt.new _ _ _ _, (IH2.out.keepB b).keepB (al _), (IL2.out.keepB b).keepB (al _), (IX2.out.keepB b).keepB (al _), iW.keepB (al _), ownsRow_below (ownsRow_below OY2.out b) (al _), iT.keepB (al _), (B2.out.trans (b.mono B2.out.size)).alloc (Nat.le_trans B2.out.size b.size) _⟩
  clear b iW iT oT n2 N2 M2 IH2 IL2 IX2 OY2 B2
  go_upto_region 6 with fail
  revert f4
  generalize (w3.alloc (.cells #[.slice A3 X.length C3] 26)) = w4
  intro f4
  obtain ⟨n4, m4, k4, ih4, il4, ix4, iw4, oy4, it4, b4⟩ := f4
  have bb : (ok != ok) = false := by simp
  have lX' : X.length ≤ 1048576 := by omega
  have lY' : Y.length ≤ 1048576 := by omega
  have N4 : Hid (NmAt w4 w1.heap.size ah H.length ch) := n4
  have M4 : Hid (NmAt w4 w2.heap.size A X.length C) := m4
  have K4 : Hid (NmAt w4 w3.heap.size A3 X.length C3) := k4
  have IH4 : Hid (IntsAt w4 ah H) := ih4
  have IL4 : Hid (IntsAt w4 al' L) := il4
  have IX4 : Hid (IntsAt w4 A X) := ix4
  have IW4 : Hid (IntsAt w4 A3 X) := iw4
  have OY4 : Hid (w4.ownsRow (w1.alloc (.cells #[.slice ah H.length ch] 26)).heap.size 3 1 (.slice aY Y.length cY) Y.length (ints Y)) := oy4
  have IT4 : Hid (IntsAt w4 aT Y) := it4
  have B4 : Hid (Below w.heap.size w w4) := b4
  clear n4 m4 k4 ih4 il4 ix4 iw4 oy4 it4 b4
  go_wp2_with fail
  refine (same_any Y _ _ _ _ _ lY' (ints_val OY4.out) IT4.out).mono ?_
  rintro e z1 ⟨rfl, b⟩
  have m5 := (M4.out.below b).cell
  have k5 := (K4.out.below b).cell
  have IX5 : Hid (IntsAt z1 A X) := IX4.out.keepB b
  have IW5 : Hid (IntsAt z1 A3 X) := IW4.out.keepB b
  have Z1 : Hid (Below w4.heap.size w4 z1) := b
  clear b
  go_wp2_with fail
  refine (same_any X _ _ _ _ _ lX' IX5.out IW5.out).mono ?_
  rintro e z2 ⟨rfl, b⟩
  have bz : Below w4.heap.size w4 z2 := Z1.out.trans (b.mono Z1.out.size)
  have BT : Hid (Below w.heap.size w z2) := B4.out.trans (bz.mono B4.out.size)
  have N5 : Hid (NmAt z2 w1.heap.size ah H.length ch) := N4.out.below bz
  have M5 : Hid (NmAt z2 w2.heap.size A X.length C) := M4.out.below bz
  have IH5 : Hid (IntsAt z2 ah H) := IH4.out.keepB bz
  have IL5 : Hid (IntsAt z2 al' L) := IL4.out.keepB bz
  have IX6 : Hid (IntsAt z2 A X) := IX4.out.keepB bz
  have OY5 : Hid (z2.ownsRow (w1.alloc (.cells #[.slice ah H.length ch] 26)).heap.size 3 1 (.slice aY Y.length cY) Y.length (ints Y)) := ownsRow_below OY4.out bz
  clear b bz Z1 m5 k5 IX5 IW5 N4 M4 K4 IH4 IL4 IX4 IW4 OY4 IT4 B4 HIM HSP
  cases ok
  · clear HYES N5 M5 IH5 IL5 IX6 OY5
    go_wp2_with fail
    refine (dfl_any a1 n1 c1 _ (ArgB.below HM.out BT.out)).mono ?_
    rintro e y1 ⟨af, cf, F, rfl, lF, iF, b⟩
    have D1 : Hid (Below w.heap.size w y1) := BT.out.trans (b.mono BT.out.size)
    have D1a : Hid (Below w.heap.size w (y1.alloc (.cells #[.slice af F.length cf] 26))) := D1.out.alloc D1.out.size _
    have IF1 : Hid (IntsAt (y1.alloc (.cells #[.slice af F.length cf] 26)) af F) := iF.keepB (al _)
    clear b iF D1
    obtain ⟨okf, G, lG, IM1, SP1, -⟩ := flush_both F (by omega)
    have HIM1 : Hid _ := IM1
    have HSP1 : Hid _ := SP1
    clear IM1 SP1
    have hNf : NmAt (y1.alloc (.cells #[.slice af F.length cf] 26)) y1.heap.size af F.length cf := NmAt.new _ _ _ _
    go_wp2_with fail
    refine (HIM1.out _ _ _ IF1.out).mono ?_
    rintro e y2 ⟨v2, rfl, o2, b⟩
    obtain ⟨-, a2, c2, rfl, i2⟩ := ints_of_own o2
    have cf2 : y2.cell? ⟨y1.heap.size, 0, none⟩ = some (.slice af F.length cf) := NmAt.cell (NmAt.below hNf b)
    have D2 : Hid (Below w.heap.size w y2) := D1a.out.trans (b.mono D1a.out.size)
    have IF2 : Hid _ := IntsAt.keepB IF1.out b
    have I2 : Hid (IntsAt y2 a2 G) := i2
    clear b i2 o2 hNf D1a IF1
    go_wp2_with fail
    refine (HSP1.out _ _ _ IF2.out).mono ?_
    rintro e y3 ⟨v3, rfl, o3, b⟩
    obtain ⟨-, a3, c3, rfl, i3⟩ := ints_of_own o3
    have D3 : Hid (Below w.heap.size w y3) := D2.out.trans (b.mono D2.out.size)
    have I3 : Hid (IntsAt y3 a2 G) := IntsAt.keepB I2.out b
    have J3 : Hid (IntsAt y3 a3 G) := i3
    clear b i3 o3 cf2 D2 I2 IF2
    have bbf : (okf == okf) = true := by simp
    have lG' : G.length ≤ 1048576 := by omega
    go_wp2_with fail
    refine (same_any G _ _ _ _ _ lG' I3.out J3.out).mono ?_
    rintro e y4 ⟨rfl, b⟩
    have D4 : Hid (Below w.heap.size w y4) := D3.out.trans (b.mono D3.out.size)
    clear b
    go_wp2
    go_ret
    exact ⟨rfl, D4.out⟩
  · skip
    obtain ⟨gH, gL, hX, hY⟩ := HYES.out rfl
    have GH : Hid _ := gH
    have GL : Hid _ := gL
    have HX : Hid _ := hX
    have HY : Hid _ := hY
    clear gH gL hX hY HYES
    go_upto_region 9 with fail
    go_cut [13] (fun s13 wx => ∃ k : Nat, s13 = .int .i64 k ∧ k ≤ L.length ∧ z2 = wx)
    case first =>
      as_aux_lemma =>
        go_wp2_with fail
        refine (number_any a1 n1 c1 _ (by omega) (ArgB.below HM.out BT.out)).mono ?_
        rintro e q ⟨r, rfl, r0, r1, rfl⟩
        have m0 := Int.emod_nonneg r (by omega : (L.length : Int) + 1 ≠ 0)
        have m1 := Int.emod_lt_of_pos r (by omega : 0 < (L.length : Int) + 1)
        go_wp2
        go_meet
        exact ⟨(r % ((L.length : Int) + 1)).toNat, congrArg (Value.int .i64) (by omega), by omega, rfl⟩
    case rest =>
      obtain ⟨k, rfl, hk, rfl⟩ := hcut
      obtain ⟨AL, CL, sl, slI⟩ := head_cut al' L.length cl k hk hcl
      have HSL : Hid _ := sl
      have IK5 : Hid (IntsAt z2 AL (L.take k)) := slI _ L rfl IL5.out
      have hkl : (L.take k).length = k := by rw [List.length_take]; omega
      have hkd : (L.drop k).length = L.length - k := by rw [List.length_drop]
      obtain ⟨ok1, X1, Y1, lX1, lY1, IM1, -, yes1, must1⟩ := feed_both H (L.take k) (by omega)
      obtain rfl : ok1 = true := must1 GH.out (allG_take GL.out k)
      have HIM1 : Hid _ := IM1
      obtain ⟨-, -, hX1, hY1⟩ := yes1 rfl
      have GX1 : Hid (allG X1 = true) := by rw [hX1]; exact allG_drop (by rw [allG_append, GH.out, splitAllL_good (allG_take GL.out k)]; rfl) _
      have HX1 : Hid _ := hX1
      have HY1 : Hid _ := hY1
      clear sl slI IM1 yes1 must1 hX1 hY1
      obtain ⟨S1, hS1⟩ : ∃ n, n = (w1.alloc (.cells #[.slice ah H.length ch] 26)).heap.size := ⟨_, rfl⟩
      obtain ⟨S10, hS10⟩ : ∃ n, n = z2.heap.size := ⟨_, rfl⟩
      have OO5 : Hid (OwnB z2 S1 S10 (.slice aY Y.length cY) Y) := by rw [hS1, hS10]; exact OwnB.mk' OY5.out
      have hB10 : w.heap.size ≤ S10 := by rw [hS10]; exact BT.out.size
      have HN1 : Hid (w1.heap.size < S10) := by rw [hS10]; exact N5.out.lt
      have ILL : Hid (∀ j, j < L.length → ∃ b off, al' = some ⟨b, off, none⟩ ∧ b < S10) := fun j hj => by obtain ⟨b, off, h1, h2, -⟩ := IL5.out j hj; exact ⟨b, off, h1, by rw [hS10]; exact h2⟩
      clear OY5 hS1
      go_upto_region 10 with fail
      go_cut [14, 15, 16] (fun t0 t1 t2 wx => ∃ (P : Nat) (PA : Option Addr) (PC : Nat) (v1 : Value), t0 = .pointer (some ⟨P, 0, none⟩) ∧ t1 = v1 ∧ t2 = .bool true ∧ NmAt wx P PA X1.length PC ∧ z2.heap.size ≤ P ∧ IntsAt wx PA X1 ∧ wx.ownsRow z2.heap.size 3 1 v1 Y1.length (ints Y1) ∧ Below z2.heap.size z2 wx)
      case first =>
        as_aux_lemma =>
          have sl := HSL.out
          have BD : Hid (Below z2.heap.size z2 z2.drew) := (Below.refl _ _).drew
          have BA : Hid (Below z2.heap.size z2 (z2.alloc (.cells #[.slice none 0 0] 26)).drew) := Below.drew (Below.alloc (Below.refl _ _) (Nat.le_refl _) _)
          have hlt := N5.out.lt
          have hDP : w1.heap.size ≠ z2.heap.size := by omega
          have sD : z2.drew.cell? ⟨w1.heap.size, 0, none⟩ = some (.slice ah H.length ch) := (N5.out.below BD.out).cell
          have ZN : Hid (NmAt (z2.alloc (.cells #[.slice none 0 0] 26)).drew z2.heap.size none 0 0) := (NmAt.new z2 none 0 0).below (Below.drew (Below.refl _ _))
          have sA : (z2.alloc (.cells #[.slice none 0 0] 26)).drew.cell? ⟨w1.heap.size, 0, none⟩ = some (.slice ah H.length ch) := (N5.out.below BA.out).cell
          have sA' : (z2.alloc (.cells #[.slice none 0 0] 26)).cell? ⟨w1.heap.size, 0, none⟩ = some (.slice ah H.length ch) := (N5.out.below (al _)).cell
          have IM1 : Hid (Calls Try.prog 6 #[.agg #[.slice ah H.length ch], .slice AL k CL] z2.drew fun e w' => ∃ A C v, e = .returned (.tuple #[.agg #[.slice A X1.length C], v, .bool true]) ∧ IntsAt w' A X1 ∧ w'.ownsRow z2.drew.heap.size 3 1 v Y1.length (ints Y1) ∧ Below z2.drew.heap.size z2.drew w') := HIM1.out ah AL k ch CL z2.drew hkl.symm (IH5.out.keepB BD.out) (IK5.out.keepB BD.out)
          have IM2 : Hid (Calls Try.prog 6 #[.agg #[.slice ah H.length ch], .slice AL k CL] (z2.alloc (.cells #[.slice none 0 0] 26)).drew fun e w' => ∃ A C v, e = .returned (.tuple #[.agg #[.slice A X1.length C], v, .bool true]) ∧ IntsAt w' A X1 ∧ w'.ownsRow (z2.alloc (.cells #[.slice none 0 0] 26)).drew.heap.size 3 1 v Y1.length (ints Y1) ∧ Below (z2.alloc (.cells #[.slice none 0 0] 26)).drew.heap.size (z2.alloc (.cells #[.slice none 0 0] 26)).drew w') := HIM1.out ah AL k ch CL (z2.alloc (.cells #[.slice none 0 0] 26)).drew hkl.symm (IH5.out.keepB BA.out) (IK5.out.keepB BA.out)
          go_region_held (fun w' => w'.cell? ⟨w1.heap.size, 0, none⟩ = some (.slice ah H.length ch)) (first | assumption | exact HK7.out) (first
            | (go_at_call 6; (with_reducible refine Calls.mono IM1.out ?_); rintro e w6 ⟨PA6, PC6, v6, rfl, iP, oP, b6⟩; have bb6 := Below.trans BD.out (b6.mono (Below.size BD.out)); have dd6 := (N5.out.below BD.out).below b6; have s6 : w6.cell? ⟨w1.heap.size, 0, none⟩ = some (.slice ah H.length ch) := dd6.cell; have s6a : (w6.alloc (.cells #[.slice none 0 0] 26)).cell? ⟨w1.heap.size, 0, none⟩ = some (.slice ah H.length ch) := (dd6.below (al _)).cell; have s6o : (w6.alloc (.cells #[.slice PA6 X1.length PC6] 26)).cell? ⟨w1.heap.size, 0, none⟩ = some (.slice ah H.length ch) := (dd6.below (al _)).cell; have IP6 : Hid (IntsAt w6 PA6 X1) := iP; have OP6 : Hid _ := oP; have BB6 : Hid _ := bb6; clear iP oP b6 dd6 bb6)
            | (go_at_call 6; (with_reducible refine Calls.mono IM2.out ?_); rintro e w6 ⟨PA6, PC6, v6, rfl, iP, oP, b6⟩; have zz6 := ZN.out.below b6; have bb6 := Below.trans BA.out (b6.mono (Below.size BA.out)); have dd6 := (N5.out.below BA.out).below b6; have z0 : w6.cell? ⟨z2.heap.size, 0, none⟩ = some (.slice none 0 0) := zz6.cell; have zf : w6.frozen? ⟨z2.heap.size, 0, none⟩ = false := frozen_of_row w6 _ _ _ _ zz6; have ZZ6 : Hid (NmAt w6 z2.heap.size none 0 0) := zz6; have s6 : w6.cell? ⟨w1.heap.size, 0, none⟩ = some (.slice ah H.length ch) := dd6.cell; have HK7 : Hid ((w6.setCell ⟨z2.heap.size, 0, none⟩ (.slice PA6 X1.length PC6)).cell? ⟨w1.heap.size, 0, none⟩ = some (.slice ah H.length ch)) := (NmAt.far dd6 hDP (.slice PA6 X1.length PC6)).cell; have IP6 : Hid (IntsAt w6 PA6 X1) := iP; have OP6 : Hid _ := oP; have BB6 : Hid _ := bb6; clear iP oP b6 dd6 bb6 zz6))
          all_goals
            go_wp2
            go_meet
            first
            | exact ⟨z2.heap.size, PA6, PC6, v6, rfl, rfl, rfl, ZZ6.out.put PA6 X1.length PC6, Nat.le_refl _, ints_far IP6.out ZZ6.out _, own_mono (own_grown OP6.out (grown_set w6 z2.heap.size 0 _) (by simp)) (by simp), Below.grown BB6.out (grown_set w6 z2.heap.size 0 _) BB6.out.size (fun g e => by have := Option.some.inj e; omega)⟩
            | exact ⟨w6.heap.size, PA6, PC6, v6, rfl, rfl, rfl, NmAt.new _ _ _ _, BB6.out.size, IP6.out.keepB (al _), own_mono (ownsRow_below OP6.out (al _)) (by simp), BB6.out.alloc BB6.out.size _⟩
      case rest =>
        obtain ⟨P, PA, PC, v1, rfl, rfl, rfl, np, hP, ip, op, bp⟩ := hcut
        rw [← hS10] at op
        obtain ⟨-, aA, cA, rfl, -⟩ := ints_of_own op
        have sz10 : S10 ≤ wc.heap.size := by rw [hS10]; exact bp.size
        have NP : Hid (NmAt wc P PA X1.length PC) := np
        have IP : Hid (IntsAt wc PA X1) := ip
        have N6 : Hid (NmAt wc w1.heap.size ah H.length ch) := N5.out.below bp
        have M6 : Hid (NmAt wc w2.heap.size A X.length C) := M5.out.below bp
        have IL6 : Hid (IntsAt wc al' L) := IL5.out.keepB bp
        have IX7 : Hid (IntsAt wc A X) := IX6.out.keepB bp
        have OO6 : Hid (OwnB wc S1 S10 (.slice aY Y.length cY) Y) := OO5.out.below bp
        have BT6 : Hid (Below w.heap.size w wc) := BT.out.trans (bp.mono BT.out.size)
        obtain ⟨S11, hS11⟩ : ∃ n, n = wc.heap.size := ⟨_, rfl⟩
        have OA6 : Hid (OwnB wc S10 S11 (.slice aA Y1.length cA) Y1) := by rw [hS11]; exact OwnB.mk' op
        rw [← hS11] at sz10
        clear np ip op bp hP hS10 N5 M5 IL5 IX6 OO5 BT IK5 IH5 HIM1 HSL
        obtain ⟨AM, CM, sl, slI⟩ := tail_cut al' L.length cl k hk hcl
        have HSL : Hid _ := sl
        have IK6 : Hid (IntsAt wc AM (L.drop k)) := slI _ L rfl IL6.out
        obtain ⟨ok2, X2, Y2, lX2, lY2, IM2, -, yes2, must2⟩ := feed_both X1 (L.drop k) (by omega)
        obtain rfl : ok2 = true := must2 GX1.out (allG_drop GL.out k)
        have HIM2 : Hid _ := IM2
        obtain ⟨-, -, hX2, hY2⟩ := yes2 rfl
        have GX2 : Hid (allG X2 = true) := by rw [hX2]; exact allG_drop (by rw [allG_append, GX1.out, splitAllL_good (allG_drop GL.out k)]; rfl) _
        have HX2 : Hid _ := hX2
        have HY2 : Hid _ := hY2
        clear sl slI IM2 yes2 must2 hX2 hY2
        go_upto_region 11 with fail
        go_cut [17, 18, 19] (fun t0 t1 t2 wx => ∃ (P : Nat) (PA : Option Addr) (PC : Nat) (v1 : Value), t0 = .pointer (some ⟨P, 0, none⟩) ∧ t1 = v1 ∧ t2 = .bool true ∧ NmAt wx P PA X2.length PC ∧ wc.heap.size ≤ P ∧ IntsAt wx PA X2 ∧ wx.ownsRow wc.heap.size 3 1 v1 Y2.length (ints Y2) ∧ Below wc.heap.size wc wx)
        case first =>
          as_aux_lemma =>
            have sl := HSL.out
            have BD : Hid (Below wc.heap.size wc wc.drew) := (Below.refl _ _).drew
            have BA : Hid (Below wc.heap.size wc (wc.alloc (.cells #[.slice none 0 0] 26)).drew) := Below.drew (Below.alloc (Below.refl _ _) (Nat.le_refl _) _)
            have hlt := NP.out.lt
            have hDP : P ≠ wc.heap.size := by omega
            have sD : wc.drew.cell? ⟨P, 0, none⟩ = some (.slice PA X1.length PC) := (NP.out.below BD.out).cell
            have ZN : Hid (NmAt (wc.alloc (.cells #[.slice none 0 0] 26)).drew wc.heap.size none 0 0) := (NmAt.new wc none 0 0).below (Below.drew (Below.refl _ _))
            have sA : (wc.alloc (.cells #[.slice none 0 0] 26)).drew.cell? ⟨P, 0, none⟩ = some (.slice PA X1.length PC) := (NP.out.below BA.out).cell
            have sA' : (wc.alloc (.cells #[.slice none 0 0] 26)).cell? ⟨P, 0, none⟩ = some (.slice PA X1.length PC) := (NP.out.below (al _)).cell
            have IM1 : Hid (Calls Try.prog 6 #[.agg #[.slice PA X1.length PC], .slice AM (L.length - k) CM] wc.drew fun e w' => ∃ A C v, e = .returned (.tuple #[.agg #[.slice A X2.length C], v, .bool true]) ∧ IntsAt w' A X2 ∧ w'.ownsRow wc.drew.heap.size 3 1 v Y2.length (ints Y2) ∧ Below wc.drew.heap.size wc.drew w') := HIM2.out PA AM (L.length - k) PC CM wc.drew hkd.symm (IP.out.keepB BD.out) (IK6.out.keepB BD.out)
            have IM2 : Hid (Calls Try.prog 6 #[.agg #[.slice PA X1.length PC], .slice AM (L.length - k) CM] (wc.alloc (.cells #[.slice none 0 0] 26)).drew fun e w' => ∃ A C v, e = .returned (.tuple #[.agg #[.slice A X2.length C], v, .bool true]) ∧ IntsAt w' A X2 ∧ w'.ownsRow (wc.alloc (.cells #[.slice none 0 0] 26)).drew.heap.size 3 1 v Y2.length (ints Y2) ∧ Below (wc.alloc (.cells #[.slice none 0 0] 26)).drew.heap.size (wc.alloc (.cells #[.slice none 0 0] 26)).drew w') := HIM2.out PA AM (L.length - k) PC CM (wc.alloc (.cells #[.slice none 0 0] 26)).drew hkd.symm (IP.out.keepB BA.out) (IK6.out.keepB BA.out)
            go_region_held (fun w' => w'.cell? ⟨P, 0, none⟩ = some (.slice PA X1.length PC)) (first | assumption | exact HK7.out) (first
              | (go_at_call 6; (with_reducible refine Calls.mono IM1.out ?_); rintro e w6 ⟨PA6, PC6, v6, rfl, iP, oP, b6⟩; have bb6 := Below.trans BD.out (b6.mono (Below.size BD.out)); have dd6 := (NP.out.below BD.out).below b6; have s6 : w6.cell? ⟨P, 0, none⟩ = some (.slice PA X1.length PC) := dd6.cell; have s6a : (w6.alloc (.cells #[.slice none 0 0] 26)).cell? ⟨P, 0, none⟩ = some (.slice PA X1.length PC) := (dd6.below (al _)).cell; have s6o : (w6.alloc (.cells #[.slice PA6 X2.length PC6] 26)).cell? ⟨P, 0, none⟩ = some (.slice PA X1.length PC) := (dd6.below (al _)).cell; have IP6 : Hid (IntsAt w6 PA6 X2) := iP; have OP6 : Hid _ := oP; have BB6 : Hid _ := bb6; clear iP oP b6 dd6 bb6)
              | (go_at_call 6; (with_reducible refine Calls.mono IM2.out ?_); rintro e w6 ⟨PA6, PC6, v6, rfl, iP, oP, b6⟩; have zz6 := ZN.out.below b6; have bb6 := Below.trans BA.out (b6.mono (Below.size BA.out)); have dd6 := (NP.out.below BA.out).below b6; have z0 : w6.cell? ⟨wc.heap.size, 0, none⟩ = some (.slice none 0 0) := zz6.cell; have zf : w6.frozen? ⟨wc.heap.size, 0, none⟩ = false := frozen_of_row w6 _ _ _ _ zz6; have ZZ6 : Hid (NmAt w6 wc.heap.size none 0 0) := zz6; have s6 : w6.cell? ⟨P, 0, none⟩ = some (.slice PA X1.length PC) := dd6.cell; have HK7 : Hid ((w6.setCell ⟨wc.heap.size, 0, none⟩ (.slice PA6 X2.length PC6)).cell? ⟨P, 0, none⟩ = some (.slice PA X1.length PC)) := (NmAt.far dd6 hDP (.slice PA6 X2.length PC6)).cell; have IP6 : Hid (IntsAt w6 PA6 X2) := iP; have OP6 : Hid _ := oP; have BB6 : Hid _ := bb6; clear iP oP b6 dd6 bb6 zz6))
            all_goals
              go_wp2
              go_meet
              first
              | exact ⟨wc.heap.size, PA6, PC6, v6, rfl, rfl, rfl, ZZ6.out.put PA6 X2.length PC6, Nat.le_refl _, ints_far IP6.out ZZ6.out _, own_mono (own_grown OP6.out (grown_set w6 wc.heap.size 0 _) (by simp)) (by simp), Below.grown BB6.out (grown_set w6 wc.heap.size 0 _) BB6.out.size (fun g e => by have := Option.some.inj e; omega)⟩
              | exact ⟨w6.heap.size, PA6, PC6, v6, rfl, rfl, rfl, NmAt.new _ _ _ _, BB6.out.size, IP6.out.keepB (al _), own_mono (ownsRow_below OP6.out (al _)) (by simp), BB6.out.alloc BB6.out.size _⟩
        case rest =>
          obtain ⟨Q, QA, QC, v2, rfl, rfl, rfl, np, hQ, ip, op, bp⟩ := hcut
          rw [← hS11] at op
          obtain ⟨-, aB, cB, rfl, -⟩ := ints_of_own op
          have sz11 : S11 ≤ wc.heap.size := by rw [hS11]; exact bp.size
          have nq := NmAt.cell np
          have IQ : Hid (IntsAt wc QA X2) := ip
          have N7 : Hid (NmAt wc w1.heap.size ah H.length ch) := N6.out.below bp
          have M7 : Hid (NmAt wc w2.heap.size A X.length C) := M6.out.below bp
          have IL7 : Hid (IntsAt wc al' L) := IL6.out.keepB bp
          have IX8 : Hid (IntsAt wc A X) := IX7.out.keepB bp
          have OO7 : Hid (OwnB wc S1 S10 (.slice aY Y.length cY) Y) := OO6.out.below bp
          have OA7 : Hid (OwnB wc S10 S11 (.slice aA Y1.length cA) Y1) := OA6.out.below bp
          have BT7 : Hid (Below w.heap.size w wc) := BT6.out.trans (bp.mono BT6.out.size)
          obtain ⟨S12, hS12⟩ : ∃ n, n = wc.heap.size := ⟨_, rfl⟩
          have OB7 : Hid (OwnB wc S11 S12 (.slice aB Y2.length cB) Y2) := by rw [hS12]; exact OwnB.mk' op
          rw [← hS12] at sz11
          clear np ip op bp hQ hS11 N6 M6 IL6 IX7 OO6 OA6 BT6 IK6 HIM2 HSL NP IP
          have gX : allG X = true := by rw [HX.out]; exact allG_drop (by rw [allG_append, GH.out, splitAllL_good GL.out]; rfl) _
          obtain ⟨ok3, K3, lK3, IM3, -, must3⟩ := flush_both X2 (by omega)
          obtain ⟨rfl, hK3⟩ := must3 GX2.out
          obtain ⟨ok4, K4, lK4, IM4, -, must4⟩ := flush_both X (by omega)
          obtain ⟨rfl, hK4⟩ := must4 gX
          have HIM3 : Hid _ := IM3
          have HIM4 : Hid _ := IM4
          have HK3 : Hid _ := hK3
          have HK4 : Hid _ := hK4
          clear IM3 must3 IM4 must4 hK3 hK4 gX
          go_wp2_with fail
          refine (HIM3.out _ _ _ IQ.out).mono ?_
          rintro e q3 ⟨v3, rfl, o3, b⟩
          rw [← hS12] at o3
          obtain ⟨-, aC, cC, rfl, -⟩ := ints_of_own o3
          have sz12 : S12 ≤ q3.heap.size := by rw [hS12]; exact b.size
          have N8 : Hid (NmAt q3 w1.heap.size ah H.length ch) := N7.out.below b
          have m8 := (M7.out.below b).cell
          have IL8 : Hid (IntsAt q3 al' L) := IL7.out.keepB b
          have IX9 : Hid (IntsAt q3 A X) := IX8.out.keepB b
          have OO8 : Hid (OwnB q3 S1 S10 (.slice aY Y.length cY) Y) := OO7.out.below b
          have OA8 : Hid (OwnB q3 S10 S11 (.slice aA Y1.length cA) Y1) := OA7.out.below b
          have OB8 : Hid (OwnB q3 S11 S12 (.slice aB Y2.length cB) Y2) := OB7.out.below b
          have BT8 : Hid (Below w.heap.size w q3) := BT7.out.trans (b.mono BT7.out.size)
          obtain ⟨S13, hS13⟩ : ∃ n, n = q3.heap.size := ⟨_, rfl⟩
          have OC8 : Hid (OwnB q3 S12 S13 (.slice aC K3.length cC) K3) := by rw [hS13]; exact OwnB.mk' o3
          rw [← hS13] at sz12
          clear b o3 nq hS12 IQ N7 M7 IL7 IX8 OO7 OA7 OB7 BT7 HIM3
          go_wp2_with fail
          refine (HIM4.out _ _ _ IX9.out).mono ?_
          rintro e q4 ⟨v4, rfl, o4, b⟩
          rw [← hS13] at o4
          obtain ⟨-, aD, cD, rfl, -⟩ := ints_of_own o4
          have sz13 : S13 ≤ q4.heap.size := by rw [hS13]; exact b.size
          have N9 : Hid (NmAt q4 w1.heap.size ah H.length ch) := N8.out.below b
          have IL9 : Hid (IntsAt q4 al' L) := IL8.out.keepB b
          have OO9 : Hid (OwnB q4 S1 S10 (.slice aY Y.length cY) Y) := OO8.out.below b
          have OA9 : Hid (OwnB q4 S10 S11 (.slice aA Y1.length cA) Y1) := OA8.out.below b
          have OB9 : Hid (OwnB q4 S11 S12 (.slice aB Y2.length cB) Y2) := OB8.out.below b
          have OC9 : Hid (OwnB q4 S12 S13 (.slice aC K3.length cC) K3) := OC8.out.below b
          have BT9 : Hid (Below w.heap.size w q4) := BT8.out.trans (b.mono BT8.out.size)
          obtain ⟨S14, hS14⟩ : ∃ n, n = q4.heap.size := ⟨_, rfl⟩
          have OD9 : Hid (OwnB q4 S13 S14 (.slice aD K4.length cD) K4) := by rw [hS14]; exact OwnB.mk' o4
          have hN1 : w1.heap.size < S10 := HN1.out
          rw [← hS14] at sz13
          clear b o4 m8 hS13 IX9 N8 IL8 OO8 OA8 OB8 OC8 BT8 HIM4
          have hpc : Hid (Y1 ++ Y2 ++ K3 = Y ++ K4) := by
            have h := pieces H (L.take k) (L.drop k)
            simp only [List.take_append_drop] at h
            rw [HK3.out, HK4.out, HX2.out, HY2.out, HX1.out, HY1.out, HX.out, HY.out]
            exact h
          go_upto_region 14 with fail
          go_cut [130] (fun sb wx => sb = .bool false ∧ Below S10 q4 wx ∧ OwnB wx S13 S14 (.slice aD K4.length cD) K4)
          case first =>
            as_aux_lemma =>
              have hq4 : S10 ≤ q4.heap.size := by omega
              obtain ⟨p1, c1, r1, ap1, ow1, gr1, bk1⟩ := append_b OA9.out OB9.out (by omega) (by omega)
              have OX1 : Hid (OwnB r1 S10 r1.heap.size (.slice p1 (Y1 ++ Y2).length c1) (Y1 ++ Y2)) := OwnB.mk' ow1
              have rg1 : ∀ g, Value.ownBlock (.slice aA Y1.length cA) = some g → S10 ≤ g ∧ g < S11 := fun g hg => ⟨own_block_ge OA9.out.1 g hg, OA9.out.2 g hg⟩
              have tg1 : ∀ g, Value.ownBlock (.slice p1 (Y1 ++ Y2).length c1) = some g → S10 ≤ g ∧ (g < S11 ∨ g = S14) := fun g hg => ⟨own_block_ge ow1 g hg, by
                rcases bk1 with e | e
                · exact .inl (rg1 g (e ▸ hg)).2
                · exact .inr (by have := hg.symm.trans e; rw [← hS14] at this; exact Option.some.inj this)⟩
              have sr1 : S14 ≤ r1.heap.size := by rw [hS14]; exact gr1.size
              have OC1 : Hid (OwnB r1 S12 S13 (.slice aC K3.length cC) K3) := OC9.out.kept gr1 (fun g hg => by have := rg1 g hg; omega)
              have OO1 : Hid (OwnB r1 S1 S10 (.slice aY Y.length cY) Y) := OO9.out.kept gr1 (fun g hg => by have := rg1 g hg; omega)
              have OD1 : Hid (OwnB r1 S13 S14 (.slice aD K4.length cD) K4) := OD9.out.kept gr1 (fun g hg => by have := rg1 g hg; omega)
              have D1 : Hid (Below S10 q4 r1) := Below.grown (Below.refl _ _) gr1 (by omega) (fun g hg => (rg1 g hg).1)
              obtain ⟨p2, c2, r2, ap2, ow2, gr2, bk2⟩ := append_b OX1.out OC1.out (by rw [List.length_append]; omega) (by omega)
              have tg2 : ∀ g, Value.ownBlock (.slice p2 (Y1 ++ Y2 ++ K3).length c2) = some g → S10 ≤ g ∧ g < r2.heap.size := fun g hg => ⟨own_block_ge ow2 g hg, own_block_lt ow2 g hg⟩
              have sr2 : S14 ≤ r2.heap.size := Nat.le_trans sr1 gr2.size
              have OO2 : Hid (OwnB r2 S1 S10 (.slice aY Y.length cY) Y) := OO1.out.kept gr2 (fun g hg => by have := tg1 g hg; omega)
              have OD2 : Hid (OwnB r2 S13 S14 (.slice aD K4.length cD) K4) := OD1.out.kept gr2 (fun g hg => by have := tg1 g hg; omega)
              have OX2 : Hid (OwnB r2 S10 r2.heap.size (.slice p2 (Y1 ++ Y2 ++ K3).length c2) (Y1 ++ Y2 ++ K3)) := OwnB.mk' ow2
              have D2 : Hid (Below S10 q4 r2) := Below.grown D1.out gr2 (Nat.le_trans hq4 D1.out.size) (fun g hg => (tg1 g hg).1)
              obtain ⟨N2, hN2⟩ : ∃ n, n = r2.heap.size := ⟨_, rfl⟩
              have E3 : OwnB (r2.alloc (.cells #[] 3)) N2 (N2 + 1) (.slice (some ⟨N2, 0, none⟩) ([] : List Int).length 0) [] := ⟨⟨rfl, .inr ⟨N2, 0, #[], rfl, Nat.le_refl _, heap_last2 _ _ _ hN2, Nat.le_refl _, by unfold maxLen; omega, rfl, rfl⟩⟩, fun g hg => by simp [Value.ownBlock] at hg; omega⟩
              have al3 : Below r2.heap.size r2 (r2.alloc (.cells #[] 3)) := al _
              have sz3 : (r2.alloc (.cells #[] 3)).heap.size = N2 + 1 := by simp [hN2]
              obtain ⟨p4, c4, r4, ap4, ow4, gr4, bk4⟩ := append_b E3 (OO2.out.below al3) (by simp; omega) (by omega)
              simp only [List.nil_append] at ap4 ow4 bk4
              have tg4 : ∀ g, Value.ownBlock (.slice p4 Y.length c4) = some g → N2 ≤ g ∧ g < r4.heap.size := fun g hg => ⟨own_block_ge ow4 g hg, own_block_lt ow4 g hg⟩
              have eg4 : ∀ g, Value.ownBlock (.slice (some ⟨N2, 0, none⟩) ([] : List Int).length 0) = some g → g = N2 := fun g hg => by cases hg; rfl
              have OX4 : Hid (OwnB r4 S10 N2 (.slice p2 (Y1 ++ Y2 ++ K3).length c2) (Y1 ++ Y2 ++ K3)) := by
                have h := OX2.out.below al3
                rw [← hN2] at h
                exact h.kept gr4 (fun g hg => by have := eg4 g hg; omega)
              have OD4 : Hid (OwnB r4 S13 S14 (.slice aD K4.length cD) K4) := (OD2.out.below al3).kept gr4 (fun g hg => by have := eg4 g hg; omega)
              have OX4' : Hid (OwnB r4 N2 r4.heap.size (.slice p4 Y.length c4) Y) := OwnB.mk' ow4
              have D4 : Hid (Below S10 q4 r4) := Below.grown (D2.out.alloc (Nat.le_trans hq4 D2.out.size) _) gr4 (by rw [sz3]; have := D2.out.size; omega) (fun g hg => by have := eg4 g hg; omega)
              have sr4 : N2 ≤ r4.heap.size := by have := gr4.size; rw [sz3] at this; omega
              obtain ⟨p5, c5, r5, ap5, ow5, gr5, -⟩ := append_b OX4'.out OD4.out (by omega) sr4
              have OX5 : Hid (OwnB r5 S10 N2 (.slice p2 (Y1 ++ Y2 ++ K3).length c2) (Y1 ++ Y2 ++ K3)) := OX4.out.kept gr5 (fun g hg => by have := tg4 g hg; omega)
              have OD5 : Hid (OwnB r5 S13 S14 (.slice aD K4.length cD) K4) := OD4.out.kept gr5 (fun g hg => by have := tg4 g hg; omega)
              have D5 : Hid (Below S10 q4 r5) := Below.grown D4.out gr5 (Nat.le_trans hq4 D4.out.size) (fun g hg => by have := tg4 g hg; omega)
              have lF : (Y1 ++ Y2 ++ K3).length ≤ 1048576 := by simp only [List.length_append]; omega
              have hsm := same_any (Y1 ++ Y2 ++ K3) p2 p5 c2 c5 r5 lF (ints_val OX5.out.1) (by rw [hpc.out]; exact ints_val ow5)
              rw [hpc.out] at hsm
              have HSM : Hid _ := hsm
              have HAP1 : Hid _ := ap1
              have HAP2 : Hid _ := ap2
              have HAP4 : Hid _ := ap4
              have HAP5 : Hid _ := ap5
              rw [hpc.out] at HAP2
              rw [hN2] at HAP4
              obtain ⟨n12, hn12⟩ : ∃ n, n = (Y1 ++ Y2).length := ⟨_, rfl⟩
              obtain ⟨n3, hn3⟩ : ∃ n, n = (Y ++ K4).length := ⟨_, rfl⟩
              rw [← hn12] at HAP1 HAP2
              rw [← hn3] at HAP2 HAP5 HSM
              clear hn12 hn3
              clear hsm ap1 ap2 ap4 ap5 ow1 ow2 ow4 ow5 gr1 gr2 gr4 gr5 bk1 bk2 bk4 rg1 tg1 tg2 tg4 eg4 E3 al3 hN2
              go_wp2_with (at_builtin; go_guarded; first | (refine oper_append_run (t := 24) _ _ rfl _ _ rfl rfl HAP1.out ?_; clear HAP1) | (refine oper_append_run (t := 24) _ _ rfl _ _ rfl rfl HAP2.out ?_; clear HAP2) | (refine oper_append_run (t := 24) _ _ rfl _ _ rfl rfl HAP4.out ?_; clear HAP4) | (refine oper_append_run (t := 24) _ _ rfl _ _ rfl rfl HAP5.out ?_; clear HAP5))
              refine Calls.mono HSM.out ?_
              rintro e z9 ⟨rfl, b9⟩
              go_wp2
              go_meet
              exact ⟨rfl, D5.out.trans (b9.mono (Nat.le_trans hq4 D5.out.size)), OD5.out.below b9⟩
          case rest =>
            obtain ⟨rfl, bz, od⟩ := hcut
            have szc : q4.heap.size ≤ wc.heap.size := bz.size
            have N10 : Hid (NmAt wc w1.heap.size ah H.length ch) := (bz.block _ hN1).trans N9.out
            have IL10 : Hid (IntsAt wc al' L) := ints_low IL9.out ILL.out bz
            have OO10 : Hid (OwnB wc S1 S10 (.slice aY Y.length cY) Y) := own_low OO9.out bz
            have OD10 : Hid (OwnB wc S13 S14 (.slice aD K4.length cD) K4) := od
            have BT10 : Hid (Below w.heap.size w wc) := BT9.out.trans (bz.mono hB10)
            have HWH : Hid (fullL (H ++ splitAllL L) = Y ++ K4) := by
              show fullL (H ++ splitAllL L) = Y ++ K4
              rw [HK4.out, HX.out, HY.out]
              exact (cutN_whole _).symm
            have hlS : (splitAllL L).length ≤ 300 := by have := splitAllL_len L; omega
            go_wp2_with fail
            refine (inormal_yes L _ _ _ _ rfl (heldB_mk (by omega) GL.out) hlS (splitAllL_good GL.out) IL10.out).mono ?_
            rintro e q5 ⟨v5, rfl, o5, b⟩
            obtain ⟨-, a5, c5, rfl, -⟩ := ints_of_own o5
            have szq : wc.heap.size ≤ q5.heap.size := b.size
            have m11 := (N10.out.below b).cell
            have OO11 : Hid (OwnB q5 S1 S10 (.slice aY Y.length cY) Y) := OO10.out.below b
            have OD11 : Hid (OwnB q5 S13 S14 (.slice aD K4.length cD) K4) := OD10.out.below b
            have BT11 : Hid (Below w.heap.size w q5) := BT10.out.trans (b.mono BT10.out.size)
            have OS11 : Hid (OwnB q5 wc.heap.size q5.heap.size (.slice a5 (fullL (splitAllL L)).length c5) (fullL (splitAllL L))) := OwnB.mk' o5
            have szS : S14 ≤ q5.heap.size := by omega
            clear b o5 N10 IL10 OO10 OD10 BT10 GX1 GX2 GH HX HY HX1 HY1 HX2 HY2 HK3 HK4 hpc
            go_upto_region 17 with fail
            go_cut [156] (fun sb wx => sb = .bool false ∧ Below w.heap.size w wx)
            case first =>
              as_aux_lemma =>
                rcases H with _ | ⟨z, H⟩
                · obtain ⟨N2, hN2⟩ : ∃ n, n = q5.heap.size := ⟨_, rfl⟩
                  have E3 : OwnB (q5.alloc (.cells #[] 3)) N2 (N2 + 1) (.slice (some ⟨N2, 0, none⟩) ([] : List Int).length 0) [] := ⟨⟨rfl, .inr ⟨N2, 0, #[], rfl, Nat.le_refl _, heap_last2 _ _ _ hN2, Nat.le_refl _, by unfold maxLen; omega, rfl, rfl⟩⟩, fun g hg => by simp [Value.ownBlock] at hg; omega⟩
                  have al3 : Below q5.heap.size q5 (q5.alloc (.cells #[] 3)) := al _
                  have sz3 : (q5.alloc (.cells #[] 3)).heap.size = N2 + 1 := by simp [hN2]
                  obtain ⟨p4, c4, r4, ap4, ow4, gr4, bk4⟩ := append_b E3 (OO11.out.below al3) (by simp; omega) (by omega)
                  simp only [List.nil_append] at ap4 ow4 bk4
                  have tg4 : ∀ g, Value.ownBlock (.slice p4 Y.length c4) = some g → N2 ≤ g ∧ g < r4.heap.size := fun g hg => ⟨own_block_ge ow4 g hg, own_block_lt ow4 g hg⟩
                  have eg4 : ∀ g, Value.ownBlock (.slice (some ⟨N2, 0, none⟩) ([] : List Int).length 0) = some g → g = N2 := fun g hg => by cases hg; rfl
                  have OS4 : Hid (OwnB r4 wc.heap.size N2 (.slice a5 (fullL (splitAllL L)).length c5) (fullL (splitAllL L))) := by
                    have h := OS11.out.below al3
                    rw [← hN2] at h
                    exact h.kept gr4 (fun g hg => by have := eg4 g hg; omega)
                  have OD4 : Hid (OwnB r4 S13 S14 (.slice aD K4.length cD) K4) := (OD11.out.below al3).kept gr4 (fun g hg => by have := eg4 g hg; omega)
                  have OX4' : Hid (OwnB r4 N2 r4.heap.size (.slice p4 Y.length c4) Y) := OwnB.mk' ow4
                  have D4 : Hid (Below w.heap.size w r4) := Below.grown (BT11.out.alloc BT11.out.size _) gr4 (by rw [sz3]; have := BT11.out.size; omega) (fun g hg => by have := eg4 g hg; have := BT11.out.size; omega)
                  have sr4 : N2 ≤ r4.heap.size := by have := gr4.size; rw [sz3] at this; omega
                  obtain ⟨p5, c5', r5, ap5, ow5, gr5, -⟩ := append_b OX4'.out OD4.out (by omega) sr4
                  have OS5 : Hid (OwnB r5 wc.heap.size N2 (.slice a5 (fullL (splitAllL L)).length c5) (fullL (splitAllL L))) := OS4.out.kept gr5 (fun g hg => by have := tg4 g hg; omega)
                  have D5 : Hid (Below w.heap.size w r5) := Below.grown D4.out gr5 D4.out.size (fun g hg => by have := tg4 g hg; have := BT11.out.size; omega)
                  have hwh : fullL (splitAllL L) = Y ++ K4 := HWH.out
                  have lF : (Y ++ K4).length ≤ 1048576 := by simp only [List.length_append]; omega
                  have hsm := same_any (Y ++ K4) p5 a5 c5' c5 r5 lF (ints_val ow5) (by rw [← hwh]; exact ints_val OS5.out.1)
                  rw [← hwh] at hsm
                  have HSM : Hid _ := hsm
                  have HAP4 : Hid _ := ap4
                  have HAP5 : Hid _ := ap5
                  rw [← hwh] at HAP5
                  rw [hN2] at HAP4
                  clear hsm ap4 ap5 ow4 ow5 gr4 gr5 bk4 tg4 eg4 E3 al3 hN2 hwh
                  go_wp2_with (at_builtin; go_guarded; first | (refine oper_append_run (t := 24) _ _ rfl _ _ rfl rfl HAP4.out ?_; clear HAP4) | (refine oper_append_run (t := 24) _ _ rfl _ _ rfl rfl HAP5.out ?_; clear HAP5))
                  refine Calls.mono HSM.out ?_
                  rintro e z9 ⟨rfl, b9⟩
                  go_wp2
                  go_meet
                  exact ⟨rfl, D5.out.trans (b9.mono D5.out.size)⟩
                · have hz : ¬ ((H.length : Int) + 1 = 0) := by omega
                  go_wp2
                  go_meet
                  exact ⟨rfl, BT11.out⟩
            case rest =>
              obtain ⟨rfl, bz'⟩ := hcut
              have BT : Hid (Below w.heap.size w wc) := bz'
              clear bz' OO11 OD11 BT11 OS11 m11
              go_wp2_with fail
              refine (dfl_any a1 n1 c1 _ (ArgB.below HM.out BT.out)).mono ?_
              rintro e y1 ⟨af, cf, F, rfl, lF, iF, b⟩
              have D1 : Hid (Below w.heap.size w y1) := BT.out.trans (b.mono BT.out.size)
              have D1a : Hid (Below w.heap.size w (y1.alloc (.cells #[.slice af F.length cf] 26))) := D1.out.alloc D1.out.size _
              have IF1 : Hid (IntsAt (y1.alloc (.cells #[.slice af F.length cf] 26)) af F) := iF.keepB (al _)
              clear b iF D1
              obtain ⟨okf, G, lG, IM1, SP1, -⟩ := flush_both F (by omega)
              have HIM1 : Hid _ := IM1
              have HSP1 : Hid _ := SP1
              clear IM1 SP1
              have hNf : NmAt (y1.alloc (.cells #[.slice af F.length cf] 26)) y1.heap.size af F.length cf := NmAt.new _ _ _ _
              go_wp2_with fail
              refine (HIM1.out _ _ _ IF1.out).mono ?_
              rintro e y2 ⟨v2, rfl, o2, b⟩
              obtain ⟨-, a2, c2, rfl, i2⟩ := ints_of_own o2
              have cf2 : y2.cell? ⟨y1.heap.size, 0, none⟩ = some (.slice af F.length cf) := NmAt.cell (NmAt.below hNf b)
              have D2 : Hid (Below w.heap.size w y2) := D1a.out.trans (b.mono D1a.out.size)
              have IF2 : Hid _ := IntsAt.keepB IF1.out b
              have I2 : Hid (IntsAt y2 a2 G) := i2
              clear b i2 o2 hNf D1a IF1
              go_wp2_with fail
              refine (HSP1.out _ _ _ IF2.out).mono ?_
              rintro e y3 ⟨v3, rfl, o3, b⟩
              obtain ⟨-, a3, c3, rfl, i3⟩ := ints_of_own o3
              have D3 : Hid (Below w.heap.size w y3) := D2.out.trans (b.mono D2.out.size)
              have I3 : Hid (IntsAt y3 a2 G) := IntsAt.keepB I2.out b
              have J3 : Hid (IntsAt y3 a3 G) := i3
              clear b i3 o3 cf2 D2 I2 IF2
              have bbf : (okf == okf) = true := by simp
              have lG' : G.length ≤ 1048576 := by omega
              go_wp2_with fail
              refine (same_any G _ _ _ _ _ lG' I3.out J3.out).mono ?_
              rintro e y4 ⟨rfl, b⟩
              have D4 : Hid (Below w.heap.size w y4) := D3.out.trans (b.mono D3.out.size)
              clear b
              go_wp2
              go_ret
              exact ⟨rfl, D4.out⟩
set_option maxRecDepth 100000 in
set_option maxHeartbeats 1000000 in
theorem walk_big (a0 : Option Addr) (n0 c0 : Nat) (a1 : Option Addr) (n1 c1 : Nat) (w : World) (h : (1048576 : Int) < n0 ∨ ((n0 : Int) ≤ 1048576 ∧ (1048576 : Int) - n0 < n1)) :
    Calls Try.prog 3 #[.slice a0 n0 c0, .slice a1 n1 c1] w fun e w' => e = .returned (.bool true) ∧ Below w.heap.size w w' := by
  rcases h with h | ⟨h1, h2⟩
  · go_enter Try.func3, Try.ntmps3
    go_wp2_with (first | (go_at_call 4; go_in) | fail)
    go_ret
    exact ⟨rfl, Below.refl _ _⟩
  · have h1' : ¬ (1048576 : Int) < (n0 : Int) := by omega
    go_enter Try.func3, Try.ntmps3
    go_wp2_with (first | (go_at_call 4; go_in) | fail)
    go_ret
    exact ⟨rfl, Below.refl _ _⟩
theorem walk (a0 : Option Addr) (n0 c0 : Nat) (a1 : Option Addr) (n1 c1 : Nat) (w : World) (hA : ArgB w a0 n0) (hM : ArgB w a1 n1) :
    Calls Try.prog 3 #[.slice a0 n0 c0, .slice a1 n1 c1] w fun e w' => e = .returned (.bool true) ∧ Below w.heap.size w w' := by
  by_cases h : (1048576 : Int) < n0 ∨ ((n0 : Int) ≤ 1048576 ∧ (1048576 : Int) - n0 < n1)
  · exact walk_big a0 n0 c0 a1 n1 c1 w h
  · exact walk_in a0 n0 c0 a1 n1 c1 w hA hM (by omega) (by omega)
set_option maxRecDepth 100000 in
theorem lifted (os : Os) (started : os.Started) (H : Type) (enc : TypeId × Value → H) :
    ReturnsInHanded {} Try.checked os 3 .any (Rows.fnNormChunksSpec.pre6 enc Try.prog Try.f3 Rows.fnNormChunksRow.domain false) (Rows.fnNormChunksSpec.post enc Try.prog Try.f3 false true false false) := by
  refine returnsInHanded_of_change (C := Try.checked) own started (by kernel_rfl) Try.func3
    (ChangeSpec.witness6 (enc := enc) (C := Try.checked) false ⟨#[], #[.slice none 0 0, .slice none 0 0], []⟩ 8 (by kernel_rfl) (by kernel_rfl) (by kernel_rfl) (by kernel_rfl)) ?_
  intro W base args ds gs before hval0 hW hcnd _
  have hval : ∀ (j : Nat) t v, Try.f3.params[j]? = some t → args[j]? = some v → Value.okWide Try.prog W .any base t v := hval0
  have hW' := hW
  obtain ⟨p, q, hA0, hV, rfl, hfz, hnd⟩ := hW
  have hA : DataW.TrodAll enc Try.prog W 0 (fun _ => true) true Try.f3.params.toList args.toList ds p := hA0
  rw [Try.params3] at hA hval
  obtain ⟨v0, vs0, d0, ds0, p0, q0, hargs, rfl, rfl, h0, r0⟩ := trodAll_cons hA
  obtain ⟨v1, vs1, d1, ds1, p1, q1, hargs1, rfl, rfl, h1, r1⟩ := trodAll_cons r0
  obtain ⟨rfl, rfl, rfl⟩ := trodAll_nil r1
  obtain rfl : args = #[v0, v1] := by cases args; simp_all
  obtain ⟨rfl, rfl⟩ := trodVars_none hV
  obtain ⟨a0, len0, cap0, rfl⟩ := okWide_slice Try.underlying22 (hval 0 22 v0 rfl rfl)
  obtain ⟨a1, len1, cap1, rfl⟩ := okWide_slice Try.underlying22 (hval 1 22 v1 rfl rfl)
  have k0 := h0
  have k1 := h1
  have lt0 : ∀ x ∈ p0, x.block < W.heap.size := by obtain ⟨m, hm⟩ := k0; exact DataW.trod_lt m _ _ _ hm
  have lt1 : ∀ x ∈ p1, x.block < W.heap.size := by obtain ⟨m, hm⟩ := k1; exact DataW.trod_lt m _ _ _ hm
  have i0 : ArgB W a0 len0 := by obtain ⟨fuel, hf⟩ := h0; exact argB_of hf
  have i1 : ArgB W a1 len1 := by obtain ⟨fuel, hf⟩ := h1; exact argB_of hf
  clear hA0 hval0
  refine (walk a0 len0 cap0 a1 len1 cap1 W i0 i1).mono fun e W' ⟨he, bel⟩ => ?_
  subst he
  exact ⟨_, rfl, _, _, _, [], _, [], hW', trodAll_mk1 (shut_bool Try.underlying4 _), trodAll_cons_mk (Below.trod laidOut (by kernel_rfl) (of_decide_eq_true (by kernel_rfl)) k0 bel lt0) (trodAll_cons_mk (Below.trod laidOut (by kernel_rfl) (of_decide_eq_true (by kernel_rfl)) k1 bel lt1) trodAll_mk0), rfl, bel.frame _, fun h => by cases h⟩
theorem row : Rows.FnNormChunksSaid :=
  OpenClaim.holds_of_wide 3 Try.f3 rfl rfl rfl rfl rfl rfl rfl ⟨rfl, rfl, rfl, rfl, rfl⟩ rfl rfl rfl rfl rfl (by kernel_rfl) Try.func3 (by kernel_rfl)
    (of_decide_eq_true (by kernel_rfl)) (by unfold Func.isWrapper; first | (rw [if_pos (by decide +kernel)]; kernel_rfl) | (rw [if_neg (by decide +kernel)]; exact ⟨rfl, rfl⟩))
    (fun os started H enc _ => lifted os started H enc)
end LawNorm
theorem normChunks_holds : Rows.FnNormChunksSaid := LawNorm.row
#print axioms normChunks_holds
end Go.Proofs.Ytjfehgmpcgepnaa

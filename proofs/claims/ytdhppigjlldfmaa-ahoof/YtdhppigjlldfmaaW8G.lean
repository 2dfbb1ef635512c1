/-
  addEnd: the words that end at a state end at all that fail to it.
-/
import Derived.Test.YtdhppigjlldfmaaW8F
namespace Go.Proofs.Ytdhppigjlldfmaa
open Go.ChangeShapes Go.WideShapes Go.ChangeAt Go.RowKit Go.Maps
/-- Which states a word ends at, the first k told. -/
def endL (Q : List Sq) (last : Nat) : Nat → List Bool
  | 0 => List.replicate Q.length false
  | k + 1 => (endL Q last k).set k (decide (k = last) || (endL Q last k).getD (failN Q k) false)
theorem endL_len (Q : List Sq) (last : Nat) : ∀ k, (endL Q last k).length = Q.length
  | 0 => by simp [endL]
  | k + 1 => by rw [endL, List.length_set, endL_len Q last k]
def endB (Q : List Sq) (last k : Nat) : Bool := decide (k = last) || (endL Q last k).getD (failN Q k) false
def enK (Q : List Sq) (last : Nat) (no : Int) (En : Nat → List Int) (k j : Nat) : List Int := if j < k ∧ endB Q last j = true then En j ++ [no] else En j
theorem endL_step (Q : List Sq) (last k : Nat) : (flags (endL Q last k)).set k (.bool (endB Q last k)) = flags (endL Q last (k + 1)) := by
  rw [endL]
  show _ = flags ((endL Q last k).set k (endB Q last k))
  simp [flags, List.map_set]
theorem enK_yes {Q : List Sq} {last k : Nat} (h : endB Q last k = true) (no : Int) (En : Nat → List Int) : (fun j => if j = k then enK Q last no En k k ++ [no] else enK Q last no En k j) = enK Q last no En (k + 1) := by
  funext j
  unfold enK
  by_cases e : j = k
  · subst e; rw [if_pos rfl, if_neg (by omega), if_pos ⟨by omega, h⟩]
  · rw [if_neg e]
    by_cases c : endB Q last j = true
    · by_cases l : j < k
      · rw [if_pos ⟨l, c⟩, if_pos ⟨by omega, c⟩]
      · rw [if_neg (fun x => l x.1), if_neg (fun x => by have := x.1; omega)]
    · rw [if_neg (fun x => c x.2), if_neg (fun x => c x.2)]
theorem enK_no {Q : List Sq} {last k : Nat} (h : endB Q last k = false) (no : Int) (En : Nat → List Int) : enK Q last no En k = enK Q last no En (k + 1) := by
  funext j
  unfold enK
  by_cases e : j = k
  · subst e; rw [if_neg (by omega), if_neg (fun x => by rw [h] at x; exact absurd x.2 (by simp))]
  · by_cases c : endB Q last j = true
    · by_cases l : j < k
      · rw [if_pos ⟨l, c⟩, if_pos ⟨by omega, c⟩]
      · rw [if_neg (fun x => l x.1), if_neg (fun x => by have := x.1; omega)]
    · rw [if_neg (fun x => c x.2), if_neg (fun x => c x.2)]
theorem enK_len (Q : List Sq) (last k : Nat) (no : Int) (En : Nat → List Int) : (enK Q last no En k k).length = (En k).length := by unfold enK; rw [if_neg (by omega)]
/-- All states fail to no greater ones. -/
def FailLe (Q : List Sq) : Prop := ∀ j, j < Q.length → 0 ≤ (sq Q j).q ∧ (sq Q j).q ≤ j
set_option maxRecDepth 100000 in
set_option maxHeartbeats 4000000 in
theorem addEnd_any (base tb last : Nat) (no : Int) (Q : List Sq) (E : Ed) (En : Nat → List Int) (w : World) (hT : TrieAt w base tb Q E) (hq : FailLe Q) (h0 : 0 < Q.length) (hn : Q.length ≤ 1000) (hE : EndsW w base Q En) (hEn : ∀ j, (En j).length ≤ 1000) :
    Calls Try.prog 68 #[.pointer (some ⟨tb, 0, none⟩), .int .i64 no, .int .i64 last] w fun e w' => e = .returned (.tuple #[]) ∧ ∃ Q', SameQ Q Q' ∧ TrieAt w' base tb Q' E ∧ EndsW w' base Q' (enK Q last no En Q.length) ∧ KeepX w w' Q Q' ∧ Below base w w' := by
  obtain ⟨w1, hmk, how, hb1⟩ := make_flags w Q.length (by omega)
  obtain ⟨n, hnQ⟩ : ∃ n, n = Q.length := ⟨_, rfl⟩
  obtain ⟨g, cap, m, -, -, hbl, -, -⟩ := hT.form h0
  have c0 : w.cell? ⟨tb, 0, none⟩ = some (.slice (some ⟨g, 0, none⟩) n cap) := by rw [hnQ]; exact cell_of hbl 0
  have c1 : w1.cell? ⟨tb, 0, none⟩ = some (.slice (some ⟨g, 0, none⟩) n cap) := (hb1.cell (p := ⟨tb, 0, none⟩) (Array.getElem?_eq_some_iff.1 hbl).1).trans c0
  have HQ : Hid (FailLe Q) := hq
  have HEN : Hid (∀ j, (En j).length ≤ 1000) := hEn
  have HBASE : Hid (base ≤ w.heap.size) := (Nat.le_trans hT.lt.1 (Nat.le_of_lt hT.lt.2) : base ≤ w.heap.size)
  have HN : Hid (n = Q.length) := hnQ
  have START : Hid (TrieAt w1 base tb Q E ∧ EndsW w1 base Q (enK Q last no En 0) ∧ KeepX w w1 Q Q ∧ w1.ownsRow w.heap.size 4 1 (.slice (some ⟨w.heap.size, 0, none⟩) n n) n (flags (endL Q last 0)) ∧ Below base w w1) := by
    refine ⟨hT.keepB hb1, ⟨fun j hj => ?_, hE.2⟩, KeepX.keep (KeepI.below hb1) Q, ?_, hb1.mono HBASE.out⟩
    · have : enK Q last no En 0 j = En j := by unfold enK; rw [if_neg (by omega)]
      rw [this]
      exact World.ownsRow.keepB (hE.1 j hj) hb1
    · rw [hnQ]
      have e : flags (endL Q last 0) = List.replicate Q.length (.bool false) := by simp [flags, endL]
      rw [e]
      exact how
  rw [← hnQ] at hmk h0 hn
  clear hT hq hE hEn hbl how hb1 hnQ
  go_enter Try.func68, Try.ntmps68
  go_wp2
  go_loopw [20] (fun i wr => ∃ (k : Nat) (Qk : List Sq), k ≤ n ∧ i = .int .i64 k ∧ SameQ Q Qk ∧ TrieAt wr base tb Qk E ∧ EndsW wr base Qk (enK Q last no En k) ∧ KeepX w wr Q Qk ∧ wr.ownsRow w.heap.size 4 1 (.slice (some ⟨w.heap.size, 0, none⟩) n n) n (flags (endL Q last k)) ∧ Below base w wr) (fun i _ => n - (intOf i).toNat)
  case atStart => exact ⟨0, Q, Nat.zero_le _, rfl, SameQ.refl Q, START.out⟩
  case round =>
    obtain ⟨k, Qk, hk, rfl, hsame, hT, hE, hX, hF, hB⟩ := hrel
    by_cases hlt : k < n
    · have hltI : (k : Int) < (n : Int) := by omega
      have hkQ : k < Q.length := by rw [← HN.out]; exact hlt
      have hlen : Qk.length = n := by rw [hsame.1, HN.out]
      obtain ⟨g', cap', m', p1, p2, p3, p5, p4, p6, p7⟩ := hT.form' (by omega)
      have HT : Hid _ := hT
      obtain ⟨hq0, hq1⟩ := HQ.out k hkQ
      have hfn : ((failN Q k : Nat) : Int) = (sq Qk k).q := by rw [(hsame.2 k).2.2.2]; unfold failN; omega
      have hfk : failN Q k ≤ k := by unfold failN; omega
      obtain ⟨fl, hfl⟩ : ∃ fl, fl = failN Q k := ⟨_, rfl⟩
      rw [← hfl] at hfn hfk
      have HFN : Hid (fl = failN Q k) := hfl
      obtain ⟨-, -, -, cq, ce⟩ := p4 k (by omega)
      rw [← hfn] at cq
      obtain ⟨ea, ec, hev⟩ := own_slice (hE.1 k (by omega))
      rw [hev] at ce
      have ct : wr.cell? ⟨tb, 0, none⟩ = some (.slice (some ⟨g', 0, none⟩) n cap') := by rw [← hlen]; exact cell_of p3 0
      have hfkI : (fl : Int) < (n : Int) := by omega
      have hcf : wr.cell? ⟨w.heap.size, fl, none⟩ = some (.bool ((endL Q last k).getD fl false)) := by
        rw [hF.cellAt fl (by omega)]
        have : fl < (endL Q last k).length := by rw [endL_len]; omega
        simp [flags, List.getD, this]
      have hck : wr.cell? ⟨w.heap.size, k, none⟩ = some (.bool ((endL Q last k).getD k false)) := by
        rw [hF.cellAt k (by omega)]
        have : k < (endL Q last k).length := by rw [endL_len]; omega
        simp [flags, List.getD, this]
      have hfz := hF.frozenAt k
      obtain ⟨y, hy⟩ : ∃ y, y = endB Q last k := ⟨_, rfl⟩
      have hst := hF.stored k (.bool y)
      rw [hy, endL_step] at hst
      rw [← hy] at hst
      have hb4 := own_is hF (B := w.heap.size) rfl
      obtain ⟨cs4, hb4⟩ := hb4
      have hnt : tb ≠ w.heap.size := fun e => by rw [e, hb4] at p3; simp at p3
      have q3 : (wr.setCell ⟨w.heap.size, k, none⟩ (.bool y)).heap[tb]? = _ := (hst.2.block tb (Array.getElem?_eq_some_iff.1 p3).1 (fun e => hnt (Option.some.inj e))).trans p3
      have q6 : (wr.setCell ⟨w.heap.size, k, none⟩ (.bool y)).ownsRow base 75 5 (.slice (some ⟨g', 0, none⟩) Qk.length cap') Qk.length (fl5 Qk) := World.ownsRow.kept p6 hst.2 (types_apart (by decide) p6 hF)
      have q5 : EdgesAt (wr.setCell ⟨w.heap.size, k, none⟩ (.bool y)) m' Qk.length E := EdgesAt.kept p5 hst.2 (fun e => by
        obtain ⟨es, c, hm⟩ := p5.isMap
        rw [Option.some.inj e, hb4] at hm
        cases hm)
      have hT1 : TrieAt (wr.setCell ⟨w.heap.size, k, none⟩ (.bool y)) base tb Qk E := ⟨_, m', hT.lt.1, p7, q3, q6, q5⟩
      have PW : Hid (base ≤ tb ∧ base ≤ m' ∧ (wr.setCell ⟨w.heap.size, k, none⟩ (.bool y)).heap[tb]? = some (.cells #[.slice (some ⟨g', 0, none⟩) Qk.length cap', .map (some m')] 71) ∧ (wr.setCell ⟨w.heap.size, k, none⟩ (.bool y)).ownsRow base 75 5 (.slice (some ⟨g', 0, none⟩) Qk.length cap') Qk.length (fl5 Qk) ∧ EdgesAt (wr.setCell ⟨w.heap.size, k, none⟩ (.bool y)) m' Qk.length E) := ⟨hT.lt.1, p7, q3, q6, q5⟩
      have hK1 : KeepI wr (wr.setCell ⟨w.heap.size, k, none⟩ (.bool y)) := KeepI.cell (by decide) hb4 _
      have hE1 : EndsW (wr.setCell ⟨w.heap.size, k, none⟩ (.bool y)) base Qk (enK Q last no En k) := hE.keep hK1
      have hB1 : Below base w (wr.setCell ⟨w.heap.size, k, none⟩ (.bool y)) := Below.grown hB hst.2 (Nat.le_trans HBASE.out hB.size) (fun B hB' => by obtain rfl := Option.some.inj hB'; exact HBASE.out)
      have hX1 : KeepX w (wr.setCell ⟨w.heap.size, k, none⟩ (.bool y)) Q Qk := hX.trans (KeepX.keep hK1 Qk)
      have hcy : (wr.setCell ⟨w.heap.size, k, none⟩ (.bool y)).cell? ⟨w.heap.size, k, none⟩ = some (.bool y) := by
        rw [hst.1.cellAt k (by omega), ← endL_step, ← hy]
        have : k < (flags (endL Q last k)).length := by simp [flags, endL_len]; omega
        rw [List.getElem?_set_self this]
      have hce1 : (wr.setCell ⟨w.heap.size, k, none⟩ (.bool y)).cell? ⟨g', k * 5 + 4, none⟩ = some (.slice ea (enK Q last no En k k).length ec) := by
        obtain ⟨cs5, hb5⟩ := own_is p6 (B := g') rfl
        have hne : g' ≠ w.heap.size := fun e => by
          rw [e, hb4] at hb5
          simp at hb5
        rw [← ce]
        exact World.cell?_of_block (hst.2.block g' p2 (fun e => hne (Option.some.inj e)))
      have W1 : Hid _ := (⟨hsame, hT1, hE1, hX1, hst.1, hB1, hev, hlen⟩ : SameQ Q Qk ∧ TrieAt (wr.setCell ⟨w.heap.size, k, none⟩ (.bool y)) base tb Qk E ∧ EndsW (wr.setCell ⟨w.heap.size, k, none⟩ (.bool y)) base Qk (enK Q last no En k) ∧ KeepX w (wr.setCell ⟨w.heap.size, k, none⟩ (.bool y)) Q Qk ∧ (wr.setCell ⟨w.heap.size, k, none⟩ (.bool y)).ownsRow w.heap.size 4 1 (.slice (some ⟨w.heap.size, 0, none⟩) n n) n (flags (endL Q last (k + 1))) ∧ Below base w (wr.setCell ⟨w.heap.size, k, none⟩ (.bool y)) ∧ (sq Qk k).e = .slice ea (enK Q last no En k k).length ec ∧ Qk.length = n)
      have HY : Hid (y = endB Q last k) := hy
      have HYV : Hid (endB Q last k = (decide (k = last) || (endL Q last k).getD fl false)) := (by rw [hfl]; rfl : endB Q last k = (decide (k = last) || (endL Q last k).getD fl false))
      obtain ⟨le, hle⟩ : ∃ le, le = (enK Q last no En k k).length := ⟨_, rfl⟩
      rw [← hle] at ce hce1
      have HLE : Hid (le = (enK Q last no En k k).length) := hle
      generalize hx : (endL Q last k).getD fl false = x at hcf HYV
      clear START hsame hT hE hX hF hB hT1 hK1 hE1 hB1 hX1 hst hb4 hev hlen hq0 hq1 hfl p1 p2 p3 p4 p5 p6 p7 hle hy hx HT hfn hnt q3 q5 q6
      by_cases hkl : k = last
      · obtain rfl : y = true := by rw [HY.out, HYV.out, decide_eq_true hkl]; rfl
        have hkb : ((k : Int) == (last : Int)) = true := by simp [hkl]
        have HYT : Hid (endB Q last k = true) := HY.out.symm
        clear hkl
        have EK : Hid (∀ o, ((wr.setCell ⟨w.heap.size, k, none⟩ (.bool true)).alloc o).ownsRow base 3 1 (.slice ea le ec) le (ints (enK Q last no En k k))) := fun o => by
          have := W1.out.2.2.1.1 k (by rw [W1.out.2.2.2.2.2.2.2]; exact hlt)
          rw [W1.out.2.2.2.2.2.2.1, ← HLE.out] at this
          exact World.ownsRow.keepB this (al_W _ o)
        have ZS : Hid (wr.heap.size = (wr.setCell ⟨w.heap.size, k, none⟩ (.bool true)).heap.size) := ((by simp [World.setCell]) : wr.heap.size = (wr.setCell ⟨w.heap.size, k, none⟩ (.bool true)).heap.size)
        have HLE2 : Hid (le ≤ 1000) := (by rw [HLE.out, enK_len]; exact HEN.out k : le ≤ 1000)
        have HB2 : Hid (∀ o, base ≤ ((wr.setCell ⟨w.heap.size, k, none⟩ (.bool true)).alloc o).heap.size) := fun o => Nat.le_trans HBASE.out (Nat.le_trans W1.out.2.2.2.2.2.1.size (al_W _ o).size)
        have PUSH : Hid (∀ v' w3, w3.ownsRow base 3 1 v' (le + 1) (ints (enK Q last no En k k) ++ ints [no]) → (((wr.setCell ⟨w.heap.size, k, none⟩ (.bool true)).alloc (.cells #[.int .i64 no] 3)).grownBy w3 (Value.ownBlock (.slice ea le ec))) → (v'.ownBlock = Value.ownBlock (.slice ea le ec) ∨ v'.ownBlock = some ((wr.setCell ⟨w.heap.size, k, none⟩ (.bool true)).alloc (.cells #[.int .i64 no] 3)).heap.size) → w3.cell? ⟨g', k * 5 + 4, none⟩ = some (sq Qk k).e ∧ w3.frozen? ⟨g', k * 5 + 4, none⟩ = false ∧ (TrieAt (w3.setCell ⟨g', k * 5 + 4, none⟩ v') base tb (Qk.set k { sq Qk k with e := v' }) E ∧ EndsW (w3.setCell ⟨g', k * 5 + 4, none⟩ v') base (Qk.set k { sq Qk k with e := v' }) (enK Q last no En (k + 1)) ∧ KeepX w (w3.setCell ⟨g', k * 5 + 4, none⟩ v') Q (Qk.set k { sq Qk k with e := v' }) ∧ (w3.setCell ⟨g', k * 5 + 4, none⟩ v').ownsRow w.heap.size 4 1 (.slice (some ⟨w.heap.size, 0, none⟩) n n) n (flags (endL Q last (k + 1))) ∧ Below base w (w3.setCell ⟨g', k * 5 + 4, none⟩ v'))) := fun v' w3 hr hg hat => by
          obtain ⟨x1, x2, x3, x4, x5, x6, x7, x8⟩ := W1.out
          obtain ⟨y1, y2, y3, y4, y5⟩ := PW.out
          have hkq : k < Qk.length := by rw [x8]; exact hlt
          have a4 := World.ownsRow.kept (World.ownsRow.keepB y4 (al_W _ (.cells #[.int .i64 no] 3))) hg (types_apart (by decide) (World.ownsRow.keepB y4 (al_W _ (.cells #[.int .i64 no] 3))) (EK.out (.cells #[.int .i64 no] 3)))
          have f4 := World.ownsRow.kept (World.ownsRow.keepB x5 (al_W _ (.cells #[.int .i64 no] 3))) hg (types_apart (by decide) (World.ownsRow.keepB x5 (al_W _ (.cells #[.int .i64 no] 3))) (EK.out (.cells #[.int .i64 no] 3)))
          have e7 : (sq Qk k).e = .slice ea le ec := x7.trans (by rw [HLE.out])
          rw [← e7] at hg hat
          rw [HLE.out] at hr
          obtain ⟨z1, z2, z3, z4⟩ := EndsW.push x3 hkq (al_W _ (.cells #[.int .i64 no] 3)) hr hg hat y1 y2 y3 y4 y5
          rw [enK_yes HYT.out] at z2
          have G := (TrieAt.setEnd y1 y2 y3 y4 y5 k v').2
          refine ⟨(a4.cellAt (k * 5 + 4) (by omega)).trans (fl5_at Qk k hkq).2.2.2.2, a4.frozenAt (k * 5 + 4), z1, z2, x4.trans z3, ?_, x6.trans z4⟩
          exact World.ownsRow.kept f4 (grown_set w3 g' (k * 5 + 4) v') (types_apart (by decide) f4 a4)
        go_wp2_with (at_builtin; refine wpA _ rfl (.tmp 52) (.tmp 54) rfl base (.slice ea le ec) le (ints (enK Q last no En k k)) rfl (EK.out _) (some ⟨wr.heap.size, 0, none⟩) [no] 1 1 rfl rfl (ints_new _ no 3 _ ZS.out) (by have := HLE2.out; omega) (HB2.out _) ?_; intro v' w3 hr hg hat; obtain ⟨av, cv, rfl⟩ := own_slice hr; have PU : Hid _ := PUSH.out (.slice av (le + 1) cv) w3 hr hg hat; have hce3 := PU.out.1; have hfz3 := PU.out.2.1; clear hr hg hat)
        go_wp2
        go_roundw
        case rel => exact ⟨k + 1, Qk.set k { sq Qk k with e := .slice av (le + 1) cv }, by omega, by go_num, SameQ.set W1.out.1 (by rw [← HN.out]; exact hlt) _, PU.out.2.2⟩
        case measure => simp [intOf]; omega
      · have hkb : ((k : Int) == (last : Int)) = false := by simp; omega
        have hyx : endB Q last k = x := by rw [HYV.out, decide_eq_false hkl]; rfl
        cases x with
        | true =>
          obtain rfl : y = true := by rw [HY.out, hyx]
          have HYT : Hid (endB Q last k = true) := hyx
          clear hkl hyx
          have EK : Hid (∀ o, ((wr.setCell ⟨w.heap.size, k, none⟩ (.bool true)).alloc o).ownsRow base 3 1 (.slice ea le ec) le (ints (enK Q last no En k k))) := fun o => by
            have := W1.out.2.2.1.1 k (by rw [W1.out.2.2.2.2.2.2.2]; exact hlt)
            rw [W1.out.2.2.2.2.2.2.1, ← HLE.out] at this
            exact World.ownsRow.keepB this (al_W _ o)
          have ZS : Hid (wr.heap.size = (wr.setCell ⟨w.heap.size, k, none⟩ (.bool true)).heap.size) := ((by simp [World.setCell]) : wr.heap.size = (wr.setCell ⟨w.heap.size, k, none⟩ (.bool true)).heap.size)
          have HLE2 : Hid (le ≤ 1000) := (by rw [HLE.out, enK_len]; exact HEN.out k : le ≤ 1000)
          have HB2 : Hid (∀ o, base ≤ ((wr.setCell ⟨w.heap.size, k, none⟩ (.bool true)).alloc o).heap.size) := fun o => Nat.le_trans HBASE.out (Nat.le_trans W1.out.2.2.2.2.2.1.size (al_W _ o).size)
          have PUSH : Hid (∀ v' w3, w3.ownsRow base 3 1 v' (le + 1) (ints (enK Q last no En k k) ++ ints [no]) → (((wr.setCell ⟨w.heap.size, k, none⟩ (.bool true)).alloc (.cells #[.int .i64 no] 3)).grownBy w3 (Value.ownBlock (.slice ea le ec))) → (v'.ownBlock = Value.ownBlock (.slice ea le ec) ∨ v'.ownBlock = some ((wr.setCell ⟨w.heap.size, k, none⟩ (.bool true)).alloc (.cells #[.int .i64 no] 3)).heap.size) → w3.cell? ⟨g', k * 5 + 4, none⟩ = some (sq Qk k).e ∧ w3.frozen? ⟨g', k * 5 + 4, none⟩ = false ∧ (TrieAt (w3.setCell ⟨g', k * 5 + 4, none⟩ v') base tb (Qk.set k { sq Qk k with e := v' }) E ∧ EndsW (w3.setCell ⟨g', k * 5 + 4, none⟩ v') base (Qk.set k { sq Qk k with e := v' }) (enK Q last no En (k + 1)) ∧ KeepX w (w3.setCell ⟨g', k * 5 + 4, none⟩ v') Q (Qk.set k { sq Qk k with e := v' }) ∧ (w3.setCell ⟨g', k * 5 + 4, none⟩ v').ownsRow w.heap.size 4 1 (.slice (some ⟨w.heap.size, 0, none⟩) n n) n (flags (endL Q last (k + 1))) ∧ Below base w (w3.setCell ⟨g', k * 5 + 4, none⟩ v'))) := fun v' w3 hr hg hat => by
            obtain ⟨x1, x2, x3, x4, x5, x6, x7, x8⟩ := W1.out
            obtain ⟨y1, y2, y3, y4, y5⟩ := PW.out
            have hkq : k < Qk.length := by rw [x8]; exact hlt
            have a4 := World.ownsRow.kept (World.ownsRow.keepB y4 (al_W _ (.cells #[.int .i64 no] 3))) hg (types_apart (by decide) (World.ownsRow.keepB y4 (al_W _ (.cells #[.int .i64 no] 3))) (EK.out (.cells #[.int .i64 no] 3)))
            have f4 := World.ownsRow.kept (World.ownsRow.keepB x5 (al_W _ (.cells #[.int .i64 no] 3))) hg (types_apart (by decide) (World.ownsRow.keepB x5 (al_W _ (.cells #[.int .i64 no] 3))) (EK.out (.cells #[.int .i64 no] 3)))
            have e7 : (sq Qk k).e = .slice ea le ec := x7.trans (by rw [HLE.out])
            rw [← e7] at hg hat
            rw [HLE.out] at hr
            obtain ⟨z1, z2, z3, z4⟩ := EndsW.push x3 hkq (al_W _ (.cells #[.int .i64 no] 3)) hr hg hat y1 y2 y3 y4 y5
            rw [enK_yes HYT.out] at z2
            have G := (TrieAt.setEnd y1 y2 y3 y4 y5 k v').2
            refine ⟨(a4.cellAt (k * 5 + 4) (by omega)).trans (fl5_at Qk k hkq).2.2.2.2, a4.frozenAt (k * 5 + 4), z1, z2, x4.trans z3, ?_, x6.trans z4⟩
            exact World.ownsRow.kept f4 (grown_set w3 g' (k * 5 + 4) v') (types_apart (by decide) f4 a4)
          go_wp2_with (at_builtin; refine wpA _ rfl (.tmp 52) (.tmp 54) rfl base (.slice ea le ec) le (ints (enK Q last no En k k)) rfl (EK.out _) (some ⟨wr.heap.size, 0, none⟩) [no] 1 1 rfl rfl (ints_new _ no 3 _ ZS.out) (by have := HLE2.out; omega) (HB2.out _) ?_; intro v' w3 hr hg hat; obtain ⟨av, cv, rfl⟩ := own_slice hr; have PU : Hid _ := PUSH.out (.slice av (le + 1) cv) w3 hr hg hat; have hce3 := PU.out.1; have hfz3 := PU.out.2.1; clear hr hg hat)
          go_wp2
          go_roundw
          case rel => exact ⟨k + 1, Qk.set k { sq Qk k with e := .slice av (le + 1) cv }, by omega, by go_num, SameQ.set W1.out.1 (by rw [← HN.out]; exact hlt) _, PU.out.2.2⟩
          case measure => simp [intOf]; omega
        | false =>
          obtain rfl : y = false := by rw [HY.out, hyx]
          have HYF : Hid (endB Q last k = false) := hyx
          clear hkl hyx
          go_wp2
          go_roundw
          case rel => exact ⟨k + 1, Qk, by omega, by go_num, W1.out.1, W1.out.2.1, by rw [← enK_no HYF.out]; exact W1.out.2.2.1, W1.out.2.2.2.1, W1.out.2.2.2.2.1, W1.out.2.2.2.2.2.1⟩
          case measure => simp [intOf]; omega
    · obtain rfl : k = n := by omega
      have END : Hid (∃ Q', SameQ Q Q' ∧ TrieAt wr base tb Q' E ∧ EndsW wr base Q' (enK Q last no En Q.length) ∧ KeepX w wr Q Q' ∧ Below base w wr) := ⟨Qk, hsame, hT, by rw [← HN.out]; exact hE, hX, hB⟩
      clear hsame hT hE hX hF hB
      go_wp2
      go_end0
      exact ⟨rfl, END.out⟩
end Go.Proofs.Ytdhppigjlldfmaa

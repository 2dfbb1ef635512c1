/-
  The bytes of runes one behind the other; contracts of spec.l1TextOf, spec.l1AllRunes, spec.TextOf.
-/
import Derived.Test.YtdhppigjlldfmaaDoorLst
import Derived.Laws.OwnMore
namespace Go.Proofs.YtdhppigjlldfmaaDoor
open Go.ChangeShapes Go.WideShapes Go.ChangeAt Go.RowKit
def textB (L : List Int) : List UInt8 := L.flatMap fun r => (encS r).data.toList
def textS (L : List Int) : ByteArray := ⟨(textB L).toArray⟩
abbrev byteC (l : List UInt8) : List Value := l.map fun b => Value.int .u8 b.toNat
theorem textS_list (L : List Int) : (textS L).data.toList = textB L := rfl
theorem textS_size (L : List Int) : (textS L).size = (textB L).length := by simp [textS, ByteArray.size]
theorem enc_len4 (r : Int) : 1 ≤ (encS r).data.toList.length ∧ (encS r).data.toList.length ≤ 4 := by
  have h := encN_len r
  have h2 := encS_size r
  have h3 : (encS r).data.toList.length = (encS r).size := by simp
  omega
theorem textB_cons (r : Int) (L : List Int) : textB (r :: L) = (encS r).data.toList ++ textB L := by simp [textB]
theorem textB_append (L M : List Int) : textB (L ++ M) = textB L ++ textB M := by simp [textB]
theorem textB_len (L : List Int) : L.length ≤ (textB L).length ∧ (textB L).length ≤ 4 * L.length := by
  induction L with
  | nil => simp [textB]
  | cons r L ih =>
    have := enc_len4 r
    rw [textB_cons, List.length_append, List.length_cons]
    omega
theorem take_one (L : List Int) (k : Nat) (h : k < L.length) : L.take (k + 1) = L.take k ++ [L.getD k 0] := by
  rw [List.take_succ_eq_append_getElem h]; simp [List.getD, h]
theorem textB_step (L : List Int) (k : Nat) (h : k < L.length) : textB (L.take (k + 1)) = textB (L.take k) ++ (encS (L.getD k 0)).data.toList := by
  rw [take_one L k h, textB_append]; simp [textB]
set_option maxRecDepth 100000 in
theorem conv_own {w : World} {base : Nat} {v : Value} {n : Nat} {l : List UInt8} (h : w.ownsRow base 5 1 v n (byteC l)) : (convert 30 9 v).run Tryd.prog w = .ok (.string ⟨l.toArray⟩) w := by
  have hn : n = l.length := by have := h.1; simp [byteC] at this; omega
  subst hn
  rcases h.2 with ⟨rfl, h0⟩ | ⟨g, cap, cur, rfl, h2, h3, h4⟩
  · have hl : l = [] := List.length_eq_zero_iff.1 h0
    subst hl
    exact run_convert_bytes_nil w 30 5 Tryd.underlying30 Tryd.underlying5 0 0 9 Tryd.underlying9
  · have hc : ∀ i, i < l.length → w.cell? ⟨g, 0 + i, none⟩ = some (.int .u8 ((l.map fun b => (b.toNat : Int)).getD i 0)) := fun i hi => by
      have := h.cells (g := g) rfl i (.int .u8 ((l.map fun b => (b.toNat : Int)).getD i 0)) (by simp [byteC, List.getD, hi])
      have hp : (⟨g, 0, none⟩ : Addr).add i = ⟨g, 0 + i, none⟩ := by unfold Addr.add; split <;> simp_all
      rw [hp] at this
      exact this
    have := run_convert_bytes_arg w 30 5 Tryd.underlying30 Tryd.underlying5 g 0 l.length cap (l.map fun b => (b.toNat : Int)) (by simp) hc 9 Tryd.underlying9
    rw [this]
    have e : strOfNums (l.map fun b => (b.toNat : Int)) = ⟨l.toArray⟩ := by
      unfold strOfNums
      congr 2
      rw [List.map_map]
      conv => rhs; rw [← List.map_id l]
      apply List.map_congr_left
      intro b _
      simp
    rw [e]
set_option maxRecDepth 100000 in
set_option maxHeartbeats 1000000 in
theorem text_of_any (L : List Int) (ao : Option Addr) (cap : Nat) (w : World) (hl : L.length ≤ 1048576) (hg : ∀ r ∈ L, goodB r = true) (hA : IntsAt w ao L) :
    Calls Tryd.prog 9 #[.slice ao L.length cap] w fun e w' => e = .returned (.string (textS L)) ∧ Below w.heap.size w w' := by
  obtain ⟨i0, hi, hz0, hz1, hz2⟩ := info_parts Tryd.info5
  have HA : Hid _ := hA
  have HG : Hid _ := hg
  clear hA hg
  go_enter Tryd.func9, Tryd.ntmps9
  go_wp2
  go_loopw [3, 8] (fun v i wr => ∃ k : Nat, k ≤ L.length ∧ i = .int .i64 k ∧ wr.ownsRow w.heap.size 5 1 v (textB (L.take k)).length (byteC (textB (L.take k))) ∧ Below w.heap.size w wr) (fun _ i _ => L.length - (intOf i).toNat)
  case atStart => exact ⟨0, Nat.zero_le _, rfl, World.ownsRow_nil _ _ _ _, Below.refl _ _⟩
  case round =>
    obtain ⟨k, hk, rfl, hown, hbw⟩ := hrel
    by_cases hlt : k < L.length
    · have hltI : (k : Int) < (L.length : Int) := by omega
      obtain ⟨b1, o1, rfl, l1, h1⟩ := HA.out k hlt
      have g1 : wr.cell? ⟨b1, o1 + k, none⟩ = some (.int .i64 (L.getD k 0)) := (hbw.cell (p := ⟨b1, o1 + k, none⟩) l1).trans h1
      have hgd : goodB (L.getD k 0) = true := HG.out _ (by simp [List.getD, hlt])
      have HGR : Hid _ := goodB_true hgd
      have HST : Hid _ := textB_step L k hlt
      have hlen : (textB (L.take k)).length ≤ 4 * 1048576 := by have := (textB_len (L.take k)).2; have := List.length_take_le k L; omega
      have hes : (encS (L.getD k 0)).size ≤ 4 := by have := encN_len (L.getD k 0); rw [encS_size]; omega
      clear h1 hgd
      generalize L.getD k 0 = r at *
      go_wp2_with fail
      refine (utf8_any r _ HGR.out.1 HGR.out.2.1).mono ?_
      rintro e w1 ⟨rfl, hb1⟩
      have hown1 := ownsRow_below hown hb1
      have hbw1 := hbw.trans (hb1.mono hbw.size)
      clear hown hbw hb1 g1
      go_wp2_with (at_builtin; refine Lib.wpList_append_own_string _ rfl _ _ 30 9 rfl w.heap.size 5 i0 Tryd.underlying30 Tryd.underlying9 hi hz0 hz1 hz2 _ _ _ rfl hown1 (encS r) rfl ?c1 ?c2 ?c3 ?_)
      case c1 => unfold maxLen; omega
      case c2 => omega
      case c3 => exact hbw1.size
      intro v' w2 hown2 hgrow _
      have hb2 : Below w.heap.size w w2 := Below.grown hbw1 hgrow hbw1.size (fun g hg => (hown1.lt g hg).1)
      clear hgrow hown1 hbw1
      go_wp2
      go_roundw
      case rel =>
        refine ⟨k + 1, by omega, by go_num, ?_, hb2⟩
        have e1 : (textB (L.take (k + 1))).length = (textB (L.take k)).length + (encS r).size := by
          rw [HST.out, List.length_append]; simp
        rw [e1, HST.out]
        simpa [byteC, Lib.strCells] using hown2
      case measure => simp [intOf]; omega
    · obtain rfl : k = L.length := by omega
      rw [List.take_length] at hown
      have hcv := conv_own hown
      go_wp2
      go_ret
      exact ⟨rfl, hbw⟩
end Go.Proofs.YtdhppigjlldfmaaDoor

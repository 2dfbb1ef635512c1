/-
  A trie grows along an edge.
-/
import Derived.Test.YtdhppigjlldfmaaW8D
namespace Go.Proofs.Ytdhppigjlldfmaa
open Go.ChangeShapes Go.WideShapes Go.ChangeAt Go.RowKit Go.Maps
/-- What holds of a trie's states and edges. -/
def TrieInv (Q : List Sq) (E : Ed) : Prop :=
  0 < Q.length ∧ FailOk Q ∧ (∀ j, j < Q.length → 0 ≤ (sq Q j).l ∧ (sq Q j).l ≤ j) ∧ ∀ f b j, E f b = some j → 0 < j ∧ j < Q.length
theorem stepF_lt {Q : List Sq} {E : Ed} (h : TrieInv Q E) (r : Int) : ∀ f s, stepF Q E r f s < Q.length
  | 0, _ => h.1
  | f + 1, s => by
    rw [stepF]
    cases he : E s r with
    | some j => exact (h.2.2.2 _ _ _ he).2
    | none =>
      dsimp only
      split
      · exact h.1
      · exact stepF_lt h r f _
theorem stepN_lt {Q : List Sq} {E : Ed} (h : TrieInv Q E) (s : Nat) (r : Int) : stepN Q E s r < Q.length := stepF_lt h r _ _
/-- Where a new state fails to. -/
def newFail (Q : List Sq) (E : Ed) (f : Nat) (b : Int) : Nat := if f = 0 then 0 else stepN Q E (failN Q f) b
theorem newFail_lt {Q : List Sq} {E : Ed} (h : TrieInv Q E) (f : Nat) (b : Int) : newFail Q E f b < Q.length := by
  unfold newFail
  split
  · exact h.1
  · exact stepN_lt h _ _
def newSt (Q : List Sq) (E : Ed) (f : Nat) (b : Int) : Sq := ⟨f, b, (sq Q f).l + 1, newFail Q E f b, .slice none 0 0⟩
def growQ (Q : List Sq) (E : Ed) (f : Nat) (b : Int) : List Sq := match E f b with | some _ => Q | none => Q ++ [newSt Q E f b]
def growE (Q : List Sq) (E : Ed) (f : Nat) (b : Int) : Ed := match E f b with | some _ => E | none => upE E f b Q.length
def growJ (Q : List Sq) (E : Ed) (f : Nat) (b : Int) : Nat := match E f b with | some j => j | none => Q.length
theorem TrieInv.grow {Q : List Sq} {E : Ed} (h : TrieInv Q E) {f : Nat} (hf : f < Q.length) (b : Int) : TrieInv (growQ Q E f b) (growE Q E f b) := by
  unfold growQ growE
  cases he : E f b with
  | some j => exact h
  | none =>
    dsimp only
    have hl := newFail_lt h f b
    obtain ⟨h1, h2, h3, h4⟩ := h
    refine ⟨by simp, fun j j0 hj => ?_, fun j hj => ?_, fun f' b' j hj => ?_⟩
    · rw [List.length_append, List.length_singleton] at hj
      by_cases e : j < Q.length
      · rw [sq_old _ _ _ e]; exact h2 j j0 e
      · obtain rfl : j = Q.length := by omega
        rw [sq_new]
        show 0 ≤ ((newFail Q E f b : Nat) : Int) ∧ ((newFail Q E f b : Nat) : Int) < (Q.length : Int)
        omega
    · rw [List.length_append, List.length_singleton] at hj
      by_cases e : j < Q.length
      · rw [sq_old _ _ _ e]; exact h3 j e
      · obtain rfl : j = Q.length := by omega
        rw [sq_new]
        have := h3 f hf
        show 0 ≤ (sq Q f).l + 1 ∧ (sq Q f).l + 1 ≤ (Q.length : Int)
        omega
    · rw [List.length_append, List.length_singleton]
      unfold upE at hj
      split at hj
      · cases hj; omega
      · have := h4 _ _ _ hj; omega
theorem growJ_lt {Q : List Sq} {E : Ed} (h : TrieInv Q E) (f : Nat) (b : Int) : growJ Q E f b < (growQ Q E f b).length := by
  unfold growJ growQ
  cases he : E f b with
  | some j => exact (h.2.2.2 _ _ _ he).2
  | none => simp
theorem grow_len (Q : List Sq) (E : Ed) (f : Nat) (b : Int) : Q.length ≤ (growQ Q E f b).length ∧ (growQ Q E f b).length ≤ Q.length + 1 := by
  unfold growQ
  cases E f b <;> simp
set_option maxRecDepth 100000 in
set_option maxHeartbeats 2000000 in
theorem grow_any (base tb f : Nat) (b : Int) (Q : List Sq) (E : Ed) (w : World) (hT : TrieAt w base tb Q E) (hI : TrieInv Q E) (hf : f < Q.length) (hn : Q.length ≤ 999) (hb : wf64 b) :
    Calls Try.prog 67 #[.pointer (some ⟨tb, 0, none⟩), .int .i64 f, .int .i64 b] w fun e w' => e = .returned (.int .i64 (growJ Q E f b)) ∧ TrieAt w' base tb (growQ Q E f b) (growE Q E f b) ∧ Below base w w' ∧ KeepI w w' := by
  have HT : Hid _ := hT
  have HI : Hid _ := hI
  obtain ⟨g, cap, m, hg1, hg2, hbl, hE, hc⟩ := hT.form (by omega)
  have hfw : wf64 f := WalkArith.wf_i64 (by omega)
  have al : Below w.heap.size w (w.alloc (.cells #[.int .i64 f, .int .i64 b] 73)).drew := (al_W w _).drew
  have hb1 : (w.alloc (.cells #[.int .i64 f, .int .i64 b] 73)).drew.heap[tb]? = _ := (al.block tb (Array.getElem?_eq_some_iff.1 hbl).1).trans hbl
  have hx1 : (w.alloc (.cells #[.int .i64 f, .int .i64 b] 73)).drew.heap[w.heap.size]? = _ := heap_last2 w _ _ rfl
  have s1 : (w.alloc (.cells #[.int .i64 f, .int .i64 b] 73)).drew.cell? ⟨tb, 1, none⟩ = some (.map (some m)) ∧ (w.alloc (.cells #[.int .i64 f, .int .i64 b] 73)).drew.cell? ⟨w.heap.size, 0, none⟩ = some (.int .i64 f) ∧ (w.alloc (.cells #[.int .i64 f, .int .i64 b] 73)).drew.cell? ⟨w.heap.size, 1, none⟩ = some (.int .i64 b) := ⟨cell_of hb1 1, cell_of hx1 0, cell_of hx1 1⟩
  have HE1 : EdgesAt (w.alloc (.cells #[.int .i64 f, .int .i64 b] 73)).drew m Q.length E := EdgesAt.keepB hE al
  have HX1 : Hid _ := hx1
  have AL : Hid _ := al
  have HBASE : Hid (base ≤ w.heap.size) := (Nat.le_trans hT.lt.1 (Nat.le_of_lt hT.lt.2) : base ≤ w.heap.size)
  cases he : E f b with
  | some j =>
    have HJ : Hid (growJ Q E f b = j) := (by unfold growJ; rw [he] : growJ Q E f b = j)
    have HQ : Hid (growQ Q E f b = Q) := (by unfold growQ; rw [he] : growQ Q E f b = Q)
    have HG : Hid (growE Q E f b = E) := (by unfold growE; rw [he] : growE Q E f b = E)
    have hl := HE1.yes hfw hb he
    clear hb1 hx1 HE1 hbl hE hc hT hI al he
    go_enter Try.func67, Try.ntmps67
    go_wp2
    go_region_held (fun w' => w'.cell? ⟨tb, 1, none⟩ = some (.map (some m)) ∧ w'.cell? ⟨w.heap.size, 0, none⟩ = some (.int .i64 f) ∧ w'.cell? ⟨w.heap.size, 1, none⟩ = some (.int .i64 b)) (first | assumption) (fail)
    go_wp2
    go_ret
    exact ⟨by rw [HJ.out] <;> rfl, by rw [HQ.out, HG.out]; exact TrieAt.keepB HT.out AL.out, AL.out.mono HBASE.out, KeepI.below AL.out⟩
  | none =>
    have HJ : Hid (growJ Q E f b = Q.length) := (by unfold growJ; rw [he] : growJ Q E f b = Q.length)
    have HQ : Hid (growQ Q E f b = Q ++ [newSt Q E f b]) := (by unfold growQ; rw [he] : growQ Q E f b = Q ++ [newSt Q E f b])
    have HG : Hid (growE Q E f b = upE E f b Q.length) := (by unfold growE; rw [he] : growE Q E f b = upE E f b Q.length)
    have hl := HE1.no hfw hb he
    have HBW : Hid (wf64 b) := hb
    have HT1 : Hid (TrieAt (w.alloc (.cells #[.int .i64 f, .int .i64 b] 73)).drew base tb Q E) := TrieAt.keepB hT al
    have HADD : Hid (∀ q : Int, Calls Try.prog 73 #[.pointer (some ⟨tb, 0, none⟩), .agg #[.int .i64 f, .int .i64 b], .int .i64 q, .slice none 0 0] (w.alloc (.cells #[.int .i64 f, .int .i64 b] 73)).drew fun e w' => e = .returned (.int .i64 Q.length) ∧ TrieAt w' base tb (Q ++ [⟨f, b, (sq Q f).l + 1, q, .slice none 0 0⟩]) (upE E f b Q.length) ∧ Below base (w.alloc (.cells #[.int .i64 f, .int .i64 b] 73)).drew w' ∧ KeepI (w.alloc (.cells #[.int .i64 f, .int .i64 b] 73)).drew w') := fun q => add_any base tb f b q none 0 0 Q E _ HT1.out hf (by omega) hb ⟨(hI.2.2.1 f hf).1, by have := (hI.2.2.1 f hf).2; omega⟩
    have hc0 : (w.alloc (.cells #[.int .i64 f, .int .i64 b] 73)).drew.cell? ⟨tb, 0, none⟩ = some (.slice (some ⟨g, 0, none⟩) Q.length cap) := cell_of hb1 0
    have hq0 : (w.alloc (.cells #[.int .i64 f, .int .i64 b] 73)).drew.cell? ⟨g, f * 5 + 3, none⟩ = some (.int .i64 (sq Q f).q) := (al.cell (p := ⟨g, f * 5 + 3, none⟩) hg2).trans (hc f hf).2.2.2.1
    have hfI : (f : Int) < (Q.length : Int) := by omega
    have hx0 : (w.alloc (.cells #[.int .i64 f, .int .i64 b] 73)).drew.cell? ⟨w.heap.size, 0, none⟩ = some (.int .i64 f) := s1.2.1
    have hx9 : (w.alloc (.cells #[.int .i64 f, .int .i64 b] 73)).drew.cell? ⟨w.heap.size, 1, none⟩ = some (.int .i64 b) := s1.2.2
    by_cases h0 : f = 0
    · have HNF : Hid (newFail Q E f b = 0) := (by unfold newFail; rw [if_pos h0] : newFail Q E f b = 0)
      have hgt : ¬ (0 : Int) < (f : Int) := by omega
      clear hb1 hx1 HE1 hbl hE hc hT hI al he hb hq0 h0
      go_enter Try.func67, Try.ntmps67
      go_wp2
      go_region_held (fun w' => w'.cell? ⟨tb, 1, none⟩ = some (.map (some m)) ∧ w'.cell? ⟨w.heap.size, 0, none⟩ = some (.int .i64 f) ∧ w'.cell? ⟨w.heap.size, 1, none⟩ = some (.int .i64 b)) (first | assumption) (fail)
      go_wp2_with fail
      refine Calls.mono (HADD.out 0) ?_
      rintro e w2 ⟨rfl, t2, b2, k2⟩
      have END : Hid (TrieAt w2 base tb (Q ++ [newSt Q E f b]) (upE E f b Q.length) ∧ Below base w w2 ∧ KeepI w w2) := ⟨by unfold newSt; rw [HNF.out]; exact t2, (AL.out.mono HBASE.out).trans b2, (KeepI.below AL.out).trans k2⟩
      clear t2 b2 k2
      go_wp2
      go_ret
      exact ⟨by rw [HJ.out] <;> rfl, by rw [HQ.out, HG.out]; exact END.out⟩
    · have HNF : Hid (newFail Q E f b = stepN Q E (failN Q f) b) := (by unfold newFail; rw [if_neg h0] : newFail Q E f b = stepN Q E (failN Q f) b)
      have hgt : (0 : Int) < (f : Int) := by omega
      obtain ⟨hfl, hfe⟩ := hI.2.1.lt (by omega) hf
      rw [← hfe] at hq0
      have HST : Hid _ := step_any base tb (failN Q f) b Q E _ HT1.out hI.2.1 (by omega) (by omega) hb
      clear hb1 hx1 HE1 hbl hE hc hT hI al he hb h0 hfe
      go_enter Try.func67, Try.ntmps67
      go_wp2
      go_region_held (fun w' => w'.cell? ⟨tb, 1, none⟩ = some (.map (some m)) ∧ w'.cell? ⟨w.heap.size, 0, none⟩ = some (.int .i64 f) ∧ w'.cell? ⟨w.heap.size, 1, none⟩ = some (.int .i64 b)) (first | assumption) (fail)
      go_wp2_with fail
      refine Calls.mono HST.out ?_
      rintro e w1 ⟨rfl, rfl⟩
      go_wp2_with fail
      refine Calls.mono (HADD.out _) ?_
      rintro e w2 ⟨rfl, t2, b2, k2⟩
      have END : Hid (TrieAt w2 base tb (Q ++ [newSt Q E f b]) (upE E f b Q.length) ∧ Below base w w2 ∧ KeepI w w2) := ⟨by unfold newSt; rw [HNF.out]; exact t2, (AL.out.mono HBASE.out).trans b2, (KeepI.below AL.out).trans k2⟩
      clear t2 b2 k2
      go_wp2
      go_ret
      exact ⟨by rw [HJ.out] <;> rfl, by rw [HQ.out, HG.out]; exact END.out⟩
end Go.Proofs.Ytdhppigjlldfmaa

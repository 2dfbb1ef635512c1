/-
  trieOf: the trie of some words.
-/
import Derived.Test.YtdhppigjlldfmaaW8H
import Derived.Test.YtdhppigjlldfmaaN3C
namespace Go.Proofs.Ytdhppigjlldfmaa
open Go.ChangeShapes Go.WideShapes Go.ChangeAt Go.RowKit Go.Maps
/-- What the walk through trieOf holds: the trie of a run, and the words' states in a row of their own. -/
def TriW (w0 : World) (tb ab n B : Nat) (s : TS) (w : World) : Prop :=
  TrieAt w w0.heap.size tb s.1 s.2.1 ∧ w.ownsRow w0.heap.size 3 1 (.slice (some ⟨ab, 0, none⟩) n n) n (ints (natI s.2.2)) ∧ Below w0.heap.size w0 w ∧ TsOk n B s
theorem TriW.keepB {w0 w w' : World} {tb ab n B : Nat} {s : TS} (h : TriW w0 tb ab n B s w) (hb : Below w.heap.size w w') : TriW w0 tb ab n B s w' := ⟨TrieAt.keepB h.1 hb, World.ownsRow.keepB h.2.1 hb, h.2.2.1.trans (hb.mono h.2.2.1.size), h.2.2.2⟩
/-- A word's state laid anew. -/
theorem TriW.store {w0 w : World} {tb ab n B k x : Nat} {s : TS} (hT : TrieAt w w0.heap.size tb s.1 s.2.1) (ho : w.ownsRow w0.heap.size 3 1 (.slice (some ⟨ab, 0, none⟩) n n) n (ints (natI s.2.2))) (hb : Below w0.heap.size w0 w) (hk : TsOk n B (s.1, s.2.1, s.2.2.set k x)) :
    TriW w0 tb ab n B (s.1, s.2.1, s.2.2.set k x) (w.setCell ⟨ab, k, none⟩ (.int .i64 (x : Nat))) := by
  have st := World.ownsRow.stored ho k (.int .i64 (x : Nat))
  rw [natI_set] at st
  obtain ⟨cs, hcs⟩ := own_is ho (B := ab) rfl
  refine ⟨TrieAt.turn hT st.2 (fun B hB => by obtain rfl := Option.some.inj hB; exact ⟨cs, _, hcs, by decide, by decide⟩), st.1, Below.grown hb st.2 hb.size (fun B hB => by obtain rfl := Option.some.inj hB; exact (World.ownsRow.lt ho _ rfl).1), hk⟩
set_option maxRecDepth 100000 in
set_option maxHeartbeats 4000000 in
theorem trieOf_any (r : Int) (W : Rw) (ao : Option Addr) (cap : Nat) (w : World) (hW : RowsAt w ao W) (h8 : W.length ≤ 8) (hwf : ∀ k j, wf64 ((rw_ W k).getD j 0)) (hl : ∀ k, (rw_ W k).length ≤ 1000000) :
    Calls Try.prog 38 #[.int .i64 r, .slice ao W.length cap] w fun e w' => ∃ tb Q', e = .returned (.pointer (some ⟨tb, 0, none⟩)) ∧ SameQ (outT W r 120).1 Q' ∧ TrieAt w' w.heap.size tb Q' (outT W r 120).2.1 ∧ EndsW w' w.heap.size Q' (endsK W r W.length) ∧ Below w.heap.size w w' := by
  have HW : Hid _ := hW
  have HWF : Hid _ := hwf
  have HL : Hid _ := hl
  obtain ⟨n, hn⟩ : ∃ n, n = W.length := ⟨_, rfl⟩
  have HN : Hid (n = W.length) := hn
  rw [← hn] at h8
  clear hW hwf hl
  rw [← hn]
  clear hn
  go_enter Try.func38, Try.ntmps38
  go_wp2_with fail
  refine (newTrie_any r w).mono ?_
  rintro e w1 ⟨tb, rfl, t1, b1⟩
  obtain ⟨w2, hmk, how, b2⟩ := make_row w1 n (by omega)
  obtain ⟨ab, hab⟩ : ∃ ab, ab = w1.heap.size := ⟨_, rfl⟩
  rw [← hab] at hmk how
  have START : Hid (TriW w tb ab n (1 + 0 * n) (outT W r 0) w2) := by
    refine ⟨TrieAt.keepB t1 b2, own_mono ?_ b1.size, b1.trans (b2.mono b1.size), ?_⟩
    · have e : ints (natI (outT W r 0).2.2) = ints (List.replicate n 0) := by simp [outT, natI, HN.out]
      rw [e, hab]
      rw [hab] at how
      exact how
    · have := outT_ok W r 0
      rwa [← HN.out] at this
  clear t1 b1 b2 how hab
  go_wp2
  go_loopw [17] (fun i wr => ∃ len : Nat, len ≤ 120 ∧ i = .int .i64 len ∧ TriW w tb ab n (1 + len * n) (outT W r len) wr) (fun i _ => 120 - (intOf i).toNat)
  case atStart => exact ⟨0, Nat.zero_le _, rfl, START.out⟩
  case round =>
    obtain ⟨len, hlen, rfl, hT⟩ := hrel
    have HT : Hid _ := hT
    clear hT START
    by_cases hlt : len < 120
    · have hltI : (len : Int) < 120 := by omega
      obtain ⟨wo, hwo⟩ : ∃ wo, wo = wr := ⟨_, rfl⟩
      subst hwo
      have hm : len * n ≤ 119 * 8 := Nat.mul_le_mul (by omega) h8
      go_wp2
      go_loopw [22] (fun i wr => ∃ k : Nat, k ≤ n ∧ i = .int .i64 k ∧ TriW w tb ab n (1 + len * n + k) (inT W len k (outT W r len)) wr) (fun i _ => n - (intOf i).toNat)
      case atStart => exact ⟨0, Nat.zero_le _, rfl, HT.out⟩
      case round =>
        obtain ⟨k, hk, rfl, hT2⟩ := hrel
        clear HT
        by_cases hltk : k < n
        · have hltkI : (k : Int) < (n : Int) := by omega
          obtain ⟨b1, o1, sa, sc, hao, l1, g1, iS⟩ := HW.out k (by have := HN.out; omega)
          have g1' : wr.cell? ⟨b1, o1 + k, none⟩ = some (.slice sa (rw_ W k).length sc) := (hT2.2.2.1.cell (p := ⟨b1, o1 + k, none⟩) l1).trans g1
          have iS' : IntsAt wr sa (rw_ W k) := IntsAt.keepB iS hT2.2.2.1
          have hLk := HL.out k
          by_cases hw : len < (rw_ W k).length
          · have hSt : inT W len (k + 1) (outT W r len) = _ := if_pos hw
            obtain ⟨b3, o3, hsa, l3, c3⟩ := iS' len hw
            obtain ⟨s, hs⟩ : ∃ s, s = inT W len k (outT W r len) := ⟨_, rfl⟩
            rw [← hs] at hT2 hSt
            obtain ⟨t1, t2, t3, t4⟩ := hT2
            have hAk := t4.2.2.2.1 k
            have hlA := t4.2.2.1
            obtain ⟨x, hx⟩ : ∃ x, x = (rw_ W k).getD len 0 := ⟨_, rfl⟩
            obtain ⟨ak, hak⟩ : ∃ ak, ak = s.2.2.getD k 0 := ⟨_, rfl⟩
            rw [← hx] at c3 hSt
            rw [← hak] at hAk hSt
            have hB : s.1.length ≤ 999 := Nat.le_trans t4.2.2.2.2.1 (by omega)
            have d1 : wr.drew.cell? ⟨ab, k, none⟩ = some (.int .i64 (ak : Nat)) := by
              have := World.ownsRow.cellAt t2 k (by omega)
              rw [natI_at _ _ (by omega), ← hak] at this
              exact this
            have d2 : wr.drew.cell? ⟨b3, o3 + len, none⟩ = some (.int .i64 x) := c3
            have HG : Hid (Calls Try.prog 67 #[.pointer (some ⟨tb, 0, none⟩), .int .i64 (ak : Nat), .int .i64 x] wr.drew fun e w' => e = .returned (.int .i64 (growJ s.1 s.2.1 ak x : Nat)) ∧ TrieAt w' w.heap.size tb (growQ s.1 s.2.1 ak x) (growE s.1 s.2.1 ak x) ∧ Below w.heap.size wr.drew w' ∧ KeepI wr.drew w') := grow_any w.heap.size tb ak x s.1 s.2.1 wr.drew (TrieAt.keepB t1 (Below.refl _ _).drew) t4.1 hAk hB (by rw [hx]; exact HWF.out k len)
            have RES : Hid (∀ w3, TrieAt w3 w.heap.size tb (growQ s.1 s.2.1 ak x) (growE s.1 s.2.1 ak x) → Below w.heap.size wr.drew w3 → KeepI wr.drew w3 → w3.cell? ⟨ab, k, none⟩ = some (.int .i64 (ak : Nat)) ∧ w3.frozen? ⟨ab, k, none⟩ = false ∧ TriW w tb ab n (1 + len * n + (k + 1)) (inT W len (k + 1) (outT W r len)) (w3.setCell ⟨ab, k, none⟩ (.int .i64 (growJ s.1 s.2.1 ak x : Nat)))) := fun w3 a1 a2 a3 => by
              have o3 : w3.ownsRow w.heap.size 3 1 (.slice (some ⟨ab, 0, none⟩) n n) n (ints (natI s.2.2)) := a3 _ _ _ _ t2
              refine ⟨?_, o3.frozenAt k, ?_⟩
              · have := World.ownsRow.cellAt o3 k (by omega)
                rw [natI_at _ _ (by omega), ← hak] at this
                exact this
              · rw [hSt]
                refine TriW.store (s := (growQ s.1 s.2.1 ak x, growE s.1 s.2.1 ak x, s.2.2)) a1 o3 ((t3.drew).trans a2) ?_
                have := TsOk.grow t4 k x
                rw [← hak] at this
                exact this.mono (by omega)
            subst hao hsa
            clear t1 t2 t3 t4 hSt hAk hB hlA hx hak c3 iS iS' g1 hs l1 l3
            go_wp2
            go_region_law (first
              | (go_simp
                 go_at_call 67
                 (with_reducible refine Calls.mono HG.out ?_)
                 rintro e w3 ⟨rfl, a1, a2, a3⟩
                 have RS : Hid _ := RES.out w3 a1 a2 a3
                 have e1 := RS.out.1
                 have e2 := RS.out.2.1
                 clear a1 a2 a3
                 dsimp only))
            all_goals
              go_wp2
              go_roundw
              case rel => exact ⟨k + 1, by omega, by go_num, RS.out.2.2⟩
              case measure => simp [intOf]; omega
          · have hSt : inT W len (k + 1) (outT W r len) = inT W len k (outT W r len) := if_neg hw
            have RS : Hid (TriW w tb ab n (1 + len * n + (k + 1)) (inT W len (k + 1) (outT W r len)) wr) := (by rw [hSt]; exact ⟨hT2.1, hT2.2.1, hT2.2.2.1, hT2.2.2.2.mono (by omega)⟩ : TriW w tb ab n (1 + len * n + (k + 1)) (inT W len (k + 1) (outT W r len)) wr)
            have hwI : ¬ (len : Int) < ((rw_ W k).length : Int) := by omega
            subst hao
            clear hSt hT2 iS iS' g1 l1
            go_wp2
            go_roundw
            case rel => exact ⟨k + 1, by omega, by go_num, RS.out⟩
            case measure => simp [intOf]; omega
        · obtain rfl : k = n := by omega
          have RS : Hid (TriW w tb ab k (1 + (len + 1) * k) (outT W r (len + 1)) wr) := (by
            have e : outT W r (len + 1) = inT W len k (outT W r len) := by rw [outT, ← HN.out]
            rw [e]
            exact ⟨hT2.1, hT2.2.1, hT2.2.2.1, hT2.2.2.2.mono (by rw [Nat.succ_mul]; omega)⟩ : TriW w tb ab k (1 + (len + 1) * k) (outT W r (len + 1)) wr)
          clear hT2
          go_wp2
          go_roundw
          case rel => exact ⟨len + 1, by omega, by go_num, RS.out⟩
          case measure => simp [intOf]; omega
    · have h120 : len = 120 := by omega
      have HT2 : Hid (TriW w tb ab n (1 + 120 * n) (outT W r 120) wr) := (by have := HT.out; rwa [h120] at this : TriW w tb ab n (1 + 120 * n) (outT W r 120) wr)
      have hltI : ¬ (len : Int) < 120 := by omega
      clear h120 HT
      obtain ⟨wo, hwo⟩ : ∃ wo, wo = wr := ⟨_, rfl⟩
      subst hwo
      have HLQ : Hid ((outT W r 120).1.length ≤ 961) := (by have := HT2.out.2.2.2.2.2.2.2.1; omega : (outT W r 120).1.length ≤ 961)
      have HLA : Hid ((outT W r 120).2.2.length = n) := HT2.out.2.2.2.2.2.1
      have HFL : Hid (FailLe (outT W r 120).1) := HT2.out.2.2.2.2.1
      have HPQ : Hid (0 < (outT W r 120).1.length) := HT2.out.2.2.2.1.1
      have S0 : Hid (SameQ (outT W r 120).1 (outT W r 120).1 ∧ TrieAt wo w.heap.size tb (outT W r 120).1 (outT W r 120).2.1 ∧ EndsW wo w.heap.size (outT W r 120).1 (endsK W r 0) ∧ wo.ownsRow w.heap.size 3 1 (.slice (some ⟨ab, 0, none⟩) n n) n (ints (natI (outT W r 120).2.2)) ∧ (∀ j, j < (outT W r 120).1.length → Value.ownBlock (.slice (some ⟨ab, 0, none⟩) n n) = none ∨ Value.ownBlock (.slice (some ⟨ab, 0, none⟩) n n) ≠ (sq (outT W r 120).1 j).e.ownBlock) ∧ Below w.heap.size w wo) := by
        obtain ⟨t1, t2, t3, t4⟩ := HT2.out
        refine ⟨SameQ.refl _, t1, ⟨fun j hj => ?_, fun i j hi hj hij => ?_⟩, t2, fun j hj => ?_, t3⟩
        · rw [t4.2.2.2.2.2 j]
          exact World.ownsRow_nil _ _ _ _
        · rw [t4.2.2.2.2.2 i]
          exact .inl rfl
        · rw [t4.2.2.2.2.2 j]
          exact .inr (by simp [Value.ownBlock])
      clear HT2
      go_wp2
      go_loopw [48] (fun i wr => ∃ (k : Nat) (Q' : List Sq), k ≤ n ∧ i = .int .i64 k ∧ SameQ (outT W r 120).1 Q' ∧ TrieAt wr w.heap.size tb Q' (outT W r 120).2.1 ∧ EndsW wr w.heap.size Q' (endsK W r k) ∧ wr.ownsRow w.heap.size 3 1 (.slice (some ⟨ab, 0, none⟩) n n) n (ints (natI (outT W r 120).2.2)) ∧ (∀ j, j < Q'.length → Value.ownBlock (.slice (some ⟨ab, 0, none⟩) n n) = none ∨ Value.ownBlock (.slice (some ⟨ab, 0, none⟩) n n) ≠ (sq Q' j).e.ownBlock) ∧ Below w.heap.size w wr) (fun i _ => n - (intOf i).toNat)
      case atStart => exact ⟨0, (outT W r 120).1, Nat.zero_le _, rfl, S0.out⟩
      case round =>
        obtain ⟨k, Q', hk, rfl, i1, i2, i3, i4, i5, i6⟩ := hrel
        clear S0
        by_cases hltk : k < n
        · have hltkI : (k : Int) < (n : Int) := by omega
          obtain ⟨ak, hak⟩ : ∃ ak, ak = (outT W r 120).2.2.getD k 0 := ⟨_, rfl⟩
          have c1 : wr.cell? ⟨ab, k, none⟩ = some (.int .i64 (ak : Nat)) := by
            have := World.ownsRow.cellAt i4 k (by omega)
            rw [natI_at _ _ (by rw [HLA.out]; exact hltk), ← hak] at this
            exact this
          have HADD : Hid (Calls Try.prog 68 #[.pointer (some ⟨tb, 0, none⟩), .int .i64 (k : Nat), .int .i64 (ak : Nat)] wr fun e w' => e = .returned (.tuple #[]) ∧ ∃ Q'', SameQ Q' Q'' ∧ TrieAt w' w.heap.size tb Q'' (outT W r 120).2.1 ∧ EndsW w' w.heap.size Q'' (enK Q' ak k (endsK W r k) Q'.length) ∧ KeepX wr w' Q' Q'' ∧ Below w.heap.size wr w') := addEnd_any w.heap.size tb ak k Q' (outT W r 120).2.1 (endsK W r k) wr i2 (fun j hj => by rw [(i1.2 j).2.2.2]; rw [i1.1] at hj; exact HFL.out j hj) (by rw [i1.1]; exact HPQ.out) (by rw [i1.1]; have := HLQ.out; omega) i3 (fun j => by have := endsK_len W r k j; omega)
          have HST : Hid (enK Q' ak k (endsK W r k) Q'.length = endsK W r (k + 1)) := (by rw [enK_same i1, i1.1, endsK, ← hak] : enK Q' ak k (endsK W r k) Q'.length = endsK W r (k + 1))
          have PK : Hid _ := (⟨i1, i4, i5, i6⟩ : SameQ (outT W r 120).1 Q' ∧ wr.ownsRow w.heap.size 3 1 (.slice (some ⟨ab, 0, none⟩) n n) n (ints (natI (outT W r 120).2.2)) ∧ (∀ j, j < Q'.length → Value.ownBlock (.slice (some ⟨ab, 0, none⟩) n n) = none ∨ Value.ownBlock (.slice (some ⟨ab, 0, none⟩) n n) ≠ (sq Q' j).e.ownBlock) ∧ Below w.heap.size w wr)
          clear i1 i2 i3 i4 i5 i6 hak
          go_wp2_with fail
          refine Calls.mono HADD.out ?_
          rintro e w3 ⟨rfl, Q'', j1, j2, j3, j4, j5⟩
          have END : Hid (SameQ (outT W r 120).1 Q'' ∧ TrieAt w3 w.heap.size tb Q'' (outT W r 120).2.1 ∧ EndsW w3 w.heap.size Q'' (endsK W r (k + 1)) ∧ w3.ownsRow w.heap.size 3 1 (.slice (some ⟨ab, 0, none⟩) n n) n (ints (natI (outT W r 120).2.2)) ∧ (∀ j, j < Q''.length → Value.ownBlock (.slice (some ⟨ab, 0, none⟩) n n) = none ∨ Value.ownBlock (.slice (some ⟨ab, 0, none⟩) n n) ≠ (sq Q'' j).e.ownBlock) ∧ Below w.heap.size w w3) := by
            obtain ⟨p1, p2, p3, p4⟩ := PK.out
            obtain ⟨q1, q2⟩ := j4 _ _ _ _ p2 p3
            exact ⟨p1.trans j1, j2, by rw [← HST.out]; exact j3, q1, q2, p4.trans j5⟩
          clear j1 j2 j3 j4 j5
          go_wp2
          go_roundw
          case rel => exact ⟨k + 1, Q'', by omega, by go_num, END.out⟩
          case measure => simp [intOf]; omega
        · obtain rfl : k = n := by omega
          have END : Hid (SameQ (outT W r 120).1 Q' ∧ TrieAt wr w.heap.size tb Q' (outT W r 120).2.1 ∧ EndsW wr w.heap.size Q' (endsK W r k) ∧ Below w.heap.size w wr) := ⟨i1, i2, i3, i6⟩
          clear i1 i2 i3 i4 i5 i6
          go_wp2
          go_ret
          exact ⟨tb, Q', by first | rfl | simp, END.out⟩
end Go.Proofs.Ytdhppigjlldfmaa

/-
  Marks from any number on.
-/
import Derived.Test.YtlkcdcdgpklpoaaMarks
namespace Go.Proofs.Ytlkcdcdgpklpoaa
open Go.ChangeShapes Go.WideShapes Go.ChangeAt Go.RowKit
set_option maxRecDepth 100000 in
set_option maxHeartbeats 1000000 in
theorem mark_c (c : Int) (c0 : 0 ≤ c) (c1 : c ≤ 10000000) (L : List Int) (v : Value) (n base : Nat) (w : World) (hl : L.length ≤ 1048576) (hown : w.ownsRow base 3 1 v n (ints L)) :
    Calls Try.prog 40 #[v, .int .i64 c] w fun e w' => e = .returned (.int .i64 (c + L.length)) ∧ w'.ownsRow base 3 1 v n (ints (mk2 L c L.length)) ∧ w.grownBy w' v.ownBlock := by
  obtain ⟨hn, ao, cap, rfl, hA⟩ := ints_of_own hown
  subst hn
  have HA : Hid _ := hA
  have HO : Hid _ := hown
  clear hown hA
  go_enter Try.func40, Try.ntmps40
  go_wp2
  go_loopw [1, 5] (fun cc i wr => ∃ k : Nat, k ≤ L.length ∧ i = .int .i64 k ∧ cc = .int .i64 (c + k) ∧ wr.ownsRow base 3 1 (.slice ao L.length cap) L.length (ints (mk2 L c k)) ∧ w.grownBy wr (Value.ownBlock (.slice ao L.length cap))) (fun _ i _ => L.length - (intOf i).toNat)
  case atStart => exact ⟨0, Nat.zero_le _, rfl, by simp, by rw [mk2_zero]; exact HO.out, grown_refl _ _⟩
  case round =>
    obtain ⟨k, hk, rfl, rfl, hown, hgr⟩ := hrel
    by_cases hlt : k < L.length
    · have hltI : (k : Int) < (L.length : Int) := by omega
      obtain ⟨g, cap', cur, hv, hbg, hrest⟩ : ∃ g cap' cur, Value.slice ao L.length cap = .slice (some ⟨g, 0, none⟩) L.length cap' ∧ base ≤ g ∧ wr.heap[g]? = some (.cells cur 3 (0, 0)) := by
        rcases hown.2 with ⟨h1, h2⟩ | ⟨g, cap', cur, h1, h2, h3, _⟩
        · omega
        · exact ⟨g, cap', cur, h1, h2, h3⟩
      simp only [Value.slice.injEq, true_and] at hv
      obtain ⟨rfl, rfl⟩ := hv
      have hfz := hown.frozenAt k
      have hcell := hown.cellAt k (by omega)
      have hget : (ints (mk2 L c k))[k]? = some (.int .i64 (L.getD k 0)) := by simp [ints, mk2_at L c k k hlt]
      rw [hget] at hcell
      have hst := hown.stored k (.int .i64 (c + k))
      rw [mk2_step L c k hlt] at hst
      have HST : Hid _ := hst
      have HGR : Hid _ := hgr
      clear hst hown hgr hrest hget
      generalize L.getD k 0 = x at *
      go_wp2
      go_roundw
      case rel => exact ⟨k + 1, by omega, by go_num, (by go_num), HST.out.1, grown_trans HGR.out HST.out.2⟩
      case measure => simp [intOf]; omega
    · go_wp2
      go_ret
      obtain rfl : k = L.length := by omega
      exact ⟨rfl, hown, hgr⟩
end Go.Proofs.Ytlkcdcdgpklpoaa

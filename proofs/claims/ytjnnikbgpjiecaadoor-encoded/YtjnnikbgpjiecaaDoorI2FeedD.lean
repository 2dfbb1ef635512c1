/-
  Contract of impl.FeedDecoder, in every code.
-/
import Derived.Test.YtjnnikbgpjiecaaDoorI2Feed1
import Derived.Test.YtjnnikbgpjiecaaDoorI2Feed2
import Derived.Test.YtjnnikbgpjiecaaDoorI2Feed3
import Derived.Test.YtjnnikbgpjiecaaDoorI2Feed4
import Derived.Test.YtjnnikbgpjiecaaDoorI2Feed5
namespace Go.Proofs.YtjnnikbgpjiecaaDoor
open Go.ChangeShapes Go.WideShapes Go.ChangeAt Go.RowKit
theorem good5 (sh lo : Int) (h : (0 ≤ sh ∧ sh ≤ 1) ∧ 0 ≤ lo) : goodD 5 sh lo ⟨#[]⟩ = true ↔ ¬ 1000 < lo := by
  have e0 : goodD 5 sh lo ⟨#[]⟩ = (true && decide (0 ≤ sh ∧ sh ≤ 1) && decide (0 ≤ lo ∧ lo ≤ 1000) && (true || decide (sh + lo ≤ 0)) && true) := rfl
  rw [e0]
  simp only [Bool.and_eq_true, Bool.or_eq_true, decide_eq_true_eq]
  constructor
  · rintro ⟨⟨⟨⟨_, _⟩, h3⟩, _⟩, _⟩; omega
  · intro h'; exact ⟨⟨⟨⟨trivial, h.1⟩, by omega⟩, .inl trivial⟩, trivial⟩
theorem ifeedD_yes (en sh lo : Int) (held s : ByteArray) (w : World) (hT : Tabs w) (hg : goodD en sh lo held = true) (hs : s.size ≤ 1000) (R : FedR) (hR : feedD en sh lo held s = R) (hx : goodD en R.sh R.lo R.held = true) :
    Calls Tryd.prog 12 #[decV en sh lo held, .string s] w fun e w' => ∃ v1 v2, e = .returned (.tuple #[decV en R.sh R.lo R.held, v1, v2, .bool true]) ∧ Two w.heap.size w' v1 R.rs v2 R.ls ∧ Below w.heap.size w w' := by
  subst hR
  obtain ⟨h1, h2, h3, h4, h5, h6⟩ := goodD_facts hg
  rcases (by omega : en = 1 ∨ en = 2 ∨ en = 3 ∨ en = 4 ∨ en = 5) with rfl | rfl | rfl | rfl | rfl
  · obtain ⟨rfl, rfl⟩ : sh = 0 ∧ lo = 0 := by omega
    exact ifeed_1 held s w hT hg hs _ rfl
  · obtain ⟨rfl, rfl⟩ : sh = 0 ∧ lo = 0 := by omega
    exact ifeed_2 held s w hT hg hs _ rfl
  · obtain ⟨rfl, rfl⟩ : sh = 0 ∧ lo = 0 := by omega
    exact ifeed_3 held s w hT hg hs _ rfl
  · obtain ⟨rfl, rfl⟩ : sh = 0 ∧ lo = 0 := by omega
    obtain rfl := size_zero (h6 (.inl rfl))
    have h := ifeed_4 ⟨#[]⟩ s w hT hg hs _ rfl
    rw [app_empty] at h
    have hst := feedB4_state s.data.toList
    have e1 : (feedD 4 0 0 ⟨#[]⟩ s).sh = 0 := congrArg (·.1) hst
    have e2 : (feedD 4 0 0 ⟨#[]⟩ s).lo = 0 := congrArg (·.2) hst
    rw [e1, e2]
    exact h
  · obtain rfl := size_zero (h6 (.inr rfl))
    have hst := feedB5_state s.data.toList sh lo h2 h3.1
    have hov : ¬ 1000 < (feedB 5 s.data.toList sh lo).2.2.2 := (good5 _ _ hst).1 hx
    have h := ifeed_5 sh lo ⟨#[]⟩ s w hT hg hs (feedB 5 s.data.toList sh lo) (by rw [app_empty]) hov
    exact h
theorem ifeedD_over (en sh lo : Int) (held s : ByteArray) (w : World) (hT : Tabs w) (hg : goodD en sh lo held = true) (hs : s.size ≤ 1000) (R : FedR) (hR : feedD en sh lo held s = R) (hx : goodD en R.sh R.lo R.held = false) :
    Calls Tryd.prog 12 #[decV en sh lo held, .string s] w fun e w' => e = .returned (.tuple #[decV 0 0 0 ⟨#[]⟩, .slice none 0 0, .slice none 0 0, .bool false]) ∧ Below w.heap.size w w' := by
  subst hR
  obtain ⟨h1, h2, h3, h4, h5, h6⟩ := goodD_facts hg
  rcases (by omega : en = 1 ∨ en = 2 ∨ en = 3 ∨ en = 4 ∨ en = 5) with rfl | rfl | rfl | rfl | rfl
  · obtain ⟨rfl, rfl⟩ : sh = 0 ∧ lo = 0 := by omega
    have h := feedU_held 1 (held ++ s).size (held ++ s) (Nat.le_refl _) (by omega)
    exact absurd (hx.symm.trans h) (by decide)
  · obtain ⟨rfl, rfl⟩ : sh = 0 ∧ lo = 0 := by omega
    have h := feedU_held 2 (held ++ s).size (held ++ s) (Nat.le_refl _) (by omega)
    exact absurd (hx.symm.trans h) (by decide)
  · obtain ⟨rfl, rfl⟩ : sh = 0 ∧ lo = 0 := by omega
    have h := feedU_held 3 (held ++ s).size (held ++ s) (Nat.le_refl _) (by omega)
    exact absurd (hx.symm.trans h) (by decide)
  · obtain ⟨rfl, rfl⟩ : sh = 0 ∧ lo = 0 := by omega
    obtain rfl := size_zero (h6 (.inl rfl))
    have hst := feedB4_state s.data.toList
    have e1 : (feedD 4 0 0 ⟨#[]⟩ s).sh = 0 := congrArg (·.1) hst
    have e2 : (feedD 4 0 0 ⟨#[]⟩ s).lo = 0 := congrArg (·.2) hst
    rw [e1, e2, show (feedD 4 0 0 ⟨#[]⟩ s).held = ⟨#[]⟩ from rfl] at hx
    exact absurd (hx.symm.trans (show goodD 4 0 0 ⟨#[]⟩ = true from rfl)) (by decide)
  · obtain rfl := size_zero (h6 (.inr rfl))
    have hst := feedB5_state s.data.toList sh lo h2 h3.1
    have hov : 1000 < (feedB 5 s.data.toList sh lo).2.2.2 := by
      by_cases h : 1000 < (feedB 5 s.data.toList sh lo).2.2.2
      · exact h
      · have := (good5 _ _ hst).2 h
        exact absurd (hx.symm.trans this) (by decide)
    exact ifeed_5over sh lo ⟨#[]⟩ s w hT hg hs (feedB 5 s.data.toList sh lo) (by rw [app_empty]) hov
end Go.Proofs.YtjnnikbgpjiecaaDoor

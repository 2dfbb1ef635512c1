/-
  GoodAho of the program.
-/
import Derived.Test.YtabjjlcjephhkaaW8Y
namespace Go.Proofs.Ytabjjlcjephhkaa
open Go.ChangeShapes Go.WideShapes Go.ChangeAt Go.WideMaps Go.WideElems Go.RowKit
set_option maxRecDepth 100000 in
theorem igoodA_any (P B F : List Int) (R : Rw) (a b c e : Option Addr) (ca cb cc ce : Nat) (w : World) (hl : szA P B F R ≤ 1048576) (hA : IntsAt w a P) (hB : IntsAt w b B) (hC : IntsAt w c F) (hE : RowsAt w e R) :
    Calls Try.prog 28 #[.agg #[.slice a P.length ca, .slice b B.length cb, .slice c F.length cc, .slice e R.length ce]] w fun r w' => r = .returned (.bool (goodA P B F R)) ∧ Below w.heap.size w w' := by
  have HR : Hid (∀ o, Calls Try.prog 66 #[.agg #[.slice a P.length ca, .slice b B.length cb, .slice c F.length cc, .slice e R.length ce]] (w.alloc o) fun r w' => ((goodA P B F R = false ∧ r = .returned (.tuple #[.pointer none, .bool false])) ∨ (goodA P B F R = true ∧ ∃ tb, r = .returned (.tuple #[.pointer (some ⟨tb, 0, none⟩), .bool true]))) ∧ Below w.heap.size w w') := fun o => (readA_any P B F R a b c e ca cb cc ce (w.alloc o) hl (IntsAt.keepB hA (al_W w o)) (IntsAt.keepB hB (al_W w o)) (IntsAt.keepB hC (al_W w o)) (RowsAt.keepB hE (al_W w o))).mono fun r w' ⟨h, bb⟩ => ⟨by
    rcases h with h | ⟨h1, tb, V, h2, -⟩
    · exact .inl h
    · exact .inr ⟨h1, tb, h2⟩, (al_W w o).trans (bb.mono (al_W w o).size)⟩
  clear hA hB hC hE hl
  go_enter Try.func28, Try.ntmps28
  go_wp2_with fail
  refine Calls.mono (HR.out _) ?_
  rintro r w1 ⟨h, b1⟩
  have B1 : Hid (Below w.heap.size w w1) := b1
  clear b1
  rcases h with ⟨hg, rfl⟩ | ⟨hg, tb, rfl⟩
  all_goals
    have HG : Hid _ := hg
    clear hg
    go_wp2
    go_ret
    exact ⟨by rw [HG.out] <;> rfl, B1.out⟩
end Go.Proofs.Ytabjjlcjephhkaa

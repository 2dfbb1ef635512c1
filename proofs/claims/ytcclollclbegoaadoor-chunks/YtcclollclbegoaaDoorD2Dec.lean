/-
  Contracts of spec.FlushDecoder, spec.l2Decode and spec.DecodeAll.
-/
import Derived.Test.YtcclollclbegoaaDoorD2Flush
namespace Go.Proofs.YtcclollclbegoaaDoor
open Go.ChangeShapes Go.WideShapes Go.ChangeAt Go.RowKit
set_option maxRecDepth 100000 in
set_option maxHeartbeats 1000000 in
theorem flushD_bad (en sh lo : Int) (held : ByteArray) (w : World) (hg : goodD en sh lo held = false) :
    Calls Tryd.prog 18 #[decV en sh lo held] w fun e w' => e = .returned (.tuple #[decV 0 0 0 ⟨#[]⟩, .slice none 0 0, .slice none 0 0, .bool false]) ∧ Below w.heap.size w w' := by
  have HG : Hid _ := hg
  clear hg
  go_enter Tryd.func18, Tryd.ntmps18
  go_wp2_with fail
  refine (gd_any _ _ _ _ _).mono ?_
  rintro e w1 ⟨rfl, b1⟩
  rw [HG.out]
  obtain ⟨-, hr, hb⟩ := laid_two w en sh lo held 25 25
  have hb1 := hb.trans (b1.mono hb.size)
  obtain ⟨r0, r1, r2, r3, gz, -⟩ := hr.below b1
  have g0 := gz 0
  have g1 := gz 1
  have g2 := gz 2
  have g3 := gz 3
  clear gz hr hb b1
  go_wp2
  exact bodyPost_ret (v := .tuple #[decV 0 0 0 ⟨#[]⟩, .slice none 0 0, .slice none 0 0, .bool false]) (by simp [results, Tryd.results18, go_sem, r0, r1, r2, r3]) rfl ⟨rfl, below_put hb1 (by omega) hb1.size _ _ _ _⟩
set_option maxRecDepth 100000 in
set_option maxHeartbeats 1000000 in
theorem flushD_yes (en sh lo : Int) (held : ByteArray) (w : World) (hg : goodD en sh lo held = true) (F : List Int) (hF : flushN (unitsB en) held.size held.size = F) :
    Calls Tryd.prog 18 #[decV en sh lo held] w fun e w' => ∃ v1 v2, e = .returned (.tuple #[decV en sh lo ⟨#[]⟩, v1, v2, .bool true]) ∧ Two w.heap.size w' v1 (bads F.length) v2 F ∧ Below w.heap.size w w' := by
  have HG : Hid _ := hg
  have HF : Hid (∀ w : World, _) := fun w => flush_any en sh lo held w (by have := (goodD_facts hg).2.2.2.2.1; omega)
  rw [hF] at HF
  clear hg hF
  go_enter Tryd.func18, Tryd.ntmps18
  go_wp2_with fail
  refine (gd_any _ _ _ _ _).mono ?_
  rintro e w1 ⟨rfl, b1⟩
  rw [HG.out]
  obtain ⟨hd, hr, hb⟩ := laid_two w en sh lo held 25 25
  have hb1 := hb.trans (b1.mono hb.size)
  have hr1 := hr.below b1
  obtain ⟨d0, d1, d2, d3, -, -⟩ := hd.below b1
  clear hd hr hb b1
  go_wp2_with fail
  refine (HF.out _).mono ?_
  rintro e w3 ⟨v1, v2, rfl, T, b3⟩
  have hb3 := hb1.trans (b3.mono hb1.size)
  have hl := hr1.lt
  have hr3 := hr1.below b3
  obtain ⟨r0, r1, r2, r3, gz, hne⟩ := hr3
  have g0 := gz 0
  have g1 := gz 1
  have g2 := gz 2
  have g3 := gz 3
  clear hr1 b3 hb1 d0 d1 d2 d3 gz
  go_wp2
  exact bodyPost_ret (v := .tuple #[decV en sh lo ⟨#[]⟩, v1, v2, .bool true]) (by simp [results, Tryd.results18, go_sem, hne, r0, r1, r2, r3]) rfl ⟨v1, v2, rfl, ((T.put _ hl _ _ _ _).alloc _).lower (by omega), (below_put hb3 (by omega) hb3.size _ _ _ _).alloc (by have := hb3.size; simp; omega) _⟩
end Go.Proofs.YtcclollclbegoaaDoor

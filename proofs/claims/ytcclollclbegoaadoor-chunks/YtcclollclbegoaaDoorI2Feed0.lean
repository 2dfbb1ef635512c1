/-
  impl.FeedDecoder where the decoder is no good one or the text too long.
-/
import Derived.Test.YtcclollclbegoaaDoorI2Good
import Derived.Test.YtcclollclbegoaaDoorI2Clone
import Derived.Test.YtcclollclbegoaaDoorI2Read
import Derived.Deep.RegionWith
namespace Go.Proofs.YtcclollclbegoaaDoor
open Go.ChangeShapes Go.WideShapes Go.ChangeAt Go.RowKit
set_option maxRecDepth 100000 in
set_option maxHeartbeats 1000000 in
theorem ifeedD_bad (en sh lo : Int) (held s : ByteArray) (w : World) (hT : Tabs w) (hg : goodD en sh lo held = false) :
    Calls Tryd.prog 9 #[decV en sh lo held, .string s] w fun e w' => e = .returned (.tuple #[decV 0 0 0 ⟨#[]⟩, .slice none 0 0, .slice none 0 0, .bool false]) ∧ Below w.heap.size w w' := by
  have HG : Hid _ := hg
  have HT : Hid _ := hT
  clear hg hT
  obtain ⟨-, hr, hb⟩ := laid_two w en sh lo held 25 25
  go_enter Tryd.func9, Tryd.ntmps9
  go_wp2_with fail
  refine (igd_any _ _ _ _ _ (HT.out.below hb)).mono ?_
  rintro e w1 ⟨rfl, b1⟩
  rw [HG.out]
  have hb1 := hb.trans (b1.mono hb.size)
  obtain ⟨r0, r1, r2, r3, gz, -⟩ := hr.below b1
  have g0 := gz 0
  have g1 := gz 1
  have g2 := gz 2
  have g3 := gz 3
  clear gz hr hb b1
  go_wp2
  exact bodyPost_ret (v := .tuple #[decV 0 0 0 ⟨#[]⟩, .slice none 0 0, .slice none 0 0, .bool false]) (by simp [results, Tryd.results9, go_sem, r0, r1, r2, r3]) rfl ⟨rfl, below_put hb1 (by omega) hb1.size _ _ _ _⟩
set_option maxRecDepth 100000 in
set_option maxHeartbeats 1000000 in
theorem ifeedD_long (en sh lo : Int) (held s : ByteArray) (w : World) (hT : Tabs w) (hg : goodD en sh lo held = true) (hs : ¬ s.size ≤ 1000) :
    Calls Tryd.prog 9 #[decV en sh lo held, .string s] w fun e w' => e = .returned (.tuple #[decV 0 0 0 ⟨#[]⟩, .slice none 0 0, .slice none 0 0, .bool false]) ∧ Below w.heap.size w w' := by
  have HG : Hid _ := hg
  have HT : Hid _ := hT
  clear hg hT
  have hsI : (1000 : Int) < s.size := by omega
  clear hs
  obtain ⟨-, hr, hb⟩ := laid_two w en sh lo held 25 25
  go_enter Tryd.func9, Tryd.ntmps9
  go_wp2_with fail
  refine (igd_any _ _ _ _ _ (HT.out.below hb)).mono ?_
  rintro e w1 ⟨rfl, b1⟩
  rw [HG.out]
  have hb1 := hb.trans (b1.mono hb.size)
  obtain ⟨r0, r1, r2, r3, gz, -⟩ := hr.below b1
  have g0 := gz 0
  have g1 := gz 1
  have g2 := gz 2
  have g3 := gz 3
  clear gz hr hb b1
  go_wp2
  exact bodyPost_ret (v := .tuple #[decV 0 0 0 ⟨#[]⟩, .slice none 0 0, .slice none 0 0, .bool false]) (by simp [results, Tryd.results9, go_sem, r0, r1, r2, r3]) rfl ⟨rfl, below_put hb1 (by omega) hb1.size _ _ _ _⟩
end Go.Proofs.YtcclollclbegoaaDoor

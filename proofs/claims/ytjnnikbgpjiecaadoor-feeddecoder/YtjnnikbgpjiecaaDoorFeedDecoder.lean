/-
  For every decoder and text, laws.FnExactFeedDecoder returns true: impl.FeedDecoder answers as the specification's FeedDecoder, decoder, lists and flag, in memory of its own that a second call leaves alone. Condition: the two package-level tables of forms hold what the program's text lays in them (tied to the text by the given card).
-/
import Derived.Test.YtjnnikbgpjiecaaDoorFrameD
import Derived.Test.YtjnnikbgpjiecaaDoorI2FeedD
import Derived.Test.YtjnnikbgpjiecaaDoorD2DecA
namespace Go.Proofs.YtjnnikbgpjiecaaDoor
open Go.ChangeShapes Go.WideShapes Go.ChangeAt Go.WideMaps Go.WideElems Go.RowKit
open Go.ChangeMaps (open_string shut_string)
namespace LawFeedDecoder
set_option maxRecDepth 100000 in
set_option maxHeartbeats 1000000 in
theorem bigS (en sh lo : Int) (held s : ByteArray) (w : World) (hb : (1048576 : Int) < s.size) :
    Calls Tryd.prog 6 #[decV en sh lo held, .string s] w fun e w' => e = .returned (.bool true) ∧ Below w.heap.size w w' := by
  go_enter Tryd.func6, Tryd.ntmps6
  go_wp2
  go_ret
  exact ⟨rfl, (Below.refl _ _).alloc (Nat.le_refl _) _⟩
set_option maxRecDepth 100000 in
set_option maxHeartbeats 1000000 in
theorem big (en sh lo : Int) (held : ByteArray) (s : ByteArray) (hsI : ¬ (1048576 : Int) < s.size) (hz : held.size ≤ maxLen) (w : World) (hb : 1048576 < held.size) :
    Calls Tryd.prog 6 #[decV en sh lo held, .string s] w fun e w' => e = .returned (.bool true) ∧ Below w.heap.size w w' := by
  have HB : Hid _ := hb
  have HZ : Hid _ := hz
  have b0 : Below w.heap.size w (w.alloc (.cells #[.int .i64 en, .int .i64 sh, .int .i64 lo, .string held] 50)) := (Below.refl _ _).alloc (Nat.le_refl _) _
  clear hb hz
  go_enter Tryd.func6, Tryd.ntmps6
  go_wp2_with fail
  refine (szDec_big en sh lo held _ HB.out HZ.out).mono ?_
  rintro e w1 ⟨rfl, b1⟩
  go_wp2
  go_ret
  exact ⟨rfl, b0.trans (b1.mono b0.size)⟩
set_option maxRecDepth 100000 in
set_option maxHeartbeats 4000000 in
theorem core (en sh lo : Int) (held s : ByteArray) (hb : held.size ≤ 1048576) (hsI : ¬ (1048576 : Int) < s.size) (w : World) (hT : Tabs w) (e1 s1 l1 : Int) (h1 : ByteArray) (ok : Bool) (L1 L2 : List Int) (n1 : L1.length ≤ 3000) (n2 : L2.length ≤ 3000)
    (SP : ∀ w, Calls Tryd.prog 13 #[decV en sh lo held, .string s] w fun e w' => ∃ v1 v2, e = .returned (.tuple #[decV e1 s1 l1 h1, v1, v2, .bool ok]) ∧ Two w.heap.size w' v1 L1 v2 L2 ∧ Below w.heap.size w w')
    (IM : ∀ w, Tabs w → Calls Tryd.prog 12 #[decV en sh lo held, .string s] w fun e w' => ∃ v1 v2, e = .returned (.tuple #[decV e1 s1 l1 h1, v1, v2, .bool ok]) ∧ Two w.heap.size w' v1 L1 v2 L2 ∧ Below w.heap.size w w') :
    Calls Tryd.prog 6 #[decV en sh lo held, .string s] w fun e w' => e = .returned (.bool true) ∧ Below w.heap.size w w' := by
  have HT : Hid _ := hT
  have HSP : Hid _ := SP
  have HIM : Hid _ := IM
  have HN1 : Hid (L1.length ≤ 1048576) := by show L1.length ≤ 1048576; omega
  have HN2 : Hid (L2.length ≤ 1048576) := by show L2.length ≤ 1048576; omega
  have hq1 : ¬ (1 + (L1.length : Int)) < 0 := by omega
  have hq2 : ¬ (1 + (L1.length : Int) + (L2.length : Int)) < 0 := by omega
  have HB : Hid _ := hb
  have hb0 : ¬ (1048576 - (held.size : Int)) < 0 := by omega
  clear hb
  clear hT SP IM
  have DA0 : Hid _ := DecAt.new w en sh lo held 50 _ rfl
  have B0 : Hid (Below w.heap.size w (w.alloc (.cells #[.int .i64 en, .int .i64 sh, .int .i64 lo, .string held] 50))) := (Below.refl _ _).alloc (Nat.le_refl _) _
  go_enter Tryd.func6, Tryd.ntmps6
  go_wp2_with fail
  refine (szDec_yes en sh lo held _ HB.out).mono ?_
  rintro e w1 ⟨rfl, b⟩
  have DA1 : Hid _ := DecAt.below (DA0.out) b
  have B1 : Hid (Below w.heap.size w w1) := Below.trans (B0.out) (b.mono (Below.size (B0.out)))
  clear b
  obtain ⟨c0, c1, c2, c3, -, -⟩ := DA1.out
  go_wp2_with fail
  refine (toDec_any en sh lo held _).mono ?_
  rintro e w2 ⟨rfl, b⟩
  have DA2 : Hid _ := DecAt.below (DA1.out) b
  have B2 : Hid (Below w.heap.size w w2) := Below.trans (B1.out) (b.mono (Below.size (B1.out)))
  clear b
  clear c0 c1 c2 c3
  go_wp2_with fail
  refine (HSP.out _).mono ?_
  rintro e w3 ⟨vw1, vw2, rfl, tw, b⟩
  have DA3 : Hid _ := DecAt.below (DA2.out) b
  have B3 : Hid (Below w.heap.size w w3) := Below.trans (B2.out) (b.mono (Below.size (B2.out)))
  clear b
  have LW : Hid _ := tw.lies
  obtain ⟨aw1, cw1, aw2, cw2, rfl, rfl⟩ := tw.form
  have TW3 : Hid _ := tw
  clear tw
  obtain ⟨c0, c1, c2, c3, -, -⟩ : DecAt (w3.alloc (.cells #[.int .i64 e1, .int .i64 s1, .int .i64 l1, .string h1] 25)) w.heap.size en sh lo held := DecAt.alloc (DA3.out) _
  go_wp2_with fail
  refine (toDec_any en sh lo held _).mono ?_
  rintro e w4 ⟨rfl, b⟩
  have DA4 : Hid _ := DecAt.below (DecAt.alloc (DA3.out) _) b
  have TW4 : Hid _ := Two.below (Two.alloc (TW3.out) _) b
  have DW4 : Hid _ := DecAt.below (DecAt.new w3 e1 s1 l1 h1 25 _ rfl) b
  have B4 : Hid (Below w.heap.size w w4) := Below.trans (Below.alloc (B3.out) (Below.size (B3.out)) _) (b.mono (Below.size (Below.alloc (B3.out) (Below.size (B3.out)) _)))
  clear b
  clear c0 c1 c2 c3
  go_wp2_with fail
  refine (HIM.out _ (Tabs.below HT.out (B4.out))).mono ?_
  rintro e w5 ⟨vg1, vg2, rfl, tg, b⟩
  have DA5 : Hid _ := DecAt.below (DA4.out) b
  have TW5 : Hid _ := Two.below (TW4.out) b
  have DW5 : Hid _ := DecAt.below (DW4.out) b
  have B5 : Hid (Below w.heap.size w w5) := Below.trans (B4.out) (b.mono (Below.size (B4.out)))
  clear b
  have LG : Hid _ := tg.lies
  obtain ⟨ag1, cg1, ag2, cg2, rfl, rfl⟩ := tg.form
  have TG5 : Hid _ := tg
  clear tg
  have SZ1 : Hid (w3.heap.size ≤ w4.heap.size) := by
    have h := (DW4.out).lt
    show w3.heap.size ≤ w4.heap.size
    omega
  have SZ0 : Hid (w.heap.size < w3.heap.size) := (DA3.out).lt
  obtain ⟨c0, c1, c2, c3, -, -⟩ : DecAt (w5.alloc (.cells #[.int .i64 e1, .int .i64 s1, .int .i64 l1, .string h1] 25)) w5.heap.size e1 s1 l1 h1 := DecAt.new w5 e1 s1 l1 h1 25 _ rfl
  obtain ⟨d0, d1, d2, d3, -, -⟩ : DecAt (w5.alloc (.cells #[.int .i64 e1, .int .i64 s1, .int .i64 l1, .string h1] 25)) w3.heap.size e1 s1 l1 h1 := DecAt.alloc (DW5.out) _
  go_wp2_with fail
  refine (eqDec_same e1 s1 l1 h1 _).mono ?_
  rintro e w6 ⟨rfl, b⟩
  have DA6 : Hid _ := DecAt.below (DecAt.alloc (DA5.out) _) b
  have TW6 : Hid _ := Two.below (Two.alloc (TW5.out) _) b
  have DW6 : Hid _ := DecAt.below (DecAt.alloc (DW5.out) _) b
  have TG6 : Hid _ := Two.below (Two.alloc (TG5.out) _) b
  have DG6 : Hid _ := DecAt.below (DecAt.new w5 e1 s1 l1 h1 25 _ rfl) b
  have B6 : Hid (Below w.heap.size w w6) := Below.trans (Below.alloc (B5.out) (Below.size (B5.out)) _) (b.mono (Below.size (Below.alloc (B5.out) (Below.size (B5.out)) _)))
  clear b
  clear c0 c1 c2 c3 d0 d1 d2 d3
  go_wp2_with fail
  refine (eq_any L1 _ _ _ _ _ HN1.out (Two.i1 (TG6.out)) (Two.i1 (TW6.out))).mono ?_
  rintro e w7 ⟨rfl, b⟩
  have DA7 : Hid _ := DecAt.below (DA6.out) b
  have TW7 : Hid _ := Two.below (TW6.out) b
  have DW7 : Hid _ := DecAt.below (DW6.out) b
  have TG7 : Hid _ := Two.below (TG6.out) b
  have B7 : Hid (Below w.heap.size w w7) := Below.trans (B6.out) (b.mono (Below.size (B6.out)))
  clear b
  go_wp2_with fail
  refine (eq_any L2 _ _ _ _ _ HN2.out (Two.i2 (TG7.out)) (Two.i2 (TW7.out))).mono ?_
  rintro e w8 ⟨rfl, b⟩
  have DA8 : Hid _ := DecAt.below (DA7.out) b
  have TW8 : Hid _ := Two.below (TW7.out) b
  have DW8 : Hid _ := DecAt.below (DW7.out) b
  have TG8 : Hid _ := Two.below (TG7.out) b
  have B8 : Hid (Below w.heap.size w w8) := Below.trans (B7.out) (b.mono (Below.size (B7.out)))
  clear b
  go_wp2_with fail
  refine (mark_c (1) (by omega) (by omega) L1 _ _ _ _ HN1.out (Two.a (TG8.out))).mono ?_
  rintro e w9 ⟨rfl, og, gr⟩
  have TG9 : Hid _ := Two.turn1 (TG8.out) (mk2_len L1 (1) L1.length) og gr
  have TW9 : Hid _ := Two.keep (TW8.out) gr LW.out (fun g h => by have h3 := ((LG.out).a g h).1; have h4 := SZ1.out; omega)
  have DA9 : Hid _ := DecAt.grown (DA8.out) gr (fun h => by have h3 := ((LG.out).a _ h).1; have h4 := SZ1.out; have h5 := SZ0.out; omega)
  have DW9 : Hid _ := DecAt.grown (DW8.out) gr (fun h => by have h3 := ((LG.out).a _ h).1; have h4 := (DW4.out).lt; omega)
  have B9 : Hid (Below w.heap.size w w9) := Below.grown (B8.out) gr (Below.size (B8.out)) (fun g h => by have h3 := ((LG.out).a g h).1; have h4 := Below.size (B4.out); omega)
  clear og gr
  go_wp2_with fail
  refine (mark_c (1 + (L1.length : Int)) (by omega) (by omega) L2 _ _ _ _ HN2.out (Two.b (TG9.out))).mono ?_
  rintro e w10 ⟨rfl, og, gr⟩
  have TG10 : Hid _ := Two.turn2 (TG9.out) (mk2_len L2 (1 + (L1.length : Int)) L2.length) og gr
  have TW10 : Hid _ := Two.keep (TW9.out) gr LW.out (fun g h => by have h3 := ((LG.out).b g h).1; have h4 := SZ1.out; omega)
  have DA10 : Hid _ := DecAt.grown (DA9.out) gr (fun h => by have h3 := ((LG.out).b _ h).1; have h4 := SZ1.out; have h5 := SZ0.out; omega)
  have DW10 : Hid _ := DecAt.grown (DW9.out) gr (fun h => by have h3 := ((LG.out).b _ h).1; have h4 := (DW4.out).lt; omega)
  have B10 : Hid (Below w.heap.size w w10) := Below.grown (B9.out) gr (Below.size (B9.out)) (fun g h => by have h3 := ((LG.out).b g h).1; have h4 := Below.size (B4.out); omega)
  clear og gr
  go_wp2_with fail
  refine (held_c 1 (by omega) (by omega) L1 _ _ _ HN1.out (Two.i1 (TG10.out))).mono ?_
  rintro e w11 ⟨rfl, b⟩
  have DA11 : Hid _ := DecAt.below (DA10.out) b
  have TW11 : Hid _ := Two.below (TW10.out) b
  have DW11 : Hid _ := DecAt.below (DW10.out) b
  have TG11 : Hid _ := Two.below (TG10.out) b
  have B11 : Hid (Below w.heap.size w w11) := Below.trans (B10.out) (b.mono (Below.size (B10.out)))
  clear b
  go_wp2_with fail
  refine (held_c (1 + (L1.length : Int)) (by omega) (by omega) L2 _ _ _ HN2.out (Two.i2 (TG11.out))).mono ?_
  rintro e w12 ⟨rfl, b⟩
  have DA12 : Hid _ := DecAt.below (DA11.out) b
  have TW12 : Hid _ := Two.below (TW11.out) b
  have DW12 : Hid _ := DecAt.below (DW11.out) b
  have TG12 : Hid _ := Two.below (TG11.out) b
  have B12 : Hid (Below w.heap.size w w12) := Below.trans (B11.out) (b.mono (Below.size (B11.out)))
  clear b
  obtain ⟨c0, c1, c2, c3, -, -⟩ := DA12.out
  go_wp2_with fail
  refine (toDec_any en sh lo held _).mono ?_
  rintro e w13 ⟨rfl, b⟩
  have DA13 : Hid _ := DecAt.below (DA12.out) b
  have TW13 : Hid _ := Two.below (TW12.out) b
  have DW13 : Hid _ := DecAt.below (DW12.out) b
  have TG13 : Hid _ := Two.below (TG12.out) b
  have B13 : Hid (Below w.heap.size w w13) := Below.trans (B12.out) (b.mono (Below.size (B12.out)))
  clear b
  clear c0 c1 c2 c3
  go_wp2_with fail
  refine (HIM.out _ (Tabs.below HT.out (B13.out))).mono ?_
  rintro e w14 ⟨vh1, vh2, rfl, th, b⟩
  have DA14 : Hid _ := DecAt.below (DA13.out) b
  have TW14 : Hid _ := Two.below (TW13.out) b
  have DW14 : Hid _ := DecAt.below (DW13.out) b
  have TG14 : Hid _ := Two.below (TG13.out) b
  have B14 : Hid (Below w.heap.size w w14) := Below.trans (B13.out) (b.mono (Below.size (B13.out)))
  clear b
  obtain ⟨ah1, ch1, ah2, ch2, rfl, rfl⟩ := th.form
  have TH14 : Hid _ := th
  clear th
  obtain ⟨c0, c1, c2, c3, -, -⟩ : DecAt (w14.alloc (.cells #[.int .i64 e1, .int .i64 s1, .int .i64 l1, .string h1] 25)) w14.heap.size e1 s1 l1 h1 := DecAt.new w14 e1 s1 l1 h1 25 _ rfl
  obtain ⟨d0, d1, d2, d3, -, -⟩ : DecAt (w14.alloc (.cells #[.int .i64 e1, .int .i64 s1, .int .i64 l1, .string h1] 25)) w3.heap.size e1 s1 l1 h1 := DecAt.alloc (DW14.out) _
  go_wp2_with fail
  refine (eqDec_same e1 s1 l1 h1 _).mono ?_
  rintro e w15 ⟨rfl, b⟩
  have DA15 : Hid _ := DecAt.below (DecAt.alloc (DA14.out) _) b
  have TW15 : Hid _ := Two.below (Two.alloc (TW14.out) _) b
  have DW15 : Hid _ := DecAt.below (DecAt.alloc (DW14.out) _) b
  have TG15 : Hid _ := Two.below (Two.alloc (TG14.out) _) b
  have TH15 : Hid _ := Two.below (Two.alloc (TH14.out) _) b
  have DH15 : Hid _ := DecAt.below (DecAt.new w14 e1 s1 l1 h1 25 _ rfl) b
  have B15 : Hid (Below w.heap.size w w15) := Below.trans (Below.alloc (B14.out) (Below.size (B14.out)) _) (b.mono (Below.size (Below.alloc (B14.out) (Below.size (B14.out)) _)))
  clear b
  clear c0 c1 c2 c3 d0 d1 d2 d3
  go_wp2_with fail
  refine (eq_any L1 _ _ _ _ _ HN1.out (Two.i1 (TH15.out)) (Two.i1 (TW15.out))).mono ?_
  rintro e w16 ⟨rfl, b⟩
  have TW16 : Hid _ := Two.below (TW15.out) b
  have TG16 : Hid _ := Two.below (TG15.out) b
  have TH16 : Hid _ := Two.below (TH15.out) b
  have B16 : Hid (Below w.heap.size w w16) := Below.trans (B15.out) (b.mono (Below.size (B15.out)))
  clear b
  go_wp2_with fail
  refine (eq_any L2 _ _ _ _ _ HN2.out (Two.i2 (TH16.out)) (Two.i2 (TW16.out))).mono ?_
  rintro e w17 ⟨rfl, b⟩
  have TW17 : Hid _ := Two.below (TW16.out) b
  have TG17 : Hid _ := Two.below (TG16.out) b
  have TH17 : Hid _ := Two.below (TH16.out) b
  have B17 : Hid (Below w.heap.size w w17) := Below.trans (B16.out) (b.mono (Below.size (B16.out)))
  clear b
  go_wp2_with fail
  refine (held_c 1 (by omega) (by omega) L1 _ _ _ HN1.out (Two.i1 (TG17.out))).mono ?_
  rintro e w18 ⟨rfl, b⟩
  have TG18 : Hid _ := Two.below (TG17.out) b
  have B18 : Hid (Below w.heap.size w w18) := Below.trans (B17.out) (b.mono (Below.size (B17.out)))
  clear b
  go_wp2_with fail
  refine (held_c (1 + (L1.length : Int)) (by omega) (by omega) L2 _ _ _ HN2.out (Two.i2 (TG18.out))).mono ?_
  rintro e w19 ⟨rfl, b⟩
  have TG19 : Hid _ := Two.below (TG18.out) b
  have B19 : Hid (Below w.heap.size w w19) := Below.trans (B18.out) (b.mono (Below.size (B18.out)))
  clear b
  go_wp2
  go_ret
  exact ⟨rfl, B19.out⟩
theorem walk (en sh lo : Int) (held : ByteArray) (hz : held.size ≤ maxLen) (s : ByteArray) (_hzs : s.size ≤ maxLen) (w : World) (hT : Tabs w) :
    Calls Tryd.prog 6 #[decV en sh lo held, .string s] w fun e w' => e = .returned (.bool true) ∧ Below w.heap.size w w' := by
  by_cases hS : (1048576 : Int) < s.size
  · exact bigS en sh lo held s w hS
  · by_cases hb : 1048576 < held.size
    · exact big en sh lo held s hS hz w hb
    · have no : ((∀ w, Calls Tryd.prog 13 #[decV en sh lo held, .string s] w fun e w' => e = .returned (.tuple #[decV 0 0 0 ⟨#[]⟩, .slice none 0 0, .slice none 0 0, .bool false]) ∧ Below w.heap.size w w') ∧
          (∀ w, Tabs w → Calls Tryd.prog 12 #[decV en sh lo held, .string s] w fun e w' => e = .returned (.tuple #[decV 0 0 0 ⟨#[]⟩, .slice none 0 0, .slice none 0 0, .bool false]) ∧ Below w.heap.size w w')) →
          Calls Tryd.prog 6 #[decV en sh lo held, .string s] w fun e w' => e = .returned (.bool true) ∧ Below w.heap.size w w' := fun h =>
        core en sh lo held s (by omega) hS w hT 0 0 0 ⟨#[]⟩ false [] [] (by simp) (by simp)
          (fun w => (h.1 w).mono fun e w' ⟨he, hw⟩ => ⟨_, _, he, Two.nil _ _, hw⟩) (fun w hT => (h.2 w hT).mono fun e w' ⟨he, hw⟩ => ⟨_, _, he, Two.nil _ _, hw⟩)
      cases hg : goodD en sh lo held
      · exact no ⟨fun w => feedD_bad en sh lo held s w hg, fun w hT => ifeedD_bad en sh lo held s w hT hg⟩
      · by_cases hs : s.size ≤ 1000
        · cases hx : goodD en (feedD en sh lo held s).sh (feedD en sh lo held s).lo (feedD en sh lo held s).held
          · exact no ⟨fun w => feedD_over en sh lo held s w hg hs _ rfl hx, fun w hT => ifeedD_over en sh lo held s w hT hg hs _ rfl hx⟩
          · have hn := feedD_sizes en sh lo held s hs (goodD_facts hg).2.2.2.2.1
            exact core en sh lo held s (by omega) hS w hT en _ _ _ true _ _ (by omega) (by omega)
              (fun w => feedD_yes en sh lo held s w hg hs _ rfl hx) (fun w hT => ifeedD_yes en sh lo held s w hT hg hs _ rfl hx)
        · exact no ⟨fun w => feedD_long en sh lo held s w hg hs, fun w hT => ifeedD_long en sh lo held s w hT hg hs⟩
set_option maxRecDepth 100000 in
theorem lifted (os : Os) (started : os.Started) (H : Type) (enc : TypeId × Value → H) :
    ReturnsInHanded {} Tryd.checked os 6 .any (fun w args => (Rows.fnExactFeedDecoderSpec.pre enc Tryd.prog Tryd.f6 [] false w args ∧ laidMetH Tryd.prog laid2 w) ∧ sizedMet enc Tryd.prog Tryd.f6 (OpenSpec.ofChange Rows.fnExactFeedDecoderSpec) false w args)
      (Rows.fnExactFeedDecoderSpec.post enc Tryd.prog Tryd.f6 false true false false) := by
  refine returnsInHanded_of_change_and (C := Tryd.checked) (X := fun w _ => laidMetH Tryd.prog laid2 w) (fun _ _ _ hh h => h.of_heap hh) own started (by kernel_rfl) Tryd.func6
    (ChangeSpec.witness_shaped (enc := enc) (C := Tryd.checked) (os := os) (X := fun w _ => laidMetH Tryd.prog laid2 w) false (World.doorLaid Tryd.prog 400 os) #[decV 0 0 0 ByteArray.empty, .string ByteArray.empty] 8 rfl (World.shaped_of_RefB (by kernel_rfl) (by kernel_rfl)) (by kernel_rfl) (by kernel_rfl) (by kernel_rfl) (door_met os _)) ?_
  intro W base args ds gs before hval0 hW _ _ hL _
  have hval : ∀ (j : Nat) t v, Tryd.f6.params[j]? = some t → args[j]? = some v → Value.okWide Tryd.prog W .any base t v := hval0
  have hW' := hW
  obtain ⟨p, q, hA0, hV0, rfl, hfz, hnd⟩ := hW
  have hA : DataW.TrodAll enc Tryd.prog W 0 (fun _ => true) true Tryd.f6.params.toList args.toList ds p := hA0
  have hV : DataW.TrodVars enc Tryd.prog W (fun _ => true) vars2 gs q := hV0
  rw [Tryd.params6] at hA hval
  obtain ⟨v0, v1, d0, d1, p0, p1, rfl, rfl, rfl, h0, h1⟩ := trodAll_two hA
  obtain ⟨en, sh, lo, held, rfl, rfl, rfl, wa, wb, wc, wd⟩ := open_dec (hval 0 50 v0 rfl rfl) h0
  obtain ⟨x1, rfl, rfl, rfl, w1⟩ := open_string Tryd.underlying9 (hval 1 9 v1 rfl rfl) h1
  obtain ⟨g, t, cs, fuel, d, q1, g', t', cs', fuel', d', q2, rfl, _⟩ := trodVars_two hV
  clear hA0 hval0
  refine (walk en sh lo held wd x1 w1 W (tabs_of_laid hL)).mono fun e W' ⟨he, bel⟩ => ?_
  subst he
  exact ⟨_, rfl, _, _, _, [], [], q, hW', trodAll_mk1 (shut_bool Tryd.underlying4 _), trodAll_mk2 (shut_dec wa wb wc wd) (shut_string Tryd.underlying9 w1), bel.trodVars laidOut (by kernel_rfl) hV, bel.frame _, fun h => by cases h⟩
theorem row : Rows.FnExactFeedDecoderSaid :=
  OpenClaim.holds_of_wide 6 Tryd.f6 rfl rfl rfl rfl rfl rfl rfl ⟨rfl, rfl, rfl, rfl, rfl⟩ rfl rfl rfl rfl rfl (by kernel_rfl) Tryd.func6 (by kernel_rfl)
    (of_decide_eq_true (by kernel_rfl)) (by unfold Func.isWrapper; first | (rw [if_pos (by decide +kernel)]; kernel_rfl) | (rw [if_neg (by decide +kernel)]; exact ⟨rfl, rfl⟩))
    (fun os started H enc _ => lifted os started H enc)
end LawFeedDecoder
theorem feedDecoder_card : Rows.FnExactFeedDecoderCardSaid :=
  Claim7.holds_tied_plain_at .later [] [.data, .data] true Rows.fnExactFeedDecoderCard.stood.harness Rows.fnExactFeedDecoderCard.stood.looks
    LawFeedDecoder.row (fun _ h => by cases h) (by kernel_rfl) (fun _ h => by cases h) fnExactFeedDecoder_row_tie rfl ⟨rfl, rfl⟩ (by kernel_rfl) rfl
    (fun f fn hf hfn => by
      obtain rfl : f = 6 := Option.some.inj ((show Tryd.prog.funcNamed "loop.example/g00692/laws.FnExactFeedDecoder" = some 6 by kernel_rfl).symm.trans hf) |>.symm
      obtain rfl : fn = Tryd.f6 := (Option.some.inj (Tryd.func6.symm.trans hfn)).symm
      exact ⟨by kernel_rfl, fun j t ht => by
        rw [Tryd.params6] at ht
        have hm : t ∈ [50, 9] := by simpa using Array.mem_of_getElem? ht
        have hall : ([50, 9].all fun u => !Tryd.prog.wantsStandIn u) = true := by kernel_rfl
        exact (show Tryd.prog.wantsStandIn t = false by simpa using List.all_eq_true.1 hall t hm)⟩)
    (by kernel_rfl)
#print axioms feedDecoder_card
end Go.Proofs.YtjnnikbgpjiecaaDoor

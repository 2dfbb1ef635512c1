/-
  Contracts of the program's writers: bytesOf, writeUnits, write, turn; allRunes.
-/
import Derived.Test.YtjnnikbgpjiecaaDoorI2Code
import Derived.Test.YtjnnikbgpjiecaaDoorD2Enc
import Derived.Test.YtjnnikbgpjiecaaDoorUtf
import Derived.Test.YtjnnikbgpjiecaaDoorTxt
import Derived.Deep.RegionWith
namespace Go.Proofs.YtjnnikbgpjiecaaDoor
open Go.ChangeShapes Go.WideShapes Go.ChangeAt Go.RowKit
theorem conv_at (w : World) (P : Nat) (a : Int) (h : w.cell? ⟨P, 0, none⟩ = some (.int .u8 a)) : (convert 22 9 (.slice (some ⟨P, 0, none⟩) 1 1)).run Tryd.prog w = .ok (.string (strOfNums [a])) w := by
  refine run_convert_bytes_arg w 22 5 Tryd.underlying22 Tryd.underlying5 P 0 1 1 [a] rfl (fun i hi => ?_) 9 Tryd.underlying9
  obtain rfl : i = 0 := by omega
  exact h
theorem conv_2b (w : World) (t : TypeId) (a b : Int) : (convert 22 9 (.slice (some ⟨w.heap.size + 1, 0, none⟩) 2 2)).run Tryd.prog ((w.alloc (.cells #[] t)).alloc (.cells #[.int .u8 a, .int .u8 b] 5)) = .ok (.string (strOfNums [a, b])) ((w.alloc (.cells #[] t)).alloc (.cells #[.int .u8 a, .int .u8 b] 5)) := by
  have := conv_2 (w.alloc (.cells #[] t)) a b
  rwa [show (w.alloc (.cells #[] t)).heap.size = w.heap.size + 1 by simp] at this
theorem conv_1c (w : World) (t : TypeId) (a : Int) : (convert 22 9 (.slice (some ⟨w.heap.size + 1, 0, none⟩) 1 1)).run Tryd.prog ((w.alloc (.cells #[] t)).alloc (.cells #[.int .u8 a] 5)) = .ok (.string (strOfNums [a])) ((w.alloc (.cells #[] t)).alloc (.cells #[.int .u8 a] 5)) := by
  have := conv_1 (w.alloc (.cells #[] t)) a
  rwa [show (w.alloc (.cells #[] t)).heap.size = w.heap.size + 1 by simp] at this
theorem conv_1s (w : World) (p : Addr) (v : Value) (a : Int) : (convert 22 9 (.slice (some ⟨w.heap.size, 0, none⟩) 1 1)).run Tryd.prog ((w.setCell p v).alloc (.cells #[.int .u8 a] 5)) = .ok (.string (strOfNums [a])) ((w.setCell p v).alloc (.cells #[.int .u8 a] 5)) := by
  have := conv_1 (w.setCell p v) a
  rwa [World.size_setCell] at this
theorem two_alloc (w : World) (a b : Obj) : Below w.heap.size w ((w.alloc a).alloc b) := ((Below.refl _ _).alloc (Nat.le_refl _) _).alloc (by simp) _
theorem app_nil (s : ByteArray) : (⟨#[]⟩ : ByteArray) ++ s = s := by
  apply ByteArray.ext
  simp
set_option maxRecDepth 100000 in
set_option maxHeartbeats 1000000 in
theorem iall_any (L : List Int) (ao : Option Addr) (cap : Nat) (w : World) (hl : L.length ≤ 1048576) (hA : IntsAt w ao L) :
    Calls Tryd.prog 61 #[.slice ao L.length cap] w fun e w' => e = .returned (.bool (allG L)) ∧ w' = w := by
  have HA : Hid _ := hA
  clear hA
  go_enter Tryd.func61, Tryd.ntmps61
  go_wp2
  go_loopw [7] (fun i wr => ∃ k : Nat, k ≤ L.length ∧ i = .int .i64 k ∧ (∀ j, j < k → goodB (L.getD j 0) = true) ∧ wr = w) (fun i _ => L.length - (intOf i).toNat)
  case atStart => exact ⟨0, Nat.zero_le _, rfl, fun j hj => absurd hj (by omega), rfl⟩
  case round =>
    obtain ⟨k, hk, rfl, hall, rfl⟩ := hrel
    have HALL : Hid _ := hall
    clear hall
    by_cases hlt : k < L.length
    · have hltI : (k : Int) < (L.length : Int) := by omega
      obtain ⟨b1, o1, rfl, l1, h1⟩ := HA.out k hlt
      cases hgd : goodB (L.getD k 0)
      · have HG : Hid _ := hgd
        have HB : Hid _ := allG_bad hlt hgd
        clear hgd
        generalize L.getD k 0 = r at *
        go_wp2_with (go_at_call 79; refine (igood_not HG.out _).mono ?_; rintro e w' ⟨rfl, rfl⟩)
        go_ret
        exact ⟨by rw [HB.out]; rfl, rfl⟩
      · have HG : Hid _ := hgd
        have HN : Hid (∀ j, j < k + 1 → goodB (L.getD j 0) = true) := fun j hj => by
          by_cases e : j = k
          · subst e; exact hgd
          · exact HALL.out j (by omega)
        clear hgd
        generalize L.getD k 0 = r at *
        go_wp2_with (go_at_call 79; refine (igood_yes HG.out _).mono ?_; rintro e w' ⟨rfl, rfl⟩)
        go_roundw
        case rel => exact ⟨k + 1, by omega, by go_num, HN.out, by first | rfl | trivial⟩
        case measure => simp [intOf]; omega
    · obtain rfl : k = L.length := by omega
      have HB : Hid (allG L = true) := List.all_eq_true.2 fun r hr => by
        obtain ⟨j, hj, rfl⟩ := List.mem_iff_getElem.1 hr
        have := HALL.out j hj
        simpa [List.getD, hj] using this
      go_wp2
      go_ret
      exact ⟨by rw [HB.out]; rfl, rfl⟩
set_option maxRecDepth 100000 in
set_option maxHeartbeats 400000 in
theorem iwrite_1 (r : Int) (w : World) (hg : goodB r = true) (hT : Tabs w) :
    Calls Tryd.prog 112 #[.agg #[], .int .i64 r] w fun e w' => e = .returned (.tuple #[.string (putS 1 0 r).s, .bool true]) ∧ Below w.heap.size w w' := by
  rw [show (putS 1 0 r).s = encS r from by simp [putS]]
  have HG : Hid _ := hg
  have HT : Hid _ := hT
  clear hg hT
  go_enter Tryd.func112, Tryd.ntmps112
  go_wp2_with fail
  refine (iutf_any r _ HG.out (HT.out.below ((Below.refl _ _).alloc (Nat.le_refl _) _))).mono ?_
  rintro e w1 ⟨rfl, b1⟩
  go_wp2
  go_ret2
  exact ⟨rfl, ((Below.refl _ _).alloc (Nat.le_refl _) _).trans (b1.mono (by simp))⟩
set_option maxRecDepth 100000 in
set_option maxHeartbeats 400000 in
theorem ibytes_2 (n : Int) (w : World) (h0 : 0 ≤ n) (h1 : n ≤ 65535) :
    Calls Tryd.prog 115 #[.agg #[], .int .i64 n] w fun e w' => e = .returned (.string (pairS 2 n)) ∧ Below w.heap.size w w' := by
  have c2 := conv_2b
  have q1 : 0 ≤ n / 256 ∧ n / 256 ≤ 255 := by omega
  have q2 : 0 ≤ n % 256 ∧ n % 256 ≤ 255 := by omega
  obtain ⟨q10, q11⟩ := q1
  obtain ⟨q20, q21⟩ := q2
  rw [show pairS 2 n = strOfNums [n / 256, n % 256] from by simp [pairS]]
  go_enter Tryd.func115, Tryd.ntmps115
  go_wp2
  go_ret
  exact ⟨rfl, two_alloc _ _ _⟩
set_option maxRecDepth 100000 in
set_option maxHeartbeats 1000000 in
theorem iwu_2 (r : Int) (w : World) (h0 : 0 ≤ r) (hh : r ≤ 1114111) :
    Calls Tryd.prog 120 #[codV 97, .int .i64 r] w fun e w' => e = .returned (.string (putS 2 0 r).s) ∧ Below w.heap.size w w' := by
  by_cases h65 : r < 65536
  · rw [show (putS 2 0 r).s = pairS 2 r from by simp [putS, unitsB, h65]]
    have HP : Hid (∀ w : World, _) := fun w => ibytes_2 r w h0 (by omega)
    go_enter Tryd.func120, Tryd.ntmps120
    go_wp2_with fail
    refine (HP.out _).mono ?_
    rintro e w1 ⟨rfl, b1⟩
    go_wp2
    go_ret
    exact ⟨rfl, b1⟩
  · rw [show (putS 2 0 r).s = pairS 2 (55296 + (r - 65536) / 1024) ++ pairS 2 (56320 + (r - 65536) % 1024) from by simp [putS, unitsB, h65]]
    have HP1 : Hid (∀ w : World, _) := fun w => ibytes_2 (55296 + (r - 65536) / 1024) w (by omega) (by omega)
    have HP2 : Hid (∀ w : World, _) := fun w => ibytes_2 (56320 + (r - 65536) % 1024) w (by omega) (by omega)
    have q1 : 0 ≤ (r - 65536) / 1024 ∧ (r - 65536) / 1024 ≤ 1023 := by omega
    have q2 : 0 ≤ (r - 65536) % 1024 ∧ (r - 65536) % 1024 ≤ 1023 := by omega
    obtain ⟨q10, q11⟩ := q1
    obtain ⟨q20, q21⟩ := q2
    have HZ : Hid (¬ 9223372036854775807 < (pairS 2 (55296 + (r - 65536) / 1024)).size + (pairS 2 (56320 + (r - 65536) % 1024)).size) := by show ¬ _; rw [pairS_size, pairS_size]; decide
    go_enter Tryd.func120, Tryd.ntmps120
    go_wp2_with fail
    refine (HP1.out _).mono ?_
    rintro e w2 ⟨rfl, b2⟩
    go_wp2_with fail
    refine (HP2.out _).mono ?_
    rintro e w3 ⟨rfl, b3⟩
    have hz := HZ.out
    go_wp2
    go_ret
    exact ⟨rfl, b2.trans (b3.mono b2.size)⟩
set_option maxRecDepth 100000 in
set_option maxHeartbeats 400000 in
theorem iwrite_2 (r : Int) (w : World) (h0 : 0 ≤ r) (hh : r ≤ 1114111) :
    Calls Tryd.prog 118 #[.agg #[], .int .i64 r] w fun e w' => e = .returned (.tuple #[.string (putS 2 0 r).s, .bool true]) ∧ Below w.heap.size w w' := by
  have HP : Hid (∀ w : World, _) := fun w => iwu_2 r w h0 hh
  generalize (putS 2 0 r).s = t at *
  go_enter Tryd.func118, Tryd.ntmps118
  go_wp2_with fail
  refine (HP.out _).mono ?_
  rintro e w1 ⟨rfl, b1⟩
  go_wp2
  go_ret2
  exact ⟨rfl, ((Below.refl _ _).alloc (Nat.le_refl _) _).trans (b1.mono (by simp))⟩
set_option maxRecDepth 100000 in
set_option maxHeartbeats 400000 in
theorem ibytes_3 (n : Int) (w : World) (h0 : 0 ≤ n) (h1 : n ≤ 65535) :
    Calls Tryd.prog 122 #[.agg #[], .int .i64 n] w fun e w' => e = .returned (.string (pairS 3 n)) ∧ Below w.heap.size w w' := by
  have c2 := conv_2b
  have q1 : 0 ≤ n / 256 ∧ n / 256 ≤ 255 := by omega
  have q2 : 0 ≤ n % 256 ∧ n % 256 ≤ 255 := by omega
  obtain ⟨q10, q11⟩ := q1
  obtain ⟨q20, q21⟩ := q2
  rw [show pairS 3 n = strOfNums [n % 256, n / 256] from by simp [pairS]]
  go_enter Tryd.func122, Tryd.ntmps122
  go_wp2
  go_ret
  exact ⟨rfl, two_alloc _ _ _⟩
set_option maxRecDepth 100000 in
set_option maxHeartbeats 1000000 in
theorem iwu_3 (r : Int) (w : World) (h0 : 0 ≤ r) (hh : r ≤ 1114111) :
    Calls Tryd.prog 120 #[codV 98, .int .i64 r] w fun e w' => e = .returned (.string (putS 3 0 r).s) ∧ Below w.heap.size w w' := by
  by_cases h65 : r < 65536
  · rw [show (putS 3 0 r).s = pairS 3 r from by simp [putS, unitsB, h65]]
    have HP : Hid (∀ w : World, _) := fun w => ibytes_3 r w h0 (by omega)
    go_enter Tryd.func120, Tryd.ntmps120
    go_wp2_with fail
    refine (HP.out _).mono ?_
    rintro e w1 ⟨rfl, b1⟩
    go_wp2
    go_ret
    exact ⟨rfl, b1⟩
  · rw [show (putS 3 0 r).s = pairS 3 (55296 + (r - 65536) / 1024) ++ pairS 3 (56320 + (r - 65536) % 1024) from by simp [putS, unitsB, h65]]
    have HP1 : Hid (∀ w : World, _) := fun w => ibytes_3 (55296 + (r - 65536) / 1024) w (by omega) (by omega)
    have HP2 : Hid (∀ w : World, _) := fun w => ibytes_3 (56320 + (r - 65536) % 1024) w (by omega) (by omega)
    have q1 : 0 ≤ (r - 65536) / 1024 ∧ (r - 65536) / 1024 ≤ 1023 := by omega
    have q2 : 0 ≤ (r - 65536) % 1024 ∧ (r - 65536) % 1024 ≤ 1023 := by omega
    obtain ⟨q10, q11⟩ := q1
    obtain ⟨q20, q21⟩ := q2
    have HZ : Hid (¬ 9223372036854775807 < (pairS 3 (55296 + (r - 65536) / 1024)).size + (pairS 3 (56320 + (r - 65536) % 1024)).size) := by show ¬ _; rw [pairS_size, pairS_size]; decide
    go_enter Tryd.func120, Tryd.ntmps120
    go_wp2_with fail
    refine (HP1.out _).mono ?_
    rintro e w2 ⟨rfl, b2⟩
    go_wp2_with fail
    refine (HP2.out _).mono ?_
    rintro e w3 ⟨rfl, b3⟩
    have hz := HZ.out
    go_wp2
    go_ret
    exact ⟨rfl, b2.trans (b3.mono b2.size)⟩
set_option maxRecDepth 100000 in
set_option maxHeartbeats 400000 in
theorem iwrite_3 (r : Int) (w : World) (h0 : 0 ≤ r) (hh : r ≤ 1114111) :
    Calls Tryd.prog 125 #[.agg #[], .int .i64 r] w fun e w' => e = .returned (.tuple #[.string (putS 3 0 r).s, .bool true]) ∧ Below w.heap.size w w' := by
  have HP : Hid (∀ w : World, _) := fun w => iwu_3 r w h0 hh
  generalize (putS 3 0 r).s = t at *
  go_enter Tryd.func125, Tryd.ntmps125
  go_wp2_with fail
  refine (HP.out _).mono ?_
  rintro e w1 ⟨rfl, b1⟩
  go_wp2
  go_ret2
  exact ⟨rfl, ((Below.refl _ _).alloc (Nat.le_refl _) _).trans (b1.mono (by simp))⟩
set_option maxRecDepth 100000 in
set_option maxHeartbeats 400000 in
theorem iwrite_4 (r : Int) (w : World) (h0 : 0 ≤ r) (h : r < 256) :
    Calls Tryd.prog 127 #[.agg #[], .int .i64 r] w fun e w' => e = .returned (.tuple #[.string (putS 4 0 r).s, .bool true]) ∧ Below w.heap.size w w' := by
  rw [show (putS 4 0 r).s = strOfNums [r % 256] from by simp [putS, unitsB], show r % 256 = r by omega]
  have c1 := conv_1c
  have h' : ¬ 256 ≤ r := by omega
  have h2 : r ≤ 255 := by omega
  go_enter Tryd.func127, Tryd.ntmps127
  go_wp2
  go_ret2
  exact ⟨rfl, two_alloc _ _ _⟩
set_option maxRecDepth 100000 in
set_option maxHeartbeats 400000 in
theorem iwrite_4no (r : Int) (w : World) (h : ¬ r < 256) :
    Calls Tryd.prog 127 #[.agg #[], .int .i64 r] w fun e w' => e = .returned (.tuple #[.string ⟨#[]⟩, .bool false]) ∧ Below w.heap.size w w' := by
  have h' : 256 ≤ r := by omega
  go_enter Tryd.func127, Tryd.ntmps127
  go_wp2
  go_ret2
  exact ⟨rfl, (Below.refl _ _).alloc (Nat.le_refl _) _⟩
/-- The shift lies in block C. -/
structure ShAt (w : World) (C : Nat) (sh : Int) : Prop where
  c : w.cell? ⟨C, 0, none⟩ = some (.int .i64 sh)
  f : w.frozen? ⟨C, 0, none⟩ = false
  lt : C < w.heap.size
theorem ShAt.below {w w' : World} {C : Nat} {sh : Int} (h : ShAt w C sh) (hb : Below w.heap.size w w') : ShAt w' C sh := by
  have blk : w'.heap[C]? = w.heap[C]? := hb.block C h.lt
  exact ⟨(World.cell?_of_block (a := ⟨C, 0, none⟩) blk).trans h.c, (World.frozen?_of_block (a := ⟨C, 0, none⟩) blk).trans h.f, Nat.lt_of_lt_of_le h.lt hb.size⟩
theorem ShAt.grown {w w' : World} {C : Nat} {sh : Int} {row : Option Nat} (h : ShAt w C sh) (hg : w.grownBy w' row) (hr : row ≠ some C) : ShAt w' C sh := by
  have blk : w'.heap[C]? = w.heap[C]? := hg.block C h.lt (fun e => hr e.symm)
  exact ⟨(World.cell?_of_block (a := ⟨C, 0, none⟩) blk).trans h.c, (World.frozen?_of_block (a := ⟨C, 0, none⟩) blk).trans h.f, Nat.lt_of_lt_of_le h.lt hg.size⟩
theorem ShAt.set {w : World} {C : Nat} {sh : Int} (h : ShAt w C sh) (x : Int) : ShAt (w.setCell ⟨C, 0, none⟩ (.int .i64 x)) C x :=
  ⟨World.cell?_setCell_same _ _ _ h.c, by rw [World.frozen?_setCell]; exact h.f, by rw [World.size_setCell]; exact h.lt⟩
def turnS (sh want : Int) : ByteArray := if sh = want then ⟨#[]⟩ else strOfNums [15 - want]
theorem turnS_size (sh want : Int) : (turnS sh want).size ≤ 1 := by
  unfold turnS
  split
  · exact Nat.zero_le _
  · rw [strOf_size]; exact Nat.le_refl _
set_option maxRecDepth 100000 in
set_option maxHeartbeats 1000000 in
theorem turn_any (C : Nat) (sh want : Int) (w : World) (h : ShAt w C sh) (hw : want = 0 ∨ want = 1) :
    Calls Tryd.prog 62 #[.pointer (some ⟨C, 0, none⟩), .int .i64 want] w fun e w' => e = .returned (.string (turnS sh want)) ∧ ShAt w' C want ∧ w.grownBy w' (some C) := by
  have H : Hid _ := h
  obtain ⟨c, f, -⟩ := h
  by_cases hs : sh = want
  · subst hs
    rw [show turnS sh sh = ⟨#[]⟩ from by simp [turnS]]
    have e1 : (sh == sh) = true := by simp
    go_enter Tryd.func62, Tryd.ntmps62
    go_wp2
    go_ret
    exact ⟨rfl, H.out, ⟨rfl, rfl, rfl, Nat.le_refl _, fun _ _ _ => rfl⟩⟩
  · rw [show turnS sh want = strOfNums [15 - want] from by simp [turnS, hs]]
    have n1 : (sh == want) = false := by rw [beq_eq_false_iff_ne]; exact hs
    have cv := conv_1s w ⟨C, 0, none⟩
    have hg : ∀ o, w.grownBy ((w.setCell ⟨C, 0, none⟩ (.int .i64 want)).alloc o) (some C) := fun o => by
      have g := grown_set w C 0 (.int .i64 want)
      have g2 := World.grownBy_alloc (w.setCell ⟨C, 0, none⟩ (.int .i64 want)) o (some C)
      exact ⟨g2.os.trans g.os, g2.tape.trans g.tape, g2.output.trans g.output, Nat.le_trans g.size g2.size, fun j hj hn => (g2.block j (Nat.lt_of_lt_of_le hj g.size) hn).trans (g.block j hj hn)⟩
    have HG : Hid _ := hg
    have HS : Hid (∀ o, ShAt ((w.setCell ⟨C, 0, none⟩ (.int .i64 want)).alloc o) C want) := fun o => (H.out.set want).below ((Below.refl _ _).alloc (Nat.le_refl _) o)
    clear hg hs
    rcases hw with rfl | rfl
    · go_enter Tryd.func62, Tryd.ntmps62
      go_wp2
      go_ret
      exact ⟨rfl, HS.out _, HG.out _⟩
    · go_enter Tryd.func62, Tryd.ntmps62
      go_wp2
      go_ret
      exact ⟨rfl, HS.out _, HG.out _⟩
theorem put5_low (sh r : Int) (h : r < 32) : putS 5 sh r = ⟨strOfNums [r], sh, decide (r ≠ 14 ∧ r ≠ 15)⟩ := by simp [putS, unitsB, h]
theorem put5_mid (sh r : Int) (h : ¬ r < 32) (h' : r ≤ 126) (hs : sh = 0 ∨ sh = 1) : putS 5 sh r = ⟨turnS sh 0 ++ strOfNums [r], 0, true⟩ := by
  have hk : ¬ (12352 ≤ r ∧ r ≤ 12446) := by omega
  rcases hs with rfl | rfl
  · simp [putS, unitsB, h, hk, h', turnS, app_nil]
  · simp [putS, unitsB, h, hk, h', turnS]
theorem put5_high (sh r : Int) (h : 12352 ≤ r) (h' : r ≤ 12446) (hs : sh = 0 ∨ sh = 1) : putS 5 sh r = ⟨turnS sh 1 ++ strOfNums [r - 12352 + 32], 1, true⟩ := by
  have h3 : ¬ r < 32 := by omega
  rcases hs with rfl | rfl
  · simp [putS, unitsB, h, h', h3, turnS]
  · simp [putS, unitsB, h, h', h3, turnS, app_nil]
theorem put5_no (sh r : Int) (h : ¬ r ≤ 126) (h' : ¬ (12352 ≤ r ∧ r ≤ 12446)) : putS 5 sh r = ⟨⟨#[]⟩, 0, false⟩ := by
  have h3 : ¬ r < 32 := by omega
  simp [putS, unitsB, h, h', h3]
set_option maxRecDepth 100000 in
set_option maxHeartbeats 1000000 in
theorem iwrite_5no (C : Nat) (sh r : Int) (w : World) (h0 : 0 ≤ r) (hok : (putS 5 sh r).ok = false) (hs : sh = 0 ∨ sh = 1) :
    Calls Tryd.prog 110 #[.pointer (some ⟨C, 0, none⟩), .int .i64 r] w fun e w' => e = .returned (.tuple #[.string ⟨#[]⟩, .bool false]) ∧ w' = w := by
  by_cases h14 : r = 14
  · subst h14
    clear hok hs
    go_enter Tryd.func110, Tryd.ntmps110
    go_wp2
    go_ret2
    exact ⟨rfl, rfl⟩
  · by_cases h15 : r = 15
    · subst h15
      clear hok hs h14
      go_enter Tryd.func110, Tryd.ntmps110
      go_wp2
      go_ret2
      exact ⟨rfl, rfl⟩
    · have t14 : (r == 14) = false := by rw [beq_eq_false_iff_ne]; exact h14
      have t15 : (r == 15) = false := by rw [beq_eq_false_iff_ne]; exact h15
      have n32 : ¬ r < 32 := fun h => by rw [put5_low sh r h] at hok; simp [h14, h15] at hok
      have n126 : ¬ r ≤ 126 := fun h => by rw [put5_mid sh r n32 h hs] at hok; cases hok
      have nk : ¬ (12352 ≤ r ∧ r ≤ 12446) := fun h => by rw [put5_high sh r h.1 h.2 hs] at hok; cases hok
      have tst : ¬ 12352 ≤ r ∨ (12352 ≤ r ∧ ¬ r ≤ 12446) := by omega
      clear hok hs h14 h15 nk
      rcases tst with k1 | ⟨k1, k2⟩
      · go_enter Tryd.func110, Tryd.ntmps110
        go_wp2
        go_ret2
        exact ⟨rfl, rfl⟩
      · go_enter Tryd.func110, Tryd.ntmps110
        go_wp2
        go_ret2
        exact ⟨rfl, rfl⟩
theorem grown_of_below2 {w w' : World} (hb : Below w.heap.size w w') {row : Option Nat} : w.grownBy w' row := ⟨hb.os, hb.tape, hb.output, hb.size, fun k hk _ => hb.block k hk⟩
theorem grown_two {a b c : World} {row : Option Nat} (h : a.grownBy b row) (k : b.grownBy c row) : a.grownBy c row :=
  ⟨k.os.trans h.os, k.tape.trans h.tape, k.output.trans h.output, Nat.le_trans h.size k.size, fun j hj hn => (k.block j (Nat.lt_of_lt_of_le hj h.size) hn).trans (h.block j hj hn)⟩
set_option maxRecDepth 100000 in
set_option maxHeartbeats 4000000 in
theorem iwrite_5 (C : Nat) (sh r : Int) (w : World) (h0 : 0 ≤ r) (hok : (putS 5 sh r).ok = true) (hs : sh = 0 ∨ sh = 1) (h : ShAt w C sh) :
    Calls Tryd.prog 110 #[.pointer (some ⟨C, 0, none⟩), .int .i64 r] w fun e w' => e = .returned (.tuple #[.string (putS 5 sh r).s, .bool true]) ∧ ShAt w' C (putS 5 sh r).sh ∧ w.grownBy w' (some C) := by
  by_cases h32 : r < 32
  · rw [put5_low sh r h32] at hok ⊢
    have hok' := of_decide_eq_true hok
    have t14 : (r == 14) = false := by rw [beq_eq_false_iff_ne]; exact hok'.1
    have t15 : (r == 15) = false := by rw [beq_eq_false_iff_ne]; exact hok'.2
    have c1 := conv_1
    have H : Hid _ := h
    clear hok hok' hs h
    show Calls _ _ _ _ fun e w' => e = .returned (.tuple #[.string (strOfNums [r]), .bool true]) ∧ ShAt w' C sh ∧ w.grownBy w' (some C)
    go_enter Tryd.func110, Tryd.ntmps110
    go_wp2
    go_ret2
    exact ⟨rfl, (H.out).below ((Below.refl _ _).alloc (Nat.le_refl _) _), grown_of_below2 ((Below.refl _ _).alloc (Nat.le_refl _) _)⟩
  · have t14 : (r == 14) = false := by rw [beq_eq_false_iff_ne]; omega
    have t15 : (r == 15) = false := by rw [beq_eq_false_iff_ne]; omega
    by_cases h126 : r ≤ 126
    · rw [put5_mid sh r h32 h126 hs]
      have HTN : Hid (∀ w : World, ShAt w C sh → _) := fun w h => turn_any C sh 0 w h (.inl rfl)
      clear hok
      show Calls _ _ _ _ fun e w' => e = .returned (.tuple #[.string (turnS sh 0 ++ strOfNums [r]), .bool true]) ∧ ShAt w' C 0 ∧ w.grownBy w' (some C)
      have H1 : Hid _ := h.below ((Below.refl w.heap.size w).drew)
      have H2 : Hid (ShAt ((w.alloc (.cells #[.int .u8 (r)] 5)).drew) C sh) := h.below (((Below.refl w.heap.size w).alloc (Nat.le_refl _) _).drew)
      have hlt := h.lt
      have GA : Hid (w.grownBy w.drew (some C)) := grown_of_below2 ((Below.refl w.heap.size w).drew)
      have GB : Hid (w.grownBy ((w.alloc (.cells #[.int .u8 (r)] 5)).drew) (some C)) := grown_of_below2 (((Below.refl w.heap.size w).alloc (Nat.le_refl _) _).drew)
      have q0 : ((w.alloc (.cells #[.int .u8 (r)] 5)).drew).cell? ⟨w.heap.size, 0, none⟩ = some (.int .u8 (r)) := by
        show (w.alloc (.cells #[.int .u8 (r)] 5)).cell? ⟨w.heap.size, 0, none⟩ = _
        rw [cell_of_row _ _ _ _ _ _ (heap_alloc_new w (.cells #[.int .u8 (r)] 5))]; rfl
      have Q0 : Hid _ := q0
      have hwr : IntKind.u8.wrap (r) = r := by unfold IntKind.wrap; simp [IntKind.signed, IntKind.bits]; omega
      have cv0 := conv_at _ _ _ q0
      clear q0
      have hts := turnS_size sh 0
      have hcat : ¬ 9223372036854775807 < (turnS sh 0).size + (strOfNums [r]).size := by rw [strOf_size]; simp; omega
      have hne : ¬ C = w.heap.size := by omega
      have HLT : Hid _ := hlt
      clear h hs
      generalize turnS sh 0 = T at *
      go_enter Tryd.func110, Tryd.ntmps110
      go_wp2
      go_region_with (go_at_call 62; refine (HTN.out _ (by first | exact H1.out | exact H2.out)).mono ?_; rintro e w5 ⟨rfl, s5, g5⟩; have S5 : Hid _ := s5; have cv5 := conv_1 w5 (r); first | (have G5 : Hid _ := grown_two GB.out g5; have q5 : w5.cell? ⟨w.heap.size, 0, none⟩ = some (.int .u8 (r)) := (World.cell?_of_block (a := ⟨w.heap.size, 0, none⟩) (g5.block w.heap.size (by simp) (fun e => by have := Option.some.inj e; have := HLT.out; omega))).trans Q0.out; have cv6 := conv_at w5 w.heap.size _ q5; clear q5 s5 g5) | (have G5 : Hid _ := grown_two GA.out g5; clear s5 g5))
      all_goals
        go_wp2
        go_ret2
        first
        | exact ⟨rfl, S5.out, G5.out⟩
        | exact ⟨rfl, (S5.out).below ((Below.refl _ _).alloc (Nat.le_refl _) _), grown_two G5.out (grown_of_below2 ((Below.refl _ _).alloc (Nat.le_refl _) _))⟩
    · by_cases hk : 12352 ≤ r ∧ r ≤ 12446
      · obtain ⟨k1, k2⟩ := hk
        rw [put5_high sh r k1 k2 hs]
        have HTN : Hid (∀ w : World, ShAt w C sh → _) := fun w h => turn_any C sh 1 w h (.inr rfl)
        have hw1 : IntKind.i64.wrap (r - 12352) = r - 12352 := IntWalk.i64_in _ (by omega)
        have hw2 : IntKind.i64.wrap (r - 12352 + 32) = r - 12352 + 32 := IntWalk.i64_in _ (by omega)
        clear hok
        show Calls _ _ _ _ fun e w' => e = .returned (.tuple #[.string (turnS sh 1 ++ strOfNums [r - 12352 + 32]), .bool true]) ∧ ShAt w' C 1 ∧ w.grownBy w' (some C)
        have H1 : Hid _ := h.below ((Below.refl w.heap.size w).drew)
        have H2 : Hid (ShAt ((w.alloc (.cells #[.int .u8 (r - 12352 + 32)] 5)).drew) C sh) := h.below (((Below.refl w.heap.size w).alloc (Nat.le_refl _) _).drew)
        have hlt := h.lt
        have GA : Hid (w.grownBy w.drew (some C)) := grown_of_below2 ((Below.refl w.heap.size w).drew)
        have GB : Hid (w.grownBy ((w.alloc (.cells #[.int .u8 (r - 12352 + 32)] 5)).drew) (some C)) := grown_of_below2 (((Below.refl w.heap.size w).alloc (Nat.le_refl _) _).drew)
        have q0 : ((w.alloc (.cells #[.int .u8 (r - 12352 + 32)] 5)).drew).cell? ⟨w.heap.size, 0, none⟩ = some (.int .u8 (r - 12352 + 32)) := by
          show (w.alloc (.cells #[.int .u8 (r - 12352 + 32)] 5)).cell? ⟨w.heap.size, 0, none⟩ = _
          rw [cell_of_row _ _ _ _ _ _ (heap_alloc_new w (.cells #[.int .u8 (r - 12352 + 32)] 5))]; rfl
        have Q0 : Hid _ := q0
        have hwr : IntKind.u8.wrap (r - 12352 + 32) = r - 12352 + 32 := by unfold IntKind.wrap; simp [IntKind.signed, IntKind.bits]; omega
        have cv0 := conv_at _ _ _ q0
        clear q0
        have hts := turnS_size sh 1
        have hcat : ¬ 9223372036854775807 < (turnS sh 1).size + (strOfNums [r - 12352 + 32]).size := by rw [strOf_size]; simp; omega
        have hne : ¬ C = w.heap.size := by omega
        have HLT : Hid _ := hlt
        clear h hs
        generalize turnS sh 1 = T at *
        go_enter Tryd.func110, Tryd.ntmps110
        go_wp2
        go_region_with (go_at_call 62; refine (HTN.out _ (by first | exact H1.out | exact H2.out)).mono ?_; rintro e w5 ⟨rfl, s5, g5⟩; have S5 : Hid _ := s5; have cv5 := conv_1 w5 (r - 12352 + 32); first | (have G5 : Hid _ := grown_two GB.out g5; have q5 : w5.cell? ⟨w.heap.size, 0, none⟩ = some (.int .u8 (r - 12352 + 32)) := (World.cell?_of_block (a := ⟨w.heap.size, 0, none⟩) (g5.block w.heap.size (by simp) (fun e => by have := Option.some.inj e; have := HLT.out; omega))).trans Q0.out; have cv6 := conv_at w5 w.heap.size _ q5; clear q5 s5 g5) | (have G5 : Hid _ := grown_two GA.out g5; clear s5 g5))
        all_goals
          go_wp2
          go_ret2
          first
          | exact ⟨rfl, S5.out, G5.out⟩
          | exact ⟨rfl, (S5.out).below ((Below.refl _ _).alloc (Nat.le_refl _) _), grown_two G5.out (grown_of_below2 ((Below.refl _ _).alloc (Nat.le_refl _) _))⟩
      · rw [put5_no sh r h126 hk] at hok
        cases hok
end Go.Proofs.YtjnnikbgpjiecaaDoor

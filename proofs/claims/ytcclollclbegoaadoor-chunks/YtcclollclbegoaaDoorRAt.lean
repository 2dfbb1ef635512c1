/-
  Contracts of impl.firstRune, strings.HasPrefix, impl.RuneAt and spec.RuneAt.
-/
import Derived.Test.YtcclollclbegoaaDoorUtf
import Derived.Test.YtcclollclbegoaaDoorBegPure
import Derived.Test.YtcclollclbegoaaDoorAt
import Derived.Lib.OthersKept
namespace Go.Proofs.YtcclollclbegoaaDoor
open Go.ChangeShapes Go.WideShapes Go.ChangeAt Go.RowKit

set_option maxRecDepth 100000 in
set_option maxHeartbeats 400000 in
theorem hasp_any (s p : ByteArray) (w : World) :
    Calls Tryd.prog 62 #[.string s, .string p] w fun e w' => e = .returned (.bool (prefB s p)) ∧ w' = w := by
  by_cases h : p.size ≤ s.size
  · have hb : prefB s p = ((s.extract 0 p.size).toList == p.toList) := by simp [prefB, h]
    rw [hb]
    clear hb
    have h' : (p.size : Int) ≤ s.size := by omega
    go_enter Tryd.func62, Tryd.ntmps62
    go_wp2
    go_ret
    exact ⟨rfl, rfl⟩
  · have hb : prefB s p = false := by simp [prefB, h]
    rw [hb]
    clear hb
    have h' : (s.size : Int) < p.size := by omega
    go_enter Tryd.func62, Tryd.ntmps62
    go_wp2
    go_ret
    exact ⟨rfl, rfl⟩
set_option maxRecDepth 100000 in
set_option maxHeartbeats 400000 in
theorem first_any (s : ByteArray) (w : World) (h : 0 < s.size) :
    Calls Tryd.prog 108 #[.string s] w fun e w' => e = .returned (.int .i64 (decR s 0)) ∧ Below w.heap.size w w' := by
  have hd := decode_le s 0
  have hnx : ∀ ty, (Instr.next (.pointer (some ⟨w.heap.size, 0, none⟩)) true ty).run Tryd.prog (w.iter s 0) = _ := fun ty => run_next_any w s 0 ty h
  have HR : Hid (decR s 0 = ((Utf8.decode s 0).1 : Int)) := rfl
  rw [HR.out]
  generalize (Utf8.decode s 0).1 = r at *
  generalize (Utf8.decode s 0).2 = d at *
  go_enter Tryd.func108, Tryd.ntmps108
  go_wp2
  refine wp_loop_rounds 1 ?_
  rw [rounds_succ]
  go_wp2
  go_ret
  exact ⟨rfl, (Below.refl w.heap.size w).alloc (Nat.le_refl _) (.stringIter s _)⟩
theorem tail_byt (s : ByteArray) (i k : Nat) (h : i + k < s.size) : byt (s.extract i s.size) k = byt s (i + k) := by
  have h1 : k < (s.extract i s.size).size := by rw [ByteArray.size_extract]; omega
  rw [byt_eq h1, byt_eq h]
  have e : (s.extract i s.size)[k] = s[i + k] := by
    have := congrArg (fun l : List UInt8 => l[k]?) (Lib.extract_data s i s.size)
    have h2 : (s.extract i s.size).data.toList[k]? = some (s.extract i s.size)[k] := by
      rw [List.getElem?_eq_getElem (by simpa using h1)]; rfl
    have h3 : ((s.data.toList.drop i).take (s.size - i))[k]? = some s[i + k] := by
      rw [List.getElem?_take, if_pos (by omega), List.getElem?_drop, List.getElem?_eq_getElem (by simpa using h)]; rfl
    have h4 := (h2.symm.trans this).trans h3
    exact Option.some.inj h4
  rw [e]
theorem tail_size (s : ByteArray) (i : Nat) (h : i ≤ s.size) : (s.extract i s.size).size = s.size - i := by rw [ByteArray.size_extract]; omega
theorem tail_enc (s : ByteArray) (i : Nat) (h : i ≤ s.size) (r : Int) (w : Nat) : Enc (s.extract i s.size) 0 r w ↔ Enc s i r w := by
  have hz := tail_size s i h
  have b0 : i < s.size → byt (s.extract i s.size) 0 = byt s i := fun hk => tail_byt s i 0 hk
  have b1 : i + 1 < s.size → byt (s.extract i s.size) (0 + 1) = byt s (i + 1) := fun hk => tail_byt s i 1 hk
  have b2 : i + 2 < s.size → byt (s.extract i s.size) (0 + 2) = byt s (i + 2) := fun hk => tail_byt s i 2 hk
  have b3 : i + 3 < s.size → byt (s.extract i s.size) (0 + 3) = byt s (i + 3) := fun hk => tail_byt s i 3 hk
  unfold Enc
  rw [hz]
  constructor
  · rintro ⟨g, h1, ⟨rfl, h2⟩ | ⟨rfl, h2⟩ | ⟨rfl, h2⟩ | ⟨rfl, h2⟩⟩
    · rw [b0 (by omega)] at h2
      exact ⟨g, by omega, .inl ⟨rfl, h2⟩⟩
    · rw [b0 (by omega), b1 (by omega)] at h2
      exact ⟨g, by omega, .inr (.inl ⟨rfl, h2⟩)⟩
    · rw [b0 (by omega), b1 (by omega), b2 (by omega)] at h2
      exact ⟨g, by omega, .inr (.inr (.inl ⟨rfl, h2⟩))⟩
    · rw [b0 (by omega), b1 (by omega), b2 (by omega), b3 (by omega)] at h2
      exact ⟨g, by omega, .inr (.inr (.inr ⟨rfl, h2⟩))⟩
  · rintro ⟨g, h1, ⟨rfl, h2⟩ | ⟨rfl, h2⟩ | ⟨rfl, h2⟩ | ⟨rfl, h2⟩⟩
    · rw [← b0 (by omega)] at h2
      exact ⟨g, by omega, .inl ⟨rfl, h2⟩⟩
    · rw [← b0 (by omega), ← b1 (by omega)] at h2
      exact ⟨g, by omega, .inr (.inl ⟨rfl, h2⟩)⟩
    · rw [← b0 (by omega), ← b1 (by omega), ← b2 (by omega)] at h2
      exact ⟨g, by omega, .inr (.inr (.inl ⟨rfl, h2⟩))⟩
    · rw [← b0 (by omega), ← b1 (by omega), ← b2 (by omega), ← b3 (by omega)] at h2
      exact ⟨g, by omega, .inr (.inr (.inr ⟨rfl, h2⟩))⟩
theorem tail_dec (s : ByteArray) (i : Nat) (h : i < s.size) : decR (s.extract i s.size) 0 = decR s i ∧ decW (s.extract i s.size) 0 = decW s i := by
  have hz := tail_size s i (by omega)
  refine dec_is h ?_
  rcases decode_dec (s.extract i s.size) 0 (by omega) with h1 | ⟨h1, h2, h3⟩
  · exact .inl ((tail_enc s i (by omega) _ _).1 h1)
  · exact .inr ⟨h1, h2, fun r' w' hE => h3 r' w' ((tail_enc s i (by omega) _ _).2 hE)⟩
theorem Enc.len {s : ByteArray} {i : Nat} {r : Int} {w : Nat} (h : Enc s i r w) : w = (encS r).size := by
  rw [encS_size]
  obtain ⟨_, _, ⟨rfl, h1, _⟩ | ⟨rfl, h1, h2, _⟩ | ⟨rfl, h1, h2, _⟩ | ⟨rfl, h1, _⟩⟩ := h
  · rw [encN_1 h1]; rfl
  · rw [encN_2 h1 h2]; rfl
  · rw [encN_3 h1 h2]; rfl
  · rw [encN_4 h1]; rfl
/-- The bytes of a rune begin a text just where they stand at its front. -/
theorem pref_enc (s : ByteArray) (r : Int) (hg : goodB r = true) : prefB s (encS r) = true ↔ Enc s 0 r (encS r).size := by
  unfold prefB
  rw [Bool.and_eq_true, decide_eq_true_eq, beq_iff_eq]
  constructor
  · rintro ⟨h1, h2⟩
    exact (enc_iff s 0 r hg _ (by omega)).2 (by rw [Nat.zero_add]; exact h2.symm)
  · intro h
    have h1 := h.pos
    refine ⟨by omega, ?_⟩
    have := (enc_iff s 0 r hg _ (by omega)).1 h
    rw [Nat.zero_add] at this
    exact this.symm
theorem pref_yes (s : ByteArray) (i : Nat) (h : i < s.size) (hE : Enc s i (decR s i) (decW s i)) : prefB (s.extract i s.size) (encS (decR s i)) = true := by
  rw [pref_enc _ _ hE.1, ← hE.len]
  exact (tail_enc s i (by omega) _ _).2 hE
theorem pref_no (s : ByteArray) (i : Nat) (h : i < s.size) (hn : ∀ r' w', ¬ Enc s i r' w') : prefB (s.extract i s.size) (encS 65533) = false := by
  rw [Bool.eq_false_iff]
  intro hp
  exact hn _ _ ((tail_enc s i (by omega) _ _).1 ((pref_enc _ _ rfl).1 hp))
theorem hasp_yes {s p : ByteArray} (h : prefB s p = true) (w : World) : Calls Tryd.prog 62 #[.string s, .string p] w fun e w' => e = .returned (.bool true) ∧ w' = w := by rw [← h]; exact hasp_any s p w
theorem hasp_no {s p : ByteArray} (h : prefB s p = false) (w : World) : Calls Tryd.prog 62 #[.string s, .string p] w fun e w' => e = .returned (.bool false) ∧ w' = w := by rw [← h]; exact hasp_any s p w
theorem slice_tail (s : ByteArray) (i : Nat) (h2 : i ≤ s.size) (w : World) : (Instr.slice 9 (.string s) (some (.int .i64 i)) none none).run Tryd.prog w = .ok (.string (s.extract i s.size)) w := by
  have h' : (i : Int) ≤ s.size := by omega
  go_simp
set_option maxRecDepth 100000 in
set_option maxHeartbeats 1000000 in
theorem irat_any (s : ByteArray) (i : Nat) (w : World) (hs : s.size ≤ 1000) (hi : i < s.size) (hT : Tabs w) :
    Calls Tryd.prog 107 #[.string s, .int .i64 i] w fun e w' => e = .returned (.tuple #[.int .i64 (decR s i), .int .i64 (decW s i), .bool true]) ∧ Below w.heap.size w w' := by
  have hsl := slice_tail s i (by omega)
  have HT : Hid _ := hT
  clear hT
  rcases decode_dec s i hi with hE | ⟨h1, h2, hn⟩
  · have HP : Hid _ := pref_yes s i hi hE
    have HD : Hid _ := (tail_dec s i hi).1
    have HW : Hid _ := hE.len
    have HG : Hid _ := hE.1
    have ht := tail_size s i (by omega)
    have HZ : Hid (0 < (s.extract i s.size).size) := by show 0 < (s.extract i s.size).size; omega
    clear hE ht
    generalize decR s i = r at *
    generalize decW s i = d at *
    generalize s.extract i s.size = u at *
    go_enter Tryd.func107, Tryd.ntmps107
    go_wp2_with fail
    refine (first_any u _ HZ.out).mono ?_
    rintro e w1 ⟨rfl, hb1⟩
    rw [HD.out]
    go_wp2_with fail
    refine (iutf_any r _ HG.out (HT.out.below hb1)).mono ?_
    rintro e w2 ⟨rfl, hb2⟩
    go_wp2_with fail
    refine (hasp_yes HP.out _).mono ?_
    rintro e w3 ⟨rfl, rfl⟩
    go_wp2
    go_ret3
    exact ⟨by rw [HW.out]; rfl, hb1.trans (hb2.mono hb1.size)⟩
  · have HP : Hid _ := pref_no s i hi hn
    have HD : Hid _ := (tail_dec s i hi).1
    rw [h1] at HD
    have ht := tail_size s i (by omega)
    have HZ : Hid (0 < (s.extract i s.size).size) := by show 0 < (s.extract i s.size).size; omega
    clear hn ht
    rw [h1, h2]
    clear h1 h2
    generalize s.extract i s.size = u at *
    go_enter Tryd.func107, Tryd.ntmps107
    go_wp2_with fail
    refine (first_any u _ HZ.out).mono ?_
    rintro e w1 ⟨rfl, hb1⟩
    rw [HD.out]
    go_wp2_with fail
    refine (iutf_any 65533 _ rfl (HT.out.below hb1)).mono ?_
    rintro e w2 ⟨rfl, hb2⟩
    go_wp2_with fail
    refine (hasp_no HP.out _).mono ?_
    rintro e w3 ⟨rfl, rfl⟩
    go_wp2
    go_ret3
    exact ⟨rfl, hb1.trans (hb2.mono hb1.size)⟩
end Go.Proofs.YtcclollclbegoaaDoor

/-
  Contracts of impl.firstRune, strings.HasPrefix, impl.RuneAt and spec.RuneAt.
-/
import Derived.Test.YtklgagonbehpeaaDoorUtf
import Derived.Test.YtklgagonbehpeaaDoorBegPure
import Derived.Test.YtklgagonbehpeaaDoorAt
import Derived.Lib.OthersKept
namespace Go.Proofs.YtklgagonbehpeaaDoor
open Go.ChangeShapes Go.WideShapes Go.ChangeAt Go.RowKit

set_option maxRecDepth 100000 in
set_option maxHeartbeats 400000 in
theorem hasp_any (s p : ByteArray) (w : World) :
    Calls Tryd.prog 44 #[.string s, .string p] w fun e w' => e = .returned (.bool (prefB s p)) ∧ w' = w := by
  by_cases h : p.size ≤ s.size
  · have hb : prefB s p = ((s.extract 0 p.size).toList == p.toList) := by simp [prefB, h]
    rw [hb]
    clear hb
    have h' : (p.size : Int) ≤ s.size := by omega
    go_enter Tryd.func44, Tryd.ntmps44
    go_wp2
    go_ret
    exact ⟨rfl, rfl⟩
  · have hb : prefB s p = false := by simp [prefB, h]
    rw [hb]
    clear hb
    have h' : (s.size : Int) < p.size := by omega
    go_enter Tryd.func44, Tryd.ntmps44
    go_wp2
    go_ret
    exact ⟨rfl, rfl⟩
theorem tail_byt (s : ByteArray) (i k : Nat) (h : i + k < s.size) : byt (s.extract i s.size) k = byt s (i + k) := by
  have h1 : k < (s.extract i s.size).size := by rw [ByteArray.size_extract]; omega
  rw [byt_eq h1, byt_eq h]
  have e : (s.extract i s.size)[k] = s[i + k] := by
    have := congrArg (fun l : List UInt8 => l[k]?) (Lib.extract_data s i s.size)
    have h2 : (s.extract i s.size).data.toList[k]? = some (s.extract i s.size)[k] := by
      rw [List.getElem?_eq_getElem (by simpa using h1)]; rfl
    have h3 : ((s.data.toList.drop i).take (s.size - i))[k]? = some s[i + k] := by
      rw [List.getElem?_take, if_pos (by omega), List.getElem?_drop, List.getElem?_eq_getElem (by simpa using h)]; rfl
    have h4 := (h2.symm.trans this).trans h3
    exact Option.some.inj h4
  rw [e]
theorem tail_size (s : ByteArray) (i : Nat) (h : i ≤ s.size) : (s.extract i s.size).size = s.size - i := by rw [ByteArray.size_extract]; omega
theorem tail_enc (s : ByteArray) (i : Nat) (h : i ≤ s.size) (r : Int) (w : Nat) : Enc (s.extract i s.size) 0 r w ↔ Enc s i r w := by
  have hz := tail_size s i h
  have b0 : i < s.size → byt (s.extract i s.size) 0 = byt s i := fun hk => tail_byt s i 0 hk
  have b1 : i + 1 < s.size → byt (s.extract i s.size) (0 + 1) = byt s (i + 1) := fun hk => tail_byt s i 1 hk
  have b2 : i + 2 < s.size → byt (s.extract i s.size) (0 + 2) = byt s (i + 2) := fun hk => tail_byt s i 2 hk
  have b3 : i + 3 < s.size → byt (s.extract i s.size) (0 + 3) = byt s (i + 3) := fun hk => tail_byt s i 3 hk
  unfold Enc
  rw [hz]
  constructor
  · rintro ⟨g, h1, ⟨rfl, h2⟩ | ⟨rfl, h2⟩ | ⟨rfl, h2⟩ | ⟨rfl, h2⟩⟩
    · rw [b0 (by omega)] at h2
      exact ⟨g, by omega, .inl ⟨rfl, h2⟩⟩
    · rw [b0 (by omega), b1 (by omega)] at h2
      exact ⟨g, by omega, .inr (.inl ⟨rfl, h2⟩)⟩
    · rw [b0 (by omega), b1 (by omega), b2 (by omega)] at h2
      exact ⟨g, by omega, .inr (.inr (.inl ⟨rfl, h2⟩))⟩
    · rw [b0 (by omega), b1 (by omega), b2 (by omega), b3 (by omega)] at h2
      exact ⟨g, by omega, .inr (.inr (.inr ⟨rfl, h2⟩))⟩
  · rintro ⟨g, h1, ⟨rfl, h2⟩ | ⟨rfl, h2⟩ | ⟨rfl, h2⟩ | ⟨rfl, h2⟩⟩
    · rw [← b0 (by omega)] at h2
      exact ⟨g, by omega, .inl ⟨rfl, h2⟩⟩
    · rw [← b0 (by omega), ← b1 (by omega)] at h2
      exact ⟨g, by omega, .inr (.inl ⟨rfl, h2⟩)⟩
    · rw [← b0 (by omega), ← b1 (by omega), ← b2 (by omega)] at h2
      exact ⟨g, by omega, .inr (.inr (.inl ⟨rfl, h2⟩))⟩
    · rw [← b0 (by omega), ← b1 (by omega), ← b2 (by omega), ← b3 (by omega)] at h2
      exact ⟨g, by omega, .inr (.inr (.inr ⟨rfl, h2⟩))⟩
theorem tail_dec (s : ByteArray) (i : Nat) (h : i < s.size) : decR (s.extract i s.size) 0 = decR s i ∧ decW (s.extract i s.size) 0 = decW s i := by
  have hz := tail_size s i (by omega)
  refine dec_is h ?_
  rcases decode_dec (s.extract i s.size) 0 (by omega) with h1 | ⟨h1, h2, h3⟩
  · exact .inl ((tail_enc s i (by omega) _ _).1 h1)
  · exact .inr ⟨h1, h2, fun r' w' hE => h3 r' w' ((tail_enc s i (by omega) _ _).2 hE)⟩
theorem Enc.len {s : ByteArray} {i : Nat} {r : Int} {w : Nat} (h : Enc s i r w) : w = (encS r).size := by
  rw [encS_size]
  obtain ⟨_, _, ⟨rfl, h1, _⟩ | ⟨rfl, h1, h2, _⟩ | ⟨rfl, h1, h2, _⟩ | ⟨rfl, h1, _⟩⟩ := h
  · rw [encN_1 h1]; rfl
  · rw [encN_2 h1 h2]; rfl
  · rw [encN_3 h1 h2]; rfl
  · rw [encN_4 h1]; rfl
/-- The bytes of a rune begin a text just where they stand at its front. -/
theorem pref_enc (s : ByteArray) (r : Int) (hg : goodB r = true) : prefB s (encS r) = true ↔ Enc s 0 r (encS r).size := by
  unfold prefB
  rw [Bool.and_eq_true, decide_eq_true_eq, beq_iff_eq]
  constructor
  · rintro ⟨h1, h2⟩
    exact (enc_iff s 0 r hg _ (by omega)).2 (by rw [Nat.zero_add]; exact h2.symm)
  · intro h
    have h1 := h.pos
    refine ⟨by omega, ?_⟩
    have := (enc_iff s 0 r hg _ (by omega)).1 h
    rw [Nat.zero_add] at this
    exact this.symm
theorem pref_yes (s : ByteArray) (i : Nat) (h : i < s.size) (hE : Enc s i (decR s i) (decW s i)) : prefB (s.extract i s.size) (encS (decR s i)) = true := by
  rw [pref_enc _ _ hE.1, ← hE.len]
  exact (tail_enc s i (by omega) _ _).2 hE
theorem pref_no (s : ByteArray) (i : Nat) (h : i < s.size) (hn : ∀ r' w', ¬ Enc s i r' w') : prefB (s.extract i s.size) (encS 65533) = false := by
  rw [Bool.eq_false_iff]
  intro hp
  exact hn _ _ ((tail_enc s i (by omega) _ _).1 ((pref_enc _ _ rfl).1 hp))
theorem hasp_yes {s p : ByteArray} (h : prefB s p = true) (w : World) : Calls Tryd.prog 44 #[.string s, .string p] w fun e w' => e = .returned (.bool true) ∧ w' = w := by rw [← h]; exact hasp_any s p w
theorem hasp_no {s p : ByteArray} (h : prefB s p = false) (w : World) : Calls Tryd.prog 44 #[.string s, .string p] w fun e w' => e = .returned (.bool false) ∧ w' = w := by rw [← h]; exact hasp_any s p w
theorem slice_tail (s : ByteArray) (i : Nat) (h2 : i ≤ s.size) (w : World) : (Instr.slice 9 (.string s) (some (.int .i64 i)) none none).run Tryd.prog w = .ok (.string (s.extract i s.size)) w := by
  have h' : (i : Int) ≤ s.size := by omega
  go_simp
end Go.Proofs.YtklgagonbehpeaaDoor

/-
  The first four bytes of a text decide what its first rune is.
-/
import Derived.Test.YtklgagonbehpeaaDoorRAt
namespace Go.Proofs.YtklgagonbehpeaaDoor
open Go
theorem front_byt (s : ByteArray) (k j : Nat) (hk : k ≤ s.size) (hj : j < k) : byt (s.extract 0 k) j = byt s j := by
  have h1 : j < (s.extract 0 k).size := by rw [ByteArray.size_extract]; omega
  have h : j < s.size := by omega
  rw [byt_eq h1, byt_eq h]
  have e : (s.extract 0 k)[j] = s[j] := by
    have := congrArg (fun l : List UInt8 => l[j]?) (Lib.extract_data s 0 k)
    have h2 : (s.extract 0 k).data.toList[j]? = some (s.extract 0 k)[j] := by
      rw [List.getElem?_eq_getElem (by simpa using h1)]; rfl
    have h3 : ((s.data.toList.drop 0).take (k - 0))[j]? = some s[j] := by
      rw [List.getElem?_take, if_pos (by omega), List.getElem?_drop, List.getElem?_eq_getElem (by simp; omega)]
      simp only [Nat.zero_add]; rfl
    have h4 := (h2.symm.trans this).trans h3
    exact Option.some.inj h4
  rw [e]
theorem front_size (s : ByteArray) (k : Nat) (h : k ≤ s.size) : (s.extract 0 k).size = k := by rw [ByteArray.size_extract]; omega
theorem front_enc (s : ByteArray) (k : Nat) (hk : k ≤ s.size) (h4 : k = 4 ∨ k = s.size) (r : Int) (w : Nat) : Enc (s.extract 0 k) 0 r w ↔ Enc s 0 r w := by
  have hz := front_size s k hk
  have b0 : 0 < k → byt (s.extract 0 k) 0 = byt s 0 := fun hj => front_byt s k 0 hk hj
  have b1 : 1 < k → byt (s.extract 0 k) (0 + 1) = byt s (0 + 1) := fun hj => front_byt s k 1 hk hj
  have b2 : 2 < k → byt (s.extract 0 k) (0 + 2) = byt s (0 + 2) := fun hj => front_byt s k 2 hk hj
  have b3 : 3 < k → byt (s.extract 0 k) (0 + 3) = byt s (0 + 3) := fun hj => front_byt s k 3 hk hj
  unfold Enc
  rw [hz]
  constructor
  · rintro ⟨g, h1, ⟨rfl, h2⟩ | ⟨rfl, h2⟩ | ⟨rfl, h2⟩ | ⟨rfl, h2⟩⟩
    · rw [b0 (by omega)] at h2
      exact ⟨g, by omega, .inl ⟨rfl, h2⟩⟩
    · rw [b0 (by omega), b1 (by omega)] at h2
      exact ⟨g, by omega, .inr (.inl ⟨rfl, h2⟩)⟩
    · rw [b0 (by omega), b1 (by omega), b2 (by omega)] at h2
      exact ⟨g, by omega, .inr (.inr (.inl ⟨rfl, h2⟩))⟩
    · rw [b0 (by omega), b1 (by omega), b2 (by omega), b3 (by omega)] at h2
      exact ⟨g, by omega, .inr (.inr (.inr ⟨rfl, h2⟩))⟩
  · rintro ⟨g, h1, ⟨rfl, h2⟩ | ⟨rfl, h2⟩ | ⟨rfl, h2⟩ | ⟨rfl, h2⟩⟩
    · rw [← b0 (by omega)] at h2
      exact ⟨g, by omega, .inl ⟨rfl, h2⟩⟩
    · rw [← b0 (by omega), ← b1 (by omega)] at h2
      exact ⟨g, by omega, .inr (.inl ⟨rfl, h2⟩)⟩
    · rw [← b0 (by omega), ← b1 (by omega), ← b2 (by omega)] at h2
      exact ⟨g, by omega, .inr (.inr (.inl ⟨rfl, h2⟩))⟩
    · rw [← b0 (by omega), ← b1 (by omega), ← b2 (by omega), ← b3 (by omega)] at h2
      exact ⟨g, by omega, .inr (.inr (.inr ⟨rfl, h2⟩))⟩
theorem front_dec (s : ByteArray) (k : Nat) (h0 : 0 < k) (hk : k ≤ s.size) (h4 : k = 4 ∨ k = s.size) : decR (s.extract 0 k) 0 = decR s 0 ∧ decW (s.extract 0 k) 0 = decW s 0 := by
  have hz := front_size s k hk
  refine dec_is (by omega) ?_
  rcases decode_dec (s.extract 0 k) 0 (by omega) with h1 | ⟨h1, h2, h3⟩
  · exact .inl ((front_enc s k hk h4 _ _).1 h1)
  · exact .inr ⟨h1, h2, fun r' w' hE => h3 r' w' ((front_enc s k hk h4 _ _).2 hE)⟩
end Go.Proofs.YtklgagonbehpeaaDoor

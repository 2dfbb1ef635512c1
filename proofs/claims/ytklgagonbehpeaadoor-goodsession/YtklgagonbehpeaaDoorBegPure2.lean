/-
  Plain facts: the least rune whose bits begin as a text's do is begun by the text just where some rune is.
-/
import Derived.Test.YtklgagonbehpeaaDoorBegPure
namespace Go.Proofs.YtklgagonbehpeaaDoor
open Go
theorem and_iff {a b : Bool} {p : Prop} (h1 : a = false → ¬ p) (h2 : a = true → (b = true ↔ p)) : (a && b) = true ↔ p := by
  cases a
  · simp [h1 rfl]
  · simpa using h2 rfl
theorem imp_11 (s : ByteArray) (hm : s.size = 1) (h : 192 ≤ byt s 0) (h' : byt s 0 < 224) (R : Int) (hR : R = max ((byt s 0 - 192) * 64) 128) :
    (goodB R && prefB (encS R) s) = true ↔ BegP 1 (byt s 0) (byt s 1) (byt s 2) := by
  have q0 := byt_bd s 0
  refine and_iff (fun hg hB => ?_) (fun hg => ?_)
  · have := goodB_false hg
    unfold BegP at hB
    omega
  · have hr := goodB_true hg
    have he : encN R = [192 + R / 64, 128 + R % 64] := encN_2 (by omega) (by omega)
    rw [pref_bytes, encS_size, he, hm]
    have e : ∀ j x, [192 + R / 64, 128 + R % 64][j]? = some x → 0 ≤ x → x ≤ 255 → byt (encS R) j = x := fun j x hx h0 h1 => by unfold encS; rw [he]; exact byt_nums hx h0 h1
    have e0 := e 0 (192 + R / 64) rfl (by omega) (by omega)
    have split : (∀ j, j < 1 → byt (encS R) j = byt s j) ↔ (192 + R / 64 = byt s 0) := by
      constructor
      · intro hj
        exact e0.symm.trans (hj 0 (by omega))
      · intro hj j hlt
        obtain rfl : j = 0 := by omega
        exact e0.trans hj
    rw [split]
    clear split e he
    simp only [List.length_cons, List.length_nil]
    unfold BegP
    constructor
    · intro hh
      omega
    · intro hh
      omega
theorem imp_21 (s : ByteArray) (hm : s.size = 1) (h : 224 ≤ byt s 0) (h' : byt s 0 < 240) (R : Int) (hR : R = max ((byt s 0 - 224) * 64 * 64) 2048) :
    (goodB R && prefB (encS R) s) = true ↔ BegP 1 (byt s 0) (byt s 1) (byt s 2) := by
  have q0 := byt_bd s 0
  refine and_iff (fun hg hB => ?_) (fun hg => ?_)
  · have := goodB_false hg
    unfold BegP at hB
    omega
  · have hr := goodB_true hg
    have he : encN R = [224 + R / 4096, 128 + R / 64 % 64, 128 + R % 64] := encN_3 (by omega) (by omega)
    rw [pref_bytes, encS_size, he, hm]
    have e : ∀ j x, [224 + R / 4096, 128 + R / 64 % 64, 128 + R % 64][j]? = some x → 0 ≤ x → x ≤ 255 → byt (encS R) j = x := fun j x hx h0 h1 => by unfold encS; rw [he]; exact byt_nums hx h0 h1
    have e0 := e 0 (224 + R / 4096) rfl (by omega) (by omega)
    have split : (∀ j, j < 1 → byt (encS R) j = byt s j) ↔ (224 + R / 4096 = byt s 0) := by
      constructor
      · intro hj
        exact e0.symm.trans (hj 0 (by omega))
      · intro hj j hlt
        obtain rfl : j = 0 := by omega
        exact e0.trans hj
    rw [split]
    clear split e he
    simp only [List.length_cons, List.length_nil]
    unfold BegP
    constructor
    · intro hh
      omega
    · intro hh
      omega
theorem imp_22 (s : ByteArray) (hm : s.size = 2) (h : 224 ≤ byt s 0) (h' : byt s 0 < 240) (R : Int) (hR : R = max (((byt s 0 - 224) * 64 + byt s 1 % 64) * 64) 2048) :
    (goodB R && prefB (encS R) s) = true ↔ BegP 2 (byt s 0) (byt s 1) (byt s 2) := by
  have q0 := byt_bd s 0
  have q1 := byt_bd s 1
  refine and_iff (fun hg hB => ?_) (fun hg => ?_)
  · have := goodB_false hg
    unfold BegP at hB
    omega
  · have hr := goodB_true hg
    have he : encN R = [224 + R / 4096, 128 + R / 64 % 64, 128 + R % 64] := encN_3 (by omega) (by omega)
    rw [pref_bytes, encS_size, he, hm]
    have e : ∀ j x, [224 + R / 4096, 128 + R / 64 % 64, 128 + R % 64][j]? = some x → 0 ≤ x → x ≤ 255 → byt (encS R) j = x := fun j x hx h0 h1 => by unfold encS; rw [he]; exact byt_nums hx h0 h1
    have e0 := e 0 (224 + R / 4096) rfl (by omega) (by omega)
    have e1 := e 1 (128 + R / 64 % 64) rfl (by omega) (by omega)
    have split : (∀ j, j < 2 → byt (encS R) j = byt s j) ↔ (224 + R / 4096 = byt s 0 ∧ 128 + R / 64 % 64 = byt s 1) := by
      constructor
      · intro hj
        exact ⟨e0.symm.trans (hj 0 (by omega)), e1.symm.trans (hj 1 (by omega))⟩
      · intro hj j hlt
        rcases (by omega : j = 0 ∨ j = 1) with rfl | rfl
        · exact e0.trans hj.1
        · exact e1.trans hj.2
    rw [split]
    clear split e he
    simp only [List.length_cons, List.length_nil]
    unfold BegP
    constructor
    · intro hh
      omega
    · intro hh
      omega
theorem imp_31 (s : ByteArray) (hm : s.size = 1) (h : 240 ≤ byt s 0) (h' : byt s 0 ≤ 255) (R : Int) (hR : R = max ((byt s 0 - 240) * 64 * 64 * 64) 65536) :
    (goodB R && prefB (encS R) s) = true ↔ BegP 1 (byt s 0) (byt s 1) (byt s 2) := by
  have q0 := byt_bd s 0
  refine and_iff (fun hg hB => ?_) (fun hg => ?_)
  · have := goodB_false hg
    unfold BegP at hB
    omega
  · have hr := goodB_true hg
    have he : encN R = [240 + R / 262144, 128 + R / 4096 % 64, 128 + R / 64 % 64, 128 + R % 64] := encN_4 (by omega)
    rw [pref_bytes, encS_size, he, hm]
    have e : ∀ j x, [240 + R / 262144, 128 + R / 4096 % 64, 128 + R / 64 % 64, 128 + R % 64][j]? = some x → 0 ≤ x → x ≤ 255 → byt (encS R) j = x := fun j x hx h0 h1 => by unfold encS; rw [he]; exact byt_nums hx h0 h1
    have e0 := e 0 (240 + R / 262144) rfl (by omega) (by omega)
    have split : (∀ j, j < 1 → byt (encS R) j = byt s j) ↔ (240 + R / 262144 = byt s 0) := by
      constructor
      · intro hj
        exact e0.symm.trans (hj 0 (by omega))
      · intro hj j hlt
        obtain rfl : j = 0 := by omega
        exact e0.trans hj
    rw [split]
    clear split e he
    simp only [List.length_cons, List.length_nil]
    unfold BegP
    constructor
    · intro hh
      omega
    · intro hh
      omega
theorem imp_32 (s : ByteArray) (hm : s.size = 2) (h : 240 ≤ byt s 0) (h' : byt s 0 ≤ 255) (R : Int) (hR : R = max (((byt s 0 - 240) * 64 + byt s 1 % 64) * 64 * 64) 65536) :
    (goodB R && prefB (encS R) s) = true ↔ BegP 2 (byt s 0) (byt s 1) (byt s 2) := by
  have q0 := byt_bd s 0
  have q1 := byt_bd s 1
  refine and_iff (fun hg hB => ?_) (fun hg => ?_)
  · have := goodB_false hg
    unfold BegP at hB
    omega
  · have hr := goodB_true hg
    have he : encN R = [240 + R / 262144, 128 + R / 4096 % 64, 128 + R / 64 % 64, 128 + R % 64] := encN_4 (by omega)
    rw [pref_bytes, encS_size, he, hm]
    have e : ∀ j x, [240 + R / 262144, 128 + R / 4096 % 64, 128 + R / 64 % 64, 128 + R % 64][j]? = some x → 0 ≤ x → x ≤ 255 → byt (encS R) j = x := fun j x hx h0 h1 => by unfold encS; rw [he]; exact byt_nums hx h0 h1
    have e0 := e 0 (240 + R / 262144) rfl (by omega) (by omega)
    have e1 := e 1 (128 + R / 4096 % 64) rfl (by omega) (by omega)
    have split : (∀ j, j < 2 → byt (encS R) j = byt s j) ↔ (240 + R / 262144 = byt s 0 ∧ 128 + R / 4096 % 64 = byt s 1) := by
      constructor
      · intro hj
        exact ⟨e0.symm.trans (hj 0 (by omega)), e1.symm.trans (hj 1 (by omega))⟩
      · intro hj j hlt
        rcases (by omega : j = 0 ∨ j = 1) with rfl | rfl
        · exact e0.trans hj.1
        · exact e1.trans hj.2
    rw [split]
    clear split e he
    simp only [List.length_cons, List.length_nil]
    unfold BegP
    constructor
    · intro hh
      omega
    · intro hh
      omega
theorem imp_33 (s : ByteArray) (hm : s.size = 3) (h : 240 ≤ byt s 0) (h' : byt s 0 ≤ 255) (R : Int) (hR : R = max ((((byt s 0 - 240) * 64 + byt s 1 % 64) * 64 + byt s 2 % 64) * 64) 65536) :
    (goodB R && prefB (encS R) s) = true ↔ BegP 3 (byt s 0) (byt s 1) (byt s 2) := by
  have q0 := byt_bd s 0
  have q1 := byt_bd s 1
  have q2 := byt_bd s 2
  refine and_iff (fun hg hB => ?_) (fun hg => ?_)
  · have := goodB_false hg
    unfold BegP at hB
    omega
  · have hr := goodB_true hg
    have he : encN R = [240 + R / 262144, 128 + R / 4096 % 64, 128 + R / 64 % 64, 128 + R % 64] := encN_4 (by omega)
    rw [pref_bytes, encS_size, he, hm]
    have e : ∀ j x, [240 + R / 262144, 128 + R / 4096 % 64, 128 + R / 64 % 64, 128 + R % 64][j]? = some x → 0 ≤ x → x ≤ 255 → byt (encS R) j = x := fun j x hx h0 h1 => by unfold encS; rw [he]; exact byt_nums hx h0 h1
    have e0 := e 0 (240 + R / 262144) rfl (by omega) (by omega)
    have e1 := e 1 (128 + R / 4096 % 64) rfl (by omega) (by omega)
    have e2 := e 2 (128 + R / 64 % 64) rfl (by omega) (by omega)
    have split : (∀ j, j < 3 → byt (encS R) j = byt s j) ↔ (240 + R / 262144 = byt s 0 ∧ 128 + R / 4096 % 64 = byt s 1 ∧ 128 + R / 64 % 64 = byt s 2) := by
      constructor
      · intro hj
        exact ⟨e0.symm.trans (hj 0 (by omega)), e1.symm.trans (hj 1 (by omega)), e2.symm.trans (hj 2 (by omega))⟩
      · intro hj j hlt
        rcases (by omega : j = 0 ∨ j = 1 ∨ j = 2) with rfl | rfl | rfl
        · exact e0.trans hj.1
        · exact e1.trans hj.2.1
        · exact e2.trans hj.2.2
    rw [split]
    clear split e he
    simp only [List.length_cons, List.length_nil]
    unfold BegP
    constructor
    · intro hh
      omega
    · intro hh
      omega
end Go.Proofs.YtklgagonbehpeaaDoor

/-
  Plain facts on numbers, bytes and the bytes of a rune; no program in it. Used by the claims of this seat.
-/
import Derived.Laws.BytesArg
import GoSem.Core.Utf8
namespace Go.Proofs.Ytlkcdcdgpklpoaa
open Go
def goodB (r : Int) : Bool := decide (0 ≤ r ∧ r ≤ 1114111 ∧ ¬ (55296 ≤ r ∧ r ≤ 57343))
theorem goodB_true {r : Int} (h : goodB r = true) : 0 ≤ r ∧ r ≤ 1114111 ∧ ¬ (55296 ≤ r ∧ r ≤ 57343) := of_decide_eq_true h
theorem goodB_mk {r : Int} (h : 0 ≤ r ∧ r ≤ 1114111 ∧ ¬ (55296 ≤ r ∧ r ≤ 57343)) : goodB r = true := decide_eq_true h
theorem goodB_no {r : Int} (h : ¬ (0 ≤ r ∧ r ≤ 1114111 ∧ ¬ (55296 ≤ r ∧ r ≤ 57343))) : goodB r = false := decide_eq_false h
theorem goodB_false {r : Int} (h : goodB r = false) : ¬ (0 ≤ r ∧ r ≤ 1114111 ∧ ¬ (55296 ≤ r ∧ r ≤ 57343)) := by simpa [goodB] using h
def encN (r : Int) : List Int :=
  if r < 128 then [r]
  else if r < 2048 then [192 + r / 64, 128 + r % 64]
  else if r < 65536 then [224 + r / 4096, 128 + r / 64 % 64, 128 + r % 64]
  else [240 + r / 262144, 128 + r / 4096 % 64, 128 + r / 64 % 64, 128 + r % 64]
theorem encN_1 {r : Int} (h : r < 128) : encN r = [r] := by simp [encN, h]
theorem encN_2 {r : Int} (h : 128 ≤ r) (h2 : r < 2048) : encN r = [192 + r / 64, 128 + r % 64] := by
  simp [encN, h2, show ¬ r < 128 by omega]
theorem encN_3 {r : Int} (h : 2048 ≤ r) (h2 : r < 65536) : encN r = [224 + r / 4096, 128 + r / 64 % 64, 128 + r % 64] := by
  simp [encN, h2, show ¬ r < 128 by omega, show ¬ r < 2048 by omega]
theorem encN_4 {r : Int} (h : 65536 ≤ r) : encN r = [240 + r / 262144, 128 + r / 4096 % 64, 128 + r / 64 % 64, 128 + r % 64] := by
  simp [encN, show ¬ r < 128 by omega, show ¬ r < 2048 by omega, show ¬ r < 65536 by omega]
def encS (r : Int) : ByteArray := strOfNums (encN r)
theorem encN_len (r : Int) : 1 ≤ (encN r).length ∧ (encN r).length ≤ 4 := by
  unfold encN; split
  · simp
  · split
    · simp
    · split <;> simp
theorem encS_size (r : Int) : (encS r).size = (encN r).length := strOfNums_size _
end Go.Proofs.Ytlkcdcdgpklpoaa

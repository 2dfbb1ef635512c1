/-
  Codes (chapter 2) as plain functions: whether a decoder is good, the rune at the front of bytes, what feeding and flushing tell.
-/
import Derived.Test.YtklgagonbehpeaaDoorBegPure
namespace Go.Proofs.YtklgagonbehpeaaDoor
open Go
/-- Whether a text is begun, by its bytes. -/
def begB (s : ByteArray) : Bool :=
  decide (s.size = 1 ∧ 194 ≤ byt s 0 ∧ byt s 0 ≤ 244) ||
  (decide (s.size = 2 ∧ 128 ≤ byt s 1 ∧ byt s 1 ≤ 191 ∧ 224 ≤ byt s 0 ∧ byt s 0 ≤ 244 ∧ (byt s 0 = 224 → 160 ≤ byt s 1) ∧ (byt s 0 = 237 → byt s 1 < 160) ∧ (byt s 0 = 240 → 144 ≤ byt s 1) ∧ (byt s 0 = 244 → byt s 1 < 144)) ||
   decide (s.size = 3 ∧ 128 ≤ byt s 1 ∧ byt s 1 ≤ 191 ∧ 128 ≤ byt s 2 ∧ byt s 2 ≤ 191 ∧ 240 ≤ byt s 0 ∧ byt s 0 ≤ 244 ∧ (byt s 0 = 240 → 144 ≤ byt s 1) ∧ (byt s 0 = 244 → byt s 1 < 144)))
theorem begB_iff (s : ByteArray) : begB s = true ↔ BegP s.size (byt s 0) (byt s 1) (byt s 2) := by
  unfold begB BegP
  rw [Bool.or_eq_true, Bool.or_eq_true, decide_eq_true_eq, decide_eq_true_eq, decide_eq_true_eq]
theorem begB_size {s : ByteArray} (h : begB s = true) : 1 ≤ s.size ∧ s.size ≤ 3 := by
  have := (begB_iff s).1 h
  unfold BegP at this
  omega
def codeB (en : Int) : Bool := decide (1 ≤ en ∧ en ≤ 5)
def unitsB (en : Int) : Bool := decide (en = 2 ∨ en = 3)
/-- The unit at a place of a text. -/
def unitN (en : Int) (s : ByteArray) (p : Nat) : Int := if en = 2 then byt s p * 256 + byt s (p + 1) else byt s (p + 1) * 256 + byt s p
def highB (n : Int) : Bool := decide (55296 ≤ n ∧ n ≤ 56319)
def lowB (n : Int) : Bool := decide (56320 ≤ n ∧ n ≤ 57343)
theorem unitN_bd (en : Int) (s : ByteArray) (p : Nat) : 0 ≤ unitN en s p ∧ unitN en s p ≤ 65535 := by
  have h1 := byt_bd s p
  have h2 := byt_bd s (p + 1)
  unfold unitN
  split <;> omega
def goodD (en sh lo : Int) (held : ByteArray) : Bool :=
  codeB en && decide (0 ≤ sh ∧ sh ≤ 1) && decide (0 ≤ lo ∧ lo ≤ 1000) && (decide (en = 5) || decide (sh + lo ≤ 0)) &&
    (if en = 1 then decide (held.size = 0) || begB held
     else if unitsB en then decide (held.size < 2) || (decide (held.size < 4) && highB (unitN en held 0))
     else decide (held.size = 0))
/-- The rune at the front and how many bytes it takes, none where it has not ended. -/
def oneS (en : Int) (s : ByteArray) : Int × Nat :=
  if en = 1 then (if begB s then (0, 0) else (decR s 0, decW s 0))
  else if s.size < 2 then (0, 0)
  else if lowB (unitN en s 0) then (65533, 2)
  else if highB (unitN en s 0) = false then (unitN en s 0, 2)
  else if s.size < 4 then (0, 0)
  else if lowB (unitN en s 2) then (65536 + (unitN en s 0 - 55296) * 1024 + unitN en s 2 - 56320, 4)
  else (65533, 2)
def shiftedN (sh b : Int) : Int := if b < 32 ∨ (b < 128 ∧ sh = 0) then b else if sh = 1 ∧ b ≤ 126 then 12352 + b - 32 else 65533
/-- Feeding, where a rune may be longer than a byte: runes, lengths, what is held. -/
def feedU (en : Int) : Nat → ByteArray → List Int × List Int × ByteArray
  | 0, s => ([], [], s)
  | f + 1, s =>
    if s.size = 0 then ([], [], s)
    else if (oneS en s).2 = 0 then ([], [], s)
    else ((oneS en s).1 :: (feedU en f (s.extract (oneS en s).2 s.size)).1, ((oneS en s).2 : Int) :: (feedU en f (s.extract (oneS en s).2 s.size)).2.1, (feedU en f (s.extract (oneS en s).2 s.size)).2.2)
/-- Feeding byte by byte: runes, lengths, shift, loose. -/
def feedB (en : Int) : List UInt8 → Int → Int → List Int × List Int × Int × Int
  | [], sh, lo => ([], [], sh, lo)
  | b :: t, sh, lo =>
    if en = 5 ∧ ((b.toNat : Int) = 14 ∨ (b.toNat : Int) = 15) then feedB en t (15 - b.toNat) (lo + 1)
    else ((if en = 5 then shiftedN sh b.toNat else (b.toNat : Int)) :: (feedB en t sh 0).1, (lo + 1) :: (feedB en t sh 0).2.1, (feedB en t sh 0).2.2.1, (feedB en t sh 0).2.2.2)
/-- What is left, told as no runes: one a byte, or one a unit. -/
def flushN (u : Bool) : Nat → Nat → List Int
  | 0, _ => []
  | _ + 1, 0 => []
  | f + 1, n + 1 => if u && decide (0 < n) then 2 :: flushN u f (n - 1) else 1 :: flushN u f n
end Go.Proofs.YtklgagonbehpeaaDoor

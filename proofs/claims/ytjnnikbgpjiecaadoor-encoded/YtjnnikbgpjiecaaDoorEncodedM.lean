/-
  For every two lists of bytes, laws.FnEncoded returns true: what a drawn list of numbers is written as in a drawn code is read from it again, or the first one that cannot be written is told; and DecodeAll, GuessCode and NewDecoder answer at drawn arguments as the specification's. Condition: the two package-level tables of forms hold what the program's text lays in them (tied to the text by the given card).
-/
import Derived.Test.YtjnnikbgpjiecaaDoorD2Dec
import Derived.Test.YtjnnikbgpjiecaaDoorAlls
import Derived.Test.YtjnnikbgpjiecaaDoorTxt
import Derived.Test.YtjnnikbgpjiecaaDoorCur4
import Derived.Deep.DeepCutAuto
import Derived.Test.YtjnnikbgpjiecaaDoorD2FeedD
import Derived.Test.YtjnnikbgpjiecaaDoorI2FeedD
import Derived.Test.YtjnnikbgpjiecaaDoorI2Flush
import Derived.Test.YtjnnikbgpjiecaaDoorI2Code
import Derived.Test.YtjnnikbgpjiecaaDoorUtf
import Derived.Deep.RegionWith
import Derived.Test.YtjnnikbgpjiecaaDoorMarks2
import Derived.Test.YtjnnikbgpjiecaaDoorTof
import Derived.Test.YtjnnikbgpjiecaaDoorRAt
import Derived.Test.YtjnnikbgpjiecaaDoorFrame
import Derived.ChangeOld
namespace Go.Proofs.YtjnnikbgpjiecaaDoor
open Go.ChangeShapes Go.WideShapes Go.ChangeAt Go.RowKit
theorem run_append_row {P : Program} (w : World) (base : Nat) (t ty e : TypeId) (i : TypeInfo) (z : Value) (size bytes : Nat) (ht : P.underlying t = some (.slice e)) (hi : P.info? e = some i) (hz : i.zero = some z)
    (hsize : i.size = size) (hby : i.bytes = bytes) (hzs : z.cells.size = size) (hsz : 0 < size)
    (v : Value) (n : Nat) (xs : List Value) (hown : w.ownsRow base e size v n xs)
    (base' : Nat) (u : Value) (m : Nat) (news : List Value) (hu : w.ownsRow base' e size u m news) (h1 : ∀ u ∈ news, u.oneCell' = true)
    (h63 : n + m ≤ maxLen) (hbytes : (n + m) * bytes ≤ 140737488355328) (hbase : base ≤ w.heap.size) :
    ∃ v' w', (Builtin.append_ #[t, t] ty #[v, u]).run P w = .ok v' w' ∧ w'.ownsRow base e size v' (n + m) (xs ++ news) ∧ w.grownBy w' v.ownBlock ∧ (v'.ownBlock = v.ownBlock ∨ v'.ownBlock = some w.heap.size) := by
  have hl := hu.1
  rcases hu.2 with ⟨rfl, rfl⟩ | ⟨g, cap, cur, rfl, hb, hg, hrest⟩
  · have hx : news = [] := List.eq_nil_of_length_eq_zero (by simpa using hl)
    subst hx
    refine ⟨v, w, ?_, by simpa using hown, ⟨rfl, rfl, rfl, Nat.le_refl _, fun _ _ _ => rfl⟩, Or.inl rfl⟩
    rcases hown.2 with ⟨rfl, rfl⟩ | ⟨g, cap, cur, rfl, hbg, hg, hnc, hcm, hcs, htake⟩
    · simp [Builtin.append_, run_underlying ht, sizeOf, typeInfo, hi, Builtin.lenOf, Builtin.firstCells]
    · simp [Builtin.append_, run_underlying ht, sizeOf, typeInfo, hi, Builtin.lenOf, Builtin.firstCells, storeCells, hnc]
  · obtain ⟨v', w', h1', h2', h3', -, h5'⟩ := run_append_own_at (P := P) w base t ty e i z size bytes ht hi hz hsize hby hzs hsz v n xs hown ⟨g, 0, none⟩ m cap news hl (hu.cells (g := g) rfl) h1 h63 hbytes hbase
    exact ⟨v', w', h1', h2', h3', h5'⟩
theorem wpList_append_row {P : Program} (w : World) {ops : Array Oper} {rest : List Oper} {o : Oper} {a : Act} {Q : Exit → Act → World → Prop} (hgd : o.guard = none) (s x : Operand) (t : TypeId)
    (ho : o.op = .call { callee := .builtin .append, args := #[s, x], argTypes := #[t, t] })
    (base : Nat) (e : TypeId) (i : TypeInfo) (z : Value) (size bytes : Nat) (ht : P.underlying t = some (.slice e)) (hi : P.info? e = some i) (hz : i.zero = some z)
    (hsize : i.size = size) (hby : i.bytes = bytes) (hzs : z.cells.size = size) (hsz : 0 < size)
    (v : Value) (n : Nat) (xs : List Value) (hs : a.eval s = v) (hown : w.ownsRow base e size v n xs)
    (base' : Nat) (u : Value) (m : Nat) (news : List Value) (hx : a.eval x = u) (hu : w.ownsRow base' e size u m news) (h1 : ∀ u ∈ news, u.oneCell' = true)
    (h63 : n + m ≤ maxLen) (hbytes : (n + m) * bytes ≤ 140737488355328) (hbase : base ≤ w.heap.size)
    (h : ∀ v' w', w'.ownsRow base e size v' (n + m) (xs ++ news) → w.grownBy w' v.ownBlock → (v'.ownBlock = v.ownBlock ∨ v'.ownBlock = some w.heap.size) → wpList P ops Q rest (a.put o.dst v') w') :
    wpList P ops Q (o :: rest) a w := by
  refine wpList_plain hgd fun K hK => ?_
  obtain ⟨v', w', hr, h2, h3, h5⟩ := run_append_row (P := P) w base t o.type e i z size bytes ht hi hz hsize hby hzs hsz v n xs hown base' u m news hu h1 h63 hbytes hbase
  unfold Oper.wp execOp
  simp only [ho, resolve, invoke, builtin, Sem.run_bind, Sem.run_pure, Result.andThen_ok, List.map_toArray, List.map_cons, List.map_nil, hs, hx, hr]
  exact hK _ _ (h v' w' h2 h3 h5)
theorem ints_one (L : List Int) : ∀ u ∈ ints L, u.oneCell' = true := fun u hu => by
  obtain ⟨x, _, rfl⟩ := List.mem_map.1 hu
  rfl
end Go.Proofs.YtjnnikbgpjiecaaDoor
namespace Go.Proofs.YtjnnikbgpjiecaaDoor
open Go.ChangeShapes Go.WideShapes Go.ChangeAt Go.RowKit
theorem feedU_hsz (en : Int) : ∀ (f : Nat) (x : ByteArray), (feedU en f x).2.2.size ≤ x.size
  | 0, x => Nat.le_refl _
  | f + 1, x => by
    unfold feedU
    split
    · exact Nat.le_refl _
    · split
      · exact Nat.le_refl _
      · have h := feedU_hsz en f (x.extract (oneS en x).2 x.size)
        rw [ByteArray.size_extract] at h
        show (feedU en f (x.extract (oneS en x).2 x.size)).2.2.size ≤ x.size
        omega
theorem feedD_sizes (en sh lo : Int) (held s : ByteArray) (hs : s.size ≤ 1000) (hh : held.size ≤ 3) : (feedD en sh lo held s).held.size ≤ 1003 ∧ (feedD en sh lo held s).rs.length ≤ 1003 ∧ (feedD en sh lo held s).ls.length ≤ 1003 := by
  unfold feedD
  split
  · have h := feedB_len en s.data.toList sh lo
    have e : s.data.toList.length = s.size := by simp
    refine ⟨?_, ?_, ?_⟩
    · show held.size ≤ _; omega
    · show (feedB en s.data.toList sh lo).1.length ≤ _; omega
    · show (feedB en s.data.toList sh lo).2.1.length ≤ _; omega
  · have h := feedU_len en (held ++ s).size (held ++ s)
    have h' := feedU_hsz en (held ++ s).size (held ++ s)
    have e := ByteArray.size_append (a := held) (b := s)
    refine ⟨?_, ?_, ?_⟩
    · show (feedU en (held ++ s).size (held ++ s)).2.2.size ≤ _; omega
    · show (feedU en (held ++ s).size (held ++ s)).1.length ≤ _; omega
    · show (feedU en (held ++ s).size (held ++ s)).2.1.length ≤ _; omega
theorem goodD_new (en : Int) (h : codeB en = true) : goodD en 0 0 ⟨#[]⟩ = true := by
  unfold goodD
  rw [h]
  have : (⟨#[]⟩ : ByteArray).size = 0 := rfl
  simp [this]
set_option maxRecDepth 100000 in
set_option maxHeartbeats 1000000 in
theorem decode_any (en : Int) (s : ByteArray) (w : World) (hc : codeB en = true) (hs : s.size ≤ 1000) (R : FedR) (hR : feedD en 0 0 ⟨#[]⟩ s = R) (hh : R.held.size ≤ 2000) (n1 : R.rs.length ≤ 2000) (n2 : R.ls.length ≤ 2000) (F : List Int) (hF : flushN (unitsB en) R.held.size R.held.size = F) :
    Calls Tryd.prog 65 #[.int .i64 en, .string s] w fun e w' => ∃ v1 v2, e = .returned (.tuple #[v1, v2]) ∧ Two w.heap.size w' v1 (R.rs ++ bads F.length) v2 (R.ls ++ F) ∧ Below w.heap.size w w' := by
  obtain ⟨i0, hi, hz0, hz1, hz2⟩ := info_parts Tryd.info3
  have H1 : Hid (∀ w : World, _) := fun w => feed_any en 0 0 ⟨#[]⟩ s w (goodD_new en hc) hs
  rw [hR] at H1
  have H2 : Hid (∀ w : World, _) := fun w => flush_any en R.sh R.lo R.held w hh
  rw [hF] at H2
  have n3 : F.length ≤ 2000 := by have := flushN_len (unitsB en) R.held.size R.held.size; rw [hF] at this; omega
  clear hc hs hR hF hh
  go_enter Tryd.func65, Tryd.ntmps65
  go_wp2_with fail
  refine (H1.out _).mono ?_
  rintro e w1 ⟨v1, v2, rfl, T1, b1⟩
  go_wp2_with fail
  refine (H2.out _).mono ?_
  rintro e w2 ⟨v3, v4, rfl, T2, b2⟩
  have T1' := ((T1.alloc (.cells #[.int .i64 en, .int .i64 R.sh, .int .i64 R.lo, .string R.held] 25)).below b2).alloc (.cells #[.int .i64 en, .int .i64 R.sh, .int .i64 R.lo, .string ⟨#[]⟩] 25)
  have T2' := T2.alloc (.cells #[.int .i64 en, .int .i64 R.sh, .int .i64 R.lo, .string ⟨#[]⟩] 25)
  have hb2 := ((b1.alloc b1.size _).trans (b2.mono (by have := b1.size; simp; omega))).alloc (by have := b1.size; have := b2.size; simp at this ⊢; omega) (.cells #[.int .i64 en, .int .i64 R.sh, .int .i64 R.lo, .string ⟨#[]⟩] 25)
  have far : v4.ownBlock = none ∨ v4.ownBlock ≠ v1.ownBlock := by
    cases h4 : v4.ownBlock with
    | none => exact .inl rfl
    | some g =>
      refine .inr (fun e => ?_)
      have a1 := (T1.a.lt g e.symm).2
      have a2 := (T2.b.lt g h4).1
      simp at a2
      omega
  have hsz := hb2.size
  clear T1 T2 b1 b2
  go_wp2_with (at_builtin; refine wpList_append_row _ rfl _ _ 28 rfl w.heap.size 3 i0 (.int .i64 0) 1 8 Tryd.underlying28 hi hz0 hz1 hz2 rfl (by decide) _ _ _ rfl T1'.a _ _ _ _ rfl T2'.a (ints_one _) ?c3 ?c4 ?c5 ?_)
  case c3 => rw [bads_len]; unfold maxLen; omega
  case c4 => rw [bads_len]; omega
  case c5 => exact hsz
  intro v1' w3 hown3 hgrow hat
  have T3 := T1'.push (M := bads F.length) hown3 rfl hgrow (by simpa using hat)
  have hv4 := T2'.b.kept hgrow far
  have hb3 := Below.grown_row hb2 T1'.a hgrow hsz (Nat.le_refl _)
  clear hown3 hgrow hat T1' T2' hb2 hsz far
  have hsz := hb3.size
  go_wp2_with (at_builtin; refine wpList_append_row _ rfl _ _ 28 rfl w.heap.size 3 i0 (.int .i64 0) 1 8 Tryd.underlying28 hi hz0 hz1 hz2 rfl (by decide) _ _ _ rfl T3.b _ _ _ _ rfl hv4 (ints_one _) ?c3 ?c4 ?c5 ?_)
  case c3 => unfold maxLen; omega
  case c4 => omega
  case c5 => exact hsz
  intro v2' w4 hown4 hgrow hat
  have T4 := (T3.swap.push (M := F) hown4 rfl hgrow hat).swap
  have hb4 := Below.grown_row hb3 T3.b hgrow hsz (Nat.le_refl _)
  go_wp2
  go_ret2
  exact ⟨v1', v2', rfl, T4, hb4⟩
/-- What all bytes at once become. -/
def decRs (en : Int) (s : ByteArray) : List Int := (feedD en 0 0 ⟨#[]⟩ s).rs ++ bads (flushN (unitsB en) (feedD en 0 0 ⟨#[]⟩ s).held.size (feedD en 0 0 ⟨#[]⟩ s).held.size).length
def decLs (en : Int) (s : ByteArray) : List Int := (feedD en 0 0 ⟨#[]⟩ s).ls ++ flushN (unitsB en) (feedD en 0 0 ⟨#[]⟩ s).held.size (feedD en 0 0 ⟨#[]⟩ s).held.size
theorem decode_all (en : Int) (s : ByteArray) (w : World) (hc : codeB en = true) (hs : s.size ≤ 1000) :
    Calls Tryd.prog 65 #[.int .i64 en, .string s] w fun e w' => ∃ v1 v2, e = .returned (.tuple #[v1, v2]) ∧ Two w.heap.size w' v1 (decRs en s) v2 (decLs en s) ∧ Below w.heap.size w w' := by
  have h := feedD_sizes en 0 0 ⟨#[]⟩ s hs (Nat.zero_le _)
  exact decode_any en s w hc hs _ rfl (by omega) (by omega) (by omega) _ rfl
set_option maxRecDepth 100000 in
set_option maxHeartbeats 1000000 in
theorem decA_bad (en : Int) (s : ByteArray) (w : World) (hc : codeB en = false) :
    Calls Tryd.prog 27 #[.int .i64 en, .string s] w fun e w' => e = .returned (.tuple #[.slice none 0 0, .slice none 0 0, .bool false]) ∧ w' = w := by
  have HC : Hid _ := hc
  clear hc
  go_enter Tryd.func27, Tryd.ntmps27
  go_wp2_with fail
  refine (code_any _ _).mono ?_
  rintro e w1 ⟨rfl, rfl⟩
  rw [HC.out]
  go_wp2
  exact bodyPost_ret (v := .tuple #[.slice none 0 0, .slice none 0 0, .bool false]) (by simp [results, Tryd.results27, go_sem]) rfl ⟨rfl, rfl⟩
set_option maxRecDepth 100000 in
set_option maxHeartbeats 1000000 in
theorem decA_long (en : Int) (s : ByteArray) (w : World) (hc : codeB en = true) (hs : ¬ s.size ≤ 1000) :
    Calls Tryd.prog 27 #[.int .i64 en, .string s] w fun e w' => e = .returned (.tuple #[.slice none 0 0, .slice none 0 0, .bool false]) ∧ w' = w := by
  have HC : Hid _ := hc
  have HS : Hid _ := decide_eq_false (by omega : ¬ (s.size : Int) ≤ 1000)
  clear hc hs
  go_enter Tryd.func27, Tryd.ntmps27
  go_wp2_with fail
  refine (code_any _ _).mono ?_
  rintro e w1 ⟨rfl, rfl⟩
  rw [HC.out]
  go_wp2_with fail
  refine (text_any _ _).mono ?_
  rintro e w2 ⟨rfl, rfl⟩
  rw [HS.out]
  go_wp2
  exact bodyPost_ret (v := .tuple #[.slice none 0 0, .slice none 0 0, .bool false]) (by simp [results, Tryd.results27, go_sem]) rfl ⟨rfl, rfl⟩
set_option maxRecDepth 100000 in
set_option maxHeartbeats 1000000 in
theorem decA_yes (en : Int) (s : ByteArray) (w : World) (hc : codeB en = true) (hs : s.size ≤ 1000) :
    Calls Tryd.prog 27 #[.int .i64 en, .string s] w fun e w' => ∃ v1 v2, e = .returned (.tuple #[v1, v2, .bool true]) ∧ Two w.heap.size w' v1 (decRs en s) v2 (decLs en s) ∧ Below w.heap.size w w' := by
  have HC : Hid _ := hc
  have HS : Hid _ := decide_eq_true (by omega : (s.size : Int) ≤ 1000)
  have HF : Hid (∀ w : World, _) := fun w => decode_all en s w hc hs
  clear hc hs
  go_enter Tryd.func27, Tryd.ntmps27
  go_wp2_with fail
  refine (code_any _ _).mono ?_
  rintro e w1 ⟨rfl, rfl⟩
  rw [HC.out]
  go_wp2_with fail
  refine (text_any _ _).mono ?_
  rintro e w2 ⟨rfl, rfl⟩
  rw [HS.out]
  go_wp2_with fail
  refine (HF.out _).mono ?_
  rintro e w3 ⟨v1, v2, rfl, T, b3⟩
  go_wp2
  exact bodyPost_ret (v := .tuple #[v1, v2, .bool true]) (by simp [results, Tryd.results27, go_sem]) rfl ⟨v1, v2, rfl, T, b3⟩
end Go.Proofs.YtjnnikbgpjiecaaDoor
namespace Go.Proofs.YtjnnikbgpjiecaaDoor
open Go.ChangeShapes Go.WideShapes Go.ChangeAt Go.RowKit
def pairS (en n : Int) : ByteArray := if en = 2 then strOfNums [n / 256, n % 256] else strOfNums [n % 256, n / 256]
/-- The bytes of a rune in a code, the shift behind, and whether it can be written. -/
structure PutR where
  s : ByteArray
  sh : Int
  ok : Bool
def putS (en sh r : Int) : PutR :=
  if en = 1 then ⟨encS r, 0, true⟩
  else if unitsB en then (if r < 65536 then ⟨pairS en r, 0, true⟩ else ⟨pairS en (55296 + (r - 65536) / 1024) ++ pairS en (56320 + (r - 65536) % 1024), 0, true⟩)
  else if en = 4 then ⟨strOfNums [r % 256], 0, decide (r < 256)⟩
  else if r < 32 then ⟨strOfNums [r], sh, decide (r ≠ 14 ∧ r ≠ 15)⟩
  else if 12352 ≤ r ∧ r ≤ 12446 then ⟨if sh = 1 then strOfNums [r - 12352 + 32] else strOfNums [14] ++ strOfNums [r - 12352 + 32], 1, true⟩
  else if r ≤ 126 then ⟨if sh = 0 then strOfNums [r] else strOfNums [15] ++ strOfNums [r], 0, true⟩
  else ⟨⟨#[]⟩, 0, false⟩
theorem strOf_size (l : List Int) : (strOfNums l).size = l.length := strOfNums_size _
theorem pairS_size (en n : Int) : (pairS en n).size = 2 := by unfold pairS; split <;> rw [strOf_size] <;> rfl
theorem putS_size (en sh r : Int) : (putS en sh r).s.size ≤ 4 := by
  unfold putS
  have h1 := encS_size r
  have h2 := encN_len r
  have h3 := pairS_size en r
  have h4 := pairS_size en (55296 + (r - 65536) / 1024)
  have h5 := pairS_size en (56320 + (r - 65536) % 1024)
  repeat' split
  all_goals simp only [ByteArray.size_append, strOf_size, List.length_cons, List.length_nil]
  all_goals first | omega | exact Nat.zero_le _
theorem conv_1b (w : World) (x a : Int) : (convert 22 9 (.slice (some ⟨w.heap.size + 1, 0, none⟩) 1 1)).run Tryd.prog ((w.alloc (.cells #[.int .u8 x] 5)).alloc (.cells #[.int .u8 a] 5)) = .ok (.string (strOfNums [a])) ((w.alloc (.cells #[.int .u8 x] 5)).alloc (.cells #[.int .u8 a] 5)) := by
  have := conv_1 (w.alloc (.cells #[.int .u8 x] 5)) a
  rwa [show (w.alloc (.cells #[.int .u8 x] 5)).heap.size = w.heap.size + 1 by simp] at this
set_option maxRecDepth 100000 in
set_option maxHeartbeats 400000 in
theorem pair_any (en n : Int) (w : World) (h0 : 0 ≤ n) (h1 : n ≤ 65535) :
    Calls Tryd.prog 82 #[.int .i64 en, .int .i64 n] w fun e w' => e = .returned (.string (pairS en n)) ∧ Below w.heap.size w w' := by
  have c2 := conv_2
  have q1 : 0 ≤ n / 256 ∧ n / 256 ≤ 255 := by omega
  have q2 : 0 ≤ n % 256 ∧ n % 256 ≤ 255 := by omega
  unfold pairS
  by_cases h2 : en = 2
  · subst h2
    rw [if_pos rfl]
    go_enter Tryd.func82, Tryd.ntmps82
    go_wp2
    go_ret
    exact ⟨rfl, (Below.refl _ _).alloc (Nat.le_refl _) _⟩
  · have b2 : (en == 2) = false := by rw [beq_eq_false_iff_ne]; exact h2
    rw [if_neg h2]
    clear h2
    go_enter Tryd.func82, Tryd.ntmps82
    go_wp2
    go_ret
    exact ⟨rfl, (Below.refl _ _).alloc (Nat.le_refl _) _⟩
set_option maxRecDepth 100000 in
set_option maxHeartbeats 1000000 in
theorem put_any (en sh r : Int) (w : World) (h0 : 0 ≤ r) (hh : r ≤ 1114111) :
    Calls Tryd.prog 64 #[.int .i64 en, .int .i64 sh, .int .i64 r] w fun e w' => e = .returned (.tuple #[.string (putS en sh r).s, .int .i64 (putS en sh r).sh, .bool (putS en sh r).ok]) ∧ Below w.heap.size w w' := by
  have c1 := conv_1
  have c1b := conv_1b
  by_cases h1 : en = 1
  · subst h1
    rw [show putS 1 sh r = ⟨encS r, 0, true⟩ from by simp [putS]]
    have HU : Hid (∀ w : World, _) := fun w => utf8_any r w h0 hh
    go_enter Tryd.func64, Tryd.ntmps64
    go_wp2_with fail
    refine (HU.out _).mono ?_
    rintro e w1 ⟨rfl, b1⟩
    go_wp2
    go_ret3
    exact ⟨rfl, b1⟩
  · have e1 : (en == 1) = false := by rw [beq_eq_false_iff_ne]; exact h1
    cases hu : unitsB en
    · have HU : Hid _ := hu
      by_cases h4 : en = 4
      · subst h4
        rw [show putS 4 sh r = ⟨strOfNums [r % 256], 0, decide (r < 256)⟩ from by simp [putS, hu]]
        clear hu h1
        go_enter Tryd.func64, Tryd.ntmps64
        go_wp2_with (go_at_call 50; refine (units_any _ _).mono ?_; rintro e w1 ⟨rfl, rfl⟩; rw [HU.out])
        go_ret3
        exact ⟨rfl, (Below.refl _ _).alloc (Nat.le_refl _) _⟩
      · have e4 : (en == 4) = false := by rw [beq_eq_false_iff_ne]; exact h4
        by_cases h32 : r < 32
        · rw [show putS en sh r = ⟨strOfNums [r], sh, decide (r ≠ 14 ∧ r ≠ 15)⟩ from by simp [putS, h1, hu, h4, h32]]
          have tst : ((r != 14) = false ∨ ((r != 14) = true ∧ (r != 15) = false) ∨ ((r != 14) = true ∧ (r != 15) = true)) := by
            cases (r != 14) <;> cases (r != 15) <;> simp
          have HD : Hid ((r != 14 && r != 15) = decide (r ≠ 14 ∧ r ≠ 15)) := by
            show _ = _
            by_cases a : r = 14 <;> by_cases b : r = 15 <;> simp [a, b]
          clear hu h1 h4
          rcases tst with t1 | ⟨t1, t2⟩ | ⟨t1, t2⟩
          · rw [← HD.out, t1]
            go_enter Tryd.func64, Tryd.ntmps64
            go_wp2_with (go_at_call 50; refine (units_any _ _).mono ?_; rintro e w1 ⟨rfl, rfl⟩; rw [HU.out])
            go_ret3
            exact ⟨rfl, (Below.refl _ _).alloc (Nat.le_refl _) _⟩
          · rw [← HD.out, t1, t2]
            go_enter Tryd.func64, Tryd.ntmps64
            go_wp2_with (go_at_call 50; refine (units_any _ _).mono ?_; rintro e w1 ⟨rfl, rfl⟩; rw [HU.out])
            go_ret3
            exact ⟨rfl, (Below.refl _ _).alloc (Nat.le_refl _) _⟩
          · rw [← HD.out, t1, t2]
            go_enter Tryd.func64, Tryd.ntmps64
            go_wp2_with (go_at_call 50; refine (units_any _ _).mono ?_; rintro e w1 ⟨rfl, rfl⟩; rw [HU.out])
            go_ret3
            exact ⟨rfl, (Below.refl _ _).alloc (Nat.le_refl _) _⟩
        · by_cases hk : 12352 ≤ r ∧ r ≤ 12446
          · have HK : Hid _ := decide_eq_true hk
            have HB : Hid _ := decide_eq_true (by omega : 32 ≤ r - 12352 + 32 ∧ r - 12352 + 32 ≤ 126)
            have hz : ¬ 9223372036854775807 < (strOfNums [14]).size + (strOfNums [r - 12352 + 32]).size := by rw [strOf_size, strOf_size]; simp
            by_cases hsh : sh = 1
            · subst hsh
              rw [show putS en 1 r = ⟨strOfNums [r - 12352 + 32], 1, true⟩ from by simp [putS, h1, hu, h4, h32, hk]]
              obtain ⟨k1, k2⟩ := hk
              clear hu h1 h4
              go_enter Tryd.func64, Tryd.ntmps64
              go_wp2_with (first | (go_at_call 50; refine (units_any _ _).mono ?_; rintro e w1 ⟨rfl, rfl⟩; rw [HU.out]) | (go_at_call 48; refine (in_any _ _ _ _).mono ?_; rintro e w2 ⟨rfl, rfl⟩; first | rw [HK.out] | rw [HB.out]))
              go_ret3
              exact ⟨rfl, (Below.refl _ _).alloc (Nat.le_refl _) _⟩
            · rw [show putS en sh r = ⟨strOfNums [14] ++ strOfNums [r - 12352 + 32], 1, true⟩ from by simp [putS, h1, hu, h4, h32, hk, hsh]]
              have n1 : ((1 : Int) != sh) = true := by rw [bne_iff_ne]; exact fun e => hsh e.symm
              obtain ⟨k1, k2⟩ := hk
              clear hu h1 h4 hsh
              go_enter Tryd.func64, Tryd.ntmps64
              go_wp2_with (first | (go_at_call 50; refine (units_any _ _).mono ?_; rintro e w1 ⟨rfl, rfl⟩; rw [HU.out]) | (go_at_call 48; refine (in_any _ _ _ _).mono ?_; rintro e w2 ⟨rfl, rfl⟩; first | rw [HK.out] | rw [HB.out]))
              go_ret3
              exact ⟨rfl, ((Below.refl _ _).alloc (Nat.le_refl _) _).alloc (by simp) _⟩
          · have HK : Hid _ := decide_eq_false hk
            by_cases h126 : r ≤ 126
            · have HB : Hid _ := decide_eq_true (by omega : 32 ≤ r ∧ r ≤ 126)
              have h126' : ¬ 126 < r := by omega
              have hz : ¬ 9223372036854775807 < (strOfNums [15]).size + (strOfNums [r]).size := by rw [strOf_size, strOf_size]; simp
              by_cases hsh : sh = 0
              · subst hsh
                rw [show putS en 0 r = ⟨strOfNums [r], 0, true⟩ from by simp [putS, h1, hu, h4, h32, hk, h126]]
                clear hu h1 h4 hk
                go_enter Tryd.func64, Tryd.ntmps64
                go_wp2_with (first | (go_at_call 50; refine (units_any _ _).mono ?_; rintro e w1 ⟨rfl, rfl⟩; rw [HU.out]) | (go_at_call 48; refine (in_any _ _ _ _).mono ?_; rintro e w2 ⟨rfl, rfl⟩; first | rw [HK.out] | rw [HB.out]))
                go_ret3
                exact ⟨rfl, (Below.refl _ _).alloc (Nat.le_refl _) _⟩
              · rw [show putS en sh r = ⟨strOfNums [15] ++ strOfNums [r], 0, true⟩ from by simp [putS, h1, hu, h4, h32, hk, h126, hsh]]
                have n1 : ((0 : Int) != sh) = true := by rw [bne_iff_ne]; exact fun e => hsh e.symm
                clear hu h1 h4 hk hsh
                go_enter Tryd.func64, Tryd.ntmps64
                go_wp2_with (first | (go_at_call 50; refine (units_any _ _).mono ?_; rintro e w1 ⟨rfl, rfl⟩; rw [HU.out]) | (go_at_call 48; refine (in_any _ _ _ _).mono ?_; rintro e w2 ⟨rfl, rfl⟩; first | rw [HK.out] | rw [HB.out]))
                go_ret3
                exact ⟨rfl, ((Below.refl _ _).alloc (Nat.le_refl _) _).alloc (by simp) _⟩
            · have HB : Hid _ := decide_eq_false (by omega : ¬ (32 ≤ r ∧ r ≤ 126))
              rw [show putS en sh r = ⟨⟨#[]⟩, 0, false⟩ from by simp [putS, h1, hu, h4, h32, hk, h126]]
              clear hu h1 h4 hk
              go_enter Tryd.func64, Tryd.ntmps64
              go_wp2_with (first | (go_at_call 50; refine (units_any _ _).mono ?_; rintro e w1 ⟨rfl, rfl⟩; rw [HU.out]) | (go_at_call 48; refine (in_any _ _ _ _).mono ?_; rintro e w2 ⟨rfl, rfl⟩; first | rw [HK.out] | rw [HB.out]))
              go_ret3
              exact ⟨rfl, Below.refl _ _⟩
    · have HU : Hid _ := hu
      by_cases h65 : r < 65536
      · rw [show putS en sh r = ⟨pairS en r, 0, true⟩ from by simp [putS, h1, hu, h65]]
        have HP : Hid (∀ w : World, _) := fun w => pair_any en r w h0 (by omega)
        clear hu h1
        go_enter Tryd.func64, Tryd.ntmps64
        go_wp2_with (first | (go_at_call 50; refine (units_any _ _).mono ?_; rintro e w1 ⟨rfl, rfl⟩; rw [HU.out]) | (go_at_call 82; refine (HP.out _).mono ?_; rintro e w2 ⟨rfl, b2⟩))
        go_ret3
        exact ⟨rfl, b2⟩
      · rw [show putS en sh r = ⟨pairS en (55296 + (r - 65536) / 1024) ++ pairS en (56320 + (r - 65536) % 1024), 0, true⟩ from by simp [putS, h1, hu, h65]]
        have HP1 : Hid (∀ w : World, _) := fun w => pair_any en (55296 + (r - 65536) / 1024) w (by omega) (by omega)
        have HP2 : Hid (∀ w : World, _) := fun w => pair_any en (56320 + (r - 65536) % 1024) w (by omega) (by omega)
        have q1 : 0 ≤ (r - 65536) / 1024 ∧ (r - 65536) / 1024 ≤ 1023 := by omega
        have q2 : 0 ≤ (r - 65536) % 1024 ∧ (r - 65536) % 1024 ≤ 1023 := by omega
        obtain ⟨q10, q11⟩ := q1
        obtain ⟨q20, q21⟩ := q2
        have HZ : Hid (¬ 9223372036854775807 < (pairS en (55296 + (r - 65536) / 1024)).size + (pairS en (56320 + (r - 65536) % 1024)).size) := by show ¬ _; rw [pairS_size, pairS_size]; decide
        clear hu h1
        go_enter Tryd.func64, Tryd.ntmps64
        go_wp2_with (first | (go_at_call 50; refine (units_any _ _).mono ?_; rintro e w1 ⟨rfl, rfl⟩; rw [HU.out]))
        refine (HP1.out _).mono ?_
        rintro e w2 ⟨rfl, b2⟩
        go_wp2_with fail
        refine (HP2.out _).mono ?_
        rintro e w3 ⟨rfl, b3⟩
        have hz := HZ.out
        go_wp2
        go_ret3
        exact ⟨rfl, b2.trans (b3.mono b2.size)⟩
end Go.Proofs.YtjnnikbgpjiecaaDoor
namespace Go.Proofs.YtjnnikbgpjiecaaDoor
open Go.ChangeShapes Go.WideShapes Go.ChangeAt Go.RowKit
/-- What writing tells: the text, the number of the first rune that can't be written, whether. -/
structure EncR where
  s : ByteArray
  k : Int
  ok : Bool
def encEnd (sh : Int) (s : ByteArray) : EncR :=
  if (if sh = 1 then s ++ strOfNums [15] else s).size ≤ 1000 then ⟨if sh = 1 then s ++ strOfNums [15] else s, -1, true⟩ else ⟨⟨#[]⟩, 0, false⟩
def encGo (en : Int) : List Int → Nat → Int → ByteArray → EncR
  | [], _, sh, s => encEnd sh s
  | r :: L, k, sh, s => if (putS en sh r).ok then encGo en L (k + 1) (putS en sh r).sh (s ++ (putS en sh r).s) else ⟨⟨#[]⟩, k, true⟩
def encA (en : Int) (L : List Int) : EncR := if codeB en && (allG L && decide (L.length ≤ 1000)) then encGo en L 0 0 ⟨#[]⟩ else ⟨⟨#[]⟩, 0, false⟩
theorem drop_getD (L : List Int) (k : Nat) (h : k < L.length) : L.drop k = L.getD k 0 :: L.drop (k + 1) := by
  rw [List.drop_eq_getElem_cons h]; simp [List.getD, h]
set_option maxRecDepth 100000 in
set_option maxHeartbeats 1000000 in
theorem enc_bad (en : Int) (L : List Int) (ao : Option Addr) (cap : Nat) (w : World) (hc : codeB en = false) :
    Calls Tryd.prog 24 #[.int .i64 en, .slice ao L.length cap] w fun e w' => e = .returned (.tuple #[.string (encA en L).s, .int .i64 (encA en L).k, .bool (encA en L).ok]) ∧ Below w.heap.size w w' := by
  rw [show encA en L = ⟨⟨#[]⟩, 0, false⟩ from by simp [encA, hc]]
  have HC : Hid _ := hc
  clear hc
  go_enter Tryd.func24, Tryd.ntmps24
  go_wp2_with (go_at_call 47; refine (code_any _ _).mono ?_; rintro e w1 ⟨rfl, rfl⟩; rw [HC.out])
  go_ret3
  exact ⟨rfl, Below.refl _ _⟩
set_option maxRecDepth 100000 in
set_option maxHeartbeats 1000000 in
theorem enc_not (en : Int) (L : List Int) (ao : Option Addr) (cap : Nat) (w : World) (hc : codeB en = true) (hl : L.length ≤ 1048576) (hA : IntsAt w ao L) (hn : (allG L && decide (L.length ≤ 1000)) = false) :
    Calls Tryd.prog 24 #[.int .i64 en, .slice ao L.length cap] w fun e w' => e = .returned (.tuple #[.string (encA en L).s, .int .i64 (encA en L).k, .bool (encA en L).ok]) ∧ Below w.heap.size w w' := by
  rw [show encA en L = ⟨⟨#[]⟩, 0, false⟩ from by rw [encA, hn, Bool.and_false]; rfl]
  have HC : Hid _ := hc
  have HN : Hid _ := hn
  have HA : Hid _ := hA
  have HL : Hid _ := hl
  clear hc hn hA hl
  go_enter Tryd.func24, Tryd.ntmps24
  go_wp2_with (first | (go_at_call 47; refine (code_any _ _).mono ?_; rintro e w1 ⟨rfl, rfl⟩; rw [HC.out]) | (go_at_call 63; refine (all_any L ao cap _ HL.out HA.out).mono ?_; rintro e w2 ⟨rfl, b2⟩; rw [HN.out]))
  go_ret3
  exact ⟨rfl, b2⟩
set_option maxRecDepth 100000 in
set_option maxHeartbeats 2000000 in
theorem enc_yes (en : Int) (L : List Int) (ao : Option Addr) (cap : Nat) (w : World) (hc : codeB en = true) (hA : IntsAt w ao L) (hn : (allG L && decide (L.length ≤ 1000)) = true) :
    Calls Tryd.prog 24 #[.int .i64 en, .slice ao L.length cap] w fun e w' => e = .returned (.tuple #[.string (encA en L).s, .int .i64 (encA en L).k, .bool (encA en L).ok]) ∧ Below w.heap.size w w' := by
  have HF : Hid (encA en L = encGo en (L.drop 0) 0 0 ⟨#[]⟩) := by show _ = _; rw [encA, hc, hn]; rfl
  have hn2 := hn
  rw [Bool.and_eq_true] at hn2
  have HG : Hid _ := allG_true hn2.1
  have hl : L.length ≤ 1000 := of_decide_eq_true hn2.2
  generalize encA en L = F at *
  have HC : Hid _ := hc
  have HN : Hid _ := hn
  have HA : Hid _ := hA
  clear hc hn hA hn2
  go_enter Tryd.func24, Tryd.ntmps24
  go_wp2_with (first | (go_at_call 47; refine (code_any _ _).mono ?_; rintro e w1 ⟨rfl, rfl⟩; rw [HC.out]) | (go_at_call 63; refine (all_any L ao cap _ (by omega) HA.out).mono ?_; rintro e w2 ⟨rfl, b2⟩; rw [HN.out]))
  go_loopw [7, 8, 24] (fun sv hv iv wr => ∃ (k : Nat) (s : ByteArray) (sh : Int), k ≤ L.length ∧ sv = .string s ∧ hv = .int .i64 sh ∧ iv = .int .i64 k ∧ s.size ≤ 4 * k ∧ F = encGo en (L.drop k) k sh s ∧ Below w1.heap.size w1 wr) (fun _ _ i _ => L.length - (intOf i).toNat)
  case atStart => exact ⟨0, ⟨#[]⟩, 0, Nat.zero_le _, rfl, rfl, rfl, Nat.zero_le _, HF.out, b2⟩
  case round =>
    obtain ⟨k, s, sh, hk, rfl, rfl, rfl, hsz, hF, hbw⟩ := hrel
    have HE : Hid _ := hF
    clear hF
    by_cases hlt : k < L.length
    · have hltI : (k : Int) < (L.length : Int) := by omega
      obtain ⟨b1, o1, rfl, l1, h1⟩ := HA.out k hlt
      have g1 : wr.cell? ⟨b1, o1 + k, none⟩ = some (.int .i64 (L.getD k 0)) := (hbw.cell (p := ⟨b1, o1 + k, none⟩) l1).trans h1
      have HGR : Hid _ := goodB_true (HG.out (L.getD k 0) (by simp [List.getD, hlt]))
      have HD : Hid _ := drop_getD L k hlt
      clear h1
      generalize L.getD k 0 = r at *
      have HP : Hid (∀ w : World, _) := fun w => put_any en sh r w HGR.out.1 HGR.out.2.1
      have hps := putS_size en sh r
      have HR : Hid (F = if (putS en sh r).ok then encGo en (L.drop (k + 1)) (k + 1) (putS en sh r).sh (s ++ (putS en sh r).s) else ⟨⟨#[]⟩, k, true⟩) := by show _ = _; rw [HE.out, HD.out]; rfl
      generalize putS en sh r = R at *
      have hcat : ¬ 9223372036854775807 < s.size + R.s.size := by omega
      cases hok : R.ok
      · have hF : F = ⟨⟨#[]⟩, k, true⟩ := by rw [HR.out, hok]; rfl
        rw [hok] at HP
        have HF2 : Hid _ := hF
        clear hok hF
        go_wp2_with fail
        refine (HP.out _).mono ?_
        rintro e w3 ⟨rfl, b3⟩
        go_wp2
        go_ret3
        exact ⟨by rw [HF2.out]; rfl, hbw.trans (b3.mono hbw.size)⟩
      · have hF : F = encGo en (L.drop (k + 1)) (k + 1) R.sh (s ++ R.s) := by rw [HR.out, hok]; rfl
        rw [hok] at HP
        have HF2 : Hid _ := hF
        clear hok hF
        go_wp2_with fail
        refine (HP.out _).mono ?_
        rintro e w3 ⟨rfl, b3⟩
        go_wp2
        have hsz2 := ByteArray.size_append (a := s) (b := R.s)
        go_roundw
        case rel => exact ⟨k + 1, s ++ R.s, R.sh, by omega, rfl, rfl, by go_num, by omega, HF2.out, hbw.trans (b3.mono hbw.size)⟩
        case measure => simp [intOf]; omega
    · obtain rfl : k = L.length := by omega
      have hF : F = encEnd sh s := by rw [HE.out, List.drop_length]; rfl
      have c1 := conv_1
      by_cases hsh : sh = 1
      · subst hsh
        have hz15 : (s ++ strOfNums [15]).size = s.size + 1 := by rw [ByteArray.size_append, strOf_size]; rfl
        have hcat : ¬ 9223372036854775807 < s.size + (strOfNums [15]).size := by rw [strOf_size]; simp; omega
        by_cases hlong : s.size + 1 ≤ 1000
        · have hF2 : F = ⟨s ++ strOfNums [15], -1, true⟩ := by rw [hF]; simp [encEnd, hz15, hlong]
          have HF2 : Hid _ := hF2
          have hlI : ¬ (1000 : Int) < ((s ++ strOfNums [15]).size : Int) := by omega
          clear hF hF2
          go_wp2
          go_ret3
          exact ⟨by rw [HF2.out]; rfl, hbw.alloc hbw.size _⟩
        · have hF2 : F = ⟨⟨#[]⟩, 0, false⟩ := by rw [hF]; simp [encEnd, hz15, hlong]
          have HF2 : Hid _ := hF2
          have hlI : (1000 : Int) < ((s ++ strOfNums [15]).size : Int) := by omega
          clear hF hF2
          go_wp2
          go_ret3
          exact ⟨by rw [HF2.out]; rfl, hbw.alloc hbw.size _⟩
      · have n1 : (sh == 1) = false := by rw [beq_eq_false_iff_ne]; exact hsh
        by_cases hlong : s.size ≤ 1000
        · have hF2 : F = ⟨s, -1, true⟩ := by rw [hF]; simp [encEnd, hsh, hlong]
          have HF2 : Hid _ := hF2
          have hlI : ¬ (1000 : Int) < (s.size : Int) := by omega
          clear hF hF2 hsh
          go_wp2
          go_ret3
          exact ⟨by rw [HF2.out]; rfl, hbw⟩
        · have hF2 : F = ⟨⟨#[]⟩, 0, false⟩ := by rw [hF]; simp [encEnd, hsh, hlong]
          have HF2 : Hid _ := hF2
          have hlI : (1000 : Int) < (s.size : Int) := by omega
          clear hF hF2 hsh
          go_wp2
          go_ret3
          exact ⟨by rw [HF2.out]; rfl, hbw⟩
theorem enc_any (en : Int) (L : List Int) (ao : Option Addr) (cap : Nat) (w : World) (hl : L.length ≤ 1048576) (hA : IntsAt w ao L) :
    Calls Tryd.prog 24 #[.int .i64 en, .slice ao L.length cap] w fun e w' => e = .returned (.tuple #[.string (encA en L).s, .int .i64 (encA en L).k, .bool (encA en L).ok]) ∧ Below w.heap.size w w' := by
  cases hc : codeB en
  · exact enc_bad en L ao cap w hc
  · cases hn : (allG L && decide (L.length ≤ 1000))
    · exact enc_not en L ao cap w hc hl hA hn
    · exact enc_yes en L ao cap w hc hA hn
end Go.Proofs.YtjnnikbgpjiecaaDoor
namespace Go.Proofs.YtjnnikbgpjiecaaDoor
open Go.ChangeShapes Go.WideShapes Go.ChangeAt Go.RowKit
set_option maxRecDepth 100000 in
set_option maxHeartbeats 1000000 in
theorem swhole_any (s : ByteArray) (w : World) (hs : s.size ≤ 1000) :
    Calls Tryd.prog 70 #[.string s] w fun e w' => e = .returned (.bool ((textS (runes s)).toList == s.toList)) ∧ Below w.heap.size w w' := by
  have HT : Hid (decide ((s.size : Int) ≤ 1000) = true) := decide_eq_true (by omega)
  have HS : Hid _ := hs
  have HLn : Hid ((runes s).length ≤ 1048576) := by have := runes_len s; show (runes s).length ≤ 1048576; omega
  have HG : Hid _ := runes_good s
  clear hs
  go_enter Tryd.func70, Tryd.ntmps70
  go_wp2_with fail
  refine (text_any s _).mono ?_
  rintro e w1 ⟨rfl, rfl⟩
  rw [HT.out]
  go_wp2_with fail
  refine (runes_any s _ HS.out).mono ?_
  rintro e w2 ⟨v, rfl, hown, hb⟩
  obtain ⟨_, ao, cap, rfl, hA⟩ := ints_of_own hown
  have HA : Hid _ := hA
  have HB : Hid _ := hb
  clear hA hown hb
  go_wp2_with fail
  refine (text_of_any (runes s) _ _ _ HLn.out HG.out HA.out).mono ?_
  rintro e w3 ⟨rfl, b3⟩
  go_wp2
  go_ret
  exact ⟨rfl, Below.trans HB.out (b3.mono (Below.size HB.out))⟩
set_option maxRecDepth 100000 in
set_option maxHeartbeats 1000000 in
theorem swhole_big (s : ByteArray) (w : World) (hs : (1000 : Int) < s.size) :
    Calls Tryd.prog 70 #[.string s] w fun e w' => e = .returned (.bool false) ∧ Below w.heap.size w w' := by
  have HT : Hid (decide ((s.size : Int) ≤ 1000) = false) := decide_eq_false (by omega)
  go_enter Tryd.func70, Tryd.ntmps70
  go_wp2_with fail
  refine (text_any s _).mono ?_
  rintro e w1 ⟨rfl, rfl⟩
  rw [HT.out]
  go_wp2
  go_ret
  exact ⟨rfl, Below.refl _ _⟩
end Go.Proofs.YtjnnikbgpjiecaaDoor
namespace Go.Proofs.YtjnnikbgpjiecaaDoor
open Go.ChangeShapes Go.WideShapes Go.ChangeAt Go.RowKit
theorem slice_to (s : ByteArray) (n : Nat) (N : Int) (hN : N = n) (h : n ≤ s.size) (w : World) : (Instr.slice 9 (.string s) none (some (.int .i64 N)) none).run Tryd.prog w = .ok (.string (s.extract 0 n)) w := by
  subst hN
  have h' : (n : Int) ≤ s.size := by omega
  go_simp
def wholeB (s : ByteArray) : Bool := (textS (runes s)).toList == s.toList
structure GuessR where
  en : Int
  n : Int
  ok : Bool
def guessR (s : ByteArray) : GuessR :=
  if 1000 < s.size then ⟨0, 0, false⟩
  else if 2 ≤ s.size ∧ ((s.extract 0 2).toList == [254, 255]) = true then ⟨2, 2, true⟩
  else if 2 ≤ s.size ∧ ((s.extract 0 2).toList == [255, 254]) = true then ⟨3, 2, true⟩
  else if 3 ≤ s.size ∧ ((s.extract 0 3).toList == [239, 187, 191]) = true then ⟨1, 3, true⟩
  else if wholeB s = true then ⟨1, 0, true⟩ else ⟨4, 0, true⟩
set_option maxRecDepth 100000 in
set_option maxHeartbeats 2000000 in
theorem guess_any (s : ByteArray) (w : World) :
    Calls Tryd.prog 30 #[.string s] w fun e w' => e = .returned (.tuple #[.int .i64 (guessR s).en, .int .i64 (guessR s).n, .bool (guessR s).ok]) ∧ Below w.heap.size w w' := by
  by_cases hs : 1000 < s.size
  · rw [show guessR s = ⟨0, 0, false⟩ from by simp [guessR, hs]]
    have HT : Hid (decide ((s.size : Int) ≤ 1000) = false) := decide_eq_false (by omega)
    go_enter Tryd.func30, Tryd.ntmps30
    go_wp2_with (go_at_call 44; refine (text_any _ _).mono ?_; rintro e w1 ⟨rfl, rfl⟩; rw [HT.out])
    go_ret3
    exact ⟨rfl, Below.refl _ _⟩
  · have HT : Hid (decide ((s.size : Int) ≤ 1000) = true) := decide_eq_true (by omega)
    have HW : Hid (∀ w : World, Calls Tryd.prog 70 #[.string s] w fun e w' => e = .returned (.bool (wholeB s)) ∧ Below w.heap.size w w') := fun w => swhole_any s w (by omega)
    by_cases h2 : 2 ≤ s.size
    · have h2I : (2 : Int) ≤ s.size := by omega
      have sl2 := slice_to s 2 2 rfl h2
      cases m1 : ((s.extract 0 2).toList == [254, 255])
      · cases m2 : ((s.extract 0 2).toList == [255, 254])
        · by_cases h3 : 3 ≤ s.size
          · have h3I : (3 : Int) ≤ s.size := by omega
            have sl3 := slice_to s 3 3 rfl h3
            cases m3 : ((s.extract 0 3).toList == [239, 187, 191])
            · cases hw : wholeB s
              · rw [show guessR s = ⟨4, 0, true⟩ from by simp [guessR, hs, h2, h3, m1, m2, m3, hw]]
                rw [hw] at HW
                clear hs hw
                go_enter Tryd.func30, Tryd.ntmps30
                go_wp2_with (first | (go_at_call 44; refine (text_any _ _).mono ?_; rintro e w1 ⟨rfl, rfl⟩; rw [HT.out]) | (go_at_call 70; refine (HW.out _).mono ?_; rintro e w2 ⟨rfl, b2⟩))
                go_ret3
                exact ⟨rfl, b2⟩
              · rw [show guessR s = ⟨1, 0, true⟩ from by simp [guessR, hs, h2, h3, m1, m2, m3, hw]]
                rw [hw] at HW
                clear hs hw
                go_enter Tryd.func30, Tryd.ntmps30
                go_wp2_with (first | (go_at_call 44; refine (text_any _ _).mono ?_; rintro e w1 ⟨rfl, rfl⟩; rw [HT.out]) | (go_at_call 70; refine (HW.out _).mono ?_; rintro e w2 ⟨rfl, b2⟩))
                go_ret3
                exact ⟨rfl, b2⟩
            · rw [show guessR s = ⟨1, 3, true⟩ from by simp [guessR, hs, h2, h3, m1, m2, m3]]
              clear hs
              go_enter Tryd.func30, Tryd.ntmps30
              go_wp2_with (go_at_call 44; refine (text_any _ _).mono ?_; rintro e w1 ⟨rfl, rfl⟩; rw [HT.out])
              go_ret3
              exact ⟨rfl, Below.refl _ _⟩
          · have h3I : ¬ (3 : Int) ≤ s.size := by omega
            cases hw : wholeB s
            · rw [show guessR s = ⟨4, 0, true⟩ from by simp [guessR, hs, h2, h3, m1, m2, hw]]
              rw [hw] at HW
              clear hs hw
              go_enter Tryd.func30, Tryd.ntmps30
              go_wp2_with (first | (go_at_call 44; refine (text_any _ _).mono ?_; rintro e w1 ⟨rfl, rfl⟩; rw [HT.out]) | (go_at_call 70; refine (HW.out _).mono ?_; rintro e w2 ⟨rfl, b2⟩))
              go_ret3
              exact ⟨rfl, b2⟩
            · rw [show guessR s = ⟨1, 0, true⟩ from by simp [guessR, hs, h2, h3, m1, m2, hw]]
              rw [hw] at HW
              clear hs hw
              go_enter Tryd.func30, Tryd.ntmps30
              go_wp2_with (first | (go_at_call 44; refine (text_any _ _).mono ?_; rintro e w1 ⟨rfl, rfl⟩; rw [HT.out]) | (go_at_call 70; refine (HW.out _).mono ?_; rintro e w2 ⟨rfl, b2⟩))
              go_ret3
              exact ⟨rfl, b2⟩
        · rw [show guessR s = ⟨3, 2, true⟩ from by simp [guessR, hs, h2, m1, m2]]
          clear hs
          go_enter Tryd.func30, Tryd.ntmps30
          go_wp2_with (go_at_call 44; refine (text_any _ _).mono ?_; rintro e w1 ⟨rfl, rfl⟩; rw [HT.out])
          go_ret3
          exact ⟨rfl, Below.refl _ _⟩
      · rw [show guessR s = ⟨2, 2, true⟩ from by simp [guessR, hs, h2, m1]]
        clear hs
        go_enter Tryd.func30, Tryd.ntmps30
        go_wp2_with (go_at_call 44; refine (text_any _ _).mono ?_; rintro e w1 ⟨rfl, rfl⟩; rw [HT.out])
        go_ret3
        exact ⟨rfl, Below.refl _ _⟩
    · have h2I : ¬ (2 : Int) ≤ s.size := by omega
      have h3 : ¬ 3 ≤ s.size := by omega
      have h3I : ¬ (3 : Int) ≤ s.size := by omega
      cases hw : wholeB s
      · rw [show guessR s = ⟨4, 0, true⟩ from by simp [guessR, hs, h2, h3, hw]]
        rw [hw] at HW
        clear hs hw
        go_enter Tryd.func30, Tryd.ntmps30
        go_wp2_with (first | (go_at_call 44; refine (text_any _ _).mono ?_; rintro e w1 ⟨rfl, rfl⟩; rw [HT.out]) | (go_at_call 70; refine (HW.out _).mono ?_; rintro e w2 ⟨rfl, b2⟩))
        go_ret3
        exact ⟨rfl, b2⟩
      · rw [show guessR s = ⟨1, 0, true⟩ from by simp [guessR, hs, h2, h3, hw]]
        rw [hw] at HW
        clear hs hw
        go_enter Tryd.func30, Tryd.ntmps30
        go_wp2_with (first | (go_at_call 44; refine (text_any _ _).mono ?_; rintro e w1 ⟨rfl, rfl⟩; rw [HT.out]) | (go_at_call 70; refine (HW.out _).mono ?_; rintro e w2 ⟨rfl, b2⟩))
        go_ret3
        exact ⟨rfl, b2⟩
end Go.Proofs.YtjnnikbgpjiecaaDoor
namespace Go.Proofs.YtjnnikbgpjiecaaDoor
open Go.ChangeShapes Go.WideShapes Go.ChangeAt Go.RowKit
/-- Bytes lie where a slice of that length begins. -/
def ArgB (w : World) (ao : Option Addr) (n : Nat) : Prop :=
  ∀ j, j < n → ∃ b' off z, ao = some ⟨b', off, none⟩ ∧ b' < w.heap.size ∧ w.cell? ⟨b', off + j, none⟩ = some (.int .u8 z) ∧ 0 ≤ z ∧ z ≤ 255
theorem ArgB.below {w w' : World} {ao : Option Addr} {n : Nat} (h : ArgB w ao n) (hb : Below w.heap.size w w') : ArgB w' ao n := fun j hj => by
  obtain ⟨b', off, z, h1, h2, h3, h4⟩ := h j hj
  exact ⟨b', off, z, h1, by have := hb.size; omega, (hb.cell (p := ⟨b', off + j, none⟩) h2).trans h3, h4⟩
abbrev curObj (ao : Option Addr) (n cap : Nat) : Obj := .cells #[.slice ao n cap, .int .i64 0, .int .u64 0] 62
theorem cur_new {w : World} {ao : Option Addr} {n : Nat} (cap : Nat) (h : ArgB w ao n) : Cur (w.alloc (curObj ao n cap)) (w.heap.size + 1) w.heap.size ao n cap 0 := by
  refine ⟨by rw [World.cell?_alloc_new]; rfl, by rw [World.cell?_alloc_new]; rfl, ⟨0, by rw [World.cell?_alloc_new]; rfl⟩, fun j => ?_, fun j hj => ?_, by omega, by simp⟩
  · apply World.frozen?_alloc_at
    rfl
  · obtain ⟨b', off, z, h1, h2, h3, h4⟩ := h j hj
    exact ⟨b', off, z, h1, by omega, by omega, (World.cell?_alloc_lt w _ ⟨b', off + j, none⟩ h2).trans h3, h4⟩
theorem below_of_cur {w w' : World} {ao : Option Addr} {n cap : Nat} (hg : (w.alloc (curObj ao n cap)).grownBy w' (some w.heap.size)) : Below w.heap.size w w' :=
  Below.grown ((Below.refl w.heap.size w).alloc (Nat.le_refl _) _) hg (by simp) (fun k hk => by cases hk; exact Nat.le_refl _)
def badL : List Int := [-1, 55296, 57343, 1114112]
def begL : List ByteArray := [⟨#[224, 128]⟩, ⟨#[224, 160]⟩, ⟨#[237, 160]⟩, ⟨#[244, 144]⟩, ⟨#[240, 143]⟩, ⟨#[240, 144]⟩, ⟨#[193]⟩, ⟨#[245]⟩, ⟨#[128]⟩, ⟨#[244, 143, 191]⟩, ⟨#[227, 129, 130, 227]⟩]
def bad3 : List Int := [-1, 55296, 1114112]
set_option maxRecDepth 100000 in
set_option maxHeartbeats 1000000 in
theorem same_any (L : List Int) (a b : Option Addr) (ca cb : Nat) (w : World) (hl : L.length ≤ 1048576) (ha : IntsAt w a L) (hb : IntsAt w b L) :
    Calls Tryd.prog 14 #[.slice a L.length ca, .slice b L.length cb] w fun e w' => e = .returned (.bool true) ∧ Below w.heap.size w w' := by
  have HA : Hid _ := ha
  have HB : Hid _ := hb
  clear ha hb
  go_enter Tryd.func14, Tryd.ntmps14
  go_wp2
  go_loopw [13] (fun i wr => ∃ k : Nat, k ≤ L.length ∧ i = .int .i64 k ∧ Below w.heap.size w wr) (fun i _ => L.length - (intOf i).toNat)
  case atStart => exact ⟨0, Nat.zero_le _, rfl, Below.refl _ _⟩
  case round =>
    obtain ⟨k, hk, rfl, hbw⟩ := hrel
    by_cases hlt : k < L.length
    · obtain ⟨b1, o1, rfl, l1, h1⟩ := HA.out k hlt
      obtain ⟨b2, o2, rfl, l2, h2⟩ := HB.out k hlt
      have g1 : wr.cell? ⟨b1, o1 + k, none⟩ = some (.int .i64 (L.getD k 0)) := (hbw.cell (p := ⟨b1, o1 + k, none⟩) l1).trans h1
      have g2 : wr.cell? ⟨b2, o2 + k, none⟩ = some (.int .i64 (L.getD k 0)) := (hbw.cell (p := ⟨b2, o2 + k, none⟩) l2).trans h2
      have hltI : (k : Int) < (L.length : Int) := by omega
      clear h1 h2
      generalize L.getD k 0 = x at *
      go_wp2
      go_quiet (fail)
      go_wp2
      go_roundw
      case rel => exact ⟨k + 1, by omega, by go_num, below_drewN hbw _⟩
      case measure => simp [intOf]; omega
    · go_wp2
      go_ret
      exact ⟨rfl, hbw⟩
end Go.Proofs.YtjnnikbgpjiecaaDoor
namespace Go.Proofs.YtjnnikbgpjiecaaDoor
open Go.ChangeShapes Go.WideShapes Go.ChangeAt Go.RowKit
def enL : List Int := [1, 1, 2, 3, 4, 5, 5, 1, 2, 3, 5, 0, 6]
def codL : List Int := [97, 122, 7, 200, 12352, 12400, 12446]
def tailL : List ByteArray := [⟨#[216, 61]⟩, ⟨#[61, 216]⟩, ⟨#[222, 0]⟩, ⟨#[14]⟩, ⟨#[15, 97]⟩, ⟨#[255]⟩]
theorem tailL_size (y : ByteArray) (h : y ∈ tailL) : y.size ≤ 2 := by
  simp only [tailL, List.mem_cons, List.not_mem_nil, or_false] at h
  rcases h with rfl | rfl | rfl | rfl | rfl | rfl <;> decide
set_option maxRecDepth 100000 in
set_option maxHeartbeats 1000000 in
theorem cen_any (B b : Nat) (ao : Option Addr) (n cap k : Nat) (w : World) (hk : k ≤ 900) (h : Cur w B b ao n cap k) :
    Calls Tryd.prog 56 #[.pointer (some ⟨b, 0, none⟩)] w fun e w' => ∃ (r : Int) (k' : Nat), e = .returned (.int .i64 r) ∧ 0 ≤ r ∧ r ≤ 6 ∧ k' ≤ k + 2 ∧ Cur w' B b ao n cap k' ∧ w.grownBy w' (some b) := by
  have hbw : b < w.heap.size := Nat.lt_of_lt_of_le h.lt h.le
  have HC : Hid _ := h
  have HV : Hid _ := vals_new w b hbw _ (ints enL) rfl 3
  have HB : Hid (Below w.heap.size w (w.alloc (.cells (ints enL).toArray 3))) := (Below.refl _ _).alloc (Nat.le_refl _) _
  clear h
  go_enter Tryd.func56, Tryd.ntmps56
  go_wp2_with fail
  refine (among_any enL _ _ _ _ ao n cap k _ hk (by decide) (by decide) HV.out (Cur.below HC.out HB.out)).mono ?_
  rintro e w2 ⟨r, k2, rfl, hr, hk2, C2, g2⟩
  have hr2 : 0 ≤ r ∧ r ≤ 6 := by
    simp only [enL, List.mem_cons, List.not_mem_nil, or_false] at hr
    omega
  have HC2 : Hid _ := C2
  have G2 : Hid _ := grown_trans' (grown_of_below HB.out (some b)) g2
  clear C2 g2 hr
  go_wp2
  go_ret
  exact ⟨r, k2, rfl, hr2.1, hr2.2, hk2, HC2.out, G2.out⟩
theorem encA_size (en : Int) (L : List Int) : (encA en L).s.size ≤ 1000 := by
  have go : ∀ (M : List Int) (k : Nat) (sh : Int) (s : ByteArray), (encGo en M k sh s).s.size ≤ 1000 := by
    intro M
    induction M with
    | nil =>
      intro k sh s
      show (encEnd sh s).s.size ≤ 1000
      by_cases h : (if sh = 1 then s ++ strOfNums [15] else s).size ≤ 1000
      · rw [encEnd, if_pos h]; exact h
      · rw [encEnd, if_neg h]; exact Nat.zero_le _
    | cons r M ih =>
      intro k sh s
      unfold encGo
      split
      · exact ih _ _ _
      · exact Nat.zero_le _
  unfold encA
  split
  · exact go _ _ _ _
  · exact Nat.zero_le _
/-- The lists that the loop of coded makes. -/
theorem grown_row {w w3 w4 : World} {b : Nat} {v : Value} {nn : Nat} {xs : List Value} {o : Obj} (G3 : w.grownBy w3 (some b)) (hown : (w3.alloc o).ownsRow w.heap.size 3 1 v nn xs) (hg : (w3.alloc o).grownBy w4 v.ownBlock) : w.grownBy w4 (some b) := by
  have ga := grown_trans' G3 (grown_of_below ((Below.refl w3.heap.size w3).alloc (Nat.le_refl _) o) (some b))
  exact ⟨hg.os.trans ga.os, hg.tape.trans ga.tape, hg.output.trans ga.output, Nat.le_trans ga.size hg.size, fun i hi hn => (hg.block i (Nat.lt_of_lt_of_le hi ga.size) (fun e => by have := (hown.lt i e.symm).1; omega)).trans (ga.block i hi hn)⟩
end Go.Proofs.YtjnnikbgpjiecaaDoor
namespace Go.Proofs.YtjnnikbgpjiecaaDoor
open Go.ChangeShapes Go.WideShapes Go.ChangeAt Go.RowKit
set_option maxRecDepth 100000 in
set_option maxHeartbeats 8000000 in
theorem coded_any (en : Int) (B b : Nat) (ao : Option Addr) (n cap k : Nat) (w : World) (hk : k ≤ 300) (h : Cur w B b ao n cap k) :
    Calls Tryd.prog 41 #[.pointer (some ⟨b, 0, none⟩), .int .i64 en] w fun e w' => ∃ (s : ByteArray) (k' : Nat), e = .returned (.string s) ∧ s.size ≤ 1028 ∧ k' ≤ k + 100 ∧ Cur w' B b ao n cap k' ∧ w.grownBy w' (some b) := by
  obtain ⟨i0, hi, hz0, hz1, hz2⟩ := info_parts Tryd.info3
  have hbw : b < w.heap.size := Nat.lt_of_lt_of_le h.lt h.le
  have HBW : Hid _ := h.le
  have HC : Hid _ := h
  clear h
  go_enter Tryd.func41, Tryd.ntmps41
  go_wp2_with fail
  refine (pick_any 7 B b ao n cap k _ (by omega) HC.out).mono ?_
  rintro e w1 ⟨r, k1, rfl, p0, p1, hk1, C1, g1⟩
  obtain ⟨m0, rfl⟩ := Int.eq_ofNat_of_zero_le p0
  have hm0 : m0 ≤ 6 := by omega
  have HC1 : Hid _ := C1
  have G1 : Hid _ := g1
  clear C1 g1 p0 p1
  go_wp2
  go_loopw [5, 6] (fun v i wr => ∃ (m k' : Nat) (L : List Int), i = .int .i64 m ∧ L.length + m ≤ 6 ∧ k' + 6 * m ≤ k + 2 + 36 ∧ Cur wr B b ao n cap k' ∧ wr.ownsRow w.heap.size 3 1 v L.length (ints L) ∧ w.grownBy wr (some b)) (fun _ i _ => (intOf i).toNat)
  case atStart => exact ⟨m0, k1, [], rfl, by simpa using hm0, by omega, HC1.out, World.ownsRow_nil _ _ _ _, G1.out⟩
  case round =>
    obtain ⟨m, k', L, rfl, hlm, hk', C2, own2, g2⟩ := hrel
    have HC2 : Hid _ := C2
    have OW2 : Hid _ := own2
    have G2 : Hid _ := g2
    clear C2 own2 g2
    by_cases hlt : 0 < m
    · have hltI : (0 : Int) < (m : Int) := by omega
      obtain ⟨m', rfl⟩ : ∃ m', m = m' + 1 := ⟨m - 1, by omega⟩
      by_cases h4 : 4 ≤ en
      · go_wp2_with fail
        refine (rune_any B b ao n cap k' _ (by omega) HC2.out).mono ?_
        rintro e w3 ⟨x, k3, rfl, hgx, hk3, C3, g3⟩
        have HCa : Hid _ := C3
        have G23 := g3
        have Ga : Hid _ := grown_trans' G2.out g3
        clear C3 g3 hgx
        go_wp2_with fail
        refine (one_any 2 B b ao n cap k3 _ (by omega) HCa.out).mono ?_
        rintro e w5 ⟨q, k5, rfl, hk5, C5, g5⟩
        have HC5 : Hid _ := C5
        have G25 := grown_trans' G23 g5
        have G5 : Hid _ := grown_trans' Ga.out g5
        clear C5 g5 G23
        cases q
        · have HC3 : Hid _ := HC5.out
          have G3 : Hid _ := G5.out
          have G23 := G25
          have hown3 := World.ownsRow.kept OW2.out G23 (own_ne_cur OW2.out hbw)
          have hsz : w.heap.size ≤ w5.heap.size := G3.out.size
          clear G23
          go_wp2_with (at_builtin; refine wpList_append_own _ rfl _ _ 28 rfl w.heap.size 3 i0 (.int .i64 0) 1 8 Tryd.underlying28 hi hz0 hz1 hz2 rfl (by decide) _ _ _ rfl (hown3.alloc _) ⟨w5.heap.size, 0, none⟩ 1 1 [.int .i64 x] rfl rfl ?c1 ?c2 ?c3 ?c4 ?c5 ?_)
          try (case c1 => exact cell_one_new _ _ _)
          case c2 => first | rfl | (intro u hu; simp at hu; subst hu; rfl)
          case c3 => unfold maxLen; omega
          case c4 => omega
          case c5 => first | omega | (simp; omega)
          intro v' w4 hown4 hgrow _
          have hal : Below w5.heap.size w5 (w5.alloc (.cells #[.int .i64 x] 3)) := (Below.refl _ _).alloc (Nat.le_refl _) _
          have HC4 : Hid (Cur w4 B b ao n cap k5) := Cur.grown (Cur.below HC3.out hal) hgrow (fun g hg => by have := (hown3.lt g hg).1; have := HBW.out; omega)
          have G4 : Hid (w.grownBy w4 (some b)) := grown_row G3.out (hown3.alloc _) hgrow
          have OW4 : Hid (w4.ownsRow w.heap.size 3 1 v' (L ++ [x]).length (ints (L ++ [x]))) := by
            show w4.ownsRow w.heap.size 3 1 v' (L ++ [x]).length (ints (L ++ [x]))
            simpa [ints] using hown4
          clear hown4 hgrow hown3 hal
          go_wp2
          go_roundw
          case rel => exact ⟨m', k5, L ++ [x], by go_num, by simp; omega, by omega, HC4.out, OW4.out, G4.out⟩
          case measure => simp [intOf]
        · have b5 : b < w5.heap.size := Nat.lt_of_lt_of_le hbw G5.out.size
          have HV : Hid _ := vals_new w5 b b5 _ (ints codL) rfl 3
          have HB : Hid (Below w5.heap.size w5 (w5.alloc (.cells (ints codL).toArray 3))) := (Below.refl _ _).alloc (Nat.le_refl _) _
          go_wp2_with fail
          refine (among_any codL _ _ _ _ ao n cap k5 _ (by omega) (by decide) (by decide) HV.out (Cur.below HC5.out HB.out)).mono ?_
          rintro e w6 ⟨y, k6, rfl, hy, hk6, C6, g6⟩
          have HC3 : Hid _ := C6
          have G23 := grown_trans' (grown_trans' G25 (grown_of_below HB.out (some b))) g6
          have G3 : Hid _ := grown_trans' (grown_trans' G5.out (grown_of_below HB.out (some b))) g6
          clear C6 g6 G25 hy
          have hown3 := World.ownsRow.kept OW2.out G23 (own_ne_cur OW2.out hbw)
          have hsz : w.heap.size ≤ w6.heap.size := G3.out.size
          clear G23
          go_wp2_with (at_builtin; refine wpList_append_own _ rfl _ _ 28 rfl w.heap.size 3 i0 (.int .i64 0) 1 8 Tryd.underlying28 hi hz0 hz1 hz2 rfl (by decide) _ _ _ rfl (hown3.alloc _) ⟨w6.heap.size, 0, none⟩ 1 1 [.int .i64 y] rfl rfl ?c1 ?c2 ?c3 ?c4 ?c5 ?_)
          try (case c1 => exact cell_one_new _ _ _)
          case c2 => first | rfl | (intro u hu; simp at hu; subst hu; rfl)
          case c3 => unfold maxLen; omega
          case c4 => omega
          case c5 => first | omega | (simp; omega)
          intro v' w4 hown4 hgrow _
          have hal : Below w6.heap.size w6 (w6.alloc (.cells #[.int .i64 y] 3)) := (Below.refl _ _).alloc (Nat.le_refl _) _
          have HC4 : Hid (Cur w4 B b ao n cap k6) := Cur.grown (Cur.below HC3.out hal) hgrow (fun g hg => by have := (hown3.lt g hg).1; have := HBW.out; omega)
          have G4 : Hid (w.grownBy w4 (some b)) := grown_row G3.out (hown3.alloc _) hgrow
          have OW4 : Hid (w4.ownsRow w.heap.size 3 1 v' (L ++ [y]).length (ints (L ++ [y]))) := by
            show w4.ownsRow w.heap.size 3 1 v' (L ++ [y]).length (ints (L ++ [y]))
            simpa [ints] using hown4
          clear hown4 hgrow hown3 hal
          go_wp2
          go_roundw
          case rel => exact ⟨m', k6, L ++ [y], by go_num, by simp; omega, by omega, HC4.out, OW4.out, G4.out⟩
          case measure => simp [intOf]
      · go_wp2_with fail
        refine (rune_any B b ao n cap k' _ (by omega) HC2.out).mono ?_
        rintro e w3 ⟨x, k3, rfl, hgx, hk3, C3, g3⟩
        have HC3 : Hid _ := C3
        have G23 := g3
        have G3 : Hid _ := grown_trans' G2.out g3
        clear C3 g3 hgx
        have hown3 := World.ownsRow.kept OW2.out G23 (own_ne_cur OW2.out hbw)
        have hsz : w.heap.size ≤ w3.heap.size := G3.out.size
        clear G23
        go_wp2_with (at_builtin; refine wpList_append_own _ rfl _ _ 28 rfl w.heap.size 3 i0 (.int .i64 0) 1 8 Tryd.underlying28 hi hz0 hz1 hz2 rfl (by decide) _ _ _ rfl (hown3.alloc _) ⟨w3.heap.size, 0, none⟩ 1 1 [.int .i64 x] rfl rfl ?c1 ?c2 ?c3 ?c4 ?c5 ?_)
        try (case c1 => exact cell_one_new _ _ _)
        case c2 => first | rfl | (intro u hu; simp at hu; subst hu; rfl)
        case c3 => unfold maxLen; omega
        case c4 => omega
        case c5 => first | omega | (simp; omega)
        intro v' w4 hown4 hgrow _
        have hal : Below w3.heap.size w3 (w3.alloc (.cells #[.int .i64 x] 3)) := (Below.refl _ _).alloc (Nat.le_refl _) _
        have HC4 : Hid (Cur w4 B b ao n cap k3) := Cur.grown (Cur.below HC3.out hal) hgrow (fun g hg => by have := (hown3.lt g hg).1; have := HBW.out; omega)
        have G4 : Hid (w.grownBy w4 (some b)) := grown_row G3.out (hown3.alloc _) hgrow
        have OW4 : Hid (w4.ownsRow w.heap.size 3 1 v' (L ++ [x]).length (ints (L ++ [x]))) := by
          show w4.ownsRow w.heap.size 3 1 v' (L ++ [x]).length (ints (L ++ [x]))
          simpa [ints] using hown4
        clear hown4 hgrow hown3 hal
        go_wp2
        go_roundw
        case rel => exact ⟨m', k3, L ++ [x], by go_num, by simp; omega, by omega, HC4.out, OW4.out, G4.out⟩
        case measure => simp [intOf]
    · clear hi hz0 hz1 hz2
      obtain rfl : m = 0 := by omega
      obtain ⟨_, la, lc, rfl, hA⟩ := ints_of_own OW2.out
      have HA : Hid _ := hA
      clear hA
      go_wp2_with fail
      refine (enc_any en L la lc _ (by omega) HA.out).mono ?_
      rintro e w5 ⟨rfl, b5⟩
      have hs0 := encA_size en L
      generalize encA en L = R at *
      obtain ⟨y, ri, rok⟩ := R
      have hs0' : y.size ≤ 1000 := hs0
      have HC5 : Hid _ := Cur.below HC2.out b5
      have G5 : Hid _ := grown_trans' G2.out (grown_of_below b5 (some b))
      clear b5 HA hs0
      go_upto_region 10 with fail
      go_cut [45] (fun sb wx => ∃ (q : Bool) (kx : Nat), sb = .bool q ∧ kx ≤ k' + 2 ∧ Cur wx B b ao n cap kx ∧ w.grownBy wx (some b))
      case first =>
        by_cases hz : y.size = 0
        · have hem := isEmpty_yes hz
          go_wp2
          go_meet
          exact ⟨true, k', rfl, by omega, HC5.out, G5.out⟩
        · have hem := isEmpty_no (s := y) (by omega)
          go_wp2_with fail
          refine (one_any 4 B b ao n cap k' _ (by omega) HC5.out).mono ?_
          rintro e w6 ⟨q, k6, rfl, hk6, C6, g6⟩
          have HC6 : Hid _ := C6
          have G6 : Hid _ := grown_trans' G5.out g6
          clear C6 g6
          go_wp2
          go_meet
          exact ⟨q, k6, rfl, by omega, HC6.out, G6.out⟩
      case rest =>
        obtain ⟨q, k6, rfl, hk6, C6, g6⟩ := hcut
        have HC6 : Hid _ := C6
        have G6 : Hid _ := g6
        clear C6 g6 HC5 G5
        go_upto_if 45 with fail
        go_cut [8] (fun sx wx => ∃ (z : ByteArray) (kx : Nat), sx = .string z ∧ z.size ≤ 1026 ∧ kx ≤ k' + 42 ∧ Cur wx B b ao n cap kx ∧ w.grownBy wx (some b))
        case first =>
          cases q
          · go_wp2
            go_meet
            exact ⟨y, k6, rfl, by omega, by omega, HC6.out, G6.out⟩
          · go_wp2_with fail
            refine (bytes_any B b ao n cap k6 _ (by omega) HC6.out).mono ?_
            rintro e w7 ⟨x, k7, rfl, hx, hk7, C7, g7⟩
            have HC7 : Hid _ := C7
            have G7 : Hid _ := grown_trans' G6.out g7
            clear C7 g7
            have hcat : ¬ 9223372036854775807 < y.size + x.size := by omega
            have hs1 := ByteArray.size_append (a := y) (b := x)
            go_wp2
            go_meet
            exact ⟨_, k7, rfl, by omega, by omega, HC7.out, G7.out⟩
        case rest =>
          clear HC6 G6 hs0'
          obtain ⟨y2, k7, rfl, hy7, hk7, C7, g7⟩ := hcut
          have HC7 : Hid _ := C7
          have G7 : Hid _ := g7
          clear C7 g7 hk6
          go_upto_region 12 with fail
          go_cut [56] (fun sb wx => ∃ (q : Bool) (kx : Nat), sb = .bool q ∧ (q = true → 0 < y2.size) ∧ kx ≤ k' + 44 ∧ Cur wx B b ao n cap kx ∧ w.grownBy wx (some b))
          case first =>
            by_cases hl : 0 < y2.size
            · have hlI : (0 : Int) < (y2.size : Int) := by omega
              go_wp2_with fail
              refine (one_any 4 B b ao n cap k7 _ (by omega) HC7.out).mono ?_
              rintro e w8 ⟨q, k8, rfl, hk8, C8, g8⟩
              have HC8 : Hid _ := C8
              have G8 : Hid _ := grown_trans' G7.out g8
              clear C8 g8
              go_wp2
              go_meet
              exact ⟨q, k8, rfl, fun _ => hl, by omega, HC8.out, G8.out⟩
            · have hlI : ¬ (0 : Int) < (y2.size : Int) := by omega
              go_wp2
              go_meet
              exact ⟨false, k7, (by first | rfl | simp [hlI]), (fun h => by cases h), by omega, HC7.out, G7.out⟩
          case rest =>
            obtain ⟨q, k8, rfl, hq, hk8, C8, g8⟩ := hcut
            have HC8 : Hid _ := C8
            have G8 : Hid _ := g8
            clear C8 g8 HC7 G7 hk7
            go_upto_if 56 with fail
            go_cut [8, 11] (fun sx sy wx => ∃ (z : ByteArray) (kx : Nat), sx = .string z ∧ z.size ≤ 1026 ∧ kx ≤ k' + 46 ∧ Cur wx B b ao n cap kx ∧ w.grownBy wx (some b))
            case first =>
              cases q
              · go_wp2
                go_meet
                exact ⟨y2, k8, rfl, by omega, by omega, HC8.out, G8.out⟩
              · have hl := hq rfl
                go_wp2_with fail
                refine (pick_any y2.size B b ao n cap k8 _ (by omega) HC8.out).mono ?_
                rintro e w9 ⟨r, k9, rfl, p0, p1, hk9, C9, g9⟩
                obtain ⟨i, rfl⟩ := Int.eq_ofNat_of_zero_le p0
                have hi' : i < y2.size := by omega
                have HC9 : Hid _ := C9
                have G9 : Hid _ := grown_trans' G8.out g9
                clear C9 g9 p0 p1
                have s1 := slice_head y2 i (by omega)
                have s2 := slice_from y2 (i + 1) ((i : Int) + 1) (by omega) (by omega)
                have z1 := head_size y2 i (by omega)
                have z2 := from_size y2 (i + 1)
                have hcat : ¬ 9223372036854775807 < (y2.extract 0 i).size + (y2.extract (i + 1) y2.size).size := by rw [z1, z2]; omega
                have hs2 : (y2.extract 0 i ++ y2.extract (i + 1) y2.size).size ≤ 1026 := by rw [ByteArray.size_append, z1, z2]; omega
                clear z1 z2
                generalize y2.extract 0 i = sa at *
                generalize y2.extract (i + 1) y2.size = sb at *
                go_wp2
                go_quiet (fail)
                go_wp2
                go_meet
                exact ⟨_, k9, rfl, hs2, by omega, Cur.below HC9.out (below_drewN (Below.refl _ _) _), grown_trans' G9.out (grown_of_below (below_drewN (Below.refl _ _) _) (some b))⟩
            case rest =>
              clear HC8 G8 hq hy7
              obtain ⟨y3, k9, rfl, hy9, hk9, C9, g9⟩ := hcut
              have HC9 : Hid _ := C9
              have G9 : Hid _ := g9
              clear C9 g9 hk8
              go_wp2_with fail
              refine (one_any 6 B b ao n cap k9 _ (by omega) HC9.out).mono ?_
              rintro e wz ⟨q, kz, rfl, hkz, Cz, gz⟩
              have HCz : Hid _ := Cz
              have Gz : Hid _ := grown_trans' G9.out gz
              clear Cz gz HC9 G9
              have bz : b < wz.heap.size := Nat.lt_of_lt_of_le hbw Gz.out.size
              have HV : Hid _ := vals_new wz b bz _ (tailL.map Value.string) rfl 9
              have HB : Hid (Below wz.heap.size wz (wz.alloc (.cells (tailL.map Value.string).toArray 9))) := (Below.refl _ _).alloc (Nat.le_refl _) _
              cases q
              · go_wp2
                go_ret
                exact ⟨_, kz, rfl, by omega, by omega, HCz.out, Gz.out⟩
              · go_wp2_with fail
                refine (of_any tailL _ _ _ _ ao n cap kz _ (by omega) (by decide) (by decide) HV.out (Cur.below HCz.out HB.out)).mono ?_
                rintro e wy ⟨t, ky, rfl, hy, hky, Cy, gy⟩
                have hy2 := tailL_size t hy
                have HCy : Hid _ := Cy
                have Gy : Hid _ := grown_trans' (grown_trans' Gz.out (grown_of_below HB.out (some b))) gy
                clear Cy gy hy
                have hcat : ¬ 9223372036854775807 < y3.size + t.size := by omega
                have hss := ByteArray.size_append (a := y3) (b := t)
                go_wp2
                go_ret
                exact ⟨_, ky, rfl, by omega, by omega, HCy.out, Gy.out⟩
end Go.Proofs.YtjnnikbgpjiecaaDoor
namespace Go.Proofs.YtjnnikbgpjiecaaDoor
open Go.ChangeShapes Go.WideShapes Go.ChangeAt Go.RowKit
def encL1 : List Int := [97, 122, 7, 32, 126, 12352, 12400, 12446]
def encL2 : List Int := [14, 15, 127, 255, 256, 12351, 12447, -1]
set_option maxRecDepth 100000 in
set_option maxHeartbeats 8000000 in
theorem denc_any (ao : Option Addr) (n cap : Nat) (w : World) (h : ArgB w ao n) :
    Calls Tryd.prog 22 #[.slice ao n cap] w fun e w' => ∃ (en : Int) (v : Value) (L : List Int), e = .returned (.tuple #[.int .i64 en, v]) ∧ L.length ≤ 7 ∧ w'.ownsRow (w.heap.size + 1) 3 1 v L.length (ints L) ∧ Below w.heap.size w w' := by
  obtain ⟨i0, hi, hz0, hz1, hz2⟩ := info_parts Tryd.info3
  have HC : Hid _ := cur_new cap h
  clear h
  go_enter Tryd.func22, Tryd.ntmps22
  go_wp2_with fail
  refine (cen_any _ _ ao n cap 0 _ (by omega) HC.out).mono ?_
  rintro e w0 ⟨en, k0, rfl, en0, en6, hk0, C0, g0⟩
  have HC0 : Hid _ := C0
  have G0 : Hid _ := g0
  clear C0 g0
  go_wp2_with fail
  refine (pick_any 8 _ _ ao n cap k0 _ (by omega) HC0.out).mono ?_
  rintro e w1 ⟨r, k1, rfl, p0, p1, hk1, C1, g1⟩
  obtain ⟨m0, rfl⟩ := Int.eq_ofNat_of_zero_le p0
  have hm0 : m0 ≤ 7 := by omega
  have HC1 : Hid _ := C1
  have G1 : Hid _ := grown_trans' G0.out g1
  clear C1 g1 p0 p1
  go_wp2
  go_loopw [6, 7] (fun v i wr => ∃ (m k' : Nat) (L : List Int), i = .int .i64 m ∧ L.length + m ≤ 7 ∧ k' + 12 * m ≤ 100 ∧ Cur wr (w.heap.size + 1) w.heap.size ao n cap k' ∧ wr.ownsRow (w.heap.size + 1) 3 1 v L.length (ints L) ∧ World.grownBy (w.alloc (curObj ao n cap)) wr (some w.heap.size)) (fun _ i _ => (intOf i).toNat)
  case atStart => exact ⟨m0, k1, [], rfl, by simpa using hm0, by omega, HC1.out, World.ownsRow_nil _ _ _ _, G1.out⟩
  case round =>
    obtain ⟨m, k', L, rfl, hlm, hk', C2, own2, g2⟩ := hrel
    have HC2 : Hid _ := C2
    have OW2 : Hid _ := own2
    have G2 : Hid _ := g2
    clear C2 own2 g2
    by_cases hlt : 0 < m
    · have hltI : (0 : Int) < (m : Int) := by omega
      obtain ⟨m', rfl⟩ : ∃ m', m = m' + 1 := ⟨m - 1, by omega⟩
      have b5 : w.heap.size < wr.heap.size := by have := G2.out.size; simp at this; omega
      have HV5 : Hid _ := vals_new wr w.heap.size b5 _ (ints encL1) rfl 3
      have HB5 : Hid (Below wr.heap.size wr (wr.alloc (.cells (ints encL1).toArray 3))) := (Below.refl _ _).alloc (Nat.le_refl _) _
      go_wp2_with fail
      refine (among_any encL1 _ _ _ _ ao n cap k' _ (by omega) (by decide) (by decide) HV5.out (Cur.below HC2.out HB5.out)).mono ?_
      rintro e x5 ⟨x, k5, rfl, hx5, hk5, C5, g5⟩
      have HC5 : Hid _ := C5
      have G5 : Hid _ := grown_trans' (grown_trans' G2.out (grown_of_below HB5.out _)) g5
      have OW5 : Hid _ := World.ownsRow.kept (ownsRow_below OW2.out HB5.out) g5 (own_ne_cur (ownsRow_below OW2.out HB5.out) (by omega))
      clear C5 g5 hx5 HV5
      go_wp2_with fail
      refine (one_any 5 _ _ ao n cap k5 _ (by omega) HC5.out).mono ?_
      rintro e x6 ⟨q, k6, rfl, hk6, C6, g6⟩
      have HC6 : Hid _ := C6
      have G6 : Hid _ := grown_trans' G5.out g6
      have OW6 : Hid _ := World.ownsRow.kept OW5.out g6 (own_ne_cur OW5.out (by omega))
      clear C6 g6
      cases q
      · go_wp2_with fail
        refine (one_any 20 _ _ ao n cap k6 _ (by omega) HC6.out).mono ?_
        rintro e x7 ⟨q, k7, rfl, hk7, C7, g7⟩
        have HC7 : Hid _ := C7
        have G7 : Hid _ := grown_trans' G6.out g7
        have OW7 : Hid _ := World.ownsRow.kept OW6.out g7 (own_ne_cur OW6.out (by omega))
        clear C7 g7
        cases q
        · have HC3 : Hid _ := HC7.out
          have G3 : Hid _ := G7.out
          have OW3 : Hid _ := OW7.out
          have hsz : w.heap.size + 1 ≤ x7.heap.size := by have := G3.out.size; simp at this; omega
          have hown3 : World.ownsRow x7 (w.heap.size + 1) 3 1 u6 L.length (ints L) := OW3.out
          go_wp2_with (at_builtin; refine wpList_append_own _ rfl _ _ 28 rfl (w.heap.size + 1) 3 i0 (.int .i64 0) 1 8 Tryd.underlying28 hi hz0 hz1 hz2 rfl (by decide) _ _ _ rfl (hown3.alloc _) ⟨x7.heap.size, 0, none⟩ 1 1 [.int .i64 x] rfl rfl ?c1 ?c2 ?c3 ?c4 ?c5 ?_)
          try (case c1 => exact cell_one_new _ _ _)
          case c2 => first | rfl | (intro u hu; simp at hu; subst hu; rfl)
          case c3 => unfold maxLen; omega
          case c4 => omega
          case c5 => first | omega | (simp; omega)
          intro v' w4 hown4 hgrow _
          have hal : Below x7.heap.size x7 (x7.alloc (.cells #[.int .i64 x] 3)) := (Below.refl _ _).alloc (Nat.le_refl _) _
          have HC4 : Hid (Cur w4 (w.heap.size + 1) w.heap.size ao n cap k7) := Cur.grown (Cur.below HC3.out hal) hgrow (fun g hg => by have := (hown3.lt g hg).1; omega)
          have G4 : Hid (World.grownBy (w.alloc (curObj ao n cap)) w4 (some w.heap.size)) := by
            have := hown3.alloc (.cells #[.int .i64 x] 3)
            rw [show w.heap.size + 1 = (w.alloc (curObj ao n cap)).heap.size by simp] at this
            exact grown_row G3.out this hgrow
          have OW4 : Hid (w4.ownsRow (w.heap.size + 1) 3 1 v' (L ++ [x]).length (ints (L ++ [x]))) := by
            show w4.ownsRow (w.heap.size + 1) 3 1 v' (L ++ [x]).length (ints (L ++ [x]))
            simpa [ints] using hown4
          clear hown4 hgrow hown3 hal
          go_wp2
          go_roundw
          case rel => exact ⟨m', k7, L ++ [x], by go_num, by simp; omega, by omega, HC4.out, OW4.out, G4.out⟩
          case measure => simp [intOf]
        · have b8 : w.heap.size < x7.heap.size := by have := G7.out.size; simp at this; omega
          have HV8 : Hid _ := vals_new x7 w.heap.size b8 _ (ints encL2) rfl 3
          have HB8 : Hid (Below x7.heap.size x7 (x7.alloc (.cells (ints encL2).toArray 3))) := (Below.refl _ _).alloc (Nat.le_refl _) _
          go_wp2_with fail
          refine (among_any encL2 _ _ _ _ ao n cap k7 _ (by omega) (by decide) (by decide) HV8.out (Cur.below HC7.out HB8.out)).mono ?_
          rintro e x8 ⟨z, k8, rfl, hx8, hk8, C8, g8⟩
          have HC8 : Hid _ := C8
          have G8 : Hid _ := grown_trans' (grown_trans' G7.out (grown_of_below HB8.out _)) g8
          have OW8 : Hid _ := World.ownsRow.kept (ownsRow_below OW7.out HB8.out) g8 (own_ne_cur (ownsRow_below OW7.out HB8.out) (by omega))
          clear C8 g8 hx8 HV8
          have HC3 : Hid _ := HC8.out
          have G3 : Hid _ := G8.out
          have OW3 : Hid _ := OW8.out
          have hsz : w.heap.size + 1 ≤ x8.heap.size := by have := G3.out.size; simp at this; omega
          have hown3 : World.ownsRow x8 (w.heap.size + 1) 3 1 u6 L.length (ints L) := OW3.out
          go_wp2_with (at_builtin; refine wpList_append_own _ rfl _ _ 28 rfl (w.heap.size + 1) 3 i0 (.int .i64 0) 1 8 Tryd.underlying28 hi hz0 hz1 hz2 rfl (by decide) _ _ _ rfl (hown3.alloc _) ⟨x8.heap.size, 0, none⟩ 1 1 [.int .i64 z] rfl rfl ?c1 ?c2 ?c3 ?c4 ?c5 ?_)
          try (case c1 => exact cell_one_new _ _ _)
          case c2 => first | rfl | (intro u hu; simp at hu; subst hu; rfl)
          case c3 => unfold maxLen; omega
          case c4 => omega
          case c5 => first | omega | (simp; omega)
          intro v' w4 hown4 hgrow _
          have hal : Below x8.heap.size x8 (x8.alloc (.cells #[.int .i64 z] 3)) := (Below.refl _ _).alloc (Nat.le_refl _) _
          have HC4 : Hid (Cur w4 (w.heap.size + 1) w.heap.size ao n cap k8) := Cur.grown (Cur.below HC3.out hal) hgrow (fun g hg => by have := (hown3.lt g hg).1; omega)
          have G4 : Hid (World.grownBy (w.alloc (curObj ao n cap)) w4 (some w.heap.size)) := by
            have := hown3.alloc (.cells #[.int .i64 z] 3)
            rw [show w.heap.size + 1 = (w.alloc (curObj ao n cap)).heap.size by simp] at this
            exact grown_row G3.out this hgrow
          have OW4 : Hid (w4.ownsRow (w.heap.size + 1) 3 1 v' (L ++ [z]).length (ints (L ++ [z]))) := by
            show w4.ownsRow (w.heap.size + 1) 3 1 v' (L ++ [z]).length (ints (L ++ [z]))
            simpa [ints] using hown4
          clear hown4 hgrow hown3 hal
          go_wp2
          go_roundw
          case rel => exact ⟨m', k8, L ++ [z], by go_num, by simp; omega, by omega, HC4.out, OW4.out, G4.out⟩
          case measure => simp [intOf]
      · go_wp2_with fail
        refine (rune_any _ _ ao n cap k6 _ (by omega) HC6.out).mono ?_
        rintro e x7 ⟨y, k7, rfl, hx7, hk7, C7, g7⟩
        have HC7 : Hid _ := C7
        have G7 : Hid _ := grown_trans' G6.out g7
        have OW7 : Hid _ := World.ownsRow.kept OW6.out g7 (own_ne_cur OW6.out (by omega))
        clear C7 g7 hx7
        go_wp2_with fail
        refine (one_any 20 _ _ ao n cap k7 _ (by omega) HC7.out).mono ?_
        rintro e x8 ⟨q, k8, rfl, hk8, C8, g8⟩
        have HC8 : Hid _ := C8
        have G8 : Hid _ := grown_trans' G7.out g8
        have OW8 : Hid _ := World.ownsRow.kept OW7.out g8 (own_ne_cur OW7.out (by omega))
        clear C8 g8
        cases q
        · have HC3 : Hid _ := HC8.out
          have G3 : Hid _ := G8.out
          have OW3 : Hid _ := OW8.out
          have hsz : w.heap.size + 1 ≤ x8.heap.size := by have := G3.out.size; simp at this; omega
          have hown3 : World.ownsRow x8 (w.heap.size + 1) 3 1 u6 L.length (ints L) := OW3.out
          go_wp2_with (at_builtin; refine wpList_append_own _ rfl _ _ 28 rfl (w.heap.size + 1) 3 i0 (.int .i64 0) 1 8 Tryd.underlying28 hi hz0 hz1 hz2 rfl (by decide) _ _ _ rfl (hown3.alloc _) ⟨x8.heap.size, 0, none⟩ 1 1 [.int .i64 y] rfl rfl ?c1 ?c2 ?c3 ?c4 ?c5 ?_)
          try (case c1 => exact cell_one_new _ _ _)
          case c2 => first | rfl | (intro u hu; simp at hu; subst hu; rfl)
          case c3 => unfold maxLen; omega
          case c4 => omega
          case c5 => first | omega | (simp; omega)
          intro v' w4 hown4 hgrow _
          have hal : Below x8.heap.size x8 (x8.alloc (.cells #[.int .i64 y] 3)) := (Below.refl _ _).alloc (Nat.le_refl _) _
          have HC4 : Hid (Cur w4 (w.heap.size + 1) w.heap.size ao n cap k8) := Cur.grown (Cur.below HC3.out hal) hgrow (fun g hg => by have := (hown3.lt g hg).1; omega)
          have G4 : Hid (World.grownBy (w.alloc (curObj ao n cap)) w4 (some w.heap.size)) := by
            have := hown3.alloc (.cells #[.int .i64 y] 3)
            rw [show w.heap.size + 1 = (w.alloc (curObj ao n cap)).heap.size by simp] at this
            exact grown_row G3.out this hgrow
          have OW4 : Hid (w4.ownsRow (w.heap.size + 1) 3 1 v' (L ++ [y]).length (ints (L ++ [y]))) := by
            show w4.ownsRow (w.heap.size + 1) 3 1 v' (L ++ [y]).length (ints (L ++ [y]))
            simpa [ints] using hown4
          clear hown4 hgrow hown3 hal
          go_wp2
          go_roundw
          case rel => exact ⟨m', k8, L ++ [y], by go_num, by simp; omega, by omega, HC4.out, OW4.out, G4.out⟩
          case measure => simp [intOf]
        · have b9 : w.heap.size < x8.heap.size := by have := G8.out.size; simp at this; omega
          have HV9 : Hid _ := vals_new x8 w.heap.size b9 _ (ints encL2) rfl 3
          have HB9 : Hid (Below x8.heap.size x8 (x8.alloc (.cells (ints encL2).toArray 3))) := (Below.refl _ _).alloc (Nat.le_refl _) _
          go_wp2_with fail
          refine (among_any encL2 _ _ _ _ ao n cap k8 _ (by omega) (by decide) (by decide) HV9.out (Cur.below HC8.out HB9.out)).mono ?_
          rintro e x9 ⟨z, k9, rfl, hx9, hk9, C9, g9⟩
          have HC9 : Hid _ := C9
          have G9 : Hid _ := grown_trans' (grown_trans' G8.out (grown_of_below HB9.out _)) g9
          have OW9 : Hid _ := World.ownsRow.kept (ownsRow_below OW8.out HB9.out) g9 (own_ne_cur (ownsRow_below OW8.out HB9.out) (by omega))
          clear C9 g9 hx9 HV9
          have HC3 : Hid _ := HC9.out
          have G3 : Hid _ := G9.out
          have OW3 : Hid _ := OW9.out
          have hsz : w.heap.size + 1 ≤ x9.heap.size := by have := G3.out.size; simp at this; omega
          have hown3 : World.ownsRow x9 (w.heap.size + 1) 3 1 u6 L.length (ints L) := OW3.out
          go_wp2_with (at_builtin; refine wpList_append_own _ rfl _ _ 28 rfl (w.heap.size + 1) 3 i0 (.int .i64 0) 1 8 Tryd.underlying28 hi hz0 hz1 hz2 rfl (by decide) _ _ _ rfl (hown3.alloc _) ⟨x9.heap.size, 0, none⟩ 1 1 [.int .i64 z] rfl rfl ?c1 ?c2 ?c3 ?c4 ?c5 ?_)
          try (case c1 => exact cell_one_new _ _ _)
          case c2 => first | rfl | (intro u hu; simp at hu; subst hu; rfl)
          case c3 => unfold maxLen; omega
          case c4 => omega
          case c5 => first | omega | (simp; omega)
          intro v' w4 hown4 hgrow _
          have hal : Below x9.heap.size x9 (x9.alloc (.cells #[.int .i64 z] 3)) := (Below.refl _ _).alloc (Nat.le_refl _) _
          have HC4 : Hid (Cur w4 (w.heap.size + 1) w.heap.size ao n cap k9) := Cur.grown (Cur.below HC3.out hal) hgrow (fun g hg => by have := (hown3.lt g hg).1; omega)
          have G4 : Hid (World.grownBy (w.alloc (curObj ao n cap)) w4 (some w.heap.size)) := by
            have := hown3.alloc (.cells #[.int .i64 z] 3)
            rw [show w.heap.size + 1 = (w.alloc (curObj ao n cap)).heap.size by simp] at this
            exact grown_row G3.out this hgrow
          have OW4 : Hid (w4.ownsRow (w.heap.size + 1) 3 1 v' (L ++ [z]).length (ints (L ++ [z]))) := by
            show w4.ownsRow (w.heap.size + 1) 3 1 v' (L ++ [z]).length (ints (L ++ [z]))
            simpa [ints] using hown4
          clear hown4 hgrow hown3 hal
          go_wp2
          go_roundw
          case rel => exact ⟨m', k9, L ++ [z], by go_num, by simp; omega, by omega, HC4.out, OW4.out, G4.out⟩
          case measure => simp [intOf]
    · obtain rfl : m = 0 := by omega
      go_wp2
      go_ret2
      exact ⟨en, _, L, rfl, by omega, OW2.out, below_of_cur G2.out⟩
end Go.Proofs.YtjnnikbgpjiecaaDoor
namespace Go.Proofs.YtjnnikbgpjiecaaDoor
open Go
theorem byt_app (p q : ByteArray) (j : Nat) (h : j < p.size) : byt (p ++ q) j = byt p j := byt_app_l p q j h
theorem enc_app_up (p q : ByteArray) (r : Int) (w : Nat) (h : Enc p 0 r w) : Enc (p ++ q) 0 r w := by
  have hp := h.pos
  obtain ⟨g, h1, h2⟩ := h
  refine ⟨g, by rw [ByteArray.size_append]; omega, ?_⟩
  rcases h2 with ⟨rfl, a⟩ | ⟨rfl, a⟩ | ⟨rfl, a⟩ | ⟨rfl, a⟩
  · rw [byt_app p q 0 (by omega)]; exact .inl ⟨rfl, a⟩
  · rw [byt_app p q 0 (by omega), byt_app p q (0 + 1) (by omega)]; exact .inr (.inl ⟨rfl, a⟩)
  · rw [byt_app p q 0 (by omega), byt_app p q (0 + 1) (by omega), byt_app p q (0 + 2) (by omega)]; exact .inr (.inr (.inl ⟨rfl, a⟩))
  · rw [byt_app p q 0 (by omega), byt_app p q (0 + 1) (by omega), byt_app p q (0 + 2) (by omega), byt_app p q (0 + 3) (by omega)]; exact .inr (.inr (.inr ⟨rfl, a⟩))
theorem enc_app_down (p q : ByteArray) (r : Int) (w : Nat) (h0 : 0 < p.size) (hb : begB p = false) (h : Enc (p ++ q) 0 r w) : Enc p 0 r w := by
  have hp := h.pos
  obtain ⟨g, h1, h2⟩ := h
  have hg := goodB_true g
  have hb' : ¬ BegP p.size (byt p 0) (byt p 1) (byt p 2) := fun hh => by rw [(begB_iff p).2 hh] at hb; cases hb
  unfold BegP at hb'
  have e0 := byt_app p q 0 h0
  by_cases hw : w ≤ p.size
  · refine ⟨g, by omega, ?_⟩
    rcases h2 with ⟨rfl, a⟩ | ⟨rfl, a⟩ | ⟨rfl, a⟩ | ⟨rfl, a⟩
    · rw [byt_app p q 0 (by omega)] at a; exact .inl ⟨rfl, a⟩
    · rw [byt_app p q 0 (by omega), byt_app p q (0 + 1) (by omega)] at a; exact .inr (.inl ⟨rfl, a⟩)
    · rw [byt_app p q 0 (by omega), byt_app p q (0 + 1) (by omega), byt_app p q (0 + 2) (by omega)] at a; exact .inr (.inr (.inl ⟨rfl, a⟩))
    · rw [byt_app p q 0 (by omega), byt_app p q (0 + 1) (by omega), byt_app p q (0 + 2) (by omega), byt_app p q (0 + 3) (by omega)] at a; exact .inr (.inr (.inr ⟨rfl, a⟩))
  · exfalso
    simp only [Nat.zero_add] at h2
    rcases (by omega : p.size = 1 ∨ p.size = 2 ∨ p.size = 3) with hs | hs | hs
    · omega
    · have e1 := byt_app p q 1 (by omega)
      omega
    · have e1 := byt_app p q 1 (by omega)
      have e2 := byt_app p q 2 (by omega)
      omega
theorem beg_app (p q : ByteArray) (h0 : 0 < p.size) (hb : begB p = false) : begB (p ++ q) = false := by
  rw [Bool.eq_false_iff]
  intro h
  have hh := (begB_iff (p ++ q)).1 h
  have hb' : ¬ BegP p.size (byt p 0) (byt p 1) (byt p 2) := fun hh => by rw [(begB_iff p).2 hh] at hb; cases hb
  have hz := ByteArray.size_append (a := p) (b := q)
  have e0 := byt_app p q 0 h0
  unfold BegP at hh hb'
  rcases (by omega : p.size = 1 ∨ p.size = 2 ∨ p.size = 3) with hs | hs | hs
  · omega
  · have e1 := byt_app p q 1 (by omega)
    omega
  · have e1 := byt_app p q 1 (by omega)
    have e2 := byt_app p q 2 (by omega)
    omega
theorem dec_app (p q : ByteArray) (h0 : 0 < p.size) (hb : begB p = false) : decR (p ++ q) 0 = decR p 0 ∧ decW (p ++ q) 0 = decW p 0 := by
  have hz := ByteArray.size_append (a := p) (b := q)
  have hd : Dec (p ++ q) 0 (decR p 0) (decW p 0) := by
    rcases decode_dec p 0 h0 with h | ⟨h1, h2, h3⟩
    · exact .inl (enc_app_up p q _ _ h)
    · exact .inr ⟨h1, h2, fun r' w' h => h3 r' w' (enc_app_down p q r' w' h0 hb h)⟩
  have := dec_is (by omega) hd
  exact ⟨this.1.symm, this.2.symm⟩
theorem unit_app (en : Int) (p q : ByteArray) (j : Nat) (h : j + 1 < p.size) : unitN en (p ++ q) j = unitN en p j := by
  unfold unitN
  rw [byt_app p q j (by omega), byt_app p q (j + 1) h]
theorem oneS_app (en : Int) (p q : ByteArray) (h0 : 0 < p.size) (h : (oneS en p).2 ≠ 0) : oneS en (p ++ q) = oneS en p := by
  have hz := ByteArray.size_append (a := p) (b := q)
  unfold oneS at h ⊢
  by_cases h1 : en = 1
  · simp only [h1, if_true] at h ⊢
    cases hb : begB p
    · have hd := dec_app p q h0 hb
      simp [beg_app p q h0 hb, hd.1, hd.2]
    · simp [hb] at h
  · simp only [h1, if_false] at h ⊢
    by_cases h2 : p.size < 2
    · simp [h2] at h
    · have u0 := unit_app en p q 0 (by omega)
      have n2 : ¬ (p ++ q).size < 2 := by omega
      rw [if_neg h2] at h
      rw [if_neg h2, if_neg n2, u0]
      by_cases hl : lowB (unitN en p 0) = true
      · rw [if_pos hl, if_pos hl]
      · rw [if_neg hl] at h
        rw [if_neg hl, if_neg hl]
        by_cases hh : highB (unitN en p 0) = false
        · rw [if_pos hh, if_pos hh]
        · rw [if_neg hh] at h
          rw [if_neg hh, if_neg hh]
          by_cases h4 : p.size < 4
          · rw [if_pos h4] at h; exact absurd rfl h
          · have u2 := unit_app en p q 2 (by omega)
            rw [if_neg h4, if_neg (by omega), u2]
theorem tail_app (p q : ByteArray) (n : Nat) (h : n ≤ p.size) : (p ++ q).extract n (p ++ q).size = p.extract n p.size ++ q := by
  apply ByteArray.ext
  apply Array.ext'
  have e1 : ((p ++ q).extract n (p ++ q).size).data.toList = ((p.data.toList ++ q.data.toList).drop n).take ((p ++ q).size - n) := by rw [Lib.extract_data]; simp
  have e2 : (p.extract n p.size ++ q).data.toList = (p.data.toList.drop n).take (p.size - n) ++ q.data.toList := by rw [ByteArray.data_append, Array.toList_append, Lib.extract_data]
  have l1 : p.data.toList.length = p.size := by simp
  have l2 : q.data.toList.length = q.size := by simp
  rw [e1, e2, List.drop_append_of_le_length (by omega), List.take_of_length_le (by simp [ByteArray.size_append]; omega), List.take_of_length_le (by simp)]
theorem feedU_fuel (en : Int) : ∀ (f g : Nat) (x : ByteArray), x.size ≤ f → x.size ≤ g → feedU en f x = feedU en g x
  | 0, g, x, hf, hg => by
    have h0 : x.size = 0 := by omega
    cases g <;> simp [feedU, h0]
  | f + 1, 0, x, hf, hg => by
    have h0 : x.size = 0 := by omega
    simp [feedU, h0]
  | f + 1, g + 1, x, hf, hg => by
    by_cases h0 : x.size = 0
    · simp [feedU, h0]
    · by_cases h1 : (oneS en x).2 = 0
      · simp [feedU, h1]
      · have hle := oneS_le en x (by omega)
        have ih := feedU_fuel en f g (x.extract (oneS en x).2 x.size) (by rw [ByteArray.size_extract]; omega) (by rw [ByteArray.size_extract]; omega)
        simp only [feedU, h0, h1, if_false, ih]
/-- In two pieces. -/
theorem feedU_two (en : Int) (q : ByteArray) : ∀ (f : Nat) (p : ByteArray), p.size ≤ f → ∀ g, (p ++ q).size ≤ g →
    feedU en g (p ++ q) = feedW (feedU en f p).1 (feedU en f p).2.1 (feedU en g ((feedU en f p).2.2 ++ q))
  | 0, p, hf, g, hg => by simp [feedU, feedW]
  | f + 1, p, hf, g, hg => by
    by_cases h0 : p.size = 0
    · simp [feedU, feedW, h0]
    · by_cases h1 : (oneS en p).2 = 0
      · simp [feedU, feedW, h1]
      · have hle := oneS_le en p (by omega)
        have hz := ByteArray.size_append (a := p) (b := q)
        have ha := oneS_app en p q (by omega) h1
        obtain ⟨g, rfl⟩ : ∃ g', g = g' + 1 := ⟨g - 1, by omega⟩
        have hx : (p.extract (oneS en p).2 p.size).size = p.size - (oneS en p).2 := by rw [ByteArray.size_extract]; omega
        have hxq := ByteArray.size_append (a := p.extract (oneS en p).2 p.size) (b := q)
        have ih := feedU_two en q f (p.extract (oneS en p).2 p.size) (by omega) g (by omega)
        have hst := feedW_step [] [] en g (p ++ q) (by omega) (by rw [ha]; omega)
        rw [ha, tail_app p q _ hle, ih] at hst
        have hl : feedU en (g + 1) (p ++ q) = feedW [] [] (feedU en (g + 1) (p ++ q)) := rfl
        have hheld : ((feedU en f (p.extract (oneS en p).2 p.size)).2.2 ++ q).size ≤ g := by
          rw [ByteArray.size_append]
          have : (feedU en f (p.extract (oneS en p).2 p.size)).2.2.size ≤ (p.extract (oneS en p).2 p.size).size := by
            have gen : ∀ (f : Nat) (x : ByteArray), (feedU en f x).2.2.size ≤ x.size := by
              intro f
              induction f with
              | zero => intro x; exact Nat.le_refl _
              | succ f ih =>
                intro x
                unfold feedU
                split
                · exact Nat.le_refl _
                · split
                  · exact Nat.le_refl _
                  · have h := ih (x.extract (oneS en x).2 x.size)
                    rw [ByteArray.size_extract] at h
                    show (feedU en f (x.extract (oneS en x).2 x.size)).2.2.size ≤ x.size
                    omega
            exact gen f _
          omega
        have hf2 := feedU_fuel en g (g + 1) _ hheld (by omega)
        rw [hl, hst]
        have hp : feedU en (f + 1) p = ((oneS en p).1 :: (feedU en f (p.extract (oneS en p).2 p.size)).1, ((oneS en p).2 : Int) :: (feedU en f (p.extract (oneS en p).2 p.size)).2.1, (feedU en f (p.extract (oneS en p).2 p.size)).2.2) := by
          rw [feedU, if_neg h0, if_neg h1]
        rw [hp, hf2]
        simp [feedW]
theorem feedB_two (en : Int) : ∀ (a b : List UInt8) (sh lo : Int), feedB en (a ++ b) sh lo = feedT (feedB en a sh lo).1 (feedB en a sh lo).2.1 (feedB en b (feedB en a sh lo).2.2.1 (feedB en a sh lo).2.2.2)
  | [], b, sh, lo => rfl
  | x :: a, b, sh, lo => by
    rw [List.cons_append, feedB, feedB]
    by_cases h : en = 5 ∧ ((x.toNat : Int) = 14 ∨ (x.toNat : Int) = 15)
    · rw [if_pos h, if_pos h]
      exact feedB_two en a b _ _
    · rw [if_neg h, if_neg h, feedB_two en a b sh 0]
      rfl
end Go.Proofs.YtjnnikbgpjiecaaDoor
namespace Go.Proofs.YtjnnikbgpjiecaaDoor
open Go
theorem enc_self (r : Int) (hg : goodB r = true) : Enc (encS r) 0 r (encS r).size := by
  rw [enc_iff (encS r) 0 r hg (encS r).size (by omega)]
  rw [Nat.zero_add]
  congr 1
  exact (ByteArray.extract_zero_size).symm
theorem beg_enc (r : Int) (hg : goodB r = true) : begB (encS r) = false := by
  rw [Bool.eq_false_iff]
  intro h
  have hh := (begB_iff (encS r)).1 h
  obtain ⟨_, h1, h2⟩ := enc_self r hg
  have hr := goodB_true hg
  unfold BegP at hh
  simp only [Nat.zero_add] at h2
  omega
theorem put1 (r : Int) (hg : goodB r = true) (t : ByteArray) : oneS 1 (encS r ++ t) = (r, (encS r).size) := by
  have h0 : 0 < (encS r).size := by have := encN_len r; rw [encS_size]; omega
  have hz := ByteArray.size_append (a := encS r) (b := t)
  have hd := dec_is (s := encS r ++ t) (i := 0) (by omega) (.inl (enc_app_up (encS r) t r _ (enc_self r hg)))
  unfold oneS
  rw [if_pos rfl, beg_app _ _ h0 (beg_enc r hg)]
  rw [← hd.1, ← hd.2]
  rfl
theorem pair_unit (en n : Int) (h0 : 0 ≤ n) (h1 : n ≤ 65535) (t : ByteArray) : unitN en (pairS en n ++ t) 0 = n := by
  rw [unit_app en (pairS en n) t 0 (by rw [pairS_size]; omega)]
  unfold unitN pairS
  by_cases h : en = 2
  · rw [if_pos h, if_pos h, byt_nums (j := 0) (x := n / 256) rfl (by omega) (by omega), byt_nums (j := 0 + 1) (x := n % 256) rfl (by omega) (by omega)]
    omega
  · rw [if_neg h, if_neg h, byt_nums (j := 0) (x := n % 256) rfl (by omega) (by omega), byt_nums (j := 0 + 1) (x := n / 256) rfl (by omega) (by omega)]
    omega
theorem pair_unit2 (en m n : Int) (h0 : 0 ≤ n) (h1 : n ≤ 65535) (t : ByteArray) : unitN en (pairS en m ++ pairS en n ++ t) 2 = n := by
  have hz := pairS_size en m
  have hn := pairS_size en n
  have e := pair_unit en n h0 h1 t
  have hz2 := ByteArray.size_append (a := pairS en n) (b := t)
  rw [ByteArray.append_assoc]
  have a := byt_app_r (pairS en m) (pairS en n ++ t) 0 (by omega)
  have b := byt_app_r (pairS en m) (pairS en n ++ t) 1 (by omega)
  rw [hz] at a b
  unfold unitN at e ⊢
  simp only [Nat.add_zero, Nat.zero_add] at a b e ⊢
  rw [a, show (2 : Nat) + 1 = 2 + 1 from rfl, b]
  exact e
theorem put23 (en sh r : Int) (hu : unitsB en = true) (hg : goodB r = true) (t : ByteArray) : oneS en ((putS en sh r).s ++ t) = (r, (putS en sh r).s.size) := by
  have hr := goodB_true hg
  have h1 : ¬ en = 1 := by have := of_decide_eq_true (show decide (en = 2 ∨ en = 3) = true from hu); omega
  by_cases h65 : r < 65536
  · have hp : putS en sh r = ⟨pairS en r, 0, true⟩ := by simp [putS, h1, hu, h65]
    rw [hp]
    show oneS en (pairS en r ++ t) = (r, (pairS en r).size)
    have hz := ByteArray.size_append (a := pairS en r) (b := t)
    have hs := pairS_size en r
    unfold oneS
    rw [if_neg h1, if_neg (by omega), pair_unit en r hr.1 (by omega) t, hs]
    have l : lowB r = false := decide_eq_false (by omega)
    have hh : highB r = false := decide_eq_false (by omega)
    rw [l, hh]; rfl
  · have hp : putS en sh r = ⟨pairS en (55296 + (r - 65536) / 1024) ++ pairS en (56320 + (r - 65536) % 1024), 0, true⟩ := by simp [putS, h1, hu, h65]
    rw [hp]
    show oneS en (pairS en (55296 + (r - 65536) / 1024) ++ pairS en (56320 + (r - 65536) % 1024) ++ t) = (r, (pairS en (55296 + (r - 65536) / 1024) ++ pairS en (56320 + (r - 65536) % 1024)).size)
    have hz := ByteArray.size_append (a := pairS en (55296 + (r - 65536) / 1024) ++ pairS en (56320 + (r - 65536) % 1024)) (b := t)
    have hz2 := ByteArray.size_append (a := pairS en (55296 + (r - 65536) / 1024)) (b := pairS en (56320 + (r - 65536) % 1024))
    have hs := pairS_size en (55296 + (r - 65536) / 1024)
    have hs2 := pairS_size en (56320 + (r - 65536) % 1024)
    have u2 := pair_unit2 en (55296 + (r - 65536) / 1024) (56320 + (r - 65536) % 1024) (by omega) (by omega) t
    have u0 : unitN en (pairS en (55296 + (r - 65536) / 1024) ++ pairS en (56320 + (r - 65536) % 1024) ++ t) 0 = 55296 + (r - 65536) / 1024 := by
      rw [ByteArray.append_assoc]; exact pair_unit en _ (by omega) (by omega) _
    unfold oneS
    rw [if_neg h1, if_neg (by omega), u0, u2]
    have l : lowB (55296 + (r - 65536) / 1024) = false := decide_eq_false (by omega)
    have hh : highB (55296 + (r - 65536) / 1024) = true := decide_eq_true (by omega)
    have l2 : lowB (56320 + (r - 65536) % 1024) = true := decide_eq_true (by omega)
    rw [l, hh, l2, if_neg (by decide), if_neg (by decide), if_neg (by omega), if_pos rfl]
    refine Prod.ext ?_ ?_
    · show 65536 + (55296 + (r - 65536) / 1024 - 55296) * 1024 + (56320 + (r - 65536) % 1024) - 56320 = r
      omega
    · show 4 = _
      omega
/-- The lengths that are told and what is held make all bytes. -/
def sumI (l : List Int) : Int := l.foldr (· + ·) 0
theorem sumI_cons (x : Int) (l : List Int) : sumI (x :: l) = x + sumI l := rfl
theorem sumI_append (a b : List Int) : sumI (a ++ b) = sumI a + sumI b := by
  induction a with
  | nil => simp [sumI]
  | cons x a ih => rw [List.cons_append, sumI_cons, sumI_cons, ih]; omega
theorem feedU_sum (en : Int) : ∀ (f : Nat) (x : ByteArray), sumI (feedU en f x).2.1 + ((feedU en f x).2.2.size : Int) = (x.size : Int)
  | 0, x => by simp [feedU, sumI]
  | f + 1, x => by
    by_cases h0 : x.size = 0
    · simp [feedU, h0, sumI]
    · by_cases h1 : (oneS en x).2 = 0
      · simp [feedU, h1, sumI]
      · have hle := oneS_le en x (by omega)
        have ih := feedU_sum en f (x.extract (oneS en x).2 x.size)
        have hx : (x.extract (oneS en x).2 x.size).size = x.size - (oneS en x).2 := by rw [ByteArray.size_extract]; omega
        rw [feedU, if_neg h0, if_neg h1]
        show sumI (((oneS en x).2 : Int) :: (feedU en f (x.extract (oneS en x).2 x.size)).2.1) + ((feedU en f (x.extract (oneS en x).2 x.size)).2.2.size : Int) = _
        rw [sumI_cons]
        omega
theorem feedB_sum (en : Int) : ∀ (l : List UInt8) (sh lo : Int), sumI (feedB en l sh lo).2.1 + (feedB en l sh lo).2.2.2 = (l.length : Int) + lo
  | [], sh, lo => by simp [feedB, sumI]
  | b :: t, sh, lo => by
    rw [feedB]
    by_cases h : en = 5 ∧ ((b.toNat : Int) = 14 ∨ (b.toNat : Int) = 15)
    · rw [if_pos h]
      have ih := feedB_sum en t (15 - b.toNat) (lo + 1)
      rw [List.length_cons]
      omega
    · rw [if_neg h]
      have ih := feedB_sum en t sh 0
      show sumI ((lo + 1) :: (feedB en t sh 0).2.1) + (feedB en t sh 0).2.2.2 = _
      rw [sumI_cons, List.length_cons]
      omega
theorem flushN_sum (u : Bool) : ∀ (f n : Nat), n ≤ f → sumI (flushN u f n) = (n : Int)
  | 0, n, h => by
    obtain rfl : n = 0 := by omega
    rfl
  | f + 1, 0, h => rfl
  | f + 1, n + 1, h => by
    unfold flushN
    split
    · rename_i hc
      have hn : 0 < n := by simp at hc; exact hc.2
      rw [sumI_cons, flushN_sum u f (n - 1) (by omega)]
      omega
    · rw [sumI_cons, flushN_sum u f n (by omega)]
      omega
/-- All runes of a list, written one behind the other, and the shift behind. -/
def putAll (en : Int) : List Int → Int → ByteArray × Int
  | [], sh => (⟨#[]⟩, sh)
  | r :: L, sh => ((putS en sh r).s ++ (putAll en L (putS en sh r).sh).1, (putAll en L (putS en sh r).sh).2)
def okAll (en : Int) : List Int → Int → Bool
  | [], _ => true
  | r :: L, sh => (putS en sh r).ok && okAll en L (putS en sh r).sh
theorem encGo_ok (en : Int) : ∀ (L : List Int) (k : Nat) (sh : Int) (s : ByteArray), okAll en L sh = true → encGo en L k sh s = encEnd (putAll en L sh).2 (s ++ (putAll en L sh).1)
  | [], k, sh, s, _ => by
    show encEnd sh s = encEnd sh (s ++ ⟨#[]⟩)
    congr 1
    exact (ByteArray.append_empty).symm
  | r :: L, k, sh, s, h => by
    unfold okAll at h
    rw [Bool.and_eq_true] at h
    rw [encGo, if_pos h.1, encGo_ok en L (k + 1) _ _ h.2]
    show encEnd _ _ = encEnd (putAll en L (putS en sh r).sh).2 (s ++ ((putS en sh r).s ++ (putAll en L (putS en sh r).sh).1))
    rw [ByteArray.append_assoc]
theorem encGo_neg (en : Int) : ∀ (L : List Int) (k : Nat) (sh : Int) (s : ByteArray), (encGo en L k sh s).k < 0 → okAll en L sh = true
  | [], _, _, _, _ => rfl
  | r :: L, k, sh, s, h => by
    cases ho : (putS en sh r).ok
    · rw [encGo, ho] at h
      simp at h
      omega
    · rw [encGo, if_pos ho] at h
      unfold okAll
      rw [ho, encGo_neg en L (k + 1) _ _ h]; rfl
theorem oneS_put (en sh r : Int) (h : 1 ≤ en ∧ en ≤ 3) (hg : goodB r = true) (t : ByteArray) : oneS en ((putS en sh r).s ++ t) = (r, (putS en sh r).s.size) ∧ 0 < (putS en sh r).s.size ∧ (putS en sh r).sh = 0 := by
  by_cases h1 : en = 1
  · subst h1
    have hp : putS 1 sh r = ⟨encS r, 0, true⟩ := by simp [putS]
    rw [hp]
    exact ⟨put1 r hg t, by show 0 < (encS r).size; have := encN_len r; rw [encS_size]; omega, rfl⟩
  · have hu : unitsB en = true := decide_eq_true (by omega)
    refine ⟨put23 en sh r hu hg t, ?_, ?_⟩
    · by_cases h65 : r < 65536
      · have hp : putS en sh r = ⟨pairS en r, 0, true⟩ := by simp [putS, h1, hu, h65]
        rw [hp]; show 0 < (pairS en r).size; rw [pairS_size]; omega
      · have hp : putS en sh r = ⟨pairS en (55296 + (r - 65536) / 1024) ++ pairS en (56320 + (r - 65536) % 1024), 0, true⟩ := by simp [putS, h1, hu, h65]
        rw [hp]; show 0 < (pairS en _ ++ pairS en _).size; rw [ByteArray.size_append, pairS_size]; omega
    · by_cases h65 : r < 65536 <;> simp [putS, h1, hu, h65]
theorem app_tail (p q : ByteArray) : (p ++ q).extract p.size (p ++ q).size = q := by
  rw [tail_app p q p.size (Nat.le_refl _)]
  have : p.extract p.size p.size = ⟨#[]⟩ := by
    apply ByteArray.ext
    apply Array.ext'
    rw [Lib.extract_data]
    simp
  rw [this]
  exact ByteArray.empty_append
theorem feedU_put (en : Int) (h : 1 ≤ en ∧ en ≤ 3) : ∀ (L : List Int) (sh : Int) (f : Nat), (∀ r ∈ L, goodB r = true) → (putAll en L sh).1.size ≤ f → (feedU en f (putAll en L sh).1).1 = L ∧ (feedU en f (putAll en L sh).1).2.2.size = 0
  | [], sh, f, _, _ => by
    have : (putAll en [] sh).1 = ⟨#[]⟩ := rfl
    rw [this]
    have z : (⟨#[]⟩ : ByteArray).size = 0 := rfl
    cases f <;> simp [feedU, z]
  | r :: L, sh, f, hg, hf => by
    have ho := oneS_put en sh r h (hg r List.mem_cons_self) (putAll en L (putS en sh r).sh).1
    have hz := ByteArray.size_append (a := (putS en sh r).s) (b := (putAll en L (putS en sh r).sh).1)
    have e : (putAll en (r :: L) sh).1 = (putS en sh r).s ++ (putAll en L (putS en sh r).sh).1 := rfl
    rw [e] at hf ⊢
    obtain ⟨f, rfl⟩ : ∃ f', f = f' + 1 := ⟨f - 1, by omega⟩
    have ih := feedU_put en h L (putS en sh r).sh f (fun x hx => hg x (List.mem_cons_of_mem _ hx)) (by omega)
    rw [feedU, if_neg (by omega), ho.1, if_neg (by show ¬ (putS en sh r).s.size = 0; omega)]
    show (r :: (feedU en f (((putS en sh r).s ++ (putAll en L (putS en sh r).sh).1).extract (putS en sh r).s.size ((putS en sh r).s ++ (putAll en L (putS en sh r).sh).1).size)).1) = r :: L ∧ (feedU en f (((putS en sh r).s ++ (putAll en L (putS en sh r).sh).1).extract (putS en sh r).s.size ((putS en sh r).s ++ (putAll en L (putS en sh r).sh).1).size)).2.2.size = 0
    rw [app_tail, ih.1]
    exact ⟨rfl, ih.2⟩
theorem toList_app (a b : ByteArray) : (a ++ b).data.toList = a.data.toList ++ b.data.toList := by rw [ByteArray.data_append, Array.toList_append]
theorem nums_list (n : Int) (h0 : 0 ≤ n) (h1 : n ≤ 255) : ∃ b : UInt8, (strOfNums [n]).data.toList = [b] ∧ (b.toNat : Int) = n := by
  refine ⟨UInt8.ofNat n.toNat, rfl, ?_⟩
  have : n.toNat % 256 = n.toNat := Nat.mod_eq_of_lt (by omega)
  simp [this]
  omega
/-- A rune of a code of one byte a rune is read again, with the bytes ahead of it. -/
theorem feedB_put4 (sh r lo s0 : Int) (hg : goodB r = true) (hok : (putS 4 s0 r).ok = true) (t : List UInt8) : (feedB 4 ((putS 4 s0 r).s.data.toList ++ t) sh lo).1 = r :: (feedB 4 t sh 0).1 := by
  have hr := goodB_true hg
  have hu : unitsB 4 = false := by decide
  have hp : putS 4 s0 r = ⟨strOfNums [r % 256], 0, decide (r < 256)⟩ := by simp [putS, hu]
  rw [hp] at hok ⊢
  have h256 : r < 256 := of_decide_eq_true hok
  have e : r % 256 = r := by omega
  obtain ⟨b, hb, hbn⟩ := nums_list r hr.1 (by omega)
  show (feedB 4 ((strOfNums [r % 256]).data.toList ++ t) sh lo).1 = _
  rw [e, hb, List.singleton_append, feedB, if_neg (fun x => by cases x.1), if_neg (by decide), hbn]
theorem feedB_put5 (r lo s0 : Int) (hg : goodB r = true) (h01 : s0 = 0 ∨ s0 = 1) (hok : (putS 5 s0 r).ok = true) (t : List UInt8) :
    (feedB 5 ((putS 5 s0 r).s.data.toList ++ t) s0 lo).1 = r :: (feedB 5 t (putS 5 s0 r).sh 0).1 ∧ ((putS 5 s0 r).sh = 0 ∨ (putS 5 s0 r).sh = 1) := by
  have hr := goodB_true hg
  have hu : unitsB 5 = false := by decide
  by_cases h32 : r < 32
  · have hp : putS 5 s0 r = ⟨strOfNums [r], s0, decide (r ≠ 14 ∧ r ≠ 15)⟩ := by simp [putS, hu, h32]
    rw [hp] at hok ⊢
    have hne : r ≠ 14 ∧ r ≠ 15 := of_decide_eq_true hok
    obtain ⟨b, hb, hbn⟩ := nums_list r hr.1 (by omega)
    refine ⟨?_, h01⟩
    show (feedB 5 ((strOfNums [r]).data.toList ++ t) s0 lo).1 = r :: (feedB 5 t s0 0).1
    rw [hb, List.singleton_append, feedB, if_neg (by omega), if_pos rfl, hbn]
    have : shiftedN s0 r = r := by unfold shiftedN; rw [if_pos (.inl h32)]
    rw [this]
  · by_cases hk : 12352 ≤ r ∧ r ≤ 12446
    · have hp : putS 5 s0 r = ⟨if s0 = 1 then strOfNums [r - 12352 + 32] else strOfNums [14] ++ strOfNums [r - 12352 + 32], 1, true⟩ := by simp [putS, hu, h32, hk]
      rw [hp]
      obtain ⟨b, hb, hbn⟩ := nums_list (r - 12352 + 32) (by omega) (by omega)
      have sN : shiftedN 1 (r - 12352 + 32) = r := by unfold shiftedN; rw [if_neg (by omega), if_pos (by omega)]; omega
      refine ⟨?_, .inr rfl⟩
      rcases h01 with rfl | rfl
      · show (feedB 5 ((strOfNums [14] ++ strOfNums [r - 12352 + 32]).data.toList ++ t) 0 lo).1 = r :: (feedB 5 t 1 0).1
        obtain ⟨c, hc, hcn⟩ := nums_list 14 (by omega) (by omega)
        rw [toList_app, hb, hc, List.append_assoc, List.singleton_append, List.singleton_append, feedB, if_pos ⟨rfl, by omega⟩, hcn, feedB, if_neg (by omega), if_pos rfl, hbn]
        show shiftedN (15 - 14) (r - 12352 + 32) :: (feedB 5 t (15 - 14) 0).1 = _
        rw [show (15 : Int) - 14 = 1 from rfl, sN]
      · show (feedB 5 ((strOfNums [r - 12352 + 32]).data.toList ++ t) 1 lo).1 = r :: (feedB 5 t 1 0).1
        rw [hb, List.singleton_append, feedB, if_neg (by omega), if_pos rfl, hbn, sN]
    · by_cases h126 : r ≤ 126
      · have hp : putS 5 s0 r = ⟨if s0 = 0 then strOfNums [r] else strOfNums [15] ++ strOfNums [r], 0, true⟩ := by simp [putS, hu, h32, hk, h126]
        rw [hp]
        obtain ⟨b, hb, hbn⟩ := nums_list r hr.1 (by omega)
        have sN : shiftedN 0 r = r := by unfold shiftedN; rw [if_pos (.inr ⟨by omega, rfl⟩)]
        refine ⟨?_, .inl rfl⟩
        rcases h01 with rfl | rfl
        · show (feedB 5 ((strOfNums [r]).data.toList ++ t) 0 lo).1 = r :: (feedB 5 t 0 0).1
          rw [hb, List.singleton_append, feedB, if_neg (by omega), if_pos rfl, hbn, sN]
        · show (feedB 5 ((strOfNums [15] ++ strOfNums [r]).data.toList ++ t) 1 lo).1 = r :: (feedB 5 t 0 0).1
          obtain ⟨c, hc, hcn⟩ := nums_list 15 (by omega) (by omega)
          rw [toList_app, hb, hc, List.append_assoc, List.singleton_append, List.singleton_append, feedB, if_pos ⟨rfl, by omega⟩, hcn, feedB, if_neg (by omega), if_pos rfl, hbn]
          show shiftedN (15 - 15) r :: (feedB 5 t (15 - 15) 0).1 = _
          rw [show (15 : Int) - 15 = 0 from rfl, sN]
      · have hp : putS 5 s0 r = ⟨⟨#[]⟩, 0, false⟩ := by simp [putS, hu, h32, hk, h126]
        rw [hp] at hok
        cases hok
end Go.Proofs.YtjnnikbgpjiecaaDoor
namespace Go.Proofs.YtjnnikbgpjiecaaDoor
open Go
theorem feed4_all (sh : Int) : ∀ (L : List Int) (s0 lo : Int), (∀ r ∈ L, goodB r = true) → okAll 4 L s0 = true → (feedB 4 (putAll 4 L s0).1.data.toList sh lo).1 = L
  | [], _, _, _, _ => rfl
  | r :: L, s0, lo, hg, hok => by
    unfold okAll at hok
    rw [Bool.and_eq_true] at hok
    have e : (putAll 4 (r :: L) s0).1 = (putS 4 s0 r).s ++ (putAll 4 L (putS 4 s0 r).sh).1 := rfl
    rw [e, toList_app, feedB_put4 sh r lo s0 (hg r List.mem_cons_self) hok.1, feed4_all sh L _ 0 (fun x hx => hg x (List.mem_cons_of_mem _ hx)) hok.2]
theorem feed5_all (tail : List UInt8) (ht : ∀ sh lo, (feedB 5 tail sh lo).1 = []) : ∀ (L : List Int) (s0 lo : Int), (s0 = 0 ∨ s0 = 1) → (∀ r ∈ L, goodB r = true) → okAll 5 L s0 = true → (feedB 5 ((putAll 5 L s0).1.data.toList ++ tail) s0 lo).1 = L
  | [], s0, lo, _, _, _ => ht s0 lo
  | r :: L, s0, lo, h01, hg, hok => by
    unfold okAll at hok
    rw [Bool.and_eq_true] at hok
    have e : (putAll 5 (r :: L) s0).1 = (putS 5 s0 r).s ++ (putAll 5 L (putS 5 s0 r).sh).1 := rfl
    have hp := feedB_put5 r lo s0 (hg r List.mem_cons_self) h01 hok.1 ((putAll 5 L (putS 5 s0 r).sh).1.data.toList ++ tail)
    rw [e, toList_app, List.append_assoc, hp.1, feed5_all tail ht L _ 0 hp.2 (fun x hx => hg x (List.mem_cons_of_mem _ hx)) hok.2]
theorem putAll_sh (en : Int) (h : en ≠ 5) (hc : codeB en = true) : ∀ (L : List Int), (putAll en L 0).2 = 0
  | [] => rfl
  | r :: L => by
    have hce := of_decide_eq_true (show decide (1 ≤ en ∧ en ≤ 5) = true from hc)
    have hs : (putS en 0 r).sh = 0 := by
      by_cases h1 : en = 1
      · simp [putS, h1]
      · cases hu : unitsB en
        · have hu' := of_decide_eq_false (show decide (en = 2 ∨ en = 3) = false from hu)
          have h4 : en = 4 := by omega
          subst h4
          simp [putS, hu]
        · by_cases h65 : r < 65536 <;> simp [putS, h1, hu, h65]
    show (putAll en L (putS en 0 r).sh).2 = 0
    rw [hs]
    exact putAll_sh en h hc L
theorem encEnd_text {sh : Int} {s : ByteArray} (h : (encEnd sh s).ok = true) : (encEnd sh s).s = (if sh = 1 then s ++ strOfNums [15] else s) := by
  by_cases hc : (if sh = 1 then s ++ strOfNums [15] else s).size ≤ 1000
  · rw [encEnd, if_pos hc]
  · rw [encEnd, if_neg hc] at h
    cases h
theorem dec_enc (en : Int) (L : List Int) (hok : (encA en L).ok = true) (hk : (encA en L).k < 0) : decRs en (encA en L).s = L := by
  have hc : codeB en = true := by
    cases h : codeB en
    · simp [encA, h] at hok
    · rfl
  have hn : (allG L && decide (L.length ≤ 1000)) = true := by
    cases h : (allG L && decide (L.length ≤ 1000))
    · rw [encA, h, Bool.and_false] at hok; cases hok
    · rfl
  have hg := allG_true ((Bool.and_eq_true _ _).mp hn).1
  have hE : encA en L = encGo en L 0 0 ⟨#[]⟩ := by rw [encA, hc, hn]; rfl
  rw [hE] at hok hk ⊢
  have hall := encGo_neg en L 0 0 ⟨#[]⟩ hk
  rw [encGo_ok en L 0 0 ⟨#[]⟩ hall] at hok ⊢
  rw [encEnd_text hok]
  have hemp : (⟨#[]⟩ : ByteArray) ++ (putAll en L 0).1 = (putAll en L 0).1 := ByteArray.empty_append
  rw [hemp]
  have hce := of_decide_eq_true (show decide (1 ≤ en ∧ en ≤ 5) = true from hc)
  unfold decRs
  by_cases h5 : en = 5
  · subst h5
    have hfd : ∀ s : ByteArray, feedD 5 0 0 ⟨#[]⟩ s = ⟨(feedB 5 s.data.toList 0 0).2.2.1, (feedB 5 s.data.toList 0 0).2.2.2, ⟨#[]⟩, (feedB 5 s.data.toList 0 0).1, (feedB 5 s.data.toList 0 0).2.1⟩ := fun s => by simp [feedD]
    rw [hfd]
    show (feedB 5 _ 0 0).1 ++ bads (flushN (unitsB 5) 0 0).length = L
    have hb : bads (flushN (unitsB 5) 0 0).length = [] := rfl
    rw [hb, List.append_nil]
    by_cases hs : (putAll 5 L 0).2 = 1
    · rw [if_pos hs, toList_app]
      obtain ⟨c, hc15, hcn⟩ := nums_list 15 (by omega) (by omega)
      rw [hc15]
      refine feed5_all [c] (fun sh lo => ?_) L 0 0 (.inl rfl) hg hall
      rw [feedB, if_pos ⟨rfl, by omega⟩]
      rfl
    · rw [if_neg hs]
      have := feed5_all [] (fun _ _ => rfl) L 0 0 (.inl rfl) hg hall
      rwa [List.append_nil] at this
  · rw [putAll_sh en h5 hc L, if_neg (by decide)]
    by_cases h4 : en = 4
    · subst h4
      have hfd : ∀ s : ByteArray, feedD 4 0 0 ⟨#[]⟩ s = ⟨(feedB 4 s.data.toList 0 0).2.2.1, (feedB 4 s.data.toList 0 0).2.2.2, ⟨#[]⟩, (feedB 4 s.data.toList 0 0).1, (feedB 4 s.data.toList 0 0).2.1⟩ := fun s => by simp [feedD]
      rw [hfd]
      show (feedB 4 _ 0 0).1 ++ bads (flushN (unitsB 4) 0 0).length = L
      have hb : bads (flushN (unitsB 4) 0 0).length = [] := rfl
      rw [hb, List.append_nil]
      exact feed4_all 0 L 0 0 hg hall
    · have hf := feedU_put en (by omega) L 0 (putAll en L 0).1.size hg (Nat.le_refl _)
      have hfd : feedD en 0 0 ⟨#[]⟩ (putAll en L 0).1 = ⟨0, 0, (feedU en (putAll en L 0).1.size (putAll en L 0).1).2.2, (feedU en (putAll en L 0).1.size (putAll en L 0).1).1, (feedU en (putAll en L 0).1.size (putAll en L 0).1).2.1⟩ := by
        unfold feedD
        rw [if_neg (by omega), hemp]
      rw [hfd]
      show (feedU en (putAll en L 0).1.size (putAll en L 0).1).1 ++ bads (flushN (unitsB en) (feedU en (putAll en L 0).1.size (putAll en L 0).1).2.2.size (feedU en (putAll en L 0).1.size (putAll en L 0).1).2.2.size).length = L
      rw [hf.2, hf.1]
      exact List.append_nil _
end Go.Proofs.YtjnnikbgpjiecaaDoor
namespace Go.Proofs.YtjnnikbgpjiecaaDoor
open Go
theorem encEnd_neg {sh : Int} {s : ByteArray} (h : (encEnd sh s).ok = true) : (encEnd sh s).k = -1 := by
  by_cases hc : (if sh = 1 then s ++ strOfNums [15] else s).size ≤ 1000
  · rw [encEnd, if_pos hc]
  · rw [encEnd, if_neg hc] at h
    cases h
theorem encGo_at (en : Int) : ∀ (L : List Int) (k : Nat) (sh : Int) (s : ByteArray), (encGo en L k sh s).ok = true → 0 ≤ (encGo en L k sh s).k →
    ∃ j, j < L.length ∧ (encGo en L k sh s).k = ((k + j : Nat) : Int) ∧ okAll en (L.take j) sh = true ∧ ∀ (k' : Nat) (s' : ByteArray), encGo en (L.take (j + 1)) k' sh s' = ⟨⟨#[]⟩, ((k' + j : Nat) : Int), true⟩
  | [], k, sh, s, h, h0 => by
    have := encEnd_neg (sh := sh) (s := s) h
    have h0' : 0 ≤ (encEnd sh s).k := h0
    omega
  | r :: L, k, sh, s, h, h0 => by
    cases ho : (putS en sh r).ok
    · refine ⟨0, by simp, ?_, rfl, fun k' s' => ?_⟩
      · rw [encGo, ho]; rfl
      · show encGo en [r] k' sh s' = _
        rw [encGo, ho]; rfl
    · rw [encGo, if_pos ho] at h h0
      obtain ⟨j, hj, hk, ha, hb⟩ := encGo_at en L (k + 1) _ _ h h0
      refine ⟨j + 1, by simp; omega, ?_, ?_, fun k' s' => ?_⟩
      · rw [encGo, if_pos ho, hk]; congr 1; omega
      · rw [List.take_succ_cons]
        unfold okAll
        rw [ho, ha]; rfl
      · rw [List.take_succ_cons, encGo, if_pos ho, hb]
        congr 2
        omega
theorem putAll_size (en : Int) : ∀ (L : List Int) (sh : Int), (putAll en L sh).1.size ≤ 4 * L.length
  | [], _ => Nat.le_refl _
  | r :: L, sh => by
    have h1 := putS_size en sh r
    have h2 := putAll_size en L (putS en sh r).sh
    show ((putS en sh r).s ++ (putAll en L (putS en sh r).sh).1).size ≤ _
    rw [ByteArray.size_append, List.length_cons]
    omega
theorem encEnd_small (sh : Int) (s : ByteArray) (h : s.size ≤ 999) : (encEnd sh s).ok = true := by
  have hc : (if sh = 1 then s ++ strOfNums [15] else s).size ≤ 1000 := by
    split
    · rw [ByteArray.size_append, strOf_size]; show s.size + 1 ≤ 1000; omega
    · omega
  rw [encEnd, if_pos hc]
theorem allG_take {L : List Int} (h : (allG L && decide (L.length ≤ 1000)) = true) (j : Nat) : (allG (L.take j) && decide ((L.take j).length ≤ 1000)) = true := by
  rw [Bool.and_eq_true] at h ⊢
  have hl := of_decide_eq_true h.2
  refine ⟨List.all_eq_true.2 fun r hr => allG_true h.1 r (List.mem_of_mem_take hr), decide_eq_true ?_⟩
  rw [List.length_take]
  omega
/-- With a short list: the runes ahead of the first one that can't be written can be written, and with it they can't. -/
theorem enc_first (en : Int) (L : List Int) (hl : L.length ≤ 200) (hok : (encA en L).ok = true) (h0 : 0 ≤ (encA en L).k) :
    ∃ j, j < L.length ∧ (encA en L).k = (j : Int) ∧ (encA en (L.take j)).ok = true ∧ (encA en (L.take j)).k = -1 ∧ (encA en (L.take (j + 1))).ok = true ∧ (encA en (L.take (j + 1))).k = (j : Int) := by
  have hc : codeB en = true := by
    cases h : codeB en
    · simp [encA, h] at hok
    · rfl
  have hn : (allG L && decide (L.length ≤ 1000)) = true := by
    cases h : (allG L && decide (L.length ≤ 1000))
    · rw [encA, h, Bool.and_false] at hok; cases hok
    · rfl
  have hE : ∀ M : List Int, (allG M && decide (M.length ≤ 1000)) = true → encA en M = encGo en M 0 0 ⟨#[]⟩ := fun M hM => by rw [encA, hc, hM]; rfl
  rw [hE L hn] at hok h0
  obtain ⟨j, hj, hk, ha, hb⟩ := encGo_at en L 0 0 ⟨#[]⟩ hok h0
  have hE1 := hE _ (allG_take hn j)
  have hE2 := hE _ (allG_take hn (j + 1))
  have hg1 := encGo_ok en (L.take j) 0 0 ⟨#[]⟩ ha
  have hz := putAll_size en (L.take j) 0
  have hlt := List.length_take_le j L
  have hs : ((⟨#[]⟩ : ByteArray) ++ (putAll en (L.take j) 0).1).size ≤ 999 := by
    rw [ByteArray.size_append]
    show 0 + _ ≤ 999
    omega
  have hok1 := encEnd_small (putAll en (L.take j) 0).2 _ hs
  refine ⟨j, hj, ?_, ?_, ?_, ?_, ?_⟩
  · rw [hE L hn, hk]; congr 1; omega
  · rw [hE1, hg1]; exact hok1
  · rw [hE1, hg1]; exact encEnd_neg hok1
  · rw [hE2, hb]
  · rw [hE2, hb]; show ((0 + j : Nat) : Int) = _; congr 1; omega
/-- The lengths told are no more than the bytes. -/
theorem decLs_sum (en : Int) (s : ByteArray) : sumI (decLs en s) ≤ (s.size : Int) := by
  unfold decLs
  rw [sumI_append, flushN_sum _ _ _ (Nat.le_refl _)]
  unfold feedD
  by_cases h45 : en = 4 ∨ en = 5
  · rw [if_pos h45]
    have h := feedB_sum en s.data.toList 0 0
    have hl : s.data.toList.length = s.size := by simp
    have hlo : ∀ (l : List UInt8) (sh lo : Int), 0 ≤ lo → 0 ≤ (feedB en l sh lo).2.2.2 := by
      intro l
      induction l with
      | nil => intro sh lo h; exact h
      | cons b t ih =>
        intro sh lo h
        rw [feedB]
        split
        · exact ih _ _ (by omega)
        · exact ih _ 0 (Int.le_refl 0)
    have h0 := hlo s.data.toList 0 0 (Int.le_refl 0)
    show sumI (feedB en s.data.toList 0 0).2.1 + ((0 : Nat) : Int) ≤ _
    omega
  · rw [if_neg h45]
    have h := feedU_sum en ((⟨#[]⟩ : ByteArray) ++ s).size ((⟨#[]⟩ : ByteArray) ++ s)
    have hz : ((⟨#[]⟩ : ByteArray) ++ s).size = s.size := by rw [ByteArray.size_append]; show 0 + s.size = s.size; omega
    show sumI (feedU en ((⟨#[]⟩ : ByteArray) ++ s).size ((⟨#[]⟩ : ByteArray) ++ s)).2.1 + ((feedU en ((⟨#[]⟩ : ByteArray) ++ s).size ((⟨#[]⟩ : ByteArray) ++ s)).2.2.size : Int) ≤ _
    rw [h, hz]
    exact Int.le_refl _
end Go.Proofs.YtjnnikbgpjiecaaDoor
namespace Go.Proofs.YtjnnikbgpjiecaaDoor
open Go.ChangeShapes Go.WideShapes Go.ChangeAt Go.RowKit
set_option maxRecDepth 100000 in
set_option maxHeartbeats 1000000 in
theorem inew_no (en : Int) (w : World) (h : codeB en = false) :
    Calls Tryd.prog 32 #[.int .i64 en] w fun e w' => e = .returned (.tuple #[decV 0 0 0 ⟨#[]⟩, .bool false]) ∧ Below w.heap.size w w' := by
  have HC : Hid _ := h
  have b0 : Below w.heap.size w (w.alloc (.cells #[.int .i64 0, .int .i64 0, .int .i64 0, .string ⟨#[]⟩] 25)) := (Below.refl _ _).alloc (Nat.le_refl _) _
  obtain ⟨r0, r1, r2, r3, gz, -⟩ := DecAt.new w 0 0 0 ⟨#[]⟩ 25 _ rfl
  have g0 := gz 0
  have g1 := gz 1
  have g2 := gz 2
  have g3 := gz 3
  clear h gz
  go_enter Tryd.func32, Tryd.ntmps32
  go_wp2_with fail
  refine (codeOf_no en 0 _ HC.out).mono ?_
  rintro e w1 ⟨rfl, rfl⟩
  go_wp2
  exact bodyPost_ret (v := .tuple #[decV 0 0 0 ⟨#[]⟩, .bool false]) (by simp [results, Tryd.results32, go_sem]) rfl ⟨rfl, by first | exact b0 | exact below_put b0 (by omega) b0.size _ _ _ _⟩
set_option maxRecDepth 100000 in
set_option maxHeartbeats 1000000 in
theorem inew_yes (en : Int) (w : World) (h : codeB en = true) :
    Calls Tryd.prog 32 #[.int .i64 en] w fun e w' => e = .returned (.tuple #[decV en 0 0 ⟨#[]⟩, .bool true]) ∧ Below w.heap.size w w' := by
  have hc' := of_decide_eq_true (show decide (1 ≤ en ∧ en ≤ 5) = true from h)
  have HC : Hid _ := hc'
  have b0 : Below w.heap.size w (w.alloc (.cells #[.int .i64 0, .int .i64 0, .int .i64 0, .string ⟨#[]⟩] 25)) := (Below.refl _ _).alloc (Nat.le_refl _) _
  have D0 := DecAt.new w 0 0 0 ⟨#[]⟩ 25 _ rfl
  clear h hc'
  go_enter Tryd.func32, Tryd.ntmps32
  go_wp2_with fail
  refine (code_bad en 0 _ HC.out).mono ?_
  rintro e w1 ⟨cv, rfl, -, b1⟩
  obtain ⟨r0, r1, r2, r3, gz, -⟩ := D0.below b1
  have g0 := gz 0
  have g1 := gz 1
  have g2 := gz 2
  have g3 := gz 3
  replace b1 := b0.trans (b1.mono b0.size)
  clear D0 b0 gz
  go_wp2
  exact bodyPost_ret (v := .tuple #[decV en 0 0 ⟨#[]⟩, .bool true]) (by simp [results, Tryd.results32, go_sem, r0, r1, r2, r3]) rfl ⟨rfl, below_put b1 (by omega) b1.size _ _ _ _⟩
theorem feedB5_lo : ∀ (t : List UInt8) (sh lo : Int), 0 ≤ lo → (feedB 5 t sh lo).2.2.2 ≤ lo + t.length
  | [], sh, lo, h => by show lo ≤ lo + ((0 : Nat) : Int); omega
  | b :: t, sh, lo, h => by
    rw [feedB, List.length_cons]
    split
    · have := feedB5_lo t (15 - b.toNat) (lo + 1) (by omega); omega
    · have := feedB5_lo t sh 0 (by omega)
      show (feedB 5 t sh 0).2.2.2 ≤ _
      omega
theorem new_good (en : Int) (s : ByteArray) (hc : codeB en = true) (hs : s.size ≤ 1000) : goodD en (feedD en 0 0 ⟨#[]⟩ s).sh (feedD en 0 0 ⟨#[]⟩ s).lo (feedD en 0 0 ⟨#[]⟩ s).held = true := by
  have h := of_decide_eq_true (show decide (1 ≤ en ∧ en ≤ 5) = true from hc)
  rcases (by omega : en = 1 ∨ en = 2 ∨ en = 3 ∨ en = 4 ∨ en = 5) with rfl | rfl | rfl | rfl | rfl
  · exact feedU_held 1 (⟨#[]⟩ ++ s).size (⟨#[]⟩ ++ s) (Nat.le_refl _) (by omega)
  · exact feedU_held 2 (⟨#[]⟩ ++ s).size (⟨#[]⟩ ++ s) (Nat.le_refl _) (by omega)
  · exact feedU_held 3 (⟨#[]⟩ ++ s).size (⟨#[]⟩ ++ s) (Nat.le_refl _) (by omega)
  · have hst := feedB4_state s.data.toList
    have e1 : (feedD 4 0 0 ⟨#[]⟩ s).sh = 0 := congrArg (·.1) hst
    have e2 : (feedD 4 0 0 ⟨#[]⟩ s).lo = 0 := congrArg (·.2) hst
    rw [e1, e2]
    rfl
  · have hst := feedB5_state s.data.toList 0 0 (by omega) (by omega)
    have hlo := feedB5_lo s.data.toList 0 0 (by omega)
    have hl : s.data.toList.length = s.size := by simp
    exact (good5 _ _ hst).2 (by omega)
set_option maxRecDepth 100000 in
set_option maxHeartbeats 1000000 in
theorem idecA_no (en : Int) (s : ByteArray) (w : World) (hT : Tabs w) (h : codeB en = false) :
    Calls Tryd.prog 25 #[.int .i64 en, .string s] w fun e w' => e = .returned (.tuple #[.slice none 0 0, .slice none 0 0, .bool false]) ∧ Below w.heap.size w w' := by
  have HC : Hid _ := h
  have HT : Hid _ := hT
  clear h hT
  go_enter Tryd.func25, Tryd.ntmps25
  go_wp2_with fail
  refine (inew_no en _ HC.out).mono ?_
  rintro e w1 ⟨rfl, b1⟩
  have hz1 := b1.size
  have b1' := b1.alloc b1.size (.cells #[.int .i64 0, .int .i64 0, .int .i64 0, .string ⟨#[]⟩] 25)
  have D0 := DecAt.new w1 0 0 0 ⟨#[]⟩ 25 _ rfl
  clear b1
  go_wp2_with fail
  refine (ifeedD_bad 0 0 0 ⟨#[]⟩ s _ (HT.out.below b1') rfl).mono ?_
  rintro e w2 ⟨rfl, b2⟩
  obtain ⟨r0, r1, r2, r3, gz, -⟩ := D0.below b2
  have g0 := gz 0
  have g1 := gz 1
  have g2 := gz 2
  have g3 := gz 3
  replace b2 := b1'.trans (b2.mono b1'.size)
  clear D0 b1' gz
  go_wp2
  go_ret3
  exact ⟨rfl, below_put b2 hz1 b2.size _ _ _ _⟩
set_option maxRecDepth 100000 in
set_option maxHeartbeats 1000000 in
theorem idecA_long (en : Int) (s : ByteArray) (w : World) (hT : Tabs w) (h : codeB en = true) (hs : ¬ s.size ≤ 1000) :
    Calls Tryd.prog 25 #[.int .i64 en, .string s] w fun e w' => e = .returned (.tuple #[.slice none 0 0, .slice none 0 0, .bool false]) ∧ Below w.heap.size w w' := by
  have HC : Hid _ := h
  have HT : Hid _ := hT
  have HS : Hid _ := hs
  clear h hT hs
  go_enter Tryd.func25, Tryd.ntmps25
  go_wp2_with fail
  refine (inew_yes en _ HC.out).mono ?_
  rintro e w1 ⟨rfl, b1⟩
  have hz1 := b1.size
  have b1' := b1.alloc b1.size (.cells #[.int .i64 en, .int .i64 0, .int .i64 0, .string ⟨#[]⟩] 25)
  have D0 := DecAt.new w1 en 0 0 ⟨#[]⟩ 25 _ rfl
  clear b1
  go_wp2_with fail
  refine (ifeedD_long en 0 0 ⟨#[]⟩ s _ (HT.out.below b1') (goodD_new en HC.out) HS.out).mono ?_
  rintro e w2 ⟨rfl, b2⟩
  obtain ⟨r0, r1, r2, r3, gz, -⟩ := D0.below b2
  have g0 := gz 0
  have g1 := gz 1
  have g2 := gz 2
  have g3 := gz 3
  replace b2 := b1'.trans (b2.mono b1'.size)
  clear D0 b1' gz
  go_wp2
  go_ret3
  exact ⟨rfl, below_put b2 hz1 b2.size _ _ _ _⟩
set_option maxRecDepth 100000 in
set_option maxHeartbeats 2000000 in
theorem idecA_any (en : Int) (s : ByteArray) (w : World) (hT : Tabs w) (hc : codeB en = true) (hs : s.size ≤ 1000) (R : FedR) (hR : feedD en 0 0 ⟨#[]⟩ s = R) (n1 : R.rs.length ≤ 2000) (n2 : R.ls.length ≤ 2000) (F : List Int) (hF : flushN (unitsB en) R.held.size R.held.size = F) (n3 : F.length ≤ 2000) :
    Calls Tryd.prog 25 #[.int .i64 en, .string s] w fun e w' => ∃ v1 v2, e = .returned (.tuple #[v1, v2, .bool true]) ∧ Two w.heap.size w' v1 (R.rs ++ bads F.length) v2 (R.ls ++ F) ∧ Below w.heap.size w w' := by
  obtain ⟨i0, hi, hz0, hz1, hz2⟩ := info_parts Tryd.info3
  have HC : Hid _ := hc
  have HT : Hid _ := hT
  have hx : goodD en R.sh R.lo R.held = true := by rw [← hR]; exact new_good en s hc hs
  have H1 : Hid (∀ w : World, Tabs w → _) := fun w hT => ifeedD_yes en 0 0 ⟨#[]⟩ s w hT (goodD_new en hc) hs R hR hx
  have H2 : Hid (∀ w : World, Tabs w → _) := fun w hT => iflushD_yes en R.sh R.lo R.held w hT hx
  rw [hF] at H2
  clear hc hT hs hR hF hx
  go_enter Tryd.func25, Tryd.ntmps25
  go_wp2_with fail
  refine (inew_yes en _ HC.out).mono ?_
  rintro e w1 ⟨rfl, b1⟩
  have hw1 := b1.size
  have b1' := b1.alloc b1.size (.cells #[.int .i64 en, .int .i64 0, .int .i64 0, .string ⟨#[]⟩] 25)
  have D0 := DecAt.new w1 en 0 0 ⟨#[]⟩ 25 _ rfl
  clear b1
  go_wp2_with fail
  refine (H1.out _ (HT.out.below b1')).mono ?_
  rintro e w2 ⟨v1, v2, rfl, T1, b2⟩
  have D2 := D0.below b2
  obtain ⟨r0, r1, r2, r3, gz, -⟩ := id D2
  have g0 := gz 0
  have g1 := gz 1
  have g2 := gz 2
  have g3 := gz 3
  have b2' := b1'.trans (b2.mono b1'.size)
  have B2 : Hid _ := below_put b2' hw1 b2'.size (.int .i64 en) (.int .i64 R.sh) (.int .i64 R.lo) (.string R.held)
  have T2 : Hid _ := T1.put w1.heap.size (by simp) (.int .i64 en) (.int .i64 R.sh) (.int .i64 R.lo) (.string R.held)
  have L1 : Hid _ := T1.lies
  have S2 : Hid (w2.heap.size ≤ (putDec w2 w1.heap.size (.int .i64 en) (.int .i64 R.sh) (.int .i64 R.lo) (.string R.held)).heap.size) := by show _ ≤ _; simp
  clear D0 D2 b1' b2 b2' gz T1
  go_wp2_with fail
  refine (H2.out _ (HT.out.below B2.out)).mono ?_
  rintro e w3 ⟨v3, v4, rfl, T3, b3⟩
  have T2' := (Two.below T2.out b3).alloc (.cells #[.int .i64 en, .int .i64 R.sh, .int .i64 R.lo, .string ⟨#[]⟩] 25)
  have T3' := T3.alloc (.cells #[.int .i64 en, .int .i64 R.sh, .int .i64 R.lo, .string ⟨#[]⟩] 25)
  have b3' := Below.trans B2.out (b3.mono (Below.size B2.out))
  have hb2 := b3'.alloc b3'.size (.cells #[.int .i64 en, .int .i64 R.sh, .int .i64 R.lo, .string ⟨#[]⟩] 25)
  have far : v4.ownBlock = none ∨ v4.ownBlock ≠ v1.ownBlock := by
    cases h4 : v4.ownBlock with
    | none => exact .inl rfl
    | some g =>
      refine .inr (fun e => ?_)
      have a1 := ((L1.out).a g e.symm).2
      have a2 := (T3.b.lt g h4).1
      have a3 := S2.out
      omega
  have T1' := Two.lower T2' (B' := w.heap.size) (by simp; omega)
  have hsz := hb2.size
  clear T2 T2' T3 b3 b3' B2 r0 r1 r2 r3 g0 g1 g2 g3
  go_wp2_with (at_builtin; refine wpList_append_row _ rfl _ _ 28 rfl w.heap.size 3 i0 (.int .i64 0) 1 8 Tryd.underlying28 hi hz0 hz1 hz2 rfl (by decide) _ _ _ rfl T1'.a _ _ _ _ rfl T3'.a (ints_one _) ?c3 ?c4 ?c5 ?_)
  case c3 => rw [bads_len]; unfold maxLen; omega
  case c4 => rw [bads_len]; omega
  case c5 => exact hsz
  intro v1' w4 hown3 hgrow hat
  have T4 := T1'.push (M := bads F.length) hown3 rfl hgrow (by simpa using hat)
  have hv4 := T3'.b.kept hgrow far
  have hb3 := Below.grown_row hb2 T1'.a hgrow hsz (Nat.le_refl _)
  clear hown3 hgrow hat T1' T3' hb2 hsz far
  have hsz := hb3.size
  go_wp2_with (at_builtin; refine wpList_append_row _ rfl _ _ 28 rfl w.heap.size 3 i0 (.int .i64 0) 1 8 Tryd.underlying28 hi hz0 hz1 hz2 rfl (by decide) _ _ _ rfl T4.b _ _ _ _ rfl hv4 (ints_one _) ?c3 ?c4 ?c5 ?_)
  case c3 => unfold maxLen; omega
  case c4 => omega
  case c5 => exact hsz
  intro v2' w5 hown4 hgrow hat
  have T5 := (T4.swap.push (M := F) hown4 rfl hgrow hat).swap
  have hb4 := Below.grown_row hb3 T4.b hgrow hsz (Nat.le_refl _)
  go_wp2
  go_ret3
  exact ⟨v1', v2', rfl, T5, hb4⟩
theorem idecA_yes (en : Int) (s : ByteArray) (w : World) (hT : Tabs w) (hc : codeB en = true) (hs : s.size ≤ 1000) :
    Calls Tryd.prog 25 #[.int .i64 en, .string s] w fun e w' => ∃ v1 v2, e = .returned (.tuple #[v1, v2, .bool true]) ∧ Two w.heap.size w' v1 (decRs en s) v2 (decLs en s) ∧ Below w.heap.size w w' := by
  have h := feedD_sizes en 0 0 ⟨#[]⟩ s hs (Nat.zero_le _)
  have hl := flushN_len (unitsB en) (feedD en 0 0 ⟨#[]⟩ s).held.size (feedD en 0 0 ⟨#[]⟩ s).held.size
  exact idecA_any en s w hT hc hs _ rfl (by omega) (by omega) _ rfl (by omega)
end Go.Proofs.YtjnnikbgpjiecaaDoor
namespace Go.Proofs.YtjnnikbgpjiecaaDoor
open Go.ChangeShapes Go.WideShapes Go.ChangeAt Go.RowKit
theorem conv_at (w : World) (P : Nat) (a : Int) (h : w.cell? ⟨P, 0, none⟩ = some (.int .u8 a)) : (convert 22 9 (.slice (some ⟨P, 0, none⟩) 1 1)).run Tryd.prog w = .ok (.string (strOfNums [a])) w := by
  refine run_convert_bytes_arg w 22 5 Tryd.underlying22 Tryd.underlying5 P 0 1 1 [a] rfl (fun i hi => ?_) 9 Tryd.underlying9
  obtain rfl : i = 0 := by omega
  exact h
theorem conv_2b (w : World) (t : TypeId) (a b : Int) : (convert 22 9 (.slice (some ⟨w.heap.size + 1, 0, none⟩) 2 2)).run Tryd.prog ((w.alloc (.cells #[] t)).alloc (.cells #[.int .u8 a, .int .u8 b] 5)) = .ok (.string (strOfNums [a, b])) ((w.alloc (.cells #[] t)).alloc (.cells #[.int .u8 a, .int .u8 b] 5)) := by
  have := conv_2 (w.alloc (.cells #[] t)) a b
  rwa [show (w.alloc (.cells #[] t)).heap.size = w.heap.size + 1 by simp] at this
theorem conv_1c (w : World) (t : TypeId) (a : Int) : (convert 22 9 (.slice (some ⟨w.heap.size + 1, 0, none⟩) 1 1)).run Tryd.prog ((w.alloc (.cells #[] t)).alloc (.cells #[.int .u8 a] 5)) = .ok (.string (strOfNums [a])) ((w.alloc (.cells #[] t)).alloc (.cells #[.int .u8 a] 5)) := by
  have := conv_1 (w.alloc (.cells #[] t)) a
  rwa [show (w.alloc (.cells #[] t)).heap.size = w.heap.size + 1 by simp] at this
theorem conv_1s (w : World) (p : Addr) (v : Value) (a : Int) : (convert 22 9 (.slice (some ⟨w.heap.size, 0, none⟩) 1 1)).run Tryd.prog ((w.setCell p v).alloc (.cells #[.int .u8 a] 5)) = .ok (.string (strOfNums [a])) ((w.setCell p v).alloc (.cells #[.int .u8 a] 5)) := by
  have := conv_1 (w.setCell p v) a
  rwa [World.size_setCell] at this
theorem two_alloc (w : World) (a b : Obj) : Below w.heap.size w ((w.alloc a).alloc b) := ((Below.refl _ _).alloc (Nat.le_refl _) _).alloc (by simp) _
theorem app_nil (s : ByteArray) : (⟨#[]⟩ : ByteArray) ++ s = s := by
  apply ByteArray.ext
  simp
set_option maxRecDepth 100000 in
set_option maxHeartbeats 1000000 in
theorem iall_any (L : List Int) (ao : Option Addr) (cap : Nat) (w : World) (hl : L.length ≤ 1048576) (hA : IntsAt w ao L) :
    Calls Tryd.prog 61 #[.slice ao L.length cap] w fun e w' => e = .returned (.bool (allG L)) ∧ w' = w := by
  have HA : Hid _ := hA
  clear hA
  go_enter Tryd.func61, Tryd.ntmps61
  go_wp2
  go_loopw [7] (fun i wr => ∃ k : Nat, k ≤ L.length ∧ i = .int .i64 k ∧ (∀ j, j < k → goodB (L.getD j 0) = true) ∧ wr = w) (fun i _ => L.length - (intOf i).toNat)
  case atStart => exact ⟨0, Nat.zero_le _, rfl, fun j hj => absurd hj (by omega), rfl⟩
  case round =>
    obtain ⟨k, hk, rfl, hall, rfl⟩ := hrel
    have HALL : Hid _ := hall
    clear hall
    by_cases hlt : k < L.length
    · have hltI : (k : Int) < (L.length : Int) := by omega
      obtain ⟨b1, o1, rfl, l1, h1⟩ := HA.out k hlt
      cases hgd : goodB (L.getD k 0)
      · have HG : Hid _ := hgd
        have HB : Hid _ := allG_bad hlt hgd
        clear hgd
        generalize L.getD k 0 = r at *
        go_wp2_with (go_at_call 79; refine (igood_not HG.out _).mono ?_; rintro e w' ⟨rfl, rfl⟩)
        go_ret
        exact ⟨by rw [HB.out]; rfl, rfl⟩
      · have HG : Hid _ := hgd
        have HN : Hid (∀ j, j < k + 1 → goodB (L.getD j 0) = true) := fun j hj => by
          by_cases e : j = k
          · subst e; exact hgd
          · exact HALL.out j (by omega)
        clear hgd
        generalize L.getD k 0 = r at *
        go_wp2_with (go_at_call 79; refine (igood_yes HG.out _).mono ?_; rintro e w' ⟨rfl, rfl⟩)
        go_roundw
        case rel => exact ⟨k + 1, by omega, by go_num, HN.out, by first | rfl | trivial⟩
        case measure => simp [intOf]; omega
    · obtain rfl : k = L.length := by omega
      have HB : Hid (allG L = true) := List.all_eq_true.2 fun r hr => by
        obtain ⟨j, hj, rfl⟩ := List.mem_iff_getElem.1 hr
        have := HALL.out j hj
        simpa [List.getD, hj] using this
      go_wp2
      go_ret
      exact ⟨by rw [HB.out]; rfl, rfl⟩
set_option maxRecDepth 100000 in
set_option maxHeartbeats 400000 in
theorem iwrite_1 (r : Int) (w : World) (hg : goodB r = true) (hT : Tabs w) :
    Calls Tryd.prog 112 #[.agg #[], .int .i64 r] w fun e w' => e = .returned (.tuple #[.string (putS 1 0 r).s, .bool true]) ∧ Below w.heap.size w w' := by
  rw [show (putS 1 0 r).s = encS r from by simp [putS]]
  have HG : Hid _ := hg
  have HT : Hid _ := hT
  clear hg hT
  go_enter Tryd.func112, Tryd.ntmps112
  go_wp2_with fail
  refine (iutf_any r _ HG.out (HT.out.below ((Below.refl _ _).alloc (Nat.le_refl _) _))).mono ?_
  rintro e w1 ⟨rfl, b1⟩
  go_wp2
  go_ret2
  exact ⟨rfl, ((Below.refl _ _).alloc (Nat.le_refl _) _).trans (b1.mono (by simp))⟩
set_option maxRecDepth 100000 in
set_option maxHeartbeats 400000 in
theorem ibytes_2 (n : Int) (w : World) (h0 : 0 ≤ n) (h1 : n ≤ 65535) :
    Calls Tryd.prog 115 #[.agg #[], .int .i64 n] w fun e w' => e = .returned (.string (pairS 2 n)) ∧ Below w.heap.size w w' := by
  have c2 := conv_2b
  have q1 : 0 ≤ n / 256 ∧ n / 256 ≤ 255 := by omega
  have q2 : 0 ≤ n % 256 ∧ n % 256 ≤ 255 := by omega
  obtain ⟨q10, q11⟩ := q1
  obtain ⟨q20, q21⟩ := q2
  rw [show pairS 2 n = strOfNums [n / 256, n % 256] from by simp [pairS]]
  go_enter Tryd.func115, Tryd.ntmps115
  go_wp2
  go_ret
  exact ⟨rfl, two_alloc _ _ _⟩
set_option maxRecDepth 100000 in
set_option maxHeartbeats 1000000 in
theorem iwu_2 (r : Int) (w : World) (h0 : 0 ≤ r) (hh : r ≤ 1114111) :
    Calls Tryd.prog 120 #[codV 97, .int .i64 r] w fun e w' => e = .returned (.string (putS 2 0 r).s) ∧ Below w.heap.size w w' := by
  by_cases h65 : r < 65536
  · rw [show (putS 2 0 r).s = pairS 2 r from by simp [putS, unitsB, h65]]
    have HP : Hid (∀ w : World, _) := fun w => ibytes_2 r w h0 (by omega)
    go_enter Tryd.func120, Tryd.ntmps120
    go_wp2_with fail
    refine (HP.out _).mono ?_
    rintro e w1 ⟨rfl, b1⟩
    go_wp2
    go_ret
    exact ⟨rfl, b1⟩
  · rw [show (putS 2 0 r).s = pairS 2 (55296 + (r - 65536) / 1024) ++ pairS 2 (56320 + (r - 65536) % 1024) from by simp [putS, unitsB, h65]]
    have HP1 : Hid (∀ w : World, _) := fun w => ibytes_2 (55296 + (r - 65536) / 1024) w (by omega) (by omega)
    have HP2 : Hid (∀ w : World, _) := fun w => ibytes_2 (56320 + (r - 65536) % 1024) w (by omega) (by omega)
    have q1 : 0 ≤ (r - 65536) / 1024 ∧ (r - 65536) / 1024 ≤ 1023 := by omega
    have q2 : 0 ≤ (r - 65536) % 1024 ∧ (r - 65536) % 1024 ≤ 1023 := by omega
    obtain ⟨q10, q11⟩ := q1
    obtain ⟨q20, q21⟩ := q2
    have HZ : Hid (¬ 9223372036854775807 < (pairS 2 (55296 + (r - 65536) / 1024)).size + (pairS 2 (56320 + (r - 65536) % 1024)).size) := by show ¬ _; rw [pairS_size, pairS_size]; decide
    go_enter Tryd.func120, Tryd.ntmps120
    go_wp2_with fail
    refine (HP1.out _).mono ?_
    rintro e w2 ⟨rfl, b2⟩
    go_wp2_with fail
    refine (HP2.out _).mono ?_
    rintro e w3 ⟨rfl, b3⟩
    have hz := HZ.out
    go_wp2
    go_ret
    exact ⟨rfl, b2.trans (b3.mono b2.size)⟩
set_option maxRecDepth 100000 in
set_option maxHeartbeats 400000 in
theorem iwrite_2 (r : Int) (w : World) (h0 : 0 ≤ r) (hh : r ≤ 1114111) :
    Calls Tryd.prog 118 #[.agg #[], .int .i64 r] w fun e w' => e = .returned (.tuple #[.string (putS 2 0 r).s, .bool true]) ∧ Below w.heap.size w w' := by
  have HP : Hid (∀ w : World, _) := fun w => iwu_2 r w h0 hh
  generalize (putS 2 0 r).s = t at *
  go_enter Tryd.func118, Tryd.ntmps118
  go_wp2_with fail
  refine (HP.out _).mono ?_
  rintro e w1 ⟨rfl, b1⟩
  go_wp2
  go_ret2
  exact ⟨rfl, ((Below.refl _ _).alloc (Nat.le_refl _) _).trans (b1.mono (by simp))⟩
set_option maxRecDepth 100000 in
set_option maxHeartbeats 400000 in
theorem ibytes_3 (n : Int) (w : World) (h0 : 0 ≤ n) (h1 : n ≤ 65535) :
    Calls Tryd.prog 122 #[.agg #[], .int .i64 n] w fun e w' => e = .returned (.string (pairS 3 n)) ∧ Below w.heap.size w w' := by
  have c2 := conv_2b
  have q1 : 0 ≤ n / 256 ∧ n / 256 ≤ 255 := by omega
  have q2 : 0 ≤ n % 256 ∧ n % 256 ≤ 255 := by omega
  obtain ⟨q10, q11⟩ := q1
  obtain ⟨q20, q21⟩ := q2
  rw [show pairS 3 n = strOfNums [n % 256, n / 256] from by simp [pairS]]
  go_enter Tryd.func122, Tryd.ntmps122
  go_wp2
  go_ret
  exact ⟨rfl, two_alloc _ _ _⟩
set_option maxRecDepth 100000 in
set_option maxHeartbeats 1000000 in
theorem iwu_3 (r : Int) (w : World) (h0 : 0 ≤ r) (hh : r ≤ 1114111) :
    Calls Tryd.prog 120 #[codV 98, .int .i64 r] w fun e w' => e = .returned (.string (putS 3 0 r).s) ∧ Below w.heap.size w w' := by
  by_cases h65 : r < 65536
  · rw [show (putS 3 0 r).s = pairS 3 r from by simp [putS, unitsB, h65]]
    have HP : Hid (∀ w : World, _) := fun w => ibytes_3 r w h0 (by omega)
    go_enter Tryd.func120, Tryd.ntmps120
    go_wp2_with fail
    refine (HP.out _).mono ?_
    rintro e w1 ⟨rfl, b1⟩
    go_wp2
    go_ret
    exact ⟨rfl, b1⟩
  · rw [show (putS 3 0 r).s = pairS 3 (55296 + (r - 65536) / 1024) ++ pairS 3 (56320 + (r - 65536) % 1024) from by simp [putS, unitsB, h65]]
    have HP1 : Hid (∀ w : World, _) := fun w => ibytes_3 (55296 + (r - 65536) / 1024) w (by omega) (by omega)
    have HP2 : Hid (∀ w : World, _) := fun w => ibytes_3 (56320 + (r - 65536) % 1024) w (by omega) (by omega)
    have q1 : 0 ≤ (r - 65536) / 1024 ∧ (r - 65536) / 1024 ≤ 1023 := by omega
    have q2 : 0 ≤ (r - 65536) % 1024 ∧ (r - 65536) % 1024 ≤ 1023 := by omega
    obtain ⟨q10, q11⟩ := q1
    obtain ⟨q20, q21⟩ := q2
    have HZ : Hid (¬ 9223372036854775807 < (pairS 3 (55296 + (r - 65536) / 1024)).size + (pairS 3 (56320 + (r - 65536) % 1024)).size) := by show ¬ _; rw [pairS_size, pairS_size]; decide
    go_enter Tryd.func120, Tryd.ntmps120
    go_wp2_with fail
    refine (HP1.out _).mono ?_
    rintro e w2 ⟨rfl, b2⟩
    go_wp2_with fail
    refine (HP2.out _).mono ?_
    rintro e w3 ⟨rfl, b3⟩
    have hz := HZ.out
    go_wp2
    go_ret
    exact ⟨rfl, b2.trans (b3.mono b2.size)⟩
set_option maxRecDepth 100000 in
set_option maxHeartbeats 400000 in
theorem iwrite_3 (r : Int) (w : World) (h0 : 0 ≤ r) (hh : r ≤ 1114111) :
    Calls Tryd.prog 125 #[.agg #[], .int .i64 r] w fun e w' => e = .returned (.tuple #[.string (putS 3 0 r).s, .bool true]) ∧ Below w.heap.size w w' := by
  have HP : Hid (∀ w : World, _) := fun w => iwu_3 r w h0 hh
  generalize (putS 3 0 r).s = t at *
  go_enter Tryd.func125, Tryd.ntmps125
  go_wp2_with fail
  refine (HP.out _).mono ?_
  rintro e w1 ⟨rfl, b1⟩
  go_wp2
  go_ret2
  exact ⟨rfl, ((Below.refl _ _).alloc (Nat.le_refl _) _).trans (b1.mono (by simp))⟩
set_option maxRecDepth 100000 in
set_option maxHeartbeats 400000 in
theorem iwrite_4 (r : Int) (w : World) (h0 : 0 ≤ r) (h : r < 256) :
    Calls Tryd.prog 127 #[.agg #[], .int .i64 r] w fun e w' => e = .returned (.tuple #[.string (putS 4 0 r).s, .bool true]) ∧ Below w.heap.size w w' := by
  rw [show (putS 4 0 r).s = strOfNums [r % 256] from by simp [putS, unitsB], show r % 256 = r by omega]
  have c1 := conv_1c
  have h' : ¬ 256 ≤ r := by omega
  have h2 : r ≤ 255 := by omega
  go_enter Tryd.func127, Tryd.ntmps127
  go_wp2
  go_ret2
  exact ⟨rfl, two_alloc _ _ _⟩
set_option maxRecDepth 100000 in
set_option maxHeartbeats 400000 in
theorem iwrite_4no (r : Int) (w : World) (h : ¬ r < 256) :
    Calls Tryd.prog 127 #[.agg #[], .int .i64 r] w fun e w' => e = .returned (.tuple #[.string ⟨#[]⟩, .bool false]) ∧ Below w.heap.size w w' := by
  have h' : 256 ≤ r := by omega
  go_enter Tryd.func127, Tryd.ntmps127
  go_wp2
  go_ret2
  exact ⟨rfl, (Below.refl _ _).alloc (Nat.le_refl _) _⟩
/-- The shift lies in block C. -/
structure ShAt (w : World) (C : Nat) (sh : Int) : Prop where
  c : w.cell? ⟨C, 0, none⟩ = some (.int .i64 sh)
  f : w.frozen? ⟨C, 0, none⟩ = false
  lt : C < w.heap.size
theorem ShAt.below {w w' : World} {C : Nat} {sh : Int} (h : ShAt w C sh) (hb : Below w.heap.size w w') : ShAt w' C sh := by
  have blk : w'.heap[C]? = w.heap[C]? := hb.block C h.lt
  exact ⟨(World.cell?_of_block (a := ⟨C, 0, none⟩) blk).trans h.c, (World.frozen?_of_block (a := ⟨C, 0, none⟩) blk).trans h.f, Nat.lt_of_lt_of_le h.lt hb.size⟩
theorem ShAt.grown {w w' : World} {C : Nat} {sh : Int} {row : Option Nat} (h : ShAt w C sh) (hg : w.grownBy w' row) (hr : row ≠ some C) : ShAt w' C sh := by
  have blk : w'.heap[C]? = w.heap[C]? := hg.block C h.lt (fun e => hr e.symm)
  exact ⟨(World.cell?_of_block (a := ⟨C, 0, none⟩) blk).trans h.c, (World.frozen?_of_block (a := ⟨C, 0, none⟩) blk).trans h.f, Nat.lt_of_lt_of_le h.lt hg.size⟩
theorem ShAt.set {w : World} {C : Nat} {sh : Int} (h : ShAt w C sh) (x : Int) : ShAt (w.setCell ⟨C, 0, none⟩ (.int .i64 x)) C x :=
  ⟨World.cell?_setCell_same _ _ _ h.c, by rw [World.frozen?_setCell]; exact h.f, by rw [World.size_setCell]; exact h.lt⟩
def turnS (sh want : Int) : ByteArray := if sh = want then ⟨#[]⟩ else strOfNums [15 - want]
theorem turnS_size (sh want : Int) : (turnS sh want).size ≤ 1 := by
  unfold turnS
  split
  · exact Nat.zero_le _
  · rw [strOf_size]; exact Nat.le_refl _
set_option maxRecDepth 100000 in
set_option maxHeartbeats 1000000 in
theorem turn_any (C : Nat) (sh want : Int) (w : World) (h : ShAt w C sh) (hw : want = 0 ∨ want = 1) :
    Calls Tryd.prog 62 #[.pointer (some ⟨C, 0, none⟩), .int .i64 want] w fun e w' => e = .returned (.string (turnS sh want)) ∧ ShAt w' C want ∧ w.grownBy w' (some C) := by
  have H : Hid _ := h
  obtain ⟨c, f, -⟩ := h
  by_cases hs : sh = want
  · subst hs
    rw [show turnS sh sh = ⟨#[]⟩ from by simp [turnS]]
    have e1 : (sh == sh) = true := by simp
    go_enter Tryd.func62, Tryd.ntmps62
    go_wp2
    go_ret
    exact ⟨rfl, H.out, ⟨rfl, rfl, rfl, Nat.le_refl _, fun _ _ _ => rfl⟩⟩
  · rw [show turnS sh want = strOfNums [15 - want] from by simp [turnS, hs]]
    have n1 : (sh == want) = false := by rw [beq_eq_false_iff_ne]; exact hs
    have cv := conv_1s w ⟨C, 0, none⟩
    have hg : ∀ o, w.grownBy ((w.setCell ⟨C, 0, none⟩ (.int .i64 want)).alloc o) (some C) := fun o => by
      have g := grown_set w C 0 (.int .i64 want)
      have g2 := World.grownBy_alloc (w.setCell ⟨C, 0, none⟩ (.int .i64 want)) o (some C)
      exact ⟨g2.os.trans g.os, g2.tape.trans g.tape, g2.output.trans g.output, Nat.le_trans g.size g2.size, fun j hj hn => (g2.block j (Nat.lt_of_lt_of_le hj g.size) hn).trans (g.block j hj hn)⟩
    have HG : Hid _ := hg
    have HS : Hid (∀ o, ShAt ((w.setCell ⟨C, 0, none⟩ (.int .i64 want)).alloc o) C want) := fun o => (H.out.set want).below ((Below.refl _ _).alloc (Nat.le_refl _) o)
    clear hg hs
    rcases hw with rfl | rfl
    · go_enter Tryd.func62, Tryd.ntmps62
      go_wp2
      go_ret
      exact ⟨rfl, HS.out _, HG.out _⟩
    · go_enter Tryd.func62, Tryd.ntmps62
      go_wp2
      go_ret
      exact ⟨rfl, HS.out _, HG.out _⟩
theorem put5_low (sh r : Int) (h : r < 32) : putS 5 sh r = ⟨strOfNums [r], sh, decide (r ≠ 14 ∧ r ≠ 15)⟩ := by simp [putS, unitsB, h]
theorem put5_mid (sh r : Int) (h : ¬ r < 32) (h' : r ≤ 126) (hs : sh = 0 ∨ sh = 1) : putS 5 sh r = ⟨turnS sh 0 ++ strOfNums [r], 0, true⟩ := by
  have hk : ¬ (12352 ≤ r ∧ r ≤ 12446) := by omega
  rcases hs with rfl | rfl
  · simp [putS, unitsB, h, hk, h', turnS, app_nil]
  · simp [putS, unitsB, h, hk, h', turnS]
theorem put5_high (sh r : Int) (h : 12352 ≤ r) (h' : r ≤ 12446) (hs : sh = 0 ∨ sh = 1) : putS 5 sh r = ⟨turnS sh 1 ++ strOfNums [r - 12352 + 32], 1, true⟩ := by
  have h3 : ¬ r < 32 := by omega
  rcases hs with rfl | rfl
  · simp [putS, unitsB, h, h', h3, turnS]
  · simp [putS, unitsB, h, h', h3, turnS, app_nil]
theorem put5_no (sh r : Int) (h : ¬ r ≤ 126) (h' : ¬ (12352 ≤ r ∧ r ≤ 12446)) : putS 5 sh r = ⟨⟨#[]⟩, 0, false⟩ := by
  have h3 : ¬ r < 32 := by omega
  simp [putS, unitsB, h, h', h3]
set_option maxRecDepth 100000 in
set_option maxHeartbeats 1000000 in
theorem iwrite_5no (C : Nat) (sh r : Int) (w : World) (h0 : 0 ≤ r) (hok : (putS 5 sh r).ok = false) (hs : sh = 0 ∨ sh = 1) :
    Calls Tryd.prog 110 #[.pointer (some ⟨C, 0, none⟩), .int .i64 r] w fun e w' => e = .returned (.tuple #[.string ⟨#[]⟩, .bool false]) ∧ w' = w := by
  by_cases h14 : r = 14
  · subst h14
    clear hok hs
    go_enter Tryd.func110, Tryd.ntmps110
    go_wp2
    go_ret2
    exact ⟨rfl, rfl⟩
  · by_cases h15 : r = 15
    · subst h15
      clear hok hs h14
      go_enter Tryd.func110, Tryd.ntmps110
      go_wp2
      go_ret2
      exact ⟨rfl, rfl⟩
    · have t14 : (r == 14) = false := by rw [beq_eq_false_iff_ne]; exact h14
      have t15 : (r == 15) = false := by rw [beq_eq_false_iff_ne]; exact h15
      have n32 : ¬ r < 32 := fun h => by rw [put5_low sh r h] at hok; simp [h14, h15] at hok
      have n126 : ¬ r ≤ 126 := fun h => by rw [put5_mid sh r n32 h hs] at hok; cases hok
      have nk : ¬ (12352 ≤ r ∧ r ≤ 12446) := fun h => by rw [put5_high sh r h.1 h.2 hs] at hok; cases hok
      have tst : ¬ 12352 ≤ r ∨ (12352 ≤ r ∧ ¬ r ≤ 12446) := by omega
      clear hok hs h14 h15 nk
      rcases tst with k1 | ⟨k1, k2⟩
      · go_enter Tryd.func110, Tryd.ntmps110
        go_wp2
        go_ret2
        exact ⟨rfl, rfl⟩
      · go_enter Tryd.func110, Tryd.ntmps110
        go_wp2
        go_ret2
        exact ⟨rfl, rfl⟩
theorem grown_of_below2 {w w' : World} (hb : Below w.heap.size w w') {row : Option Nat} : w.grownBy w' row := ⟨hb.os, hb.tape, hb.output, hb.size, fun k hk _ => hb.block k hk⟩
theorem grown_two {a b c : World} {row : Option Nat} (h : a.grownBy b row) (k : b.grownBy c row) : a.grownBy c row :=
  ⟨k.os.trans h.os, k.tape.trans h.tape, k.output.trans h.output, Nat.le_trans h.size k.size, fun j hj hn => (k.block j (Nat.lt_of_lt_of_le hj h.size) hn).trans (h.block j hj hn)⟩
set_option maxRecDepth 100000 in
set_option maxHeartbeats 4000000 in
theorem iwrite_5 (C : Nat) (sh r : Int) (w : World) (h0 : 0 ≤ r) (hok : (putS 5 sh r).ok = true) (hs : sh = 0 ∨ sh = 1) (h : ShAt w C sh) :
    Calls Tryd.prog 110 #[.pointer (some ⟨C, 0, none⟩), .int .i64 r] w fun e w' => e = .returned (.tuple #[.string (putS 5 sh r).s, .bool true]) ∧ ShAt w' C (putS 5 sh r).sh ∧ w.grownBy w' (some C) := by
  by_cases h32 : r < 32
  · rw [put5_low sh r h32] at hok ⊢
    have hok' := of_decide_eq_true hok
    have t14 : (r == 14) = false := by rw [beq_eq_false_iff_ne]; exact hok'.1
    have t15 : (r == 15) = false := by rw [beq_eq_false_iff_ne]; exact hok'.2
    have c1 := conv_1
    have H : Hid _ := h
    clear hok hok' hs h
    show Calls _ _ _ _ fun e w' => e = .returned (.tuple #[.string (strOfNums [r]), .bool true]) ∧ ShAt w' C sh ∧ w.grownBy w' (some C)
    go_enter Tryd.func110, Tryd.ntmps110
    go_wp2
    go_ret2
    exact ⟨rfl, (H.out).below ((Below.refl _ _).alloc (Nat.le_refl _) _), grown_of_below2 ((Below.refl _ _).alloc (Nat.le_refl _) _)⟩
  · have t14 : (r == 14) = false := by rw [beq_eq_false_iff_ne]; omega
    have t15 : (r == 15) = false := by rw [beq_eq_false_iff_ne]; omega
    by_cases h126 : r ≤ 126
    · rw [put5_mid sh r h32 h126 hs]
      have HTN : Hid (∀ w : World, ShAt w C sh → _) := fun w h => turn_any C sh 0 w h (.inl rfl)
      clear hok
      show Calls _ _ _ _ fun e w' => e = .returned (.tuple #[.string (turnS sh 0 ++ strOfNums [r]), .bool true]) ∧ ShAt w' C 0 ∧ w.grownBy w' (some C)
      have H1 : Hid _ := h.below ((Below.refl w.heap.size w).drew)
      have H2 : Hid (ShAt ((w.alloc (.cells #[.int .u8 (r)] 5)).drew) C sh) := h.below (((Below.refl w.heap.size w).alloc (Nat.le_refl _) _).drew)
      have hlt := h.lt
      have GA : Hid (w.grownBy w.drew (some C)) := grown_of_below2 ((Below.refl w.heap.size w).drew)
      have GB : Hid (w.grownBy ((w.alloc (.cells #[.int .u8 (r)] 5)).drew) (some C)) := grown_of_below2 (((Below.refl w.heap.size w).alloc (Nat.le_refl _) _).drew)
      have q0 : ((w.alloc (.cells #[.int .u8 (r)] 5)).drew).cell? ⟨w.heap.size, 0, none⟩ = some (.int .u8 (r)) := by
        show (w.alloc (.cells #[.int .u8 (r)] 5)).cell? ⟨w.heap.size, 0, none⟩ = _
        rw [cell_of_row _ _ _ _ _ _ (heap_alloc_new w (.cells #[.int .u8 (r)] 5))]; rfl
      have Q0 : Hid _ := q0
      have hwr : IntKind.u8.wrap (r) = r := by unfold IntKind.wrap; simp [IntKind.signed, IntKind.bits]; omega
      have cv0 := conv_at _ _ _ q0
      clear q0
      have hts := turnS_size sh 0
      have hcat : ¬ 9223372036854775807 < (turnS sh 0).size + (strOfNums [r]).size := by rw [strOf_size]; simp; omega
      have hne : ¬ C = w.heap.size := by omega
      have HLT : Hid _ := hlt
      clear h hs
      generalize turnS sh 0 = T at *
      go_enter Tryd.func110, Tryd.ntmps110
      go_wp2
      go_region_with (go_at_call 62; refine (HTN.out _ (by first | exact H1.out | exact H2.out)).mono ?_; rintro e w5 ⟨rfl, s5, g5⟩; have S5 : Hid _ := s5; have cv5 := conv_1 w5 (r); first | (have G5 : Hid _ := grown_two GB.out g5; have q5 : w5.cell? ⟨w.heap.size, 0, none⟩ = some (.int .u8 (r)) := (World.cell?_of_block (a := ⟨w.heap.size, 0, none⟩) (g5.block w.heap.size (by simp) (fun e => by have := Option.some.inj e; have := HLT.out; omega))).trans Q0.out; have cv6 := conv_at w5 w.heap.size _ q5; clear q5 s5 g5) | (have G5 : Hid _ := grown_two GA.out g5; clear s5 g5))
      all_goals
        go_wp2
        go_ret2
        first
        | exact ⟨rfl, S5.out, G5.out⟩
        | exact ⟨rfl, (S5.out).below ((Below.refl _ _).alloc (Nat.le_refl _) _), grown_two G5.out (grown_of_below2 ((Below.refl _ _).alloc (Nat.le_refl _) _))⟩
    · by_cases hk : 12352 ≤ r ∧ r ≤ 12446
      · obtain ⟨k1, k2⟩ := hk
        rw [put5_high sh r k1 k2 hs]
        have HTN : Hid (∀ w : World, ShAt w C sh → _) := fun w h => turn_any C sh 1 w h (.inr rfl)
        have hw1 : IntKind.i64.wrap (r - 12352) = r - 12352 := IntWalk.i64_in _ (by omega)
        have hw2 : IntKind.i64.wrap (r - 12352 + 32) = r - 12352 + 32 := IntWalk.i64_in _ (by omega)
        clear hok
        show Calls _ _ _ _ fun e w' => e = .returned (.tuple #[.string (turnS sh 1 ++ strOfNums [r - 12352 + 32]), .bool true]) ∧ ShAt w' C 1 ∧ w.grownBy w' (some C)
        have H1 : Hid _ := h.below ((Below.refl w.heap.size w).drew)
        have H2 : Hid (ShAt ((w.alloc (.cells #[.int .u8 (r - 12352 + 32)] 5)).drew) C sh) := h.below (((Below.refl w.heap.size w).alloc (Nat.le_refl _) _).drew)
        have hlt := h.lt
        have GA : Hid (w.grownBy w.drew (some C)) := grown_of_below2 ((Below.refl w.heap.size w).drew)
        have GB : Hid (w.grownBy ((w.alloc (.cells #[.int .u8 (r - 12352 + 32)] 5)).drew) (some C)) := grown_of_below2 (((Below.refl w.heap.size w).alloc (Nat.le_refl _) _).drew)
        have q0 : ((w.alloc (.cells #[.int .u8 (r - 12352 + 32)] 5)).drew).cell? ⟨w.heap.size, 0, none⟩ = some (.int .u8 (r - 12352 + 32)) := by
          show (w.alloc (.cells #[.int .u8 (r - 12352 + 32)] 5)).cell? ⟨w.heap.size, 0, none⟩ = _
          rw [cell_of_row _ _ _ _ _ _ (heap_alloc_new w (.cells #[.int .u8 (r - 12352 + 32)] 5))]; rfl
        have Q0 : Hid _ := q0
        have hwr : IntKind.u8.wrap (r - 12352 + 32) = r - 12352 + 32 := by unfold IntKind.wrap; simp [IntKind.signed, IntKind.bits]; omega
        have cv0 := conv_at _ _ _ q0
        clear q0
        have hts := turnS_size sh 1
        have hcat : ¬ 9223372036854775807 < (turnS sh 1).size + (strOfNums [r - 12352 + 32]).size := by rw [strOf_size]; simp; omega
        have hne : ¬ C = w.heap.size := by omega
        have HLT : Hid _ := hlt
        clear h hs
        generalize turnS sh 1 = T at *
        go_enter Tryd.func110, Tryd.ntmps110
        go_wp2
        go_region_with (go_at_call 62; refine (HTN.out _ (by first | exact H1.out | exact H2.out)).mono ?_; rintro e w5 ⟨rfl, s5, g5⟩; have S5 : Hid _ := s5; have cv5 := conv_1 w5 (r - 12352 + 32); first | (have G5 : Hid _ := grown_two GB.out g5; have q5 : w5.cell? ⟨w.heap.size, 0, none⟩ = some (.int .u8 (r - 12352 + 32)) := (World.cell?_of_block (a := ⟨w.heap.size, 0, none⟩) (g5.block w.heap.size (by simp) (fun e => by have := Option.some.inj e; have := HLT.out; omega))).trans Q0.out; have cv6 := conv_at w5 w.heap.size _ q5; clear q5 s5 g5) | (have G5 : Hid _ := grown_two GA.out g5; clear s5 g5))
        all_goals
          go_wp2
          go_ret2
          first
          | exact ⟨rfl, S5.out, G5.out⟩
          | exact ⟨rfl, (S5.out).below ((Below.refl _ _).alloc (Nat.le_refl _) _), grown_two G5.out (grown_of_below2 ((Below.refl _ _).alloc (Nat.le_refl _) _))⟩
      · rw [put5_no sh r h126 hk] at hok
        cases hok
end Go.Proofs.YtjnnikbgpjiecaaDoor
namespace Go.Proofs.YtjnnikbgpjiecaaDoor
open Go.ChangeShapes Go.WideShapes Go.ChangeAt Go.RowKit
def endR (t : ByteArray) : EncR := if t.size ≤ 1000 then ⟨t, -1, true⟩ else ⟨⟨#[]⟩, 0, false⟩
theorem end_0 (s : ByteArray) : encEnd 0 s = endR s := rfl
theorem app_nil2 (s : ByteArray) : s ++ (⟨#[]⟩ : ByteArray) = s := by
  apply ByteArray.ext
  simp
theorem end_turn (sh : Int) (s : ByteArray) (h : sh = 0 ∨ sh = 1) : encEnd sh s = endR (s ++ turnS sh 0) := by
  rcases h with rfl | rfl
  · rw [show turnS 0 0 = ⟨#[]⟩ from by simp [turnS], app_nil2]; rfl
  · rw [show turnS 1 0 = strOfNums [15] from by simp [turnS]]; rfl
theorem byteC_app (a b : ByteArray) : byteC (a ++ b).data.toList = byteC a.data.toList ++ byteC b.data.toList := by rw [ByteArray.data_append, Array.toList_append]; simp [byteC]
theorem ap5 (C : Nat) (w : World) : (Instr.typeAssert (shV C) 66 74 false).run Tryd.prog w = .ok (.pointer (some ⟨C, 0, none⟩)) w := by kernel_rfl
set_option maxRecDepth 100000 in
set_option maxHeartbeats 1000000 in
theorem ienc_bad (en : Int) (L : List Int) (ao : Option Addr) (cap : Nat) (w : World) (hc : codeB en = false) :
    Calls Tryd.prog 23 #[.int .i64 en, .slice ao L.length cap] w fun e w' => e = .returned (.tuple #[.string ⟨#[]⟩, .int .i64 0, .bool false]) ∧ Below w.heap.size w w' := by
  have HC : Hid _ := hc
  clear hc
  go_enter Tryd.func23, Tryd.ntmps23
  go_wp2_with fail
  refine (codeOf_no en 0 _ HC.out).mono ?_
  rintro e w1 ⟨rfl, rfl⟩
  go_wp2
  go_ret3
  exact ⟨rfl, Below.refl _ _⟩
set_option maxRecDepth 100000 in
set_option maxHeartbeats 1000000 in
theorem ienc_long (en : Int) (L : List Int) (ao : Option Addr) (cap : Nat) (w : World) (hc : 1 ≤ en ∧ en ≤ 5) (hl : (1000 : Int) < L.length) :
    Calls Tryd.prog 23 #[.int .i64 en, .slice ao L.length cap] w fun e w' => e = .returned (.tuple #[.string ⟨#[]⟩, .int .i64 0, .bool false]) ∧ Below w.heap.size w w' := by
  have HC : Hid _ := hc
  clear hc
  go_enter Tryd.func23, Tryd.ntmps23
  go_wp2_with fail
  refine (code_bad en 0 _ HC.out).mono ?_
  rintro e w1 ⟨cv, rfl, -, b1⟩
  go_wp2
  go_ret3
  exact ⟨rfl, b1⟩
set_option maxRecDepth 100000 in
set_option maxHeartbeats 1000000 in
theorem ienc_not (en : Int) (L : List Int) (ao : Option Addr) (cap : Nat) (w : World) (hc : 1 ≤ en ∧ en ≤ 5) (hl : ¬ (1000 : Int) < L.length) (hA : IntsAt w ao L) (hg : allG L = false) :
    Calls Tryd.prog 23 #[.int .i64 en, .slice ao L.length cap] w fun e w' => e = .returned (.tuple #[.string ⟨#[]⟩, .int .i64 0, .bool false]) ∧ Below w.heap.size w w' := by
  have HC : Hid _ := hc
  have HA : Hid _ := hA
  have HG : Hid _ := hg
  have HL : Hid (L.length ≤ 1048576) := by show L.length ≤ 1048576; omega
  clear hc hA hg
  go_enter Tryd.func23, Tryd.ntmps23
  go_wp2_with fail
  refine (code_bad en 0 _ HC.out).mono ?_
  rintro e w1 ⟨cv, rfl, -, b1⟩
  go_wp2_with fail
  refine (iall_any L _ _ _ HL.out (IntsAt.below HA.out b1)).mono ?_
  rintro e w2 ⟨rfl, rfl⟩
  rw [HG.out]
  go_wp2
  go_ret3
  exact ⟨rfl, b1⟩
theorem put_sh (en r : Int) (h : en = 1 ∨ en = 2 ∨ en = 3 ∨ en = 4) : (putS en 0 r).sh = 0 := by
  rcases h with rfl | rfl | rfl | rfl
  · simp [putS]
  · by_cases h : r < 65536 <;> simp [putS, unitsB, h]
  · by_cases h : r < 65536 <;> simp [putS, unitsB, h]
  · simp [putS, unitsB]
theorem put_ok (en r : Int) (h : en = 1 ∨ en = 2 ∨ en = 3) : (putS en 0 r).ok = true := by
  rcases h with rfl | rfl | rfl
  · simp [putS]
  · by_cases h : r < 65536 <;> simp [putS, unitsB, h]
  · by_cases h : r < 65536 <;> simp [putS, unitsB, h]
set_option maxRecDepth 100000 in
set_option maxHeartbeats 2000000 in
theorem ienc_1 (L : List Int) (ao : Option Addr) (cap : Nat) (w : World) (hT : Tabs w) (hl : L.length ≤ 1000) (hA : IntsAt w ao L) (hg : allG L = true) (R0 : EncR) (hR0 : encGo 1 L 0 0 ⟨#[]⟩ = R0) :
    Calls Tryd.prog 23 #[.int .i64 1, .slice ao L.length cap] w fun e w' => e = .returned (.tuple #[.string R0.s, .int .i64 R0.k, .bool R0.ok]) ∧ Below w.heap.size w w' := by
  obtain ⟨i0, hi, hz0, hz1, hz2⟩ := info_parts Tryd.info5
  have HA : Hid _ := hA
  have HT : Hid _ := hT
  have HG : Hid _ := hg
  have HAL : Hid _ := allG_true hg
  have h1000 : ¬ (1000 : Int) < (L.length : Int) := by omega
  have HF0 : Hid (R0 = encGo 1 (L.drop 0) 0 0 ⟨#[]⟩) := hR0.symm
  clear hA hT hg hR0
  go_enter Tryd.func23, Tryd.ntmps23
  go_wp2_with fail
  refine (codeOf_1 0 _).mono ?_
  rintro e w1 ⟨rfl, rfl⟩
  go_wp2_with fail
  refine (iall_any L _ _ _ (by omega) HA.out).mono ?_
  rintro e w2 ⟨rfl, rfl⟩
  rw [HG.out]
  go_wp2
  go_loopw [9, 33] (fun v iv wr => ∃ (k : Nat) (s : ByteArray), k ≤ L.length ∧ iv = .int .i64 k ∧ s.size ≤ 4 * k ∧ R0 = encGo 1 (L.drop k) k 0 s ∧ wr.ownsRow w2.heap.size 5 1 v s.size (byteC s.data.toList) ∧ Below w2.heap.size w2 wr) (fun _ i _ => L.length - (intOf i).toNat)
  case atStart => exact ⟨0, ⟨#[]⟩, Nat.zero_le _, rfl, Nat.zero_le _, HF0.out, World.ownsRow_nil _ _ _ _, Below.refl _ _⟩
  case round =>
    obtain ⟨k, s, hk, rfl, hsz, hF, hown, hbw⟩ := hrel
    have HE : Hid _ := hF
    clear hF
    by_cases hlt : k < L.length
    · have hltI : (k : Int) < (L.length : Int) := by omega
      obtain ⟨b1, o1, rfl, l1, h1⟩ := HA.out k hlt
      have g1 : wr.cell? ⟨b1, o1 + k, none⟩ = some (.int .i64 (L.getD k 0)) := (hbw.cell (p := ⟨b1, o1 + k, none⟩) l1).trans h1
      have HGD : Hid (goodB (L.getD k 0) = true) := HAL.out (L.getD k 0) (by simp [List.getD, hlt])
      have HGR : Hid _ := goodB_true HGD.out
      have HD : Hid _ := drop_getD L k hlt
      clear h1
      generalize L.getD k 0 = r at *
      have hps := putS_size 1 0 r
      have HR : Hid (R0 = if (putS 1 0 r).ok then encGo 1 (L.drop (k + 1)) (k + 1) (putS 1 0 r).sh (s ++ (putS 1 0 r).s) else ⟨⟨#[]⟩, k, true⟩) := by show _ = _; rw [HE.out, HD.out]; rfl
      have HSH : Hid ((putS 1 0 r).sh = 0) := put_sh 1 r (by omega)
      generalize hPR : putS 1 0 r = R at *
      cases hok : R.ok
      · exfalso
        have h : (putS 1 0 r).ok = true := put_ok 1 r (by omega)
        rw [hPR, hok] at h
        cases h
      · have hF : R0 = encGo 1 (L.drop (k + 1)) (k + 1) 0 (s ++ R.s) := by rw [HR.out, hok, HSH.out]; rfl
        have HF2 : Hid _ := hF
        have HW : Hid (∀ w : World, Tabs w → Calls Tryd.prog 112 #[.agg #[], .int .i64 r] w fun e w' => e = .returned (.tuple #[.string R.s, .bool true]) ∧ Below w.heap.size w w') := fun w hT => by
          rw [← hPR]; exact iwrite_1 r w HGD.out hT
        clear hok hF hPR HR HSH
        go_wp2_with fail
        refine (HW.out _ (HT.out.below hbw)).mono ?_
        rintro e w3 ⟨rfl, b3⟩
        have hown2 := ownsRow_below hown b3
        have hbw2 := hbw.trans (b3.mono hbw.size)
        clear hown hbw b3 g1
        go_wp2_with (at_builtin; refine Lib.wpList_append_own_string _ rfl _ _ 22 9 rfl w2.heap.size 5 i0 Tryd.underlying22 Tryd.underlying9 hi hz0 hz1 hz2 _ _ _ rfl hown2 R.s rfl ?c1 ?c2 ?c3 ?_)
        case c1 => unfold maxLen; omega
        case c2 => omega
        case c3 => exact hbw2.size
        intro v' w4 hown3 hgrow _
        have hb3 : Below w2.heap.size w2 w4 := Below.grown hbw2 hgrow hbw2.size (fun g hg => (hown2.lt g hg).1)
        clear hgrow hown2 hbw2
        have hz' := ByteArray.size_append (a := s) (b := R.s)
        go_wp2
        go_roundw
        case rel =>
          refine ⟨k + 1, s ++ R.s, by omega, by go_num, by omega, HF2.out, ?_, hb3⟩
          rw [hz', byteC_app]
          simpa [byteC, Lib.strCells] using hown3
        case measure => simp [intOf]; omega
    · obtain rfl : k = L.length := by omega
      have HFE : Hid (R0 = endR s) := by show _ = _; rw [HE.out, List.drop_length]; rfl
      have hbe := hbw
      obtain ⟨ao', cap', hv⟩ : ∃ ao' cap', u9 = .slice ao' (s).size cap' := by
        rcases hown.2 with ⟨h1, h2⟩ | ⟨g, c, cur, h1, _⟩
        · exact ⟨none, 0, by rw [h1, h2]⟩
        · exact ⟨_, _, h1⟩
      have hcv := conv_own hown
      rw [show (⟨(s).data.toList.toArray⟩ : ByteArray) = s from rfl] at hcv
      subst hv
      by_cases ht : (s).size ≤ 1000
      · have hsz : ¬ (1000 : Int) < ((s).size : Int) := by omega
        have HF2 : Hid (R0 = ⟨s, -1, true⟩) := by show _ = _; rw [HFE.out, endR, if_pos ht]
        go_wp2
        go_ret3
        exact ⟨by rw [HF2.out]; rfl, hbe⟩
      · have hsz : (1000 : Int) < ((s).size : Int) := by omega
        have HF2 : Hid (R0 = ⟨⟨#[]⟩, 0, false⟩) := by show _ = _; rw [HFE.out, endR, if_neg ht]
        go_wp2
        go_ret3
        exact ⟨by rw [HF2.out]; rfl, hbe⟩
set_option maxRecDepth 100000 in
set_option maxHeartbeats 2000000 in
theorem ienc_2 (L : List Int) (ao : Option Addr) (cap : Nat) (w : World) (hT : Tabs w) (hl : L.length ≤ 1000) (hA : IntsAt w ao L) (hg : allG L = true) (R0 : EncR) (hR0 : encGo 2 L 0 0 ⟨#[]⟩ = R0) :
    Calls Tryd.prog 23 #[.int .i64 2, .slice ao L.length cap] w fun e w' => e = .returned (.tuple #[.string R0.s, .int .i64 R0.k, .bool R0.ok]) ∧ Below w.heap.size w w' := by
  obtain ⟨i0, hi, hz0, hz1, hz2⟩ := info_parts Tryd.info5
  have HA : Hid _ := hA
  have HT : Hid _ := hT
  have HG : Hid _ := hg
  have HAL : Hid _ := allG_true hg
  have h1000 : ¬ (1000 : Int) < (L.length : Int) := by omega
  have HF0 : Hid (R0 = encGo 2 (L.drop 0) 0 0 ⟨#[]⟩) := hR0.symm
  clear hA hT hg hR0
  go_enter Tryd.func23, Tryd.ntmps23
  go_wp2_with fail
  refine (codeOf_2 0 _).mono ?_
  rintro e w1 ⟨rfl, rfl⟩
  go_wp2_with fail
  refine (iall_any L _ _ _ (by omega) HA.out).mono ?_
  rintro e w2 ⟨rfl, rfl⟩
  rw [HG.out]
  go_wp2
  go_loopw [9, 33] (fun v iv wr => ∃ (k : Nat) (s : ByteArray), k ≤ L.length ∧ iv = .int .i64 k ∧ s.size ≤ 4 * k ∧ R0 = encGo 2 (L.drop k) k 0 s ∧ wr.ownsRow w2.heap.size 5 1 v s.size (byteC s.data.toList) ∧ Below w2.heap.size w2 wr) (fun _ i _ => L.length - (intOf i).toNat)
  case atStart => exact ⟨0, ⟨#[]⟩, Nat.zero_le _, rfl, Nat.zero_le _, HF0.out, World.ownsRow_nil _ _ _ _, Below.refl _ _⟩
  case round =>
    obtain ⟨k, s, hk, rfl, hsz, hF, hown, hbw⟩ := hrel
    have HE : Hid _ := hF
    clear hF
    by_cases hlt : k < L.length
    · have hltI : (k : Int) < (L.length : Int) := by omega
      obtain ⟨b1, o1, rfl, l1, h1⟩ := HA.out k hlt
      have g1 : wr.cell? ⟨b1, o1 + k, none⟩ = some (.int .i64 (L.getD k 0)) := (hbw.cell (p := ⟨b1, o1 + k, none⟩) l1).trans h1
      have HGD : Hid (goodB (L.getD k 0) = true) := HAL.out (L.getD k 0) (by simp [List.getD, hlt])
      have HGR : Hid _ := goodB_true HGD.out
      have HD : Hid _ := drop_getD L k hlt
      clear h1
      generalize L.getD k 0 = r at *
      have hps := putS_size 2 0 r
      have HR : Hid (R0 = if (putS 2 0 r).ok then encGo 2 (L.drop (k + 1)) (k + 1) (putS 2 0 r).sh (s ++ (putS 2 0 r).s) else ⟨⟨#[]⟩, k, true⟩) := by show _ = _; rw [HE.out, HD.out]; rfl
      have HSH : Hid ((putS 2 0 r).sh = 0) := put_sh 2 r (by omega)
      generalize hPR : putS 2 0 r = R at *
      cases hok : R.ok
      · exfalso
        have h : (putS 2 0 r).ok = true := put_ok 2 r (by omega)
        rw [hPR, hok] at h
        cases h
      · have hF : R0 = encGo 2 (L.drop (k + 1)) (k + 1) 0 (s ++ R.s) := by rw [HR.out, hok, HSH.out]; rfl
        have HF2 : Hid _ := hF
        have HW : Hid (∀ w : World, Tabs w → Calls Tryd.prog 118 #[.agg #[], .int .i64 r] w fun e w' => e = .returned (.tuple #[.string R.s, .bool true]) ∧ Below w.heap.size w w') := fun w hT => by
          rw [← hPR]; exact iwrite_2 r w HGR.out.1 HGR.out.2.1
        clear hok hF hPR HR HSH
        go_wp2_with fail
        refine (HW.out _ (HT.out.below hbw)).mono ?_
        rintro e w3 ⟨rfl, b3⟩
        have hown2 := ownsRow_below hown b3
        have hbw2 := hbw.trans (b3.mono hbw.size)
        clear hown hbw b3 g1
        go_wp2_with (at_builtin; refine Lib.wpList_append_own_string _ rfl _ _ 22 9 rfl w2.heap.size 5 i0 Tryd.underlying22 Tryd.underlying9 hi hz0 hz1 hz2 _ _ _ rfl hown2 R.s rfl ?c1 ?c2 ?c3 ?_)
        case c1 => unfold maxLen; omega
        case c2 => omega
        case c3 => exact hbw2.size
        intro v' w4 hown3 hgrow _
        have hb3 : Below w2.heap.size w2 w4 := Below.grown hbw2 hgrow hbw2.size (fun g hg => (hown2.lt g hg).1)
        clear hgrow hown2 hbw2
        have hz' := ByteArray.size_append (a := s) (b := R.s)
        go_wp2
        go_roundw
        case rel =>
          refine ⟨k + 1, s ++ R.s, by omega, by go_num, by omega, HF2.out, ?_, hb3⟩
          rw [hz', byteC_app]
          simpa [byteC, Lib.strCells] using hown3
        case measure => simp [intOf]; omega
    · obtain rfl : k = L.length := by omega
      have HFE : Hid (R0 = endR s) := by show _ = _; rw [HE.out, List.drop_length]; rfl
      have hbe := hbw
      obtain ⟨ao', cap', hv⟩ : ∃ ao' cap', u9 = .slice ao' (s).size cap' := by
        rcases hown.2 with ⟨h1, h2⟩ | ⟨g, c, cur, h1, _⟩
        · exact ⟨none, 0, by rw [h1, h2]⟩
        · exact ⟨_, _, h1⟩
      have hcv := conv_own hown
      rw [show (⟨(s).data.toList.toArray⟩ : ByteArray) = s from rfl] at hcv
      subst hv
      by_cases ht : (s).size ≤ 1000
      · have hsz : ¬ (1000 : Int) < ((s).size : Int) := by omega
        have HF2 : Hid (R0 = ⟨s, -1, true⟩) := by show _ = _; rw [HFE.out, endR, if_pos ht]
        go_wp2
        go_ret3
        exact ⟨by rw [HF2.out]; rfl, hbe⟩
      · have hsz : (1000 : Int) < ((s).size : Int) := by omega
        have HF2 : Hid (R0 = ⟨⟨#[]⟩, 0, false⟩) := by show _ = _; rw [HFE.out, endR, if_neg ht]
        go_wp2
        go_ret3
        exact ⟨by rw [HF2.out]; rfl, hbe⟩
set_option maxRecDepth 100000 in
set_option maxHeartbeats 2000000 in
theorem ienc_3 (L : List Int) (ao : Option Addr) (cap : Nat) (w : World) (hT : Tabs w) (hl : L.length ≤ 1000) (hA : IntsAt w ao L) (hg : allG L = true) (R0 : EncR) (hR0 : encGo 3 L 0 0 ⟨#[]⟩ = R0) :
    Calls Tryd.prog 23 #[.int .i64 3, .slice ao L.length cap] w fun e w' => e = .returned (.tuple #[.string R0.s, .int .i64 R0.k, .bool R0.ok]) ∧ Below w.heap.size w w' := by
  obtain ⟨i0, hi, hz0, hz1, hz2⟩ := info_parts Tryd.info5
  have HA : Hid _ := hA
  have HT : Hid _ := hT
  have HG : Hid _ := hg
  have HAL : Hid _ := allG_true hg
  have h1000 : ¬ (1000 : Int) < (L.length : Int) := by omega
  have HF0 : Hid (R0 = encGo 3 (L.drop 0) 0 0 ⟨#[]⟩) := hR0.symm
  clear hA hT hg hR0
  go_enter Tryd.func23, Tryd.ntmps23
  go_wp2_with fail
  refine (codeOf_3 0 _).mono ?_
  rintro e w1 ⟨rfl, rfl⟩
  go_wp2_with fail
  refine (iall_any L _ _ _ (by omega) HA.out).mono ?_
  rintro e w2 ⟨rfl, rfl⟩
  rw [HG.out]
  go_wp2
  go_loopw [9, 33] (fun v iv wr => ∃ (k : Nat) (s : ByteArray), k ≤ L.length ∧ iv = .int .i64 k ∧ s.size ≤ 4 * k ∧ R0 = encGo 3 (L.drop k) k 0 s ∧ wr.ownsRow w2.heap.size 5 1 v s.size (byteC s.data.toList) ∧ Below w2.heap.size w2 wr) (fun _ i _ => L.length - (intOf i).toNat)
  case atStart => exact ⟨0, ⟨#[]⟩, Nat.zero_le _, rfl, Nat.zero_le _, HF0.out, World.ownsRow_nil _ _ _ _, Below.refl _ _⟩
  case round =>
    obtain ⟨k, s, hk, rfl, hsz, hF, hown, hbw⟩ := hrel
    have HE : Hid _ := hF
    clear hF
    by_cases hlt : k < L.length
    · have hltI : (k : Int) < (L.length : Int) := by omega
      obtain ⟨b1, o1, rfl, l1, h1⟩ := HA.out k hlt
      have g1 : wr.cell? ⟨b1, o1 + k, none⟩ = some (.int .i64 (L.getD k 0)) := (hbw.cell (p := ⟨b1, o1 + k, none⟩) l1).trans h1
      have HGD : Hid (goodB (L.getD k 0) = true) := HAL.out (L.getD k 0) (by simp [List.getD, hlt])
      have HGR : Hid _ := goodB_true HGD.out
      have HD : Hid _ := drop_getD L k hlt
      clear h1
      generalize L.getD k 0 = r at *
      have hps := putS_size 3 0 r
      have HR : Hid (R0 = if (putS 3 0 r).ok then encGo 3 (L.drop (k + 1)) (k + 1) (putS 3 0 r).sh (s ++ (putS 3 0 r).s) else ⟨⟨#[]⟩, k, true⟩) := by show _ = _; rw [HE.out, HD.out]; rfl
      have HSH : Hid ((putS 3 0 r).sh = 0) := put_sh 3 r (by omega)
      generalize hPR : putS 3 0 r = R at *
      cases hok : R.ok
      · exfalso
        have h : (putS 3 0 r).ok = true := put_ok 3 r (by omega)
        rw [hPR, hok] at h
        cases h
      · have hF : R0 = encGo 3 (L.drop (k + 1)) (k + 1) 0 (s ++ R.s) := by rw [HR.out, hok, HSH.out]; rfl
        have HF2 : Hid _ := hF
        have HW : Hid (∀ w : World, Tabs w → Calls Tryd.prog 125 #[.agg #[], .int .i64 r] w fun e w' => e = .returned (.tuple #[.string R.s, .bool true]) ∧ Below w.heap.size w w') := fun w hT => by
          rw [← hPR]; exact iwrite_3 r w HGR.out.1 HGR.out.2.1
        clear hok hF hPR HR HSH
        go_wp2_with fail
        refine (HW.out _ (HT.out.below hbw)).mono ?_
        rintro e w3 ⟨rfl, b3⟩
        have hown2 := ownsRow_below hown b3
        have hbw2 := hbw.trans (b3.mono hbw.size)
        clear hown hbw b3 g1
        go_wp2_with (at_builtin; refine Lib.wpList_append_own_string _ rfl _ _ 22 9 rfl w2.heap.size 5 i0 Tryd.underlying22 Tryd.underlying9 hi hz0 hz1 hz2 _ _ _ rfl hown2 R.s rfl ?c1 ?c2 ?c3 ?_)
        case c1 => unfold maxLen; omega
        case c2 => omega
        case c3 => exact hbw2.size
        intro v' w4 hown3 hgrow _
        have hb3 : Below w2.heap.size w2 w4 := Below.grown hbw2 hgrow hbw2.size (fun g hg => (hown2.lt g hg).1)
        clear hgrow hown2 hbw2
        have hz' := ByteArray.size_append (a := s) (b := R.s)
        go_wp2
        go_roundw
        case rel =>
          refine ⟨k + 1, s ++ R.s, by omega, by go_num, by omega, HF2.out, ?_, hb3⟩
          rw [hz', byteC_app]
          simpa [byteC, Lib.strCells] using hown3
        case measure => simp [intOf]; omega
    · obtain rfl : k = L.length := by omega
      have HFE : Hid (R0 = endR s) := by show _ = _; rw [HE.out, List.drop_length]; rfl
      have hbe := hbw
      obtain ⟨ao', cap', hv⟩ : ∃ ao' cap', u9 = .slice ao' (s).size cap' := by
        rcases hown.2 with ⟨h1, h2⟩ | ⟨g, c, cur, h1, _⟩
        · exact ⟨none, 0, by rw [h1, h2]⟩
        · exact ⟨_, _, h1⟩
      have hcv := conv_own hown
      rw [show (⟨(s).data.toList.toArray⟩ : ByteArray) = s from rfl] at hcv
      subst hv
      by_cases ht : (s).size ≤ 1000
      · have hsz : ¬ (1000 : Int) < ((s).size : Int) := by omega
        have HF2 : Hid (R0 = ⟨s, -1, true⟩) := by show _ = _; rw [HFE.out, endR, if_pos ht]
        go_wp2
        go_ret3
        exact ⟨by rw [HF2.out]; rfl, hbe⟩
      · have hsz : (1000 : Int) < ((s).size : Int) := by omega
        have HF2 : Hid (R0 = ⟨⟨#[]⟩, 0, false⟩) := by show _ = _; rw [HFE.out, endR, if_neg ht]
        go_wp2
        go_ret3
        exact ⟨by rw [HF2.out]; rfl, hbe⟩
set_option maxRecDepth 100000 in
set_option maxHeartbeats 2000000 in
theorem ienc_4 (L : List Int) (ao : Option Addr) (cap : Nat) (w : World) (hT : Tabs w) (hl : L.length ≤ 1000) (hA : IntsAt w ao L) (hg : allG L = true) (R0 : EncR) (hR0 : encGo 4 L 0 0 ⟨#[]⟩ = R0) :
    Calls Tryd.prog 23 #[.int .i64 4, .slice ao L.length cap] w fun e w' => e = .returned (.tuple #[.string R0.s, .int .i64 R0.k, .bool R0.ok]) ∧ Below w.heap.size w w' := by
  obtain ⟨i0, hi, hz0, hz1, hz2⟩ := info_parts Tryd.info5
  have HA : Hid _ := hA
  have HT : Hid _ := hT
  have HG : Hid _ := hg
  have HAL : Hid _ := allG_true hg
  have h1000 : ¬ (1000 : Int) < (L.length : Int) := by omega
  have HF0 : Hid (R0 = encGo 4 (L.drop 0) 0 0 ⟨#[]⟩) := hR0.symm
  clear hA hT hg hR0
  go_enter Tryd.func23, Tryd.ntmps23
  go_wp2_with fail
  refine (codeOf_4 0 _).mono ?_
  rintro e w1 ⟨rfl, rfl⟩
  go_wp2_with fail
  refine (iall_any L _ _ _ (by omega) HA.out).mono ?_
  rintro e w2 ⟨rfl, rfl⟩
  rw [HG.out]
  go_wp2
  go_loopw [9, 33] (fun v iv wr => ∃ (k : Nat) (s : ByteArray), k ≤ L.length ∧ iv = .int .i64 k ∧ s.size ≤ 4 * k ∧ R0 = encGo 4 (L.drop k) k 0 s ∧ wr.ownsRow w2.heap.size 5 1 v s.size (byteC s.data.toList) ∧ Below w2.heap.size w2 wr) (fun _ i _ => L.length - (intOf i).toNat)
  case atStart => exact ⟨0, ⟨#[]⟩, Nat.zero_le _, rfl, Nat.zero_le _, HF0.out, World.ownsRow_nil _ _ _ _, Below.refl _ _⟩
  case round =>
    obtain ⟨k, s, hk, rfl, hsz, hF, hown, hbw⟩ := hrel
    have HE : Hid _ := hF
    clear hF
    by_cases hlt : k < L.length
    · have hltI : (k : Int) < (L.length : Int) := by omega
      obtain ⟨b1, o1, rfl, l1, h1⟩ := HA.out k hlt
      have g1 : wr.cell? ⟨b1, o1 + k, none⟩ = some (.int .i64 (L.getD k 0)) := (hbw.cell (p := ⟨b1, o1 + k, none⟩) l1).trans h1
      have HGD : Hid (goodB (L.getD k 0) = true) := HAL.out (L.getD k 0) (by simp [List.getD, hlt])
      have HGR : Hid _ := goodB_true HGD.out
      have HD : Hid _ := drop_getD L k hlt
      clear h1
      generalize L.getD k 0 = r at *
      have hps := putS_size 4 0 r
      have HR : Hid (R0 = if (putS 4 0 r).ok then encGo 4 (L.drop (k + 1)) (k + 1) (putS 4 0 r).sh (s ++ (putS 4 0 r).s) else ⟨⟨#[]⟩, k, true⟩) := by show _ = _; rw [HE.out, HD.out]; rfl
      have HSH : Hid ((putS 4 0 r).sh = 0) := put_sh 4 r (by omega)
      generalize hPR : putS 4 0 r = R at *
      cases hok : R.ok
      · have hF : R0 = ⟨⟨#[]⟩, k, true⟩ := by rw [HR.out, hok]; rfl
        have HF2 : Hid _ := hF
        have HLT : Hid (¬ r < 256) := by
          have h : (putS 4 0 r).ok = false := by rw [hPR]; exact hok
          rw [show (putS 4 0 r).ok = decide (r < 256) from by simp [putS, unitsB]] at h
          exact of_decide_eq_false h
        clear hok hF
        go_wp2_with fail
        refine (iwrite_4no r _ (by have := HLT.out; omega)).mono ?_
        rintro e w2 ⟨rfl, b2⟩
        go_wp2
        go_ret3
        exact ⟨by rw [HF2.out]; rfl, hbw.trans (b2.mono hbw.size)⟩
      · have hF : R0 = encGo 4 (L.drop (k + 1)) (k + 1) 0 (s ++ R.s) := by rw [HR.out, hok, HSH.out]; rfl
        have HF2 : Hid _ := hF
        have HLT : Hid (r < 256) := by
          have h : (putS 4 0 r).ok = true := by rw [hPR]; exact hok
          rw [show (putS 4 0 r).ok = decide (r < 256) from by simp [putS, unitsB]] at h
          have h2 := of_decide_eq_true h
          exact h2
        have HW : Hid (∀ w : World, Tabs w → Calls Tryd.prog 127 #[.agg #[], .int .i64 r] w fun e w' => e = .returned (.tuple #[.string R.s, .bool true]) ∧ Below w.heap.size w w') := fun w hT => by
          rw [← hPR]; exact iwrite_4 r w HGR.out.1 HLT.out
        clear hok hF hPR HR HSH
        go_wp2_with fail
        refine (HW.out _ (HT.out.below hbw)).mono ?_
        rintro e w3 ⟨rfl, b3⟩
        have hown2 := ownsRow_below hown b3
        have hbw2 := hbw.trans (b3.mono hbw.size)
        clear hown hbw b3 g1
        go_wp2_with (at_builtin; refine Lib.wpList_append_own_string _ rfl _ _ 22 9 rfl w2.heap.size 5 i0 Tryd.underlying22 Tryd.underlying9 hi hz0 hz1 hz2 _ _ _ rfl hown2 R.s rfl ?c1 ?c2 ?c3 ?_)
        case c1 => unfold maxLen; omega
        case c2 => omega
        case c3 => exact hbw2.size
        intro v' w4 hown3 hgrow _
        have hb3 : Below w2.heap.size w2 w4 := Below.grown hbw2 hgrow hbw2.size (fun g hg => (hown2.lt g hg).1)
        clear hgrow hown2 hbw2
        have hz' := ByteArray.size_append (a := s) (b := R.s)
        go_wp2
        go_roundw
        case rel =>
          refine ⟨k + 1, s ++ R.s, by omega, by go_num, by omega, HF2.out, ?_, hb3⟩
          rw [hz', byteC_app]
          simpa [byteC, Lib.strCells] using hown3
        case measure => simp [intOf]; omega
    · obtain rfl : k = L.length := by omega
      have HFE : Hid (R0 = endR s) := by show _ = _; rw [HE.out, List.drop_length]; rfl
      have hbe := hbw
      obtain ⟨ao', cap', hv⟩ : ∃ ao' cap', u9 = .slice ao' (s).size cap' := by
        rcases hown.2 with ⟨h1, h2⟩ | ⟨g, c, cur, h1, _⟩
        · exact ⟨none, 0, by rw [h1, h2]⟩
        · exact ⟨_, _, h1⟩
      have hcv := conv_own hown
      rw [show (⟨(s).data.toList.toArray⟩ : ByteArray) = s from rfl] at hcv
      subst hv
      by_cases ht : (s).size ≤ 1000
      · have hsz : ¬ (1000 : Int) < ((s).size : Int) := by omega
        have HF2 : Hid (R0 = ⟨s, -1, true⟩) := by show _ = _; rw [HFE.out, endR, if_pos ht]
        go_wp2
        go_ret3
        exact ⟨by rw [HF2.out]; rfl, hbe⟩
      · have hsz : (1000 : Int) < ((s).size : Int) := by omega
        have HF2 : Hid (R0 = ⟨⟨#[]⟩, 0, false⟩) := by show _ = _; rw [HFE.out, endR, if_neg ht]
        go_wp2
        go_ret3
        exact ⟨by rw [HF2.out]; rfl, hbe⟩
end Go.Proofs.YtjnnikbgpjiecaaDoor
namespace Go.Proofs.YtjnnikbgpjiecaaDoor
open Go.ChangeShapes Go.WideShapes Go.ChangeAt Go.RowKit
set_option maxRecDepth 100000 in
set_option maxHeartbeats 4000000 in
theorem ienc_5 (L : List Int) (ao : Option Addr) (cap : Nat) (w : World) (hl : L.length ≤ 1000) (hA : IntsAt w ao L) (hg : allG L = true) (R0 : EncR) (hR0 : encGo 5 L 0 0 ⟨#[]⟩ = R0) :
    Calls Tryd.prog 23 #[.int .i64 5, .slice ao L.length cap] w fun e w' => e = .returned (.tuple #[.string R0.s, .int .i64 R0.k, .bool R0.ok]) ∧ Below w.heap.size w w' := by
  obtain ⟨i0, hi, hz0, hz1, hz2⟩ := info_parts Tryd.info5
  have HA : Hid _ := hA
  have HG : Hid _ := hg
  have HAL : Hid _ := allG_true hg
  have h1000 : ¬ (1000 : Int) < (L.length : Int) := by omega
  have HF0 : Hid (R0 = encGo 5 (L.drop 0) 0 0 ⟨#[]⟩) := hR0.symm
  clear hA hg hR0
  go_enter Tryd.func23, Tryd.ntmps23
  go_wp2_with fail
  refine (codeOf_5 0 _).mono ?_
  rintro e w1 ⟨rfl, hw1⟩
  have s1 : ShAt w1 w.heap.size 0 := by
    rw [hw1]
    refine ⟨?_, ?_, by simp⟩
    · rw [cell_of_row _ _ _ _ _ _ (heap_alloc_new w _)]; rfl
    · unfold World.frozen?; simp only [heap_alloc_new w _]; simp
  have b1 : Below w.heap.size w w1 := by rw [hw1]; exact (Below.refl _ _).alloc (Nat.le_refl _) _
  have SH1 : Hid _ := s1
  have B1 : Hid _ := b1
  clear hw1 s1 b1
  go_wp2_with fail
  refine (iall_any L _ _ _ (by omega) (IntsAt.below HA.out B1.out)).mono ?_
  rintro e w2 ⟨rfl, rfl⟩
  rw [HG.out]
  have apn := ap5 w.heap.size
  go_wp2
  go_loopw [9, 33] (fun v iv wr => ∃ (k : Nat) (s : ByteArray) (sh : Int), k ≤ L.length ∧ iv = .int .i64 k ∧ s.size ≤ 4 * k ∧ (sh = 0 ∨ sh = 1) ∧ R0 = encGo 5 (L.drop k) k sh s ∧ ShAt wr w.heap.size sh ∧ wr.ownsRow (w.heap.size + 1) 5 1 v s.size (byteC s.data.toList) ∧ Below w.heap.size w wr) (fun _ i _ => L.length - (intOf i).toNat)
  case atStart => exact ⟨0, ⟨#[]⟩, 0, Nat.zero_le _, rfl, Nat.zero_le _, .inl rfl, HF0.out, SH1.out, World.ownsRow_nil _ _ _ _, B1.out⟩
  case round =>
    obtain ⟨k, s, sh, hk, rfl, hsz, hsh, hF, sat, hown, hbw⟩ := hrel
    have HE : Hid _ := hF
    have SAT : Hid _ := sat
    have HSH : Hid _ := hsh
    have hclt := sat.lt
    clear hF sat hsh
    by_cases hlt : k < L.length
    · have hltI : (k : Int) < (L.length : Int) := by omega
      obtain ⟨b1, o1, rfl, l1, h1⟩ := HA.out k hlt
      have g1 : wr.cell? ⟨b1, o1 + k, none⟩ = some (.int .i64 (L.getD k 0)) := (hbw.cell (p := ⟨b1, o1 + k, none⟩) l1).trans h1
      have HGR : Hid _ := goodB_true (HAL.out (L.getD k 0) (by simp [List.getD, hlt]))
      have HD : Hid _ := drop_getD L k hlt
      clear h1
      generalize L.getD k 0 = r at *
      have hps := putS_size 5 sh r
      have HR : Hid (R0 = if (putS 5 sh r).ok then encGo 5 (L.drop (k + 1)) (k + 1) (putS 5 sh r).sh (s ++ (putS 5 sh r).s) else ⟨⟨#[]⟩, k, true⟩) := by show _ = _; rw [HE.out, HD.out]; rfl
      have HSB : Hid ((putS 5 sh r).ok = true → (putS 5 sh r).sh = 0 ∨ (putS 5 sh r).sh = 1) := fun hok => by
        by_cases h32 : r < 32
        · rw [put5_low sh r h32]; exact HSH.out
        · by_cases h126 : r ≤ 126
          · rw [put5_mid sh r h32 h126 HSH.out]; exact .inl rfl
          · by_cases hk : 12352 ≤ r ∧ r ≤ 12446
            · rw [put5_high sh r hk.1 hk.2 HSH.out]; exact .inr rfl
            · rw [put5_no sh r h126 hk] at hok; cases hok
      have HWY : Hid (∀ W : World, ShAt W w.heap.size sh → (putS 5 sh r).ok = true → _) := fun W h hok => iwrite_5 w.heap.size sh r W HGR.out.1 hok HSH.out h
      have HWN : Hid (∀ W : World, (putS 5 sh r).ok = false → _) := fun W hok => iwrite_5no w.heap.size sh r W HGR.out.1 hok HSH.out
      generalize putS 5 sh r = R at *
      cases hok : R.ok
      · have hF : R0 = ⟨⟨#[]⟩, k, true⟩ := by rw [HR.out, hok]; rfl
        have HF2 : Hid _ := hF
        have HOK : Hid _ := hok
        clear hok hF
        go_wp2_with fail
        refine (HWN.out _ HOK.out).mono ?_
        rintro e w2 ⟨rfl, hw2⟩
        rw [hw2]
        go_wp2
        go_ret3
        exact ⟨by rw [HF2.out]; rfl, hbw⟩
      · have hF : R0 = encGo 5 (L.drop (k + 1)) (k + 1) R.sh (s ++ R.s) := by rw [HR.out, hok]; rfl
        have HF2 : Hid _ := hF
        have HOK : Hid _ := hok
        clear hok hF HR
        go_wp2_with fail
        refine (HWY.out _ SAT.out HOK.out).mono ?_
        rintro e w3 ⟨rfl, sat3, g3⟩
        have far : u9.ownBlock = none ∨ u9.ownBlock ≠ some w.heap.size := by
          cases hu : u9.ownBlock with
          | none => exact .inl rfl
          | some g => exact .inr (fun e => by have := Option.some.inj e; have := (hown.lt g hu).1; omega)
        have hown2 := hown.kept g3 far
        have hbw2 : Below w.heap.size w w3 := Below.grown hbw g3 (by omega) (fun g hg => by have := Option.some.inj hg; omega)
        have hlt3 := sat3.lt
        have SAT3 : Hid _ := sat3
        clear hown hbw g3 g1 far sat3 SAT
        go_wp2_with (at_builtin; refine Lib.wpList_append_own_string _ rfl _ _ 22 9 rfl (w.heap.size + 1) 5 i0 Tryd.underlying22 Tryd.underlying9 hi hz0 hz1 hz2 _ _ _ rfl hown2 R.s rfl ?c1 ?c2 ?c3 ?_)
        case c1 => unfold maxLen; omega
        case c2 => omega
        case c3 => omega
        intro v' w4 hown3 hgrow _
        have hb3 : Below w.heap.size w w4 := Below.grown hbw2 hgrow (by omega) (fun g hg => by have := (hown2.lt g hg).1; omega)
        have SAT4 : Hid (ShAt w4 w.heap.size R.sh) := ShAt.grown SAT3.out hgrow (fun e => by have := (hown2.lt w.heap.size e).1; omega)
        clear hgrow hown2 hbw2
        have hz' := ByteArray.size_append (a := s) (b := R.s)
        go_wp2
        go_roundw
        case rel =>
          refine ⟨k + 1, s ++ R.s, R.sh, by omega, by go_num, by omega, HSB.out HOK.out, HF2.out, SAT4.out, ?_, hb3⟩
          rw [hz', byteC_app]
          simpa [byteC, Lib.strCells] using hown3
        case measure => simp [intOf]; omega
    · obtain rfl : k = L.length := by omega
      have HFE : Hid (R0 = endR (s ++ turnS sh 0)) := by show _ = _; rw [HE.out, List.drop_length]; exact end_turn sh s HSH.out
      have hts := turnS_size sh 0
      have HTN : Hid (∀ W : World, ShAt W w.heap.size sh → _) := fun W h => turn_any w.heap.size sh 0 W h (.inl rfl)
      generalize turnS sh 0 = T at *
      go_wp2_with fail
      refine (HTN.out _ SAT.out).mono ?_
      rintro e w3 ⟨rfl, sat3, g3⟩
      have far : u9.ownBlock = none ∨ u9.ownBlock ≠ some w.heap.size := by
        cases hu : u9.ownBlock with
        | none => exact .inl rfl
        | some g => exact .inr (fun e => by have := Option.some.inj e; have := (hown.lt g hu).1; omega)
      have hown2 := hown.kept g3 far
      have hbw2 : Below w.heap.size w w3 := Below.grown hbw g3 (by omega) (fun g hg => by have := Option.some.inj hg; omega)
      have hlt3 := sat3.lt
      clear hown hbw g3 far sat3 SAT
      go_wp2_with (at_builtin; refine Lib.wpList_append_own_string _ rfl _ _ 22 9 rfl (w.heap.size + 1) 5 i0 Tryd.underlying22 Tryd.underlying9 hi hz0 hz1 hz2 _ _ _ rfl hown2 T rfl ?c1 ?c2 ?c3 ?_)
      case c1 => unfold maxLen; omega
      case c2 => omega
      case c3 => omega
      intro v' w4 hown3 hgrow _
      have hbe : Below w.heap.size w w4 := Below.grown hbw2 hgrow (by omega) (fun g hg => by have := (hown2.lt g hg).1; omega)
      clear hgrow hown2 hbw2
      have hz' := ByteArray.size_append (a := s) (b := T)
      have hown4 : w4.ownsRow (w.heap.size + 1) 5 1 v' (s ++ T).size (byteC (s ++ T).data.toList) := by
        rw [hz', byteC_app]
        simpa [byteC, Lib.strCells] using hown3
      clear hown3
      obtain ⟨t, hst⟩ : ∃ t, s ++ T = t := ⟨_, rfl⟩
      rw [hst] at hown4 HFE
      clear hst hz'
      obtain ⟨ao', cap', hv⟩ : ∃ ao' cap', v' = .slice ao' (t).size cap' := by
        rcases hown4.2 with ⟨h1, h2⟩ | ⟨g, c, cur, h1, _⟩
        · exact ⟨none, 0, by rw [h1, h2]⟩
        · exact ⟨_, _, h1⟩
      have hcv := conv_own hown4
      rw [show (⟨(t).data.toList.toArray⟩ : ByteArray) = t from rfl] at hcv
      subst hv
      by_cases ht : (t).size ≤ 1000
      · have hsz : ¬ (1000 : Int) < ((t).size : Int) := by omega
        have HF2 : Hid (R0 = ⟨t, -1, true⟩) := by show _ = _; rw [HFE.out, endR, if_pos ht]
        go_wp2
        go_ret3
        exact ⟨by rw [HF2.out]; rfl, hbe⟩
      · have hsz : (1000 : Int) < ((t).size : Int) := by omega
        have HF2 : Hid (R0 = ⟨⟨#[]⟩, 0, false⟩) := by show _ = _; rw [HFE.out, endR, if_neg ht]
        go_wp2
        go_ret3
        exact ⟨by rw [HF2.out]; rfl, hbe⟩
theorem ienc_any (en : Int) (L : List Int) (ao : Option Addr) (cap : Nat) (w : World) (hT : Tabs w) (hl : L.length ≤ 1048576) (hA : IntsAt w ao L) :
    Calls Tryd.prog 23 #[.int .i64 en, .slice ao L.length cap] w fun e w' => e = .returned (.tuple #[.string (encA en L).s, .int .i64 (encA en L).k, .bool (encA en L).ok]) ∧ Below w.heap.size w w' := by
  cases hc : codeB en
  · rw [show encA en L = ⟨⟨#[]⟩, 0, false⟩ from by simp [encA, hc]]
    exact ienc_bad en L ao cap w hc
  · have h := of_decide_eq_true (show decide (1 ≤ en ∧ en ≤ 5) = true from hc)
    by_cases hL : L.length ≤ 1000
    · cases hg : allG L
      · rw [show encA en L = ⟨⟨#[]⟩, 0, false⟩ from by simp [encA, hc, hg]]
        exact ienc_not en L ao cap w h (by omega) hA hg
      · rw [show encA en L = encGo en L 0 0 ⟨#[]⟩ from by simp [encA, hc, hg, hL]]
        rcases (by omega : en = 1 ∨ en = 2 ∨ en = 3 ∨ en = 4 ∨ en = 5) with rfl | rfl | rfl | rfl | rfl
        · exact ienc_1 L ao cap w hT hL hA hg _ rfl
        · exact ienc_2 L ao cap w hT hL hA hg _ rfl
        · exact ienc_3 L ao cap w hT hL hA hg _ rfl
        · exact ienc_4 L ao cap w hT hL hA hg _ rfl
        · exact ienc_5 L ao cap w hL hA hg _ rfl
    · rw [show encA en L = ⟨⟨#[]⟩, 0, false⟩ from by simp [encA, hL]]
      exact ienc_long en L ao cap w h (by omega)
end Go.Proofs.YtjnnikbgpjiecaaDoor
namespace Go.Proofs.YtjnnikbgpjiecaaDoor
open Go.ChangeShapes Go.WideShapes Go.ChangeAt Go.RowKit
set_option maxRecDepth 100000 in
set_option maxHeartbeats 1000000 in
theorem ddec_any (ao : Option Addr) (n cap : Nat) (w : World) (h : ArgB w ao n) :
    Calls Tryd.prog 26 #[.slice ao n cap] w fun e w' => ∃ (en : Int) (s : ByteArray), e = .returned (.tuple #[.int .i64 en, .string s]) ∧ s.size ≤ 1028 ∧ Below w.heap.size w w' := by
  have HC : Hid _ := cur_new cap h
  clear h
  go_enter Tryd.func26, Tryd.ntmps26
  go_wp2_with fail
  refine (cen_any _ _ ao n cap 0 _ (by omega) HC.out).mono ?_
  rintro e w1 ⟨r, k1, rfl, p0, p1, hk1, C1, g1⟩
  have HC1 : Hid _ := C1
  have G1 : Hid _ := g1
  clear C1 g1
  go_wp2_with fail
  refine (coded_any r _ _ ao n cap k1 _ (by omega) HC1.out).mono ?_
  rintro e w2 ⟨s, k2, rfl, hs, hk2, C2, g2⟩
  have G2 : Hid _ := grown_trans' G1.out g2
  clear C2 g2
  go_wp2
  go_ret2
  exact ⟨r, s, rfl, hs, below_of_cur G2.out⟩
set_option maxRecDepth 100000 in
set_option maxHeartbeats 1000000 in
theorem dnew_any (ao : Option Addr) (n cap : Nat) (w : World) (h : ArgB w ao n) :
    Calls Tryd.prog 31 #[.slice ao n cap] w fun e w' => ∃ (en : Int), e = .returned (.int .i64 en) ∧ Below w.heap.size w w' := by
  have HC : Hid _ := cur_new cap h
  clear h
  go_enter Tryd.func31, Tryd.ntmps31
  go_wp2_with fail
  refine (cen_any _ _ ao n cap 0 _ (by omega) HC.out).mono ?_
  rintro e w1 ⟨r, k1, rfl, p0, p1, hk1, C1, g1⟩
  have G1 : Hid _ := g1
  clear C1 g1
  go_wp2
  go_ret
  exact ⟨r, rfl, below_of_cur G1.out⟩
def markL : List ByteArray := [⟨#[254, 255]⟩, ⟨#[255, 254]⟩, ⟨#[239, 187, 191]⟩, ⟨#[254]⟩, ⟨#[239, 187]⟩]
theorem markL_size (y : ByteArray) (h : y ∈ markL) : y.size ≤ 3 := by
  simp only [markL, List.mem_cons, List.not_mem_nil, or_false] at h
  rcases h with rfl | rfl | rfl | rfl | rfl <;> decide
set_option maxRecDepth 100000 in
set_option maxHeartbeats 1000000 in
theorem dguess_any (ao : Option Addr) (n cap : Nat) (w : World) (h : ArgB w ao n) :
    Calls Tryd.prog 28 #[.slice ao n cap] w fun e w' => ∃ (s : ByteArray), e = .returned (.string s) ∧ Below w.heap.size w w' := by
  have HC : Hid _ := cur_new cap h
  clear h
  go_enter Tryd.func28, Tryd.ntmps28
  go_wp2_with fail
  refine (bytes_any _ _ ao n cap 0 _ (by omega) HC.out).mono ?_
  rintro e w1 ⟨x, k1, rfl, hx, hk1, C1, g1⟩
  have HC1 : Hid _ := C1
  have G1 : Hid _ := g1
  clear C1 g1
  go_wp2_with fail
  refine (one_any 2 _ _ ao n cap k1 _ (by omega) HC1.out).mono ?_
  rintro e w2 ⟨q, k2, rfl, hk2, C2, g2⟩
  have HC2 : Hid _ := C2
  have G2 : Hid _ := grown_trans' G1.out g2
  have hb : w.heap.size < w2.heap.size := by have := G2.out.size; simp at this; omega
  clear C2 g2
  cases q
  · go_wp2
    go_ret
    exact ⟨x, rfl, below_of_cur G2.out⟩
  · have HV : Hid _ := vals_new w2 w.heap.size hb _ (markL.map Value.string) rfl 9
    have HB : Hid (Below w2.heap.size w2 (w2.alloc (.cells (markL.map Value.string).toArray 9))) := (Below.refl _ _).alloc (Nat.le_refl _) _
    go_wp2_with fail
    refine (of_any markL _ _ _ _ ao n cap k2 _ (by omega) (by decide) (by decide) HV.out (Cur.below HC2.out HB.out)).mono ?_
    rintro e w3 ⟨y, k3, rfl, hy, hk3, C3, g3⟩
    have hy3 := markL_size y hy
    have G3 : Hid _ := grown_trans' (grown_trans' G2.out (grown_of_below HB.out _)) g3
    clear C3 g3 hy
    have hcat : ¬ 9223372036854775807 < y.size + x.size := by omega
    go_wp2
    go_ret
    exact ⟨_, rfl, below_of_cur G3.out⟩
theorem sumI_take (L : List Int) (k : Nat) (h : k < L.length) : sumI (L.take (k + 1)) = sumI (L.take k) + L.getD k 0 := by
  rw [take_one L k h, sumI_append]; simp [sumI]
theorem sumI_bd (L : List Int) (h : ∀ x ∈ L, 0 ≤ x ∧ x ≤ 5000) : 0 ≤ sumI L ∧ sumI L ≤ 5000 * L.length := by
  induction L with
  | nil => simp [sumI]
  | cons a t ih =>
    have h1 := ih (fun x hx => h x (List.mem_cons_of_mem _ hx))
    have h2 := h a (List.mem_cons_self ..)
    rw [sumI_cons, List.length_cons]
    omega
set_option maxRecDepth 100000 in
set_option maxHeartbeats 1000000 in
theorem sum_any (L : List Int) (ao : Option Addr) (cap : Nat) (w : World) (hl : L.length ≤ 5000) (hb : ∀ x ∈ L, 0 ≤ x ∧ x ≤ 5000) (hA : IntsAt w ao L) :
    Calls Tryd.prog 18 #[.slice ao L.length cap] w fun e w' => e = .returned (.int .i64 (sumI L)) ∧ w' = w := by
  have HA : Hid _ := hA
  have HB : Hid _ := hb
  clear hA hb
  go_enter Tryd.func18, Tryd.ntmps18
  go_wp2
  go_loopw [3, 8] (fun sv iv wr => ∃ k : Nat, k ≤ L.length ∧ iv = .int .i64 k ∧ sv = .int .i64 (sumI (L.take k)) ∧ wr = w) (fun _ i _ => L.length - (intOf i).toNat)
  case atStart => exact ⟨0, Nat.zero_le _, rfl, rfl, rfl⟩
  case round =>
    obtain ⟨k, hk, rfl, rfl, rfl⟩ := hrel
    by_cases hlt : k < L.length
    · have hltI : (k : Int) < (L.length : Int) := by omega
      obtain ⟨b1, o1, rfl, l1, h1⟩ := HA.out k hlt
      have hx := HB.out (L.getD k 0) (by simp [List.getD, hlt])
      have hs := sumI_bd (L.take k) (fun x hx => HB.out x (List.mem_of_mem_take hx))
      have hlk := List.length_take_le k L
      have HST : Hid _ := sumI_take L k hlt
      have hs2 : sumI (L.take k) ≤ 25000000 := by omega
      obtain ⟨hs1, -⟩ := hs
      obtain ⟨hx1, hx2⟩ := hx
      generalize L.getD k 0 = x at *
      generalize sumI (L.take k) = y at *
      go_wp2
      go_roundw
      case rel => exact ⟨k + 1, by omega, by go_num, by rw [HST.out], by first | rfl | trivial⟩
      case measure => simp [intOf]; omega
    · obtain rfl : k = L.length := by omega
      rw [List.take_length]
      go_wp2
      go_ret
      exact ⟨rfl, rfl⟩
theorem feedU_bd (en : Int) : ∀ (f : Nat) (x : ByteArray), ∀ y ∈ (feedU en f x).2.1, 0 ≤ y ∧ y ≤ x.size
  | 0, x => fun y hy => by cases hy
  | f + 1, x => fun y hy => by
    unfold feedU at hy
    by_cases h0 : x.size = 0
    · rw [if_pos h0] at hy; cases hy
    · rw [if_neg h0] at hy
      by_cases h1 : (oneS en x).2 = 0
      · rw [if_pos h1] at hy; cases hy
      · rw [if_neg h1] at hy
        have hle := oneS_le en x (by omega)
        rcases List.mem_cons.1 hy with rfl | hy'
        · omega
        · have := feedU_bd en f _ y hy'
          rw [ByteArray.size_extract] at this
          omega
theorem feedB_bd (en : Int) : ∀ (t : List UInt8) (sh lo : Int), 0 ≤ lo → ∀ y ∈ (feedB en t sh lo).2.1, 0 ≤ y ∧ y ≤ lo + t.length
  | [], sh, lo, h => fun y hy => by cases hy
  | b :: t, sh, lo, h => fun y hy => by
    rw [feedB] at hy
    rw [List.length_cons]
    split at hy
    · have := feedB_bd en t (15 - b.toNat) (lo + 1) (by omega) y hy; omega
    · rcases List.mem_cons.1 hy with rfl | hy'
      · omega
      · have := feedB_bd en t sh 0 (by omega) y hy'; omega
theorem flushN_bd (u : Bool) : ∀ (f n : Nat), ∀ y ∈ flushN u f n, 0 ≤ y ∧ y ≤ 2
  | 0, _ => fun y hy => by cases hy
  | f + 1, 0 => fun y hy => by cases hy
  | f + 1, n + 1 => fun y hy => by
    unfold flushN at hy
    split at hy
    · rcases List.mem_cons.1 hy with rfl | hy'
      · omega
      · exact flushN_bd u f _ y hy'
    · rcases List.mem_cons.1 hy with rfl | hy'
      · omega
      · exact flushN_bd u f _ y hy'
theorem decLs_bd (en : Int) (s : ByteArray) (hs : s.size ≤ 1000) : ∀ y ∈ decLs en s, 0 ≤ y ∧ y ≤ 5000 := fun y hy => by
  unfold decLs at hy
  rcases List.mem_append.1 hy with h | h
  · unfold feedD at h
    split at h
    · have := feedB_bd en s.data.toList 0 0 (by omega) y h
      have hl : s.data.toList.length = s.size := by simp
      omega
    · have := feedU_bd en _ _ y h
      have hz := ByteArray.size_append (a := (⟨#[]⟩ : ByteArray)) (b := s)
      have h0 : (⟨#[]⟩ : ByteArray).size = 0 := rfl
      omega
  · have := flushN_bd _ _ _ y h
    omega
/-- Both DecodeAlls tell the same. -/
theorem dec_both (en : Int) (s : ByteArray) : ∃ (ok : Bool) (L1 L2 : List Int), L1.length ≤ 3000 ∧ L2.length ≤ 3000 ∧
    (∀ w, Calls Tryd.prog 27 #[.int .i64 en, .string s] w fun e w' => ∃ v1 v2, e = .returned (.tuple #[v1, v2, .bool ok]) ∧ Two w.heap.size w' v1 L1 v2 L2 ∧ Below w.heap.size w w') ∧
    (∀ w, Tabs w → Calls Tryd.prog 25 #[.int .i64 en, .string s] w fun e w' => ∃ v1 v2, e = .returned (.tuple #[v1, v2, .bool ok]) ∧ Two w.heap.size w' v1 L1 v2 L2 ∧ Below w.heap.size w w') := by
  cases hc : codeB en
  · exact ⟨false, [], [], by simp, by simp, (fun w => (decA_bad en s w hc).mono fun e w' ⟨he, hw⟩ => ⟨_, _, he, Two.nil _ _, by rw [hw]; exact Below.refl _ _⟩), (fun w hT => (idecA_no en s w hT hc).mono fun e w' ⟨he, hw⟩ => ⟨_, _, he, Two.nil _ _, hw⟩)⟩
  · by_cases hs : s.size ≤ 1000
    · have h := feedD_sizes en 0 0 ⟨#[]⟩ s hs (Nat.zero_le _)
      have hl := flushN_len (unitsB en) (feedD en 0 0 ⟨#[]⟩ s).held.size (feedD en 0 0 ⟨#[]⟩ s).held.size
      exact ⟨true, decRs en s, decLs en s, (by unfold decRs; rw [List.length_append, bads_len]; omega), (by unfold decLs; rw [List.length_append]; omega), (fun w => decA_yes en s w hc hs), (fun w hT => idecA_yes en s w hT hc hs)⟩
    · exact ⟨false, [], [], by simp, by simp, (fun w => (decA_long en s w hc hs).mono fun e w' ⟨he, hw⟩ => ⟨_, _, he, Two.nil _ _, by rw [hw]; exact Below.refl _ _⟩), (fun w hT => (idecA_long en s w hT hc hs).mono fun e w' ⟨he, hw⟩ => ⟨_, _, he, Two.nil _ _, hw⟩)⟩
/-- Both NewDecoders tell the same. -/
theorem new_both (en : Int) : ∃ (ok : Bool) (e1 : Int),
    (∀ w, Calls Tryd.prog 33 #[.int .i64 en] w fun e w' => e = .returned (.tuple #[decV e1 0 0 ⟨#[]⟩, .bool ok]) ∧ Below w.heap.size w w') ∧
    (∀ w, Calls Tryd.prog 32 #[.int .i64 en] w fun e w' => e = .returned (.tuple #[decV e1 0 0 ⟨#[]⟩, .bool ok]) ∧ Below w.heap.size w w') := by
  cases hc : codeB en
  · exact ⟨false, 0, fun w => new_no en w hc, fun w => inew_no en w hc⟩
  · exact ⟨true, en, fun w => new_yes en w hc, fun w => inew_yes en w hc⟩
end Go.Proofs.YtjnnikbgpjiecaaDoor
namespace Go.Proofs.YtjnnikbgpjiecaaDoor
open Go.ChangeShapes Go.WideShapes Go.ChangeAt Go.WideMaps Go.WideElems Go.RowKit
set_option maxRecDepth 100000 in
set_option maxHeartbeats 1000000 in
theorem iwhole_big (s : ByteArray) (w : World) (hs : (1000 : Int) < s.size) :
    Calls Tryd.prog 69 #[.string s] w fun e w' => e = .returned (.bool false) ∧ Below w.heap.size w w' := by
  have HS : Hid _ := hs
  clear hs
  go_enter Tryd.func69, Tryd.ntmps69
  go_wp2_with fail
  refine (irunes_big s _ HS.out).mono ?_
  rintro e w1 ⟨rfl, rfl⟩
  go_wp2
  go_ret
  exact ⟨rfl, Below.refl _ _⟩
theorem toList_inj {a b : ByteArray} (h : a.toList = b.toList) : a.size = b.size := by
  rw [Lib.toList_data, Lib.toList_data] at h
  have := congrArg List.length h
  simpa using this
set_option maxRecDepth 100000 in
set_option maxHeartbeats 1000000 in
theorem iwhole_any (s : ByteArray) (w : World) (hs : s.size ≤ 1000) (hT : Tabs w) :
    Calls Tryd.prog 69 #[.string s] w fun e w' => e = .returned (.bool ((textS (runes s)).toList == s.toList)) ∧ Below w.heap.size w w' := by
  have HS : Hid _ := hs
  have HLn : Hid ((runes s).length ≤ 1000) := by have := runes_len s; show (runes s).length ≤ 1000; omega
  have HT : Hid _ := hT
  have hall : allG (runes s) = true := List.all_eq_true.2 (runes_good s)
  by_cases ht : (textB (runes s)).length ≤ 1000
  · have hy : tB (runes s) = true := by unfold tB; rw [hall, decide_eq_true HLn.out, decide_eq_true ht]; rfl
    have HY : Hid _ := hy
    have HY2 : Hid _ := tS_yes hy
    clear hs hT hall ht hy
    go_enter Tryd.func69, Tryd.ntmps69
    go_wp2_with fail
    refine (irunes_any s _ HS.out).mono ?_
    rintro e w2 ⟨v, rfl, hown, hb⟩
    obtain ⟨_, ao, cap, rfl, hA⟩ := ints_of_own hown
    have HA : Hid _ := hA
    have HB : Hid _ := hb
    clear hA hown hb
    go_wp2_with fail
    refine (itext_any (runes s) _ _ _ HLn.out HA.out (Tabs.below HT.out HB.out)).mono ?_
    rintro e w3 ⟨rfl, b3⟩
    rw [HY.out, HY2.out]
    go_wp2
    go_ret
    exact ⟨rfl, Below.trans HB.out (b3.mono (Below.size HB.out))⟩
  · have hn : tB (runes s) = false := by unfold tB; rw [decide_eq_false ht, Bool.and_false]
    have HN : Hid _ := hn
    have HN2 : Hid _ := tS_no hn
    have hf : ((textS (runes s)).toList == s.toList) = false := by
      rw [beq_eq_false_iff_ne]
      intro h
      have := toList_inj h
      rw [textS_size] at this
      omega
    rw [hf]
    clear hs hT hall ht hn hf
    go_enter Tryd.func69, Tryd.ntmps69
    go_wp2_with fail
    refine (irunes_any s _ HS.out).mono ?_
    rintro e w2 ⟨v, rfl, hown, hb⟩
    obtain ⟨_, ao, cap, rfl, hA⟩ := ints_of_own hown
    have HA : Hid _ := hA
    have HB : Hid _ := hb
    clear hA hown hb
    go_wp2_with fail
    refine (itext_any (runes s) _ _ _ HLn.out HA.out (Tabs.below HT.out HB.out)).mono ?_
    rintro e w3 ⟨rfl, b3⟩
    rw [HN.out, HN2.out]
    go_wp2
    go_ret
    exact ⟨rfl, Below.trans HB.out (b3.mono (Below.size HB.out))⟩
end Go.Proofs.YtjnnikbgpjiecaaDoor
namespace Go.Proofs.YtjnnikbgpjiecaaDoor
open Go.ChangeShapes Go.WideShapes Go.ChangeAt Go.RowKit
abbrev mkB : ByteArray := ⟨#[254, 255]⟩
abbrev mkL : ByteArray := ⟨#[255, 254]⟩
abbrev mkU : ByteArray := ⟨#[239, 187, 191]⟩
theorem pf_B (s : ByteArray) : prefB s mkB = true ↔ 2 ≤ s.size ∧ ((s.extract 0 2).toList == [254, 255]) = true := by
  unfold prefB
  rw [Bool.and_eq_true, decide_eq_true_eq, show mkB.toList = [254, 255] by rw [Lib.toList_data]]
  exact Iff.rfl
theorem pf_L (s : ByteArray) : prefB s mkL = true ↔ 2 ≤ s.size ∧ ((s.extract 0 2).toList == [255, 254]) = true := by
  unfold prefB
  rw [Bool.and_eq_true, decide_eq_true_eq, show mkL.toList = [255, 254] by rw [Lib.toList_data]]
  exact Iff.rfl
theorem pf_U (s : ByteArray) : prefB s mkU = true ↔ 3 ≤ s.size ∧ ((s.extract 0 3).toList == [239, 187, 191]) = true := by
  unfold prefB
  rw [Bool.and_eq_true, decide_eq_true_eq, show mkU.toList = [239, 187, 191] by rw [Lib.toList_data]]
  exact Iff.rfl
theorem guess_is (s : ByteArray) : guessR s = if 1000 < s.size then ⟨0, 0, false⟩ else if prefB s mkB = true then ⟨2, 2, true⟩ else if prefB s mkL = true then ⟨3, 2, true⟩ else if prefB s mkU = true then ⟨1, 3, true⟩ else if wholeB s = true then ⟨1, 0, true⟩ else ⟨4, 0, true⟩ := by
  unfold guessR
  simp only [pf_B, pf_L, pf_U]
set_option maxRecDepth 100000 in
set_option maxHeartbeats 1000000 in
theorem iguess_any (s : ByteArray) (w : World) (hT : Tabs w) :
    Calls Tryd.prog 29 #[.string s] w fun e w' => e = .returned (.tuple #[.int .i64 (guessR s).en, .int .i64 (guessR s).n, .bool (guessR s).ok]) ∧ Below w.heap.size w w' := by
  rw [guess_is]
  by_cases hs : 1000 < s.size
  · rw [if_pos hs]
    have hsI : (1000 : Int) < s.size := by omega
    clear hT hs
    go_enter Tryd.func29, Tryd.ntmps29
    go_wp2
    go_ret3
    exact ⟨rfl, Below.refl _ _⟩
  · rw [if_neg hs]
    have hsI : ¬ (1000 : Int) < s.size := by omega
    have HW : Hid (∀ w : World, Tabs w → Calls Tryd.prog 69 #[.string s] w fun e w' => e = .returned (.bool (wholeB s)) ∧ Below w.heap.size w w') := fun w hT => iwhole_any s w (by omega) hT
    have HT : Hid _ := hT
    clear hT hs
    cases h1 : prefB s mkB
    · have P1 : Hid (∀ w : World, _) := fun w => hasp_no h1 w
      rw [if_neg Bool.false_ne_true]
      cases h2 : prefB s mkL
      · have P2 : Hid (∀ w : World, _) := fun w => hasp_no h2 w
        rw [if_neg Bool.false_ne_true]
        cases h3 : prefB s mkU
        · have P3 : Hid (∀ w : World, _) := fun w => hasp_no h3 w
          rw [if_neg Bool.false_ne_true]
          generalize wholeB s = B at *
          clear h1 h2 h3
          cases B
          all_goals
            go_enter Tryd.func29, Tryd.ntmps29
            go_wp2_with fail
            refine (P1.out _).mono ?_
            rintro e w1 ⟨rfl, rfl⟩
            go_wp2_with fail
            refine (P2.out _).mono ?_
            rintro e w2 ⟨rfl, rfl⟩
            go_wp2_with fail
            refine (P3.out _).mono ?_
            rintro e w3 ⟨rfl, rfl⟩
            go_wp2_with fail
            refine (HW.out _ HT.out).mono ?_
            rintro e w4 ⟨rfl, b4⟩
            go_wp2
            go_ret3
            exact ⟨rfl, b4⟩
        · have P3 : Hid (∀ w : World, _) := fun w => hasp_yes h3 w
          rw [if_pos rfl]
          clear h1 h2 h3
          go_enter Tryd.func29, Tryd.ntmps29
          go_wp2_with fail
          refine (P1.out _).mono ?_
          rintro e w1 ⟨rfl, rfl⟩
          go_wp2_with fail
          refine (P2.out _).mono ?_
          rintro e w2 ⟨rfl, rfl⟩
          go_wp2_with fail
          refine (P3.out _).mono ?_
          rintro e w3 ⟨rfl, rfl⟩
          go_wp2
          go_ret3
          exact ⟨rfl, Below.refl _ _⟩
      · have P2 : Hid (∀ w : World, _) := fun w => hasp_yes h2 w
        rw [if_pos rfl]
        clear h1 h2
        go_enter Tryd.func29, Tryd.ntmps29
        go_wp2_with fail
        refine (P1.out _).mono ?_
        rintro e w1 ⟨rfl, rfl⟩
        go_wp2_with fail
        refine (P2.out _).mono ?_
        rintro e w2 ⟨rfl, rfl⟩
        go_wp2
        go_ret3
        exact ⟨rfl, Below.refl _ _⟩
    · have P1 : Hid (∀ w : World, _) := fun w => hasp_yes h1 w
      rw [if_pos rfl]
      clear h1
      go_enter Tryd.func29, Tryd.ntmps29
      go_wp2_with fail
      refine (P1.out _).mono ?_
      rintro e w1 ⟨rfl, rfl⟩
      go_wp2
      go_ret3
      exact ⟨rfl, Below.refl _ _⟩
end Go.Proofs.YtjnnikbgpjiecaaDoor
namespace Go.Proofs.YtjnnikbgpjiecaaDoor
open Go.ChangeShapes Go.WideShapes Go.ChangeAt Go.WideMaps Go.WideElems Go.RowKit
namespace LawEncoded
theorem slice_ints (a : Option Addr) (n c k : Nat) (K : Int) (hK : K = k) (h : k ≤ n) (hc : n ≤ c) (hz : a = none → c = 0) (w : World) : (Instr.slice 28 (.slice a n c) none (some (.int .i64 K)) none).run Tryd.prog w = .ok (.slice a k c) w := by
  subst hK
  have h1 : (k : Int) ≤ c := by omega
  have h2 : k ≤ c := by omega
  cases a with
  | none =>
    have h3 := hz rfl
    subst h3
    obtain rfl : k = 0 := by omega
    go_simp
  | some a => go_simp
theorem ints_take {w : World} {ao : Option Addr} {L : List Int} (h : IntsAt w ao L) (k : Nat) : IntsAt w ao (L.take k) := fun j hj => by
  rw [List.length_take] at hj
  obtain ⟨b, off, h1, h2, h3⟩ := h j (by omega)
  refine ⟨b, off, h1, h2, ?_⟩
  rw [h3]
  simp [List.getD, show j < k by omega]
theorem own_cap {w : World} {base : Nat} {a : Option Addr} {n c : Nat} {xs : List Value} (h : w.ownsRow base 3 1 (.slice a n c) n xs) : n ≤ c ∧ (a = none → c = 0) := by
  rcases h.2 with ⟨h1, h2⟩ | ⟨g, cap, cur, h1, _, _, h4⟩
  · simp only [Value.slice.injEq] at h1
    obtain ⟨rfl, h5, h6⟩ := h1
    exact ⟨by omega, fun _ => h6⟩
  · simp only [Value.slice.injEq] at h1
    obtain ⟨rfl, _, rfl⟩ := h1
    exact ⟨h4.1, fun e => by cases e⟩
set_option maxRecDepth 100000 in
set_option maxHeartbeats 8000000 in
theorem walk_in (a0 : Option Addr) (n0 c0 : Nat) (a1 : Option Addr) (n1 c1 : Nat) (w : World) (hA : ArgB w a0 n0) (hM : ArgB w a1 n1) (hT : Tabs w) (hn0 : (n0 : Int) ≤ 1048576) (hn1 : (n1 : Int) ≤ 1048576 - n0) :
    Calls Tryd.prog 4 #[.slice a0 n0 c0, .slice a1 n1 c1] w fun e w' => e = .returned (.bool true) ∧ Below w.heap.size w w' := by
  have HT : Hid _ := hT
  have HA : Hid _ := hA
  have HM : Hid _ := hM
  have hn0' : ¬ (1048576 : Int) < (n0 : Int) := by omega
  have hn1' : ¬ (1048576 : Int) - n0 < (n1 : Int) := by omega
  clear hT hA hM
  go_enter Tryd.func4, Tryd.ntmps4
  go_wp2_with (first | (go_at_call 10; go_in) | fail)
  refine (denc_any a0 n0 c0 _ HA.out).mono ?_
  rintro e w1 ⟨en, v, L, rfl, hL, own1, b1⟩
  obtain ⟨_, la, lc, rfl, hI⟩ := ints_of_own own1
  have hcap := own_cap own1
  have B1 : Hid _ := b1
  have I1 : Hid _ := hI
  clear b1 hI own1 HA
  go_wp2_with fail
  refine (ienc_any en L la lc _ (Tabs.below HT.out B1.out) (by omega) I1.out).mono ?_
  rintro e w2 ⟨rfl, b2⟩
  have B2 : Hid (Below w.heap.size w w2) := Below.trans B1.out (b2.mono (Below.size B1.out))
  have I2 : Hid _ := IntsAt.below I1.out b2
  clear b2 I1
  go_wp2_with fail
  refine (enc_any en L la lc _ (by omega) I2.out).mono ?_
  rintro e w3 ⟨rfl, b3⟩
  have B3 : Hid (Below w.heap.size w w3) := Below.trans B2.out (b3.mono (Below.size B2.out))
  have I3 : Hid _ := IntsAt.below I2.out b3
  clear b3 I2 B2 B1
  have HDE : Hid _ := dec_enc en L
  have HEF : Hid _ := enc_first en L (by omega)
  have HSZ : Hid _ := encA_size en L
  have HCB : Hid ((encA en L).ok = true → codeB en = true) := fun h => by
    cases hc : codeB en
    · rw [show encA en L = ⟨⟨#[]⟩, 0, false⟩ from by simp [encA, hc]] at h; cases h
    · rfl
  generalize encA en L = R at *
  obtain ⟨s, k, ok⟩ := R
  cases ok
  · have BK := B3
    clear HDE HEF HCB
    go_wp2_with fail
    refine (ddec_any a1 n1 c1 _ (ArgB.below HM.out BK.out)).mono ?_
    rintro e y1 ⟨e2, t, rfl, ht, d1⟩
    have D1 : Hid (Below w.heap.size w y1) := Below.trans BK.out (d1.mono (Below.size BK.out))
    clear d1
    obtain ⟨ok2, M1, M2, m1, m2, SP, IM⟩ := dec_both e2 t
    have HSP : Hid _ := SP
    have HIM : Hid _ := IM
    clear SP IM
    go_wp2_with fail
    refine (HIM.out _ (Tabs.below HT.out D1.out)).mono ?_
    rintro e y2 ⟨vx, vn, rfl, T2, d2⟩
    have D2 : Hid (Below w.heap.size w y2) := Below.trans D1.out (d2.mono (Below.size D1.out))
    obtain ⟨ax, cx, an, cn, rfl, rfl⟩ := T2.form
    have TX2 : Hid _ := T2
    clear T2 d2
    go_wp2_with fail
    refine (HSP.out _).mono ?_
    rintro e y3 ⟨vr, vl, rfl, T3, d3⟩
    have D3 : Hid (Below w.heap.size w y3) := Below.trans D2.out (d3.mono (Below.size D2.out))
    obtain ⟨ar, cr, al, cl, rfl, rfl⟩ := T3.form
    have TX3 : Hid _ := Two.below TX2.out d3
    have TR3 : Hid _ := T3
    clear T3 d3 TX2
    go_wp2_with fail
    refine (dguess_any a1 n1 c1 _ (ArgB.below HM.out D3.out)).mono ?_
    rintro e y4 ⟨u, rfl, d4⟩
    have D4 : Hid (Below w.heap.size w y4) := Below.trans D3.out (d4.mono (Below.size D3.out))
    have TX4 : Hid _ := Two.below TX3.out d4
    have TR4 : Hid _ := Two.below TR3.out d4
    clear d4 TX3 TR3
    have HGI : Hid (∀ w : World, Tabs w → _) := fun w hT => iguess_any u w hT
    have HGS : Hid (∀ w : World, _) := fun w => guess_any u w
    obtain ⟨gg, gk, gok⟩ := guessR u
    go_wp2_with fail
    refine (HGI.out _ (Tabs.below HT.out D4.out)).mono ?_
    rintro e y5 ⟨rfl, d5⟩
    have D5 : Hid (Below w.heap.size w y5) := Below.trans D4.out (d5.mono (Below.size D4.out))
    have TX5 : Hid _ := Two.below TX4.out d5
    have TR5 : Hid _ := Two.below TR4.out d5
    clear d5 TX4 TR4
    go_wp2_with fail
    refine (HGS.out _).mono ?_
    rintro e y6 ⟨rfl, d6⟩
    have D6 : Hid (Below w.heap.size w y6) := Below.trans D5.out (d6.mono (Below.size D5.out))
    have TX6 : Hid _ := Two.below TX5.out d6
    have TR6 : Hid _ := Two.below TR5.out d6
    clear d6 TX5 TR5
    go_wp2_with fail
    refine (dnew_any a1 n1 c1 _ (ArgB.below HM.out D6.out)).mono ?_
    rintro e y7 ⟨v7, rfl, d7⟩
    have D7 : Hid (Below w.heap.size w y7) := Below.trans D6.out (d7.mono (Below.size D6.out))
    have TX7 : Hid _ := Two.below TX6.out d7
    have TR7 : Hid _ := Two.below TR6.out d7
    clear d7 TX6 TR6
    obtain ⟨nok, ne, NS, NI⟩ := new_both v7
    have HNS : Hid _ := NS
    have HNI : Hid _ := NI
    clear NS NI
    go_wp2_with fail
    refine (HNI.out _).mono ?_
    rintro e y8 ⟨rfl, d8⟩
    have D8 : Hid (Below w.heap.size w y8) := Below.trans D7.out (d8.mono (Below.size D7.out))
    have TX8 : Hid _ := Two.below TX7.out d8
    have TR8 : Hid _ := Two.below TR7.out d8
    have DG8 : Hid _ := DecAt.new y8 ne 0 0 ⟨#[]⟩ 25 _ rfl
    clear d8 TX7 TR7
    go_wp2_with fail
    refine (HNS.out _).mono ?_
    rintro e y9 ⟨rfl, d9⟩
    have D8a := Below.alloc D8.out (Below.size D8.out) (.cells #[.int .i64 ne, .int .i64 0, .int .i64 0, .string ⟨#[]⟩] 25)
    have D9 : Hid (Below w.heap.size w y9) := D8a.trans (d9.mono D8a.size)
    have TX9 : Hid _ := Two.below (Two.alloc TX8.out _) d9
    have TR9 : Hid _ := Two.below (Two.alloc TR8.out _) d9
    have DG9 : Hid _ := DecAt.below DG8.out d9
    have S9 : Hid (y8.heap.size < y9.heap.size) := (DecAt.below DG8.out d9).lt
    have D9a : Hid _ := Below.alloc D9.out (Below.size D9.out) (.cells #[.int .i64 ne, .int .i64 0, .int .i64 0, .string ⟨#[]⟩] 25)
    have TX9a : Hid _ := Two.alloc TX9.out (.cells #[.int .i64 ne, .int .i64 0, .int .i64 0, .string ⟨#[]⟩] 25)
    have TR9a : Hid _ := Two.alloc TR9.out (.cells #[.int .i64 ne, .int .i64 0, .int .i64 0, .string ⟨#[]⟩] 25)
    have DG9a : Hid _ := DecAt.alloc DG9.out (.cells #[.int .i64 ne, .int .i64 0, .int .i64 0, .string ⟨#[]⟩] 25)
    have DW9 : Hid _ := DecAt.new y9 ne 0 0 ⟨#[]⟩ 25 _ rfl
    clear d9 D8a TX8 TR8 DG8 TX9 TR9 DG9
    have bb2 : (ok2 == ok2) = true := by simp
    have bbg : (gok == gok) = true := by simp
    have bbn : (nok == nok) = true := by simp
    have hM1 : M1.length ≤ 1048576 := by omega
    have hM2 : M2.length ≤ 1048576 := by omega
    go_wp2_with fail
    refine (same_any M1 _ _ _ _ _ hM1 (Two.i1 TX9a.out) (Two.i1 TR9a.out)).mono ?_
    rintro e z1 ⟨rfl, f1⟩
    have F1 : Hid (Below w.heap.size w z1) := Below.trans D9a.out (f1.mono (Below.size D9a.out))
    have TXb : Hid _ := Two.below TX9a.out f1
    have TRb : Hid _ := Two.below TR9a.out f1
    have DGb : Hid _ := DecAt.below DG9a.out f1
    have DWb : Hid _ := DecAt.below DW9.out f1
    clear f1 TX9a TR9a DG9a DW9
    go_wp2_with fail
    refine (same_any M2 _ _ _ _ _ hM2 (Two.i2 TXb.out) (Two.i2 TRb.out)).mono ?_
    rintro e z2 ⟨rfl, f2⟩
    have F2 : Hid (Below w.heap.size w z2) := Below.trans F1.out (f2.mono (Below.size F1.out))
    obtain ⟨p0, p1, p2, p3, -, -⟩ := DecAt.below DGb.out f2
    obtain ⟨q0, q1, q2, q3, -, -⟩ := DecAt.below DWb.out f2
    clear f2
    go_wp2
    go_ret
    exact ⟨rfl, F2.out⟩
  · by_cases hk : k < 0
    · have HC : Hid _ := HCB.out rfl
      have HD : Hid (decRs en s = L) := HDE.out rfl hk
      have HS : Hid (s.size ≤ 1000) := HSZ.out
      have HLS : Hid _ := decLs_sum en s
      have HLB : Hid _ := decLs_bd en s HSZ.out
      have hll : (decLs en s).length ≤ 3000 := by
        have h := feedD_sizes en 0 0 ⟨#[]⟩ s HSZ.out (Nat.zero_le _)
        have hl := flushN_len (unitsB en) (feedD en 0 0 ⟨#[]⟩ s).held.size (feedD en 0 0 ⟨#[]⟩ s).held.size
        unfold decLs; rw [List.length_append]; omega
      have hk0 : ¬ 0 ≤ k := by omega
      clear HDE HEF HCB HSZ
      go_wp2_with fail
      refine (idecA_yes en s _ (Tabs.below HT.out B3.out) HC.out HS.out).mono ?_
      rintro e w4 ⟨vx, vn, rfl, T4, b4⟩
      rw [HD.out] at T4
      have hsum : ¬ (s.size : Int) < sumI (decLs en s) := by have := HLS.out; omega
      have B4 : Hid (Below w.heap.size w w4) := Below.trans B3.out (b4.mono (Below.size B3.out))
      have I4 : Hid _ := IntsAt.below I3.out b4
      generalize decLs en s = LS at *
      obtain ⟨ax, cx, an, cn, rfl, rfl⟩ := T4.form
      have TT4 : Hid _ := T4
      clear b4 T4 I3 B3
      have hL7 : L.length ≤ 1048576 := by omega
      go_wp2_with fail
      refine (same_any L _ _ _ _ _ hL7 (Two.i1 TT4.out) I4.out).mono ?_
      rintro e w5 ⟨rfl, b5⟩
      have B5 : Hid (Below w.heap.size w w5) := Below.trans B4.out (b5.mono (Below.size B4.out))
      have TT5 : Hid _ := Two.below TT4.out b5
      clear b5 TT4 B4
      go_wp2_with fail
      refine (sum_any LS _ _ _ (by omega) HLB.out (Two.i2 TT5.out)).mono ?_
      rintro e w6 ⟨rfl, rfl⟩
      have BK := B5
      clear TT5 HLB HLS
      go_wp2_with fail
      refine (ddec_any a1 n1 c1 _ (ArgB.below HM.out BK.out)).mono ?_
      rintro e y1 ⟨e2, t, rfl, ht, d1⟩
      have D1 : Hid (Below w.heap.size w y1) := Below.trans BK.out (d1.mono (Below.size BK.out))
      clear d1
      obtain ⟨ok2, M1, M2, m1, m2, SP, IM⟩ := dec_both e2 t
      have HSP : Hid _ := SP
      have HIM : Hid _ := IM
      clear SP IM
      go_wp2_with fail
      refine (HIM.out _ (Tabs.below HT.out D1.out)).mono ?_
      rintro e y2 ⟨vx, vn, rfl, T2, d2⟩
      have D2 : Hid (Below w.heap.size w y2) := Below.trans D1.out (d2.mono (Below.size D1.out))
      obtain ⟨ax, cx, an, cn, rfl, rfl⟩ := T2.form
      have TX2 : Hid _ := T2
      clear T2 d2
      go_wp2_with fail
      refine (HSP.out _).mono ?_
      rintro e y3 ⟨vr, vl, rfl, T3, d3⟩
      have D3 : Hid (Below w.heap.size w y3) := Below.trans D2.out (d3.mono (Below.size D2.out))
      obtain ⟨ar, cr, al, cl, rfl, rfl⟩ := T3.form
      have TX3 : Hid _ := Two.below TX2.out d3
      have TR3 : Hid _ := T3
      clear T3 d3 TX2
      go_wp2_with fail
      refine (dguess_any a1 n1 c1 _ (ArgB.below HM.out D3.out)).mono ?_
      rintro e y4 ⟨u, rfl, d4⟩
      have D4 : Hid (Below w.heap.size w y4) := Below.trans D3.out (d4.mono (Below.size D3.out))
      have TX4 : Hid _ := Two.below TX3.out d4
      have TR4 : Hid _ := Two.below TR3.out d4
      clear d4 TX3 TR3
      have HGI : Hid (∀ w : World, Tabs w → _) := fun w hT => iguess_any u w hT
      have HGS : Hid (∀ w : World, _) := fun w => guess_any u w
      obtain ⟨gg, gk, gok⟩ := guessR u
      go_wp2_with fail
      refine (HGI.out _ (Tabs.below HT.out D4.out)).mono ?_
      rintro e y5 ⟨rfl, d5⟩
      have D5 : Hid (Below w.heap.size w y5) := Below.trans D4.out (d5.mono (Below.size D4.out))
      have TX5 : Hid _ := Two.below TX4.out d5
      have TR5 : Hid _ := Two.below TR4.out d5
      clear d5 TX4 TR4
      go_wp2_with fail
      refine (HGS.out _).mono ?_
      rintro e y6 ⟨rfl, d6⟩
      have D6 : Hid (Below w.heap.size w y6) := Below.trans D5.out (d6.mono (Below.size D5.out))
      have TX6 : Hid _ := Two.below TX5.out d6
      have TR6 : Hid _ := Two.below TR5.out d6
      clear d6 TX5 TR5
      go_wp2_with fail
      refine (dnew_any a1 n1 c1 _ (ArgB.below HM.out D6.out)).mono ?_
      rintro e y7 ⟨v7, rfl, d7⟩
      have D7 : Hid (Below w.heap.size w y7) := Below.trans D6.out (d7.mono (Below.size D6.out))
      have TX7 : Hid _ := Two.below TX6.out d7
      have TR7 : Hid _ := Two.below TR6.out d7
      clear d7 TX6 TR6
      obtain ⟨nok, ne, NS, NI⟩ := new_both v7
      have HNS : Hid _ := NS
      have HNI : Hid _ := NI
      clear NS NI
      go_wp2_with fail
      refine (HNI.out _).mono ?_
      rintro e y8 ⟨rfl, d8⟩
      have D8 : Hid (Below w.heap.size w y8) := Below.trans D7.out (d8.mono (Below.size D7.out))
      have TX8 : Hid _ := Two.below TX7.out d8
      have TR8 : Hid _ := Two.below TR7.out d8
      have DG8 : Hid _ := DecAt.new y8 ne 0 0 ⟨#[]⟩ 25 _ rfl
      clear d8 TX7 TR7
      go_wp2_with fail
      refine (HNS.out _).mono ?_
      rintro e y9 ⟨rfl, d9⟩
      have D8a := Below.alloc D8.out (Below.size D8.out) (.cells #[.int .i64 ne, .int .i64 0, .int .i64 0, .string ⟨#[]⟩] 25)
      have D9 : Hid (Below w.heap.size w y9) := D8a.trans (d9.mono D8a.size)
      have TX9 : Hid _ := Two.below (Two.alloc TX8.out _) d9
      have TR9 : Hid _ := Two.below (Two.alloc TR8.out _) d9
      have DG9 : Hid _ := DecAt.below DG8.out d9
      have S9 : Hid (y8.heap.size < y9.heap.size) := (DecAt.below DG8.out d9).lt
      have D9a : Hid _ := Below.alloc D9.out (Below.size D9.out) (.cells #[.int .i64 ne, .int .i64 0, .int .i64 0, .string ⟨#[]⟩] 25)
      have TX9a : Hid _ := Two.alloc TX9.out (.cells #[.int .i64 ne, .int .i64 0, .int .i64 0, .string ⟨#[]⟩] 25)
      have TR9a : Hid _ := Two.alloc TR9.out (.cells #[.int .i64 ne, .int .i64 0, .int .i64 0, .string ⟨#[]⟩] 25)
      have DG9a : Hid _ := DecAt.alloc DG9.out (.cells #[.int .i64 ne, .int .i64 0, .int .i64 0, .string ⟨#[]⟩] 25)
      have DW9 : Hid _ := DecAt.new y9 ne 0 0 ⟨#[]⟩ 25 _ rfl
      clear d9 D8a TX8 TR8 DG8 TX9 TR9 DG9
      have bb2 : (ok2 == ok2) = true := by simp
      have bbg : (gok == gok) = true := by simp
      have bbn : (nok == nok) = true := by simp
      have hM1 : M1.length ≤ 1048576 := by omega
      have hM2 : M2.length ≤ 1048576 := by omega
      go_wp2_with fail
      refine (same_any M1 _ _ _ _ _ hM1 (Two.i1 TX9a.out) (Two.i1 TR9a.out)).mono ?_
      rintro e z1 ⟨rfl, f1⟩
      have F1 : Hid (Below w.heap.size w z1) := Below.trans D9a.out (f1.mono (Below.size D9a.out))
      have TXb : Hid _ := Two.below TX9a.out f1
      have TRb : Hid _ := Two.below TR9a.out f1
      have DGb : Hid _ := DecAt.below DG9a.out f1
      have DWb : Hid _ := DecAt.below DW9.out f1
      clear f1 TX9a TR9a DG9a DW9
      go_wp2_with fail
      refine (same_any M2 _ _ _ _ _ hM2 (Two.i2 TXb.out) (Two.i2 TRb.out)).mono ?_
      rintro e z2 ⟨rfl, f2⟩
      have F2 : Hid (Below w.heap.size w z2) := Below.trans F1.out (f2.mono (Below.size F1.out))
      obtain ⟨p0, p1, p2, p3, -, -⟩ := DecAt.below DGb.out f2
      obtain ⟨q0, q1, q2, q3, -, -⟩ := DecAt.below DWb.out f2
      clear f2
      go_wp2
      go_ret
      exact ⟨rfl, F2.out⟩
    · have hk0 : 0 ≤ k := by omega
      obtain ⟨j, hj, hkj, e1, e2, e3, e4⟩ := HEF.out rfl hk0
      have hkj' : k = (j : Int) := hkj
      subst hkj'
      clear HDE HEF HCB hkj
      have sl1 := slice_ints la L.length lc j (j : Int) rfl (by omega) hcap.1 hcap.2
      have sl2 := slice_ints la L.length lc (j + 1) ((j : Int) + 1) (by omega) (by omega) hcap.1 hcap.2
      have l1 : (L.take j).length = j := by rw [List.length_take]; omega
      have l2 : (L.take (j + 1)).length = j + 1 := by rw [List.length_take]; omega
      have HE1 : Hid (∀ w : World, Tabs w → IntsAt w la L → Calls Tryd.prog 23 #[.int .i64 en, .slice la j lc] w fun e w' => e = .returned (.tuple #[.string (encA en (L.take j)).s, .int .i64 (-1), .bool true]) ∧ Below w.heap.size w w') := fun w hT hI => by
        have h := ienc_any en (L.take j) la lc w hT (by omega) (ints_take hI j)
        rw [l1, e1, e2] at h
        exact h
      have HE2 : Hid (∀ w : World, Tabs w → IntsAt w la L → Calls Tryd.prog 23 #[.int .i64 en, .slice la ((j + 1 : Nat)) lc] w fun e w' => e = .returned (.tuple #[.string (encA en (L.take (j + 1))).s, .int .i64 (j : Int), .bool true]) ∧ Below w.heap.size w w') := fun w hT hI => by
        have h := ienc_any en (L.take (j + 1)) la lc w hT (by omega) (ints_take hI (j + 1))
        rw [l2, e3, e4] at h
        exact h
      clear e1 e2 e3 e4 l1 l2
      go_wp2_with fail
      refine (HE1.out _ (Tabs.below HT.out B3.out) I3.out).mono ?_
      rintro e w4 ⟨rfl, b4⟩
      have B4 : Hid (Below w.heap.size w w4) := Below.trans B3.out (b4.mono (Below.size B3.out))
      have I4 : Hid _ := IntsAt.below I3.out b4
      clear b4 I3 B3
      go_wp2_with fail
      refine (HE2.out _ (Tabs.below HT.out B4.out) I4.out).mono ?_
      rintro e w5 ⟨rfl, b5⟩
      have B5 : Hid (Below w.heap.size w w5) := Below.trans B4.out (b5.mono (Below.size B4.out))
      have BK := B5
      clear b5 I4 B4
      go_wp2_with fail
      refine (ddec_any a1 n1 c1 _ (ArgB.below HM.out BK.out)).mono ?_
      rintro e y1 ⟨e2, t, rfl, ht, d1⟩
      have D1 : Hid (Below w.heap.size w y1) := Below.trans BK.out (d1.mono (Below.size BK.out))
      clear d1
      obtain ⟨ok2, M1, M2, m1, m2, SP, IM⟩ := dec_both e2 t
      have HSP : Hid _ := SP
      have HIM : Hid _ := IM
      clear SP IM
      go_wp2_with fail
      refine (HIM.out _ (Tabs.below HT.out D1.out)).mono ?_
      rintro e y2 ⟨vx, vn, rfl, T2, d2⟩
      have D2 : Hid (Below w.heap.size w y2) := Below.trans D1.out (d2.mono (Below.size D1.out))
      obtain ⟨ax, cx, an, cn, rfl, rfl⟩ := T2.form
      have TX2 : Hid _ := T2
      clear T2 d2
      go_wp2_with fail
      refine (HSP.out _).mono ?_
      rintro e y3 ⟨vr, vl, rfl, T3, d3⟩
      have D3 : Hid (Below w.heap.size w y3) := Below.trans D2.out (d3.mono (Below.size D2.out))
      obtain ⟨ar, cr, al, cl, rfl, rfl⟩ := T3.form
      have TX3 : Hid _ := Two.below TX2.out d3
      have TR3 : Hid _ := T3
      clear T3 d3 TX2
      go_wp2_with fail
      refine (dguess_any a1 n1 c1 _ (ArgB.below HM.out D3.out)).mono ?_
      rintro e y4 ⟨u, rfl, d4⟩
      have D4 : Hid (Below w.heap.size w y4) := Below.trans D3.out (d4.mono (Below.size D3.out))
      have TX4 : Hid _ := Two.below TX3.out d4
      have TR4 : Hid _ := Two.below TR3.out d4
      clear d4 TX3 TR3
      have HGI : Hid (∀ w : World, Tabs w → _) := fun w hT => iguess_any u w hT
      have HGS : Hid (∀ w : World, _) := fun w => guess_any u w
      obtain ⟨gg, gk, gok⟩ := guessR u
      go_wp2_with fail
      refine (HGI.out _ (Tabs.below HT.out D4.out)).mono ?_
      rintro e y5 ⟨rfl, d5⟩
      have D5 : Hid (Below w.heap.size w y5) := Below.trans D4.out (d5.mono (Below.size D4.out))
      have TX5 : Hid _ := Two.below TX4.out d5
      have TR5 : Hid _ := Two.below TR4.out d5
      clear d5 TX4 TR4
      go_wp2_with fail
      refine (HGS.out _).mono ?_
      rintro e y6 ⟨rfl, d6⟩
      have D6 : Hid (Below w.heap.size w y6) := Below.trans D5.out (d6.mono (Below.size D5.out))
      have TX6 : Hid _ := Two.below TX5.out d6
      have TR6 : Hid _ := Two.below TR5.out d6
      clear d6 TX5 TR5
      go_wp2_with fail
      refine (dnew_any a1 n1 c1 _ (ArgB.below HM.out D6.out)).mono ?_
      rintro e y7 ⟨v7, rfl, d7⟩
      have D7 : Hid (Below w.heap.size w y7) := Below.trans D6.out (d7.mono (Below.size D6.out))
      have TX7 : Hid _ := Two.below TX6.out d7
      have TR7 : Hid _ := Two.below TR6.out d7
      clear d7 TX6 TR6
      obtain ⟨nok, ne, NS, NI⟩ := new_both v7
      have HNS : Hid _ := NS
      have HNI : Hid _ := NI
      clear NS NI
      go_wp2_with fail
      refine (HNI.out _).mono ?_
      rintro e y8 ⟨rfl, d8⟩
      have D8 : Hid (Below w.heap.size w y8) := Below.trans D7.out (d8.mono (Below.size D7.out))
      have TX8 : Hid _ := Two.below TX7.out d8
      have TR8 : Hid _ := Two.below TR7.out d8
      have DG8 : Hid _ := DecAt.new y8 ne 0 0 ⟨#[]⟩ 25 _ rfl
      clear d8 TX7 TR7
      go_wp2_with fail
      refine (HNS.out _).mono ?_
      rintro e y9 ⟨rfl, d9⟩
      have D8a := Below.alloc D8.out (Below.size D8.out) (.cells #[.int .i64 ne, .int .i64 0, .int .i64 0, .string ⟨#[]⟩] 25)
      have D9 : Hid (Below w.heap.size w y9) := D8a.trans (d9.mono D8a.size)
      have TX9 : Hid _ := Two.below (Two.alloc TX8.out _) d9
      have TR9 : Hid _ := Two.below (Two.alloc TR8.out _) d9
      have DG9 : Hid _ := DecAt.below DG8.out d9
      have S9 : Hid (y8.heap.size < y9.heap.size) := (DecAt.below DG8.out d9).lt
      have D9a : Hid _ := Below.alloc D9.out (Below.size D9.out) (.cells #[.int .i64 ne, .int .i64 0, .int .i64 0, .string ⟨#[]⟩] 25)
      have TX9a : Hid _ := Two.alloc TX9.out (.cells #[.int .i64 ne, .int .i64 0, .int .i64 0, .string ⟨#[]⟩] 25)
      have TR9a : Hid _ := Two.alloc TR9.out (.cells #[.int .i64 ne, .int .i64 0, .int .i64 0, .string ⟨#[]⟩] 25)
      have DG9a : Hid _ := DecAt.alloc DG9.out (.cells #[.int .i64 ne, .int .i64 0, .int .i64 0, .string ⟨#[]⟩] 25)
      have DW9 : Hid _ := DecAt.new y9 ne 0 0 ⟨#[]⟩ 25 _ rfl
      clear d9 D8a TX8 TR8 DG8 TX9 TR9 DG9
      have bb2 : (ok2 == ok2) = true := by simp
      have bbg : (gok == gok) = true := by simp
      have bbn : (nok == nok) = true := by simp
      have hM1 : M1.length ≤ 1048576 := by omega
      have hM2 : M2.length ≤ 1048576 := by omega
      go_wp2_with fail
      refine (same_any M1 _ _ _ _ _ hM1 (Two.i1 TX9a.out) (Two.i1 TR9a.out)).mono ?_
      rintro e z1 ⟨rfl, f1⟩
      have F1 : Hid (Below w.heap.size w z1) := Below.trans D9a.out (f1.mono (Below.size D9a.out))
      have TXb : Hid _ := Two.below TX9a.out f1
      have TRb : Hid _ := Two.below TR9a.out f1
      have DGb : Hid _ := DecAt.below DG9a.out f1
      have DWb : Hid _ := DecAt.below DW9.out f1
      clear f1 TX9a TR9a DG9a DW9
      go_wp2_with fail
      refine (same_any M2 _ _ _ _ _ hM2 (Two.i2 TXb.out) (Two.i2 TRb.out)).mono ?_
      rintro e z2 ⟨rfl, f2⟩
      have F2 : Hid (Below w.heap.size w z2) := Below.trans F1.out (f2.mono (Below.size F1.out))
      obtain ⟨p0, p1, p2, p3, -, -⟩ := DecAt.below DGb.out f2
      obtain ⟨q0, q1, q2, q3, -, -⟩ := DecAt.below DWb.out f2
      clear f2
      go_wp2
      go_ret
      exact ⟨rfl, F2.out⟩
set_option maxRecDepth 100000 in
set_option maxHeartbeats 1000000 in
theorem walk_big (a0 : Option Addr) (n0 c0 : Nat) (a1 : Option Addr) (n1 c1 : Nat) (w : World) (h : (1048576 : Int) < n0 ∨ ((n0 : Int) ≤ 1048576 ∧ (1048576 : Int) - n0 < n1)) :
    Calls Tryd.prog 4 #[.slice a0 n0 c0, .slice a1 n1 c1] w fun e w' => e = .returned (.bool true) ∧ Below w.heap.size w w' := by
  rcases h with h | ⟨h1, h2⟩
  · go_enter Tryd.func4, Tryd.ntmps4
    go_wp2_with (first | (go_at_call 10; go_in) | fail)
    go_ret
    exact ⟨rfl, Below.refl _ _⟩
  · have h1' : ¬ (1048576 : Int) < (n0 : Int) := by omega
    go_enter Tryd.func4, Tryd.ntmps4
    go_wp2_with (first | (go_at_call 10; go_in) | fail)
    go_ret
    exact ⟨rfl, Below.refl _ _⟩
theorem walk (a0 : Option Addr) (n0 c0 : Nat) (a1 : Option Addr) (n1 c1 : Nat) (w : World) (hA : ArgB w a0 n0) (hM : ArgB w a1 n1) (hT : Tabs w) :
    Calls Tryd.prog 4 #[.slice a0 n0 c0, .slice a1 n1 c1] w fun e w' => e = .returned (.bool true) ∧ Below w.heap.size w w' := by
  by_cases h : (1048576 : Int) < n0 ∨ ((n0 : Int) ≤ 1048576 ∧ (1048576 : Int) - n0 < n1)
  · exact walk_big a0 n0 c0 a1 n1 c1 w h
  · exact walk_in a0 n0 c0 a1 n1 c1 w hA hM hT (by omega) (by omega)
theorem arg_of {H : Type} {enc : TypeId × Value → H} {W : World} {a : Option Addr} {len cap : Nat} {x : DataW H × List MemPlace} {base : Nat} {held : Bool} {fuel : Nat}
    (hf : DataW.trod enc Tryd.prog W base (fun _ => true) held fuel 22 (Value.cells (.slice a len cap)).toList = some x) : ArgB W a len := by
  rcases open_ints Tryd.underlying22 Tryd.underlying5 (by kernel_rfl) hf with ⟨hcs, _⟩ | ⟨y, l, c, zs, hcs, _, hl, hm, hz, _, hcell, hwz⟩
  · simp [Value.cells] at hcs
    obtain ⟨rfl, rfl, rfl⟩ := hcs
    exact fun j hj => absurd hj (by omega)
  · simp [Value.cells] at hcs
    obtain ⟨rfl, rfl, rfl⟩ := hcs
    have hz' : zs.length = cap := by simpa using hz
    intro j hj
    obtain ⟨b, off, rfl, hc⟩ := ints_at hcell (by omega)
    have hcj := hc j (by omega)
    have hw := bounds_u8 (hwz (zs.getD j 0) (by simp [List.getD, show j < zs.length by omega]))
    exact ⟨b, off, zs.getD j 0, rfl, World.block_lt_of_cell? W _ hcj, hcj, by omega, by omega⟩
set_option maxRecDepth 100000 in
theorem lifted (os : Os) (started : os.Started) (H : Type) (enc : TypeId × Value → H) :
    ReturnsInHanded {} Tryd.checked os 4 .any (fun w args => (Rows.fnEncodedSpec.pre enc Tryd.prog Tryd.f4 [] false w args ∧ laidMetH Tryd.prog laid2 w) ∧ sizedMet enc Tryd.prog Tryd.f4 (OpenSpec.ofChange Rows.fnEncodedSpec) false w args)
      (Rows.fnEncodedSpec.post enc Tryd.prog Tryd.f4 false true false false) := by
  refine returnsInHanded_of_change_and (C := Tryd.checked) (X := fun w _ => laidMetH Tryd.prog laid2 w) (fun _ _ _ hh h => h.of_heap hh) own started (by kernel_rfl) Tryd.func4
    (ChangeSpec.witness_shaped (enc := enc) (C := Tryd.checked) (os := os) (X := fun w _ => laidMetH Tryd.prog laid2 w) false (World.doorLaid Tryd.prog 400 os) #[.slice none 0 0, .slice none 0 0] 8 rfl (World.shaped_of_RefB (by kernel_rfl) (by kernel_rfl)) (by kernel_rfl) (by kernel_rfl) (by kernel_rfl) (door_met os _)) ?_
  intro W base args ds gs before hval0 hW _ _ hL _
  have hval : ∀ (j : Nat) t v, Tryd.f4.params[j]? = some t → args[j]? = some v → Value.okWide Tryd.prog W .any base t v := hval0
  have hW' := hW
  obtain ⟨p, q, hA0, hV0, rfl, hfz, hnd⟩ := hW
  have hA : DataW.TrodAll enc Tryd.prog W 0 (fun _ => true) true Tryd.f4.params.toList args.toList ds p := hA0
  have hV : DataW.TrodVars enc Tryd.prog W (fun _ => true) vars2 gs q := hV0
  rw [Tryd.params4] at hA hval
  obtain ⟨v0, vs0, d0, ds0, p0, q0, hargs, rfl, rfl, h0, r0⟩ := trodAll_cons hA
  obtain ⟨v1, vs1, d1, ds1, p1, q1, rfl, rfl, rfl, h1, r1⟩ := trodAll_cons r0
  obtain ⟨rfl, rfl, rfl⟩ := trodAll_nil r1
  obtain rfl : args = #[v0, v1] := by cases args; simp_all
  obtain ⟨g, t, cs, fuel, d, q1, g', t', cs', fuel', d', q2, rfl, _⟩ := trodVars_two hV
  obtain ⟨a0, len0, cap0, rfl⟩ := okWide_slice Tryd.underlying22 (hval 0 22 v0 rfl rfl)
  have k0 := h0
  have lt0 : ∀ x ∈ p0, x.block < W.heap.size := by obtain ⟨m, hm⟩ := k0; exact DataW.trod_lt m _ _ _ hm
  have i0 : ArgB W a0 len0 := by obtain ⟨fuel, hf⟩ := h0; exact arg_of hf
  obtain ⟨a1, len1, cap1, rfl⟩ := okWide_slice Tryd.underlying22 (hval 1 22 v1 rfl rfl)
  have k1 := h1
  have lt1 : ∀ x ∈ p1, x.block < W.heap.size := by obtain ⟨m, hm⟩ := k1; exact DataW.trod_lt m _ _ _ hm
  have i1 : ArgB W a1 len1 := by obtain ⟨fuel, hf⟩ := h1; exact arg_of hf
  clear hA0 hval0
  refine (walk a0 len0 cap0 a1 len1 cap1 W i0 i1 (tabs_of_laid hL)).mono fun e W' ⟨he, bel⟩ => ?_
  subst he
  exact ⟨_, rfl, _, _, _, [], _, q, hW', trodAll_mk1 (shut_bool Tryd.underlying4 _), (trodAll_cons_mk (Below.trod laidOut (by kernel_rfl) (of_decide_eq_true (by kernel_rfl)) k0 bel lt0) (trodAll_cons_mk (Below.trod laidOut (by kernel_rfl) (of_decide_eq_true (by kernel_rfl)) k1 bel lt1) trodAll_mk0)), bel.trodVars laidOut (by kernel_rfl) hV, bel.frame _, fun h => by cases h⟩
theorem row : Rows.FnEncodedSaid :=
  OpenClaim.holds_of_wide 4 Tryd.f4 rfl rfl rfl rfl rfl rfl rfl ⟨rfl, rfl, rfl, rfl, rfl⟩ rfl rfl rfl rfl rfl (by kernel_rfl) Tryd.func4 (by kernel_rfl)
    (of_decide_eq_true (by kernel_rfl)) (by unfold Func.isWrapper; first | (rw [if_pos (by decide +kernel)]; kernel_rfl) | (rw [if_neg (by decide +kernel)]; exact ⟨rfl, rfl⟩))
    (fun os started H enc _ => lifted os started H enc)
end LawEncoded
theorem encoded_card : Rows.FnEncodedCardSaid :=
  Claim7.holds_tied_plain_at .later [] [.data, .data] true Rows.fnEncodedCard.stood.harness Rows.fnEncodedCard.stood.looks
    LawEncoded.row (fun _ h => by cases h) (by kernel_rfl) (fun _ h => by cases h) fnEncoded_row_tie rfl ⟨rfl, rfl⟩ (by kernel_rfl) rfl
    (fun f fn hf hfn => by
      obtain rfl : f = 4 := Option.some.inj ((show Tryd.prog.funcNamed "loop.example/g00692/laws.FnEncoded" = some 4 by kernel_rfl).symm.trans hf) |>.symm
      obtain rfl : fn = Tryd.f4 := (Option.some.inj (Tryd.func4.symm.trans hfn)).symm
      exact ⟨by kernel_rfl, fun j t ht => by
        rw [Tryd.params4] at ht
        have hm : t ∈ [22, 22] := by simpa using Array.mem_of_getElem? ht
        have hall : ([22, 22].all fun u => !Tryd.prog.wantsStandIn u) = true := by kernel_rfl
        exact (show Tryd.prog.wantsStandIn t = false by simpa using List.all_eq_true.1 hall t hm)⟩)
    (by kernel_rfl)
#print axioms encoded_card
end Go.Proofs.YtjnnikbgpjiecaaDoor

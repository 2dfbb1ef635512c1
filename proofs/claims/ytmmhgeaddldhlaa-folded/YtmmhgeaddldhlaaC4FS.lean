/-
  FoldSet of the program.
-/
import Derived.Test.YtmmhgeaddldhlaaC4T
import Derived.Test.YtmmhgeaddldhlaaC4U
import Derived.Deep.RegionHeldLaw
namespace Go.Proofs.Ytmmhgeaddldhlaa
open Go.ChangeShapes Go.WideShapes Go.ChangeAt Go.RowKit
/-- The cells that a round reads. -/
def C6 (X U V : Nat) (a b : Int) (w : World) : Prop := (w.cell? ⟨X, 0, none⟩ = some (.int .i64 a) ∧ w.cell? ⟨X, 1, none⟩ = some (.int .i64 b) ∧ w.cell? ⟨U, 0, none⟩ = some (.int .i64 65) ∧ w.cell? ⟨U, 1, none⟩ = some (.int .i64 91) ∧ w.cell? ⟨V, 0, none⟩ = some (.int .i64 97) ∧ w.cell? ⟨V, 1, none⟩ = some (.int .i64 123))
theorem c6_keep {X U V : Nat} {a b : Int} {w w' : World} (h : C6 X U V a b w) (hX : X < w.heap.size) (hU : U < w.heap.size) (hV : V < w.heap.size) (hb : Below w.heap.size w w') : C6 X U V a b w' :=
  ⟨(hb.cell (p := ⟨X, 0, none⟩) hX).trans h.1, (hb.cell (p := ⟨X, 1, none⟩) hX).trans h.2.1, (hb.cell (p := ⟨U, 0, none⟩) hU).trans h.2.2.1, (hb.cell (p := ⟨U, 1, none⟩) hU).trans h.2.2.2.1, (hb.cell (p := ⟨V, 0, none⟩) hV).trans h.2.2.2.2.1, (hb.cell (p := ⟨V, 1, none⟩) hV).trans h.2.2.2.2.2⟩
theorem c6_grown {X U V : Nat} {a b : Int} {w w' : World} {row : Option Nat} (h : C6 X U V a b w) (hX : X < w.heap.size) (hU : U < w.heap.size) (hV : V < w.heap.size) (hg : w.grownBy w' row) (nX : some X ≠ row) (nU : some U ≠ row) (nV : some V ≠ row) : C6 X U V a b w' := by
  have bX := hg.block X hX nX
  have bU := hg.block U hU nU
  have bV := hg.block V hV nV
  refine ⟨?_, ?_, ?_, ?_, ?_, ?_⟩
  · rw [World.cell?_of_block (a := ⟨X, 0, none⟩) bX]; exact h.1
  · rw [World.cell?_of_block (a := ⟨X, 1, none⟩) bX]; exact h.2.1
  · rw [World.cell?_of_block (a := ⟨U, 0, none⟩) bU]; exact h.2.2.1
  · rw [World.cell?_of_block (a := ⟨U, 1, none⟩) bU]; exact h.2.2.2.1
  · rw [World.cell?_of_block (a := ⟨V, 0, none⟩) bV]; exact h.2.2.2.2.1
  · rw [World.cell?_of_block (a := ⟨V, 1, none⟩) bV]; exact h.2.2.2.2.2
/-- An append of spans in a region that draws its order. -/
theorem step_append_spans {ops : Array Oper} {o : Oper} {a : Act} {w : World} {K : Act → World → Prop} {Q : Exit → Act → World → Prop} {E : Prop} (hg : o.guard = none) (s x : Operand)
    (hop : o.op = .call { callee := .builtin .append, args := #[s, x], argTypes := #[66, 66] })
    (base : Nat) (v : Value) (A : List (Int × Int)) (hs : a.eval s = v) (hown : ownS w base v A)
    (ao : Option Addr) (S : List (Int × Int)) (m cap : Nat) (hx : a.eval x = .slice ao m cap) (hm : m = S.length) (hA : SpansAt w ao S) (hlen : A.length + m ≤ 4000000) (hbase : base ≤ w.heap.size)
    (h : ∀ v' w', ownS w' base v' (A ++ S) → w.grownBy w' v.ownBlock → K (a.put o.dst v') w') :
    if Region.wanted o (yielded ops a.tmps) = true then Oper.wp Try.prog o a w K Q else E := by
  have hw : Region.wanted o (yielded ops a.tmps) = true := by simp [Region.wanted, hg]
  rw [if_pos hw]
  obtain ⟨v', w', hr, h2, h3, _⟩ := run_append_spans w base o.type v A.length (ints (fl A)) hown ao S m cap hm hA hlen hbase
  unfold Oper.wp execOp
  simp only [hop, resolve, invoke, builtin, Sem.run_bind, Sem.run_pure, Result.andThen_ok, List.map_toArray, List.map_cons, List.map_nil, hs, hx, hr]
  refine h v' w' ?_ h3
  unfold ownS
  rw [fl_append, List.length_append, ← hm]
  simpa [ints] using h2
theorem spans_new3 (w : World) (x y z u s r : Int) (t : TypeId) (B : Nat) (hB : B = w.heap.size) : SpansAt (w.alloc (.cells #[.int .i64 x, .int .i64 y, .int .i64 z, .int .i64 u, .int .i64 s, .int .i64 r] t)) (some ⟨B, 0, none⟩) [(x, y), (z, u), (s, r)] := fun j hj => by
  subst hB
  refine ⟨w.heap.size, 0, rfl, by simp, ?_⟩
  rw [World.cell?_alloc_new, World.cell?_alloc_new]
  rcases (by simp at hj; omega : j = 0 ∨ j = 1 ∨ j = 2) with e | e | e <;> subst e <;> exact ⟨rfl, rfl⟩
theorem step_fold {ops : Array Oper} {o : Oper} {a : Act} {K : Act → World → Prop} {Q : Exit → Act → World → Prop} {E : Prop} (wn W0 W5 wo : World) (U V : Nat) (pa pb x y z u s r : Int) (v : Value) (S : List (Int × Int)) (hg : o.guard = none)
    (hop : o.op = .call { callee := .builtin .append, args := #[.tmp 25, .tmp 35], argTypes := #[66, 66] })
    (hs : a.eval (.tmp 25) = v) (hx : a.eval (.tmp 35) = .slice (some ⟨wn.heap.size, 0, none⟩) 3 3) (how : ownS W0 W5.heap.size v S) (hS : S.length ≤ 100) (bc : Below W0.heap.size W0 wn) (hb0 : Below W5.heap.size W5 W0)
    (keep : ∀ q, Below W0.heap.size W0 q → C6 wo.heap.size U V pa pb q) (g8 : wo.heap.size < W0.heap.size ∧ U < W0.heap.size ∧ V < W0.heap.size) (nb : ∀ g, v.ownBlock = some g → W5.heap.size ≤ g ∧ g < wo.heap.size) (hU : U < W5.heap.size) (hV : V < W5.heap.size)
    (h : ∀ v9 w9, ownS w9 W5.heap.size v9 (S ++ [(x, y), (z, u), (s, r)]) → C6 wo.heap.size U V pa pb w9 → Below W5.heap.size W5 w9 → K (a.put o.dst v9) w9) :
    if Region.wanted o (yielded ops a.tmps) = true then Oper.wp Try.prog o a (wn.alloc (.cells #[.int .i64 x, .int .i64 y, .int .i64 z, .int .i64 u, .int .i64 s, .int .i64 r] 60)) K Q else E := by
  have al : Below wn.heap.size wn (wn.alloc (.cells #[.int .i64 x, .int .i64 y, .int .i64 z, .int .i64 u, .int .i64 s, .int .i64 r] 60)) := (Below.refl _ _).alloc (Nat.le_refl _) _
  have bq : Below W0.heap.size W0 (wn.alloc (.cells #[.int .i64 x, .int .i64 y, .int .i64 z, .int .i64 u, .int .i64 s, .int .i64 r] 60)) := bc.trans (al.mono bc.size)
  refine step_append_spans hg (.tmp 25) (.tmp 35) hop W5.heap.size v S hs (World.ownsRow.keepB how bq) (some ⟨wn.heap.size, 0, none⟩) [(x, y), (z, u), (s, r)] 3 3 hx rfl (spans_new3 wn x y z u s r _ _ rfl) (by omega) (Nat.le_trans hb0.size bq.size) ?_
  intro v9 w9 hown hgrow
  refine h v9 w9 hown (c6_grown (keep _ bq) (Nat.lt_of_lt_of_le g8.1 bq.size) (Nat.lt_of_lt_of_le g8.2.1 bq.size) (Nat.lt_of_lt_of_le g8.2.2 bq.size) hgrow (fun e => by have := (nb _ e.symm).2; omega) (fun e => by have := (nb _ e.symm).1; omega) (fun e => by have := (nb _ e.symm).1; omega)) ?_
  exact Below.grown (hb0.trans (bq.mono hb0.size)) hgrow (Below.size (hb0.trans (bq.mono hb0.size))) (fun g hg' => (nb g hg').1)
/-- What is added for one span. -/
def tri (p : Int × Int) : List (Int × Int) := [p, (max p.1 65 + 32, min p.2 91 + 32), (max p.1 97 + -32, min p.2 123 + -32)]
def triS (C : List (Int × Int)) : List (Int × Int) := C.flatMap tri
theorem triS_take (A : List (Int × Int)) (k : Nat) (h : k < A.length) : triS (A.take (k + 1)) = triS (A.take k) ++ tri (A.getD k (0, 0)) := by
  rw [take_snocS A k h]
  simp [triS]
theorem triS_len (A : List (Int × Int)) : (triS A).length = 3 * A.length := by
  induction A with
  | nil => rfl
  | cons p r ih =>
    have : triS (p :: r) = tri p ++ triS r := rfl
    rw [this, List.length_append, ih]
    simp [tri]
    omega
theorem triS_mem {C : List (Int × Int)} (x : Int) : Mem x (triS C) ↔ Mem x C ∨ (Mem (x - 32) C ∧ 65 ≤ x - 32 ∧ x - 32 < 91) ∨ (Mem (x + 32) C ∧ 97 ≤ x + 32 ∧ x + 32 < 123) := by
  induction C with
  | nil => simp [triS, Mem]
  | cons p r ih =>
    have : triS (p :: r) = tri p ++ triS r := rfl
    rw [this, mem_append, ih]
    simp only [tri, Mem, or_false]
    constructor
    · rintro ((h | h | h) | (h | h | h))
      · exact .inl (.inl h)
      · exact .inr (.inl ⟨.inl (by omega), by omega⟩)
      · exact .inr (.inr ⟨.inl (by omega), by omega⟩)
      · exact .inl (.inr h)
      · exact .inr (.inl ⟨.inr h.1, h.2⟩)
      · exact .inr (.inr ⟨.inr h.1, h.2⟩)
    · rintro ((h | h) | (⟨h | h, h2⟩ | ⟨h | h, h2⟩))
      · exact .inl (.inl h)
      · exact .inr (.inl h)
      · exact .inl (.inr (.inl (by omega)))
      · exact .inr (.inr (.inl ⟨h, h2⟩))
      · exact .inl (.inr (.inr (by omega)))
      · exact .inr (.inr (.inr ⟨h, h2⟩))
theorem fold_mem {C : List (Int × Int)} (h : CT C) (hl : C.length ≤ 12) (x : Int) : Mem x (foldK C 26) ↔ Mem x (triS C) := by
  rw [(foldK_facts h hl 26 (Nat.le_refl _)).2.2 x, triS_mem]
  constructor
  · rintro (q | ⟨j, hj, q1, q2⟩)
    · exact .inl q
    · rcases q1 with q1 | q1 <;> rcases q2 with q2 | q2
      · subst q2; exact .inl q1
      · exact .inr (.inl ⟨by rw [show x - 32 = 65 + (j : Int) by omega]; exact q1, by omega⟩)
      · exact .inr (.inr ⟨by rw [show x + 32 = 97 + (j : Int) by omega]; exact q1, by omega⟩)
      · subst q2; exact .inl q1
  · rintro (q | ⟨q, q2⟩ | ⟨q, q2⟩)
    · exact .inl q
    · exact .inr ⟨(x - 97).toNat, by omega, .inl (by rw [show 65 + ((x - 97).toNat : Int) = x - 32 by omega]; exact q), .inr (by omega)⟩
    · exact .inr ⟨(x - 65).toNat, by omega, .inr (by rw [show 97 + ((x - 65).toNat : Int) = x + 32 by omega]; exact q), .inl (by omega)⟩
theorem triS_bd {C : List (Int × Int)} (h : ∀ p ∈ C, 0 ≤ p.1 ∧ p.1 ≤ 1114112 ∧ 0 ≤ p.2 ∧ p.2 ≤ 1114112) : ∀ p ∈ triS C, -32 ≤ p.1 ∧ p.1 ≤ 1114200 ∧ -32 ≤ p.2 ∧ p.2 ≤ 1114200 ∧ (p.1 < p.2 → -1 < p.1) := fun p hp => by
  simp only [triS, List.mem_flatMap] at hp
  obtain ⟨q, hq, hp⟩ := hp
  have := h q hq
  simp only [tri, List.mem_cons, List.not_mem_nil, or_false] at hp
  rcases hp with rfl | rfl | rfl
  · omega
  · simp only; omega
  · simp only; omega
set_option maxRecDepth 100000 in
set_option maxHeartbeats 1000000 in
theorem ifoldT_no (L : List Int) (ao : Option Addr) (cap : Nat) (w : World) (hl : L.length ≤ 1048576) (hg : goodS L = false) (hA : IntsAt w ao L) :
    Calls Try.prog 32 #[.slice ao L.length cap] w fun e w' => e = .returned (.tuple #[.slice none 0 0, .bool false]) ∧ Below w.heap.size w w' := by
  have HA : Hid _ := hA
  have HG : Hid _ := hg
  clear hA hg
  go_enter Try.func32, Try.ntmps32
  go_wp2_with fail
  refine (read_no L ao cap _ hl HG.out HA.out).mono ?_
  rintro e w2 ⟨rfl, b2⟩
  obtain ⟨w3, hst, s3, b3⟩ := new_set w2 [] (by simp)
  have HST : Hid _ := hst
  clear hst s3
  go_wp2_with (refine wpList_store_set rfl (.tmp 4) (.tmp 14) rfl w2.heap.size rfl rfl HST.out ?_)
  go_ret2
  exact ⟨rfl, b2.trans (b3.mono b2.size)⟩
set_option maxRecDepth 100000 in
set_option maxHeartbeats 4000000 in
theorem ifoldT_yes (L : List Int) (C : List (Int × Int)) (ao : Option Addr) (cap : Nat) (w : World) (hg : Good4 L C) (hA : IntsAt w ao L) :
    Calls Try.prog 32 #[.slice ao L.length cap] w fun e w' => SetE w w' (foldK C 26) e ∧ Below w.heap.size w w' := by
  have HA : Hid _ := hA
  have HG : Hid _ := hg
  have hcl := hg.le
  have HFL : Hid ((pad C).length = 24) := pad_len hg.le
  have hix := index64 (pad C) HFL.out
  have HPR : Hid _ := hg.pr
  have N1 : Hid _ := (foldK_facts hg.ct hg.le 26 (Nat.le_refl _)).1
  have TB : Hid _ := tw_bd hg.ct
  have HMM : Hid (∀ x, Mem x (foldK C 26) ↔ Mem x (triS (tw C))) := fun x => by rw [fold_mem hg.ct hg.le, triS_mem, triS_mem, tw_mem hg.le, tw_mem hg.le, tw_mem hg.le]
  clear hA hg
  go_enter Try.func32, Try.ntmps32
  go_wp2_with fail
  refine (read_yes L ao cap _ HG.out.good HA.out).mono ?_
  rintro e w2 ⟨rfl, b2⟩
  rw [HPR.out]
  obtain ⟨w3, hst, s3, b3⟩ := new_set w2 C HG.out.le
  have HST : Hid _ := hst
  have S3 : Hid _ := s3
  have B3 : Hid (Below w.heap.size w w3) := b2.trans (b3.mono b2.size)
  clear hst s3 b2 b3 HA
  go_wp2_with (refine wpList_store_set rfl (.tmp 4) (.tmp 14) rfl w2.heap.size rfl rfl HST.out ?_)
  refine (moved_any 65 91 32 _ (by omega)).mono ?_
  rintro e w4 ⟨rfl, b4⟩
  have S4 : Hid (SetAt w4 w2.heap.size C) := (S3.out.keep ((Below.refl _ _).alloc (Nat.le_refl _) _)).keep b4
  have c0 : w4.cell? ⟨w3.heap.size, 0, none⟩ = some (.int .i64 65) := (b4.cell (p := ⟨w3.heap.size, 0, none⟩) (by simp)).trans (by simp)
  have c1 : w4.cell? ⟨w3.heap.size, 1, none⟩ = some (.int .i64 91) := (b4.cell (p := ⟨w3.heap.size, 1, none⟩) (by simp)).trans (by simp)
  have hl4 : w3.heap.size < w4.heap.size := Nat.lt_of_lt_of_le (by simp) b4.size
  have B4 : Hid (Below w.heap.size w w4) := (B3.out.trans (((Below.refl _ _).alloc (Nat.le_refl _) _).mono B3.out.size)).trans (b4.mono (B3.out.trans (((Below.refl _ _).alloc (Nat.le_refl _) _).mono B3.out.size)).size)
  clear b4
  have S5 : Hid (SetAt (w4.alloc (.cells #[.int .i64 (65 + 32), .int .i64 (91 + 32)] 60)) w2.heap.size C) := S4.out.keep ((Below.refl _ _).alloc (Nat.le_refl _) _)
  go_wp2_with (refine wpList_load_mid rfl 62 (.tmp 4) rfl w2.heap.size 0 rfl (ints (pad C)) _ S5.out.ra Try.underlying62 rfl (by rw [info64, ints_len, HFL.out]) ?_)
  obtain ⟨W5, hW5⟩ : ∃ W5, W5 = w4.alloc (.cells #[.int .i64 (65 + 32), .int .i64 (91 + 32)] 60) := ⟨_, rfl⟩
  have B5 : Hid (Below w.heap.size w W5) := by rw [hW5]; exact B4.out.trans (((Below.refl _ _).alloc (Nat.le_refl _) _).mono B4.out.size)
  have Z5 : Hid (C6 w3.heap.size w3.heap.size w4.heap.size 65 91 W5 ∧ w3.heap.size < W5.heap.size ∧ w4.heap.size < W5.heap.size) := by
    rw [hW5]
    exact ⟨⟨((Below.alloc (Below.refl _ _) (Nat.le_refl _) _ : Below w4.heap.size w4 _).cell (p := ⟨w3.heap.size, 0, none⟩) hl4).trans c0, ((Below.alloc (Below.refl _ _) (Nat.le_refl _) _ : Below w4.heap.size w4 _).cell (p := ⟨w3.heap.size, 1, none⟩) hl4).trans c1, ((Below.alloc (Below.refl _ _) (Nat.le_refl _) _ : Below w4.heap.size w4 _).cell (p := ⟨w3.heap.size, 0, none⟩) hl4).trans c0, ((Below.alloc (Below.refl _ _) (Nat.le_refl _) _ : Below w4.heap.size w4 _).cell (p := ⟨w3.heap.size, 1, none⟩) hl4).trans c1, by simp, by simp⟩, by simp; omega, by simp⟩
  go_loopw [8, 22] (fun v i wr => ∃ k : Nat, k ≤ 12 ∧ i = .int .i64 k ∧ ownS wr W5.heap.size v (triS ((tw C).take k)) ∧ Below W5.heap.size W5 wr) (fun _ i _ => 12 - (intOf i).toNat)
  case atStart => exact ⟨0, Nat.zero_le _, rfl, World.ownsRow_nil _ _ _ _, by rw [hW5]; exact Below.refl _ _⟩
  case round =>
    obtain ⟨k, hk, rfl, hown, hbw⟩ := hrel
    obtain ⟨wo, hwo⟩ : ∃ wo, wo = wr := ⟨_, rfl⟩
    subst hwo
    have OWN : Hid _ := hown
    have HB : Hid _ := hbw
    by_cases hlt : k < 12
    · have hltI : (k : Int) < 12 := by omega
      have hik := fun w => hix k hlt w
      have hp := pad_get C k
      rw [hp.1, hp.2] at hik
      have HTK : Hid (triS ((tw C).take (k + 1)) = triS ((tw C).take k) ++ tri (C.getD k (0, 0))) := by
        show triS ((tw C).take (k + 1)) = _
        rw [triS_take _ k (by rw [tw_len]; exact hlt), tw_get C k hlt]
      have hbd := TB.out (C.getD k (0, 0)) (by rw [← tw_get C k hlt]; simp [List.getD, tw_len, hlt])
      have hcl : (triS ((tw C).take k)).length ≤ 36 := by rw [triS_len]; simp; omega
      clear hp hix hown hbw
      generalize C.getD k (0, 0) = p at *
      obtain ⟨a, b⟩ := p
      simp only at hik hbd
      generalize triS ((tw C).take k) = S at *
      have Z6 : Hid (C6 w3.heap.size w3.heap.size w4.heap.size 65 91 wo ∧ w3.heap.size < wo.heap.size ∧ w4.heap.size < wo.heap.size) := ⟨c6_keep Z5.out.1 Z5.out.2.1 Z5.out.2.1 Z5.out.2.2 HB.out, Nat.lt_of_lt_of_le Z5.out.2.1 HB.out.size, Nat.lt_of_lt_of_le Z5.out.2.2 HB.out.size⟩
      have AL : ∀ q : World, ∀ o, Below q.heap.size q (q.alloc o) := fun q o => (Below.refl _ _).alloc (Nat.le_refl _) o
      have NB : Hid _ := World.ownsRow.lt OWN.out
      go_upto_region 10 with fail
      refine gen_world (fun W => C6 wo.heap.size w3.heap.size w4.heap.size a b W ∧ Below wo.heap.size wo W ∧ wo.heap.size < W.heap.size) ⟨?_, AL _ _, by simp⟩ ?_
      · have q := c6_keep Z6.out.1 Z6.out.2.1 Z6.out.2.1 Z6.out.2.2 (AL wo (.cells #[.int .i64 a, .int .i64 b] 60))
        exact ⟨by simp, by simp, q.2.2.1, q.2.2.2.1, q.2.2.2.2.1, q.2.2.2.2.2⟩
      rintro W0 ⟨g6, g7, g8⟩
      have G8 : Hid (wo.heap.size < W0.heap.size ∧ w3.heap.size < W0.heap.size ∧ w4.heap.size < W0.heap.size) := ⟨g8, by have := Z6.out.2.1; omega, by have := Z6.out.2.2; omega⟩
      have KEEP : Hid (∀ q, Below W0.heap.size W0 q → C6 wo.heap.size w3.heap.size w4.heap.size a b q) := fun q h => c6_keep g6 G8.out.1 G8.out.2.1 G8.out.2.2 h
      have OW0 : Hid _ := World.ownsRow.keepB OWN.out g7
      have HB0 : Hid (Below W5.heap.size W5 W0) := HB.out.trans (g7.mono HB.out.size)
      have BC : Hid (Below W0.heap.size W0 W0.drew) := (Below.refl _ _).drew
      clear g6 g7 g8
      go_region_held_law (fun w' => (w'.cell? ⟨wo.heap.size, 0, none⟩ = some (.int .i64 a) ∧ w'.cell? ⟨wo.heap.size, 1, none⟩ = some (.int .i64 b) ∧ w'.cell? ⟨w3.heap.size, 0, none⟩ = some (.int .i64 65) ∧ w'.cell? ⟨w3.heap.size, 1, none⟩ = some (.int .i64 91) ∧ w'.cell? ⟨w4.heap.size, 0, none⟩ = some (.int .i64 97) ∧ w'.cell? ⟨w4.heap.size, 1, none⟩ = some (.int .i64 123))) (first | assumption | exact KEEP.out _ BC.out | exact KEEP.out _ (BC.out.trans ((AL _ _).mono BC.out.size)) | exact KAP.out) (first
        | (go_at_call 57; refine (meet_any _ _ _ _ _).mono ?_; rintro e wn ⟨rfl, bn⟩; have BC : Hid (Below W0.heap.size W0 wn) := BC.out.trans (bn.mono BC.out.size); clear bn)
        | (go_at_call 65; refine (moved_any _ _ _ _ (by omega)).mono ?_; rintro e wn ⟨rfl, bn⟩; have BC : Hid (Below W0.heap.size W0 wn) := BC.out.trans (bn.mono BC.out.size); clear bn)
        | (refine step_fold wn W0 W5 wo w3.heap.size w4.heap.size a b _ _ _ _ _ _ _ S rfl rfl (by simp [Act.eval]) (by simp [Act.eval]) OW0.out (by omega) BC.out HB0.out KEEP.out G8.out NB.out Z5.out.2.1 Z5.out.2.2 ?_; intro v9 w9 hown9 kap9 b9; have O9 : Hid _ := hown9; have KAP : Hid _ := kap9; have B9 : Hid _ := b9; clear hown9 kap9 b9))
      all_goals
        go_wp2
        go_roundw
        case rel => exact ⟨k + 1, by omega, by go_num, by rw [HTK.out]; exact O9.out, B9.out⟩
        case measure => simp [intOf]; omega
    · have hk12 : k = 12 := by omega
      subst hk12
      have HTT : Hid ((tw C).take 12 = tw C) := List.take_of_length_le (by rw [tw_len]; exact Nat.le_refl _)
      rw [HTT.out] at hown
      obtain ⟨ao3, cap3, rfl, sp3⟩ := spans_of_own hown
      have SP3 : Hid _ := sp3
      have HCL : Hid ((triS (tw C)).length = 36) := by show (triS (tw C)).length = 36; rw [triS_len, tw_len]
      have HSB : Hid (∀ p ∈ triS (tw C), -4000000 ≤ p.1 ∧ p.1 ≤ 4000000 ∧ -4000000 ≤ p.2 ∧ p.2 ≤ 4000000) := fun p hp => by have := triS_bd TB.out p hp; omega
      have HSG : Hid (∀ p ∈ triS (tw C), p.1 < p.2 → -1 < p.1) := fun p hp => (triS_bd TB.out p hp).2.2.2.2
      have BW : Hid (Below w.heap.size w wo) := B5.out.trans (HB.out.mono B5.out.size)
      clear hown sp3 hbw OWN hix
      go_wp2_with fail
      refine (joinSp' (triS (tw C)) (foldK C 26) ao3 cap3 _ _ (by simp) (by rw [HCL.out]; omega) HSB.out HSG.out N1.out.can HMM.out SP3.out).mono ?_
      rintro e w9 ⟨hor, b9⟩
      have B9 : Hid (Below w.heap.size w w9) := BW.out.trans (b9.mono BW.out.size)
      clear b9
      obtain ⟨h12, v9, rfl, o9⟩ | ⟨h12, rfl⟩ := hor
      · have O9 : Hid (w9.ownsRow w.heap.size 3 1 v9 (flS (foldK C 26)).length (ints (flS (foldK C 26)))) := own_mono o9 BW.out.size
        clear o9
        go_wp2
        go_ret2
        exact ⟨.inl ⟨h12, v9, rfl, O9.out⟩, B9.out⟩
      · go_wp2
        go_ret2
        exact ⟨.inr ⟨h12, rfl⟩, B9.out⟩
end Go.Proofs.Ytmmhgeaddldhlaa

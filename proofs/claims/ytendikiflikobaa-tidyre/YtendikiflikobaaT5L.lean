/-
  The program's list of a tree: appendNodes, list; RevRe of the program.
-/
import Derived.Test.YtendikiflikobaaT5G
import Derived.Test.YtendikiflikobaaT5H
import Derived.Test.YtendikiflikobaaR5L
import Derived.Deep.RegionHeldLaw
namespace Go.Proofs.Ytendikiflikobaa
open Go.ChangeShapes Go.WideShapes Go.ChangeAt Go.WideMaps Go.WideElems Go.RowKit
/-- An append of ints in a region that draws its order. -/
theorem stepI {ops : Array Oper} {o : Oper} {a : Act} {w : World} {K : Act → World → Prop} {Q : Exit → Act → World → Prop} {E : Prop} (hg : o.guard = none) (s x : Operand)
    (hop : o.op = .call { callee := .builtin .append, args := #[s, x], argTypes := #[33, 33] })
    (base : Nat) (v : Value) (n : Nat) (xs : List Value) (hs : a.eval s = v) (hown : w.ownsRow base 3 1 v n xs)
    (ao : Option Addr) (L : List Int) (m cap : Nat) (hx : a.eval x = .slice ao m cap) (hm : m = L.length) (hA : IntsAt w ao L) (hlen : n + m ≤ 4000000) (hbase : base ≤ w.heap.size)
    (h : ∀ v' w', w'.ownsRow base 3 1 v' (n + m) (xs ++ ints L) → w.grownBy w' v.ownBlock → K (a.put o.dst v') w') :
    if Region.wanted o (yielded ops a.tmps) = true then Oper.wp Try.prog o a w K Q else E := by
  have hw : Region.wanted o (yielded ops a.tmps) = true := by simp [Region.wanted, hg]
  rw [if_pos hw]
  obtain ⟨v', w', hr, h2, h3, _⟩ := run_append_ints w base o.type v n xs hown ao L m cap hm hA hlen hbase
  unfold Oper.wp execOp
  simp only [hop, resolve, invoke, builtin, Sem.run_bind, Sem.run_pure, Result.andThen_ok, List.map_toArray, List.map_cons, List.map_nil, hs, hx, hr]
  exact h v' w' h2 h3
/-- One node more behind a row of nodes, in such a region. -/
theorem stepR {ops : Array Oper} {o : Oper} {a : Act} {K : Act → World → Prop} {Q' : Exit → Act → World → Prop} {E : Prop} (w : World) (hg : o.guard = none) (s x : Operand)
    (hop : o.op = .call { callee := .builtin .append, args := #[s, x], argTypes := #[24, 24] })
    (base : Nat) (v : Value) (n : Nat) (Q : List (Int × Value)) (hs : a.eval s = v) (hown : w.ownsRow base 81 2 v n (fl2 Q)) (B cap : Nat) (op : Int) (sa : Option Addr) (sn sc : Nat) (hx : a.eval x = .slice (some ⟨B, 0, none⟩) 1 cap) (hc0 : w.cell? ⟨B, 0, none⟩ = some (.int .i64 op)) (hc1 : w.cell? ⟨B, 1, none⟩ = some (.slice sa sn sc)) (hlen : n ≤ 100000) (hbase : base ≤ w.heap.size)
    (h : ∀ v' w', w'.ownsRow base 81 2 v' (n + 1) (fl2 (Q ++ [(op, .slice sa sn sc)])) → w.grownBy w' v.ownBlock → K (a.put o.dst v') w') :
    if Region.wanted o (yielded ops a.tmps) = true then Oper.wp Try.prog o a w K Q' else E := by
  have hw : Region.wanted o (yielded ops a.tmps) = true := by simp [Region.wanted, hg]
  rw [if_pos hw]
  obtain ⟨v', w', hr, h2, h3⟩ := run_append_re w base o.type v n Q hown B cap op sa sn sc hc0 hc1 hlen hbase
  unfold Oper.wp execOp
  simp only [hop, resolve, invoke, builtin, Sem.run_bind, Sem.run_pure, Result.andThen_ok, List.map_toArray, List.map_cons, List.map_nil, hs, hx, hr]
  exact h v' w' h2 h3
theorem cell2_new (w : World) (op : Int) (sv : Value) (T : TypeId) : (w.alloc (.cells #[.int .i64 op, sv] T)).cell? ⟨w.heap.size, 0, none⟩ = some (.int .i64 op) ∧ (w.alloc (.cells #[.int .i64 op, sv] T)).cell? ⟨w.heap.size, 1, none⟩ = some sv := ⟨cell_of (heap_last2 _ _ _ rfl) 0, cell_of (heap_last2 _ _ _ rfl) 1⟩
theorem own_ne_lt {w : World} {base : Nat} {e : TypeId} {size : Nat} {v : Value} {n : Nat} {xs : List Value} (h : w.ownsRow base e size v n xs) {x : Nat} (hx : x < base) : some x ≠ v.ownBlock := fun e' => by
  have := (World.ownsRow.lt h x e'.symm).1
  omega
set_option maxRecDepth 100000 in
set_option maxHeartbeats 4000000 in
theorem inodes_any (B U base : Nat) (hB : B ≤ base) (hU : U ≤ base) : ∀ (t : Option Tr) (p : Option Addr) (w : World) (v : Value) (P : List Nd), TreeAt B U w t p → base ≤ w.heap.size → OwnF w base v P.length (nd P) → (P ++ post t).length ≤ 10000 → (∀ y ∈ post t, y.2.length ≤ 1048576) →
    Calls Try.prog 88 #[.pointer p, v] w fun e w' => ∃ v', e = .returned v' ∧ OwnF w' base v' (P ++ post t).length (nd (P ++ post t)) ∧ Below base w w'
  | none, p, w, v, P, ht, _, ho, _, _ => by
    obtain rfl := ht.none_ptr
    have HO : Hid (OwnF w base v P.length (nd P)) := ho
    clear ht ho
    go_enter Try.func88, Try.ntmps88
    go_wp2
    go_ret
    exact ⟨_, rfl, by rw [post_none, List.append_nil]; exact HO.out, Below.refl _ _⟩
  | some ⟨op, s, a, b⟩, p, w, v, P, ht, hbw, ho, hlen, hset => by
    have IA : Hid (∀ (p : Option Addr) (w : World) (v : Value) (P : List Nd), TreeAt B U w a p → base ≤ w.heap.size → OwnF w base v P.length (nd P) → (P ++ post a).length ≤ 10000 → (∀ y ∈ post a, y.2.length ≤ 1048576) → Calls Try.prog 88 #[.pointer p, v] w fun e w' => ∃ v', e = .returned v' ∧ OwnF w' base v' (P ++ post a).length (nd (P ++ post a)) ∧ Below base w w') := inodes_any B U base hB hU a
    have IB : Hid (∀ (p : Option Addr) (w : World) (v : Value) (P : List Nd), TreeAt B U w b p → base ≤ w.heap.size → OwnF w base v P.length (nd P) → (P ++ post b).length ≤ 10000 → (∀ y ∈ post b, y.2.length ≤ 1048576) → Calls Try.prog 88 #[.pointer p, v] w fun e w' => ∃ v', e = .returned v' ∧ OwnF w' base v' (P ++ post b).length (nd (P ++ post b)) ∧ Below base w w') := inodes_any B U base hB hU b
    obtain ⟨x, sa, sc, pa, pb, rfl, -, hxU, hx, hs, ta, tb⟩ := ht.node
    rw [post_some] at hlen hset
    simp only [List.length_append, List.length_singleton] at hlen
    have hla : (P ++ post a).length ≤ 10000 := by rw [List.length_append]; omega
    have hlb : ((P ++ post a) ++ post b).length ≤ 10000 := by rw [List.length_append, List.length_append]; omega
    have hsa : ∀ y ∈ post a, y.2.length ≤ 1048576 := fun y hy => hset y (by simp [hy])
    have hsb : ∀ y ∈ post b, y.2.length ≤ 1048576 := fun y hy => hset y (by simp [hy])
    have hsl : s.length ≤ 1048576 := hset (op, s) (by simp)
    have hxb : x < base := by omega
    have HX : Hid _ := hx
    have TB : Hid _ := tb
    have SB : Hid (IntsB B w sa s) := hs
    have D0 : Hid (Below w.heap.size w w.drew) := (Below.refl _ _).drew
    have HA : Hid (Calls Try.prog 88 #[.pointer pa, v] w.drew fun e w' => ∃ v', e = .returned v' ∧ OwnF w' base v' (P ++ post a).length (nd (P ++ post a)) ∧ Below base w.drew w') := IA.out pa w.drew v P (ta.keepB D0.out) hbw (OwnF.keepB ho D0.out) hla hsa
    have HB : Hid (∀ (v' : Value) (w' : World), Below base w w' → base ≤ w'.heap.size → OwnF w' base v' (P ++ post a).length (nd (P ++ post a)) → Calls Try.prog 88 #[.pointer pb, v'] w' fun e w'' => ∃ v'', e = .returned v'' ∧ OwnF w'' base v'' ((P ++ post a) ++ post b).length (nd ((P ++ post a) ++ post b)) ∧ Below base w' w'') := fun v' w' hb hsz hO => IB.out pb w' v' (P ++ post a) (TreeAt.low hb hU hB b pb TB.out) hsz hO hlb hsb
    clear ht hx ta tb hs IA IB ho hlen hset hla hsa hsb
    go_enter Try.func88, Try.ntmps88
    go_wp2
    go_region_held (fun w' => (w'.cell? ⟨x, 2, none⟩ = some (.pointer pa) ∧ w'.cell? ⟨x, 3, none⟩ = some (.pointer pb))) (first | exact ⟨cell_of ((D0.out.block x (by omega)).trans HX.out) 2, cell_of ((D0.out.block x (by omega)).trans HX.out) 3⟩ | exact ⟨cell_of ((BWA.out.block x hxb).trans HX.out) 2, cell_of ((BWA.out.block x hxb).trans HX.out) 3⟩ | exact ⟨cell_of ((BWB.out.block x hxb).trans HX.out) 2, cell_of ((BWB.out.block x hxb).trans HX.out) 3⟩) (first
      | (go_at_call 88; (with_reducible refine Calls.mono HA.out ?_); rintro e wa ⟨va, rfl, oa, ba⟩; have OA : Hid (OwnF wa base va (P ++ post a).length (nd (P ++ post a))) := oa; have BWA : Hid (Below base w wa) := (D0.out.mono hbw).trans ba; clear oa ba)
      | (go_at_call 88; (with_reducible refine Calls.mono (HB.out _ _ BWA.out (Nat.le_trans hbw BWA.out.size) OA.out) ?_); rintro e wb ⟨vb, rfl, ob, bb⟩; have OB : Hid (OwnF wb base vb ((P ++ post a) ++ post b).length (nd ((P ++ post a) ++ post b))) := ob; have BWB : Hid (Below base w wb) := BWA.out.trans bb; clear ob bb))
    have hszb : base ≤ wb.heap.size := Nat.le_trans hbw BWB.out.size
    have NX : Hid (wb.heap[x]? = some (.cells #[.int .i64 op, .slice sa s.length sc, .pointer pa, .pointer pb] 108)) := (BWB.out.block x hxb).trans HX.out
    have SI : Hid (IntsAt wb.drew sa s) := IntsAt.keepB (IntsB.low SB.out BWB.out hB).1 (Below.refl _ _).drew
    have NI0 : Hid (wb.drew.heap[x]? = some (.cells #[.int .i64 op, .slice sa s.length sc, .pointer pa, .pointer pb] 108)) := NX.out
    obtain ⟨n, hn⟩ : ∃ n, n = ((P ++ post a) ++ post b).length := ⟨_, rfl⟩
    have hn4 : n ≤ 10000 := by omega
    have hO := OB.out
    rw [← hn] at hO
    obtain ⟨Q, hQ, hr, hs, ha⟩ := hO
    have HR : Hid (wb.ownsRow base 81 2 vb n (fl2 Q)) := hr
    have HS : Hid _ := hs
    have HAp : Hid _ := ha
    have HQ : Hid _ := hQ
    have HN : Hid _ := hn
    have hbl : Below wb.heap.size wb wb.drew := (Below.refl _ _).drew
    clear hr hs ha hQ hn OA BWA HA HB
    go_wp2
    go_region_held_law (fun w' => (w'.cell? ⟨x, 0, none⟩ = some (.int .i64 op) ∧ w'.cell? ⟨x, 1, none⟩ = some (.slice sa s.length sc))) (first | exact ⟨cell_of NI0.out 0, cell_of NI0.out 1⟩ | exact ⟨cell_of NI.out 0, cell_of NI.out 1⟩ | exact ⟨cell_of (NIA.out _) 0, cell_of (NIA.out _) 1⟩ | exact ⟨cell_of N5.out 0, cell_of N5.out 1⟩) (first
      | (refine stepI rfl (.const (.slice none 0 0)) (.tmp 27) rfl wb.heap.size (.slice none 0 0) 0 [] rfl (World.ownsRow_nil _ _ _ _) sa s s.length sc (by simp [Act.eval]) rfl SI.out (by omega) (Nat.le_refl _) ?_
         intro v3 w3 hown3 hgrow3
         have hown3' : w3.ownsRow wb.heap.size 3 1 v3 s.length (ints s) := by simpa using hown3
         have O3 : Hid (w3.ownsRow wb.heap.size 3 1 v3 s.length (ints s)) := hown3'
         have B3 : Hid (Below wb.heap.size wb w3) := Below.grown hbl hgrow3 (Nat.le_refl _) (fun g hg => by simp [Value.ownBlock] at hg)
         obtain ⟨-, a3, c3, hv3, -⟩ := ints_of_own hown3'
         subst hv3
         have NI : Hid (w3.heap[x]? = some (.cells #[.int .i64 op, .slice sa s.length sc, .pointer pa, .pointer pb] 108)) := (B3.out.block x (by omega)).trans NX.out
         have NIA : Hid (∀ o, (w3.alloc o).heap[x]? = some (.cells #[.int .i64 op, .slice sa s.length sc, .pointer pa, .pointer pb] 108)) := fun o => (heap_prev _ _ _ (lt_of_heap NI.out)).trans NI.out
         clear hown3 hown3' hgrow3)
      | (refine stepR (w3.alloc (.cells #[.int .i64 op, .slice a3 s.length c3] 81)) rfl (.tmp 19) (.tmp 30) rfl base vb n Q (by simp [Act.eval]) (World.ownsRow.keepB HR.out (B3.out.trans ((al_T _ _).mono B3.out.size))) w3.heap.size 1 op a3 s.length c3 (by simp [Act.eval]) (cell2_new _ _ _ _).1 (cell2_new _ _ _ _).2 (by omega) (Nat.le_trans (Nat.le_trans hszb B3.out.size) (al_T _ _).size) ?_
         intro v5 w5 hown5 hgrow5
         have O5 : Hid _ := hown5
         have G5 : Hid _ := hgrow5
         have N5 : Hid (w5.heap[x]? = some (.cells #[.int .i64 op, .slice sa s.length sc, .pointer pa, .pointer pb] 108)) := (hgrow5.block x (lt_of_heap (NIA.out _)) (own_ne_lt HR.out hxb)).trans (NIA.out _)
         clear hown5 hgrow5))
    all_goals
      go_wp2
      go_ret
      have e : n = _ := HN.out
      subst e
      have bA : Below wb.heap.size wb (w3.alloc (.cells #[.int .i64 op, .slice a3 s.length c3] 81)) := B3.out.trans ((al_T _ _).mono B3.out.size)
      have hL : P ++ post (some ⟨op, s, a, b⟩) = P ++ post a ++ post b ++ [(op, s)] := by rw [post_some, ← List.append_assoc, ← List.append_assoc]
      have hLn : P.length + (post (some ⟨op, s, a, b⟩)).length = (P ++ post a ++ post b ++ [(op, s)]).length := by rw [← hL, List.length_append]
      refine ⟨v5, by first | rfl | simp, ?_, ?_⟩
      · rw [hLn, hL]
        exact own_push_list Q HQ.out HR.out HS.out HAp.out bA (own_mono (World.ownsRow.keepB O3.out (al_T _ _)) hszb) (fun g hg => (World.ownsRow.lt O3.out g hg).1) O5.out G5.out
      · exact BWB.out.trans (Below.grown (bA.mono hszb) G5.out (Nat.le_trans hszb bA.size) (fun g hg => (World.ownsRow.lt HR.out g hg).1))
set_option maxRecDepth 100000 in
set_option maxHeartbeats 1000000 in
theorem ilist_any (B U : Nat) (t : Option Tr) (p : Option Addr) (w : World) (ht : TreeAt B U w t p) (hB : B ≤ w.heap.size) (hU : U ≤ w.heap.size) (hl : (post t).length ≤ 10000) (hs : ∀ y ∈ post t, y.2.length ≤ 1048576) :
    Calls Try.prog 49 #[.pointer p] w fun e w' => ∃ v', e = .returned v' ∧ OwnF w' w.heap.size v' (post t).length (nd (post t)) ∧ Below w.heap.size w w' := by
  have H : Hid (Calls Try.prog 88 #[.pointer p, .slice none 0 0] w fun e w' => ∃ v', e = .returned v' ∧ OwnF w' w.heap.size v' ([] ++ post t).length (nd ([] ++ post t)) ∧ Below w.heap.size w w') := inodes_any B U w.heap.size hB hU t p w (.slice none 0 0) [] ht (Nat.le_refl _) (own_none _ _ _) (by simpa using hl) hs
  clear ht hs
  go_enter Try.func49, Try.ntmps49
  go_wp2_with fail
  refine Calls.mono H.out ?_
  rintro e w1 ⟨v1, rfl, o1, b1⟩
  simp only [List.nil_append] at o1
  go_wp2
  go_ret
  exact ⟨_, rfl, o1, b1⟩
/-- The tree of a pattern, and what is made of it. -/
def treeP (P : List Nd) : Option Tr := match pileT P P.length with
  | some [t] => some t
  | _ => none
def ansT (f : Option Tr → Option Tr) (P : List Nd) : List Nd := if goodP P = true then post (f (treeP P)) else []
theorem ansT_yes {f : Option Tr → Option Tr} {P : List Nd} {t : Tr} (hg : goodP P = true) (ht : pileT P P.length = some [t]) : ansT f P = post (f (some t)) := by
  rw [ansT, if_pos hg, treeP, ht]
theorem ansT_no {f : Option Tr → Option Tr} {P : List Nd} (hg : goodP P = false) : ansT f P = [] := by rw [ansT, hg]; rfl
theorem revT_mem : ∀ (t : Option Tr) (y : Nd), y ∈ post (revT t) → y ∈ post t
  | none, y, h => by rw [revT_none] at h; exact h
  | some ⟨op, s, a, b⟩, y, h => by
    have h1 := revT_mem a y
    have h2 := revT_mem b y
    by_cases e : op = 3
    · rw [revT_cat e, post_some] at h
      rw [post_some]
      simp only [List.mem_append, List.mem_singleton] at h ⊢
      rcases h with (h | h) | h
      · exact .inl (.inr (h2 h))
      · exact .inl (.inl (h1 h))
      · exact .inr h
    · rw [revT_else e, post_some] at h
      rw [post_some]
      simp only [List.mem_append, List.mem_singleton] at h ⊢
      rcases h with (h | h) | h
      · exact .inl (.inl (h1 h))
      · exact .inl (.inr (h2 h))
      · exact .inr h
theorem mem_len (P : List Nd) (y : Nd) (h : y ∈ P) : y.2.length ≤ szP P := by
  have : ∀ P : List Nd, y ∈ P → y.2.length ≤ (P.map fun x => x.2.length).sum := fun P => by
    induction P with
    | nil => intro h; cases h
    | cons x r ih =>
      intro h
      rcases List.mem_cons.1 h with rfl | h
      · simp
      · have := ih h; simp; omega
  have := this P h
  unfold szP
  omega
end Go.Proofs.Ytendikiflikobaa

/-
  impl.NotSet.
-/
import Derived.Test.YtpkhmihkchiheaaC4P
namespace Go.Proofs.Ytpkhmihkchiheaa
open Go.ChangeShapes Go.WideShapes Go.ChangeAt Go.RowKit
theorem spans_new (w : World) (x y : Int) (t : TypeId) (B : Nat) (hB : B = w.heap.size) : SpansAt (w.alloc (.cells #[.int .i64 x, .int .i64 y] t)) (some ⟨B, 0, none⟩) [(x, y)] := fun j hj => by
  subst hB
  obtain rfl : j = 0 := by simp at hj; omega
  refine ⟨w.heap.size, 0, rfl, by simp, ?_, ?_⟩
  · rw [World.cell?_alloc_new]; rfl
  · rw [World.cell?_alloc_new]; rfl
theorem joinSp' (S C : List (Int × Int)) (ao : Option Addr) (cap : Nat) (w : World) (n : Nat) (hn : n = S.length) (hl : S.length ≤ 1048576) (hbd : ∀ p ∈ S, -4000000 ≤ p.1 ∧ p.1 ≤ 4000000 ∧ -4000000 ≤ p.2 ∧ p.2 ≤ 4000000) (h0 : ∀ p ∈ S, p.1 < p.2 → -1 < p.1) (hC : Can (-1) C) (hM : ∀ x, Mem x C ↔ Mem x S) (hA : SpansAt w ao S) :
    Calls Try.prog 43 #[.slice ao n cap] w fun e w' => JoinE w w' C e ∧ Below w.heap.size w w' := by
  subst hn
  exact joinSp S C ao cap w hl hbd h0 hC hM hA
/-- The gaps, empty ones among them, and from where on the next one is. -/
def gapsI : List (Int × Int) → Int → List (Int × Int) × Int
  | [], f => ([], f)
  | p :: r, f => ((f, p.1) :: (gapsI r p.2).1, (gapsI r p.2).2)
theorem gapsI_snoc (A : List (Int × Int)) (p : Int × Int) (f : Int) : gapsI (A ++ [p]) f = ((gapsI A f).1 ++ [((gapsI A f).2, p.1)], p.2) := by
  induction A generalizing f with
  | nil => rfl
  | cons q r ih =>
    simp only [List.cons_append, gapsI]
    rw [ih]
theorem gapsI_mem (C : List (Int × Int)) (f x : Int) : Mem x ((gapsI C f).1 ++ [((gapsI C f).2, 1114112)]) ↔ Mem x (notF C f) := by
  induction C generalizing f with
  | nil =>
    unfold notF gapsI
    by_cases h : f ≤ 1114111
    · rw [if_pos h]; rfl
    · rw [if_neg h]
      simp only [List.nil_append, Mem]
      constructor
      · rintro (h' | h') <;> omega
      · intro h'; exact h'.elim
  | cons p r ih =>
    unfold notF gapsI
    simp only [List.cons_append]
    by_cases h : f < p.1
    · rw [if_pos h]
      simp only [Mem]
      rw [ih]
    · rw [if_neg h]
      simp only [Mem]
      rw [ih]
      exact ⟨fun q => q.elim (fun q => absurd q (by omega)) id, .inr⟩
theorem gapsI_len (C : List (Int × Int)) (f : Int) : (gapsI C f).1.length = C.length := by
  induction C generalizing f with
  | nil => rfl
  | cons p r ih => simp [gapsI, ih]
theorem gapsI_bd (C : List (Int × Int)) : ∀ (f : Int), (∀ p ∈ C, 0 ≤ p.1 ∧ p.1 ≤ 1114112 ∧ 0 ≤ p.2 ∧ p.2 ≤ 1114112) → 0 ≤ f ∧ f ≤ 1114112 → (0 ≤ (gapsI C f).2 ∧ (gapsI C f).2 ≤ 1114112) ∧ ∀ p ∈ (gapsI C f).1, 0 ≤ p.1 ∧ p.1 ≤ 1114112 ∧ 0 ≤ p.2 ∧ p.2 ≤ 1114112 := by
  induction C with
  | nil => intro f _ hf; exact ⟨hf, fun p hp => by cases hp⟩
  | cons q r ih =>
    intro f hC hf
    have hq := hC q (by simp)
    obtain ⟨i1, i2⟩ := ih q.2 (fun p hp => hC p (by simp [hp])) ⟨hq.2.2.1, hq.2.2.2⟩
    refine ⟨i1, fun p hp => ?_⟩
    rcases List.mem_cons.1 hp with rfl | hp
    · exact ⟨hf.1, hf.2, hq.1, hq.2.1⟩
    · exact i2 p hp
theorem Good4.bd {L : List Int} {C : List (Int × Int)} (h : Good4 L C) : ∀ p ∈ C, 0 ≤ p.1 ∧ p.1 ≤ 1114112 ∧ 0 ≤ p.2 ∧ p.2 ≤ 1114112 := fun p hp => by
  have h1 := h.can.ge hp
  have h2 := h.top p hp
  omega
theorem span_zero (a b : Int) (h : ¬ (a = 0 ∧ b = 0)) (w : World) : (Op.equalIn 10000 59 (.agg #[.int .i64 a, .int .i64 b]) (.agg #[.int .i64 0, .int .i64 0])).run Try.prog w = .ok false w := by
  have := span_eq w 9998 a b 0 0
  rw [decide_eq_false h] at this
  exact this
theorem span_zero' (w : World) : (Op.equalIn 10000 59 (.agg #[.int .i64 0, .int .i64 0]) (.agg #[.int .i64 0, .int .i64 0])).run Try.prog w = .ok true w := by
  have := span_eq w 9998 0 0 0 0
  simp only [and_self, decide_true] at this
  exact this
set_option maxRecDepth 100000 in
set_option maxHeartbeats 1000000 in
theorem inotS_no (L : List Int) (ao : Option Addr) (cap : Nat) (w : World) (hl : L.length ≤ 1048576) (hg : goodS L = false) (hA : IntsAt w ao L) :
    Calls Try.prog 20 #[.slice ao L.length cap] w fun e w' => e = .returned (.tuple #[.slice none 0 0, .bool false]) ∧ Below w.heap.size w w' := by
  have HA : Hid _ := hA
  have HG : Hid _ := hg
  clear hA hg
  go_enter Try.func20, Try.ntmps20
  go_wp2_with fail
  refine (read_no L ao cap _ hl HG.out HA.out).mono ?_
  rintro e w2 ⟨rfl, b2⟩
  obtain ⟨w3, hst, s3, b3⟩ := new_set w2 [] (by simp)
  have HST : Hid _ := hst
  clear hst s3
  go_wp2_with (refine wpList_store_set rfl (.tmp 4) (.tmp 13) rfl w2.heap.size rfl rfl HST.out ?_)
  go_ret2
  exact ⟨rfl, b2.trans (b3.mono b2.size)⟩
set_option maxRecDepth 100000 in
set_option maxHeartbeats 4000000 in
theorem inotS_yes (L : List Int) (C : List (Int × Int)) (ao : Option Addr) (cap : Nat) (w : World) (hg : Good4 L C) (hA : IntsAt w ao L) :
    Calls Try.prog 20 #[.slice ao L.length cap] w fun e w' => SetE w w' (notF C 0) e ∧ Below w.heap.size w w' := by
  obtain ⟨n1, n2, n3, _⟩ := not_facts hg
  have N1 : Hid _ := n1
  have HA : Hid _ := hA
  have HG : Hid _ := hg
  have hcl := hg.le
  have HFL : Hid ((pad C).length = 24) := pad_len hg.le
  have hix := index64 (pad C) HFL.out
  have HPR : Hid _ := hg.pr
  clear hA hg n1 n2
  go_enter Try.func20, Try.ntmps20
  go_wp2_with fail
  refine (read_yes L ao cap _ HG.out.good HA.out).mono ?_
  rintro e w2 ⟨rfl, b2⟩
  rw [HPR.out]
  obtain ⟨w3, hst, s3, b3⟩ := new_set w2 C HG.out.le
  have HST : Hid _ := hst
  have S3 : Hid _ := s3
  have B3 : Hid (Below w.heap.size w w3) := b2.trans (b3.mono b2.size)
  clear hst s3 b2 b3 HA
  go_wp2_with (first | (refine wpList_store_set rfl (.tmp 4) (.tmp 13) rfl w2.heap.size rfl rfl HST.out ?_) | (refine wpList_load_mid rfl 61 (.tmp 4) rfl w2.heap.size 0 rfl (ints (pad C)) _ S3.out.ra Try.underlying61 rfl (by rw [info64, ints_len, HFL.out]) ?_))
  go_loopw [6, 7, 18] (fun v f i wr => ∃ k : Nat, k ≤ C.length ∧ i = .int .i64 k ∧ f = .int .i64 (gapsI (C.take k) 0).2 ∧ ownS wr w.heap.size v (gapsI (C.take k) 0).1 ∧ Below w.heap.size w wr) (fun _ _ i _ => 12 - (intOf i).toNat)
  case atStart => exact ⟨0, Nat.zero_le _, rfl, rfl, World.ownsRow_nil _ _ _ _, B3.out⟩
  case round =>
    obtain ⟨k, hk, rfl, rfl, hown, hbw⟩ := hrel
    have OWN : Hid _ := hown
    have HB : Hid _ := hbw
    have hp := pad_get C k
    have bd := gapsI_bd (C.take k) 0 (fun p hp => HG.out.bd p (List.mem_of_mem_take hp)) (by omega)
    have hgl := gapsI_len (C.take k) 0
    have hgl2 : (gapsI (C.take k) 0).1.length ≤ 12 := by rw [hgl]; simp; omega
    obtain ⟨f1, f2⟩ := bd.1
    by_cases hkc : k < C.length
    · have hltI : (k : Int) < 12 := by omega
      have hik := fun w => hix k (by omega) w
      rw [hp.1, hp.2] at hik
      have hm : C.getD k (0, 0) ∈ C := by simp [List.getD, hkc]
      have hne := HG.out.ne _ hm
      have HS : Hid _ := gapsI_snoc (C.take k) (C.getD k (0, 0)) 0
      have HTK : Hid _ := take_snocS C k hkc
      clear hp hm hix bd hgl hown hbw
      generalize C.getD k (0, 0) = q at *
      obtain ⟨a, b⟩ := q
      simp only at hne hik
      generalize gapsI (C.take k) 0 = G at *
      obtain ⟨G1, f⟩ := G
      simp only at f1 f2 hgl2
      have hz := span_zero a b (by omega)
      have AL : ∀ x : World, ∀ o, Below x.heap.size x (x.alloc o) := fun x o => (Below.refl _ _).alloc (Nat.le_refl _) o
      have HE : Hid (gapsI (C.take (k + 1)) 0 = (G1 ++ [(f, a)], b)) := by show gapsI (C.take (k + 1)) 0 = (G1 ++ [(f, a)], b); rw [HTK.out, HS.out]
      go_wp2_with (at_builtin; refine wpS _ rfl _ _ rfl w.heap.size _ G1 rfl (World.ownsRow.keepB (World.ownsRow.keepB OWN.out (AL _ _)) (AL _ _)) (some ⟨wr.heap.size + 1, 0, none⟩) [(f, a)] 1 1 rfl rfl (spans_new _ _ _ _ _ (by simp)) ?c1 ?c2 ?_)
      case c1 => omega
      case c2 => have := HB.out.size; simp; omega
      intro v' w4 hown4 hgrow _
      have HBA := (HB.out.trans ((AL wr (.cells #[.int .i64 a, .int .i64 b] 59)).mono HB.out.size))
      have B4 : Hid (Below w.heap.size w w4) := Below.grown (HBA.trans ((AL _ _).mono HBA.size)) hgrow (Below.size (HBA.trans ((AL _ _).mono HBA.size))) (fun g hg => (World.ownsRow.lt OWN.out g hg).1)
      have c2 : w4.cell? ⟨wr.heap.size, 1, none⟩ = some (.int .i64 b) := by
        have h1 : (some wr.heap.size : Option Nat) ≠ _ := fun e => by
          have := (World.ownsRow.lt OWN.out wr.heap.size e.symm).2
          omega
        have blk := hgrow.block wr.heap.size (by simp; omega) h1
        rw [World.cell?_of_block (a := ⟨wr.heap.size, 1, none⟩) blk]
        simp
      clear hgrow HBA
      go_wp2
      go_roundw
      case rel => exact ⟨k + 1, by omega, by go_num, by rw [HE.out], by rw [HE.out]; exact hown4, B4.out⟩
      case measure => simp [intOf]; omega
    · have hkl : k = C.length := by omega
      subst hkl
      rw [List.take_length] at *
      have HMM : Hid (∀ x, Mem x (notF C 0) ↔ Mem x ((gapsI C 0).1 ++ [((gapsI C 0).2, 1114112)])) := fun x => (gapsI_mem C 0 x).symm
      have HBD : Hid (∀ p ∈ (gapsI C 0).1 ++ [((gapsI C 0).2, 1114112)], -4000000 ≤ p.1 ∧ p.1 ≤ 4000000 ∧ -4000000 ≤ p.2 ∧ p.2 ≤ 4000000) := fun p hp => by
        rcases List.mem_append.1 hp with hp | hp
        · have := bd.2 p hp; omega
        · simp at hp; subst hp; simp only; omega
      have HGE : Hid (∀ p ∈ (gapsI C 0).1 ++ [((gapsI C 0).2, 1114112)], p.1 < p.2 → -1 < p.1) := fun p hp _ => by
        rcases List.mem_append.1 hp with hp | hp
        · have := bd.2 p hp; omega
        · simp at hp; subst hp; simp only; omega
      clear bd hgl hown hbw
      generalize gapsI C 0 = G at *
      obtain ⟨G1, f⟩ := G
      simp only at f1 f2 hgl2
      by_cases h12 : C.length = 12
      · clear hix hp
        rw [h12]
        have HX : Hid _ := h12
        clear h12
        have AL2 : ∀ o, Below wr.heap.size wr (wr.alloc o) := fun o => (Below.refl _ _).alloc (Nat.le_refl _) o
        go_wp2_with (at_builtin; refine wpS _ rfl _ _ rfl w.heap.size _ G1 rfl (World.ownsRow.keepB OWN.out (AL2 _)) (some ⟨wr.heap.size, 0, none⟩) [(f, 1114112)] 1 1 rfl rfl (spans_new wr _ _ _ _ rfl) ?c1 ?c2 ?_)
        case c1 => omega
        case c2 => have := HB.out.size; simp; omega
        intro v' w3 hown3 hgrow _
        have B3 : Hid (Below w.heap.size w w3) := Below.grown (HB.out.trans ((AL2 _).mono HB.out.size)) hgrow (Below.size (HB.out.trans ((AL2 _).mono HB.out.size))) (fun g hg => (World.ownsRow.lt OWN.out g hg).1)
        obtain ⟨ao3, cap3, rfl, sp3⟩ := spans_of_own hown3
        have SP3 : Hid _ := sp3
        clear hgrow hown3 sp3
        go_wp2_with fail
        refine (joinSp' (G1 ++ [(f, 1114112)]) (notF C 0) ao3 cap3 _ _ (by simp) (by simp; omega) HBD.out HGE.out N1.out HMM.out SP3.out).mono ?_
        rintro e w4 ⟨hor, b4⟩
        have B4 : Hid (Below w.heap.size w w4) := B3.out.trans (b4.mono B3.out.size)
        clear b4
        obtain ⟨h12, v4, rfl, o4⟩ | ⟨h12, rfl⟩ := hor
        · have O4 : Hid (w4.ownsRow w.heap.size 3 1 v4 (flS (notF C 0)).length (ints (flS (notF C 0)))) := own_mono o4 B3.out.size
          clear o4
          go_wp2
          go_ret2
          exact ⟨.inl ⟨h12, v4, rfl, O4.out⟩, B4.out⟩
        · go_wp2
          go_ret2
          exact ⟨.inr ⟨h12, rfl⟩, B4.out⟩
      · have hltI : (C.length : Int) < 12 := by omega
        have hik := fun w => hix C.length (by omega) w
        have hq : C.getD C.length (0, 0) = (0, 0) := by simp [List.getD]
        rw [hp.1, hp.2, hq] at hik
        simp only at hik
        have hz := span_zero'
        have AL : ∀ o, Below wr.heap.size wr (wr.alloc o) := fun o => (Below.refl _ _).alloc (Nat.le_refl _) o
        clear hp hq hix
        have OWN2 : Hid (ownS (wr.alloc (.cells #[.int .i64 0, .int .i64 0] 59)) w.heap.size _ G1) := World.ownsRow.keepB OWN.out (AL _)
        have HB2 : Hid (Below w.heap.size w (wr.alloc (.cells #[.int .i64 0, .int .i64 0] 59))) := HB.out.trans ((AL _).mono HB.out.size)
        have AL2 : ∀ o, Below (wr.alloc (.cells #[.int .i64 0, .int .i64 0] 59)).heap.size (wr.alloc (.cells #[.int .i64 0, .int .i64 0] 59)) ((wr.alloc (.cells #[.int .i64 0, .int .i64 0] 59)).alloc o) := fun o => (Below.refl _ _).alloc (Nat.le_refl _) o
        go_wp2_with (at_builtin; refine wpS _ rfl _ _ rfl w.heap.size _ G1 rfl (World.ownsRow.keepB OWN2.out (AL2 _)) (some ⟨wr.heap.size + 1, 0, none⟩) [(f, 1114112)] 1 1 rfl rfl (spans_new (wr.alloc (.cells #[.int .i64 0, .int .i64 0] 59)) _ _ _ _ (by simp)) ?c1 ?c2 ?_)
        case c1 => omega
        case c2 => have := HB.out.size; simp; omega
        intro v' w3 hown3 hgrow _
        have B3 : Hid (Below w.heap.size w w3) := Below.grown (HB2.out.trans ((AL2 _).mono HB2.out.size)) hgrow (Below.size (HB2.out.trans ((AL2 _).mono HB2.out.size))) (fun g hg => (World.ownsRow.lt OWN2.out g hg).1)
        obtain ⟨ao3, cap3, rfl, sp3⟩ := spans_of_own hown3
        have SP3 : Hid _ := sp3
        clear hgrow hown3 sp3
        go_wp2_with fail
        refine (joinSp' (G1 ++ [(f, 1114112)]) (notF C 0) ao3 cap3 _ _ (by simp) (by simp; omega) HBD.out HGE.out N1.out HMM.out SP3.out).mono ?_
        rintro e w4 ⟨hor, b4⟩
        have B4 : Hid (Below w.heap.size w w4) := B3.out.trans (b4.mono B3.out.size)
        clear b4
        obtain ⟨h12, v4, rfl, o4⟩ | ⟨h12, rfl⟩ := hor
        · have O4 : Hid (w4.ownsRow w.heap.size 3 1 v4 (flS (notF C 0)).length (ints (flS (notF C 0)))) := own_mono o4 B3.out.size
          clear o4
          go_wp2
          go_ret2
          exact ⟨.inl ⟨h12, v4, rfl, O4.out⟩, B4.out⟩
        · go_wp2
          go_ret2
          exact ⟨.inr ⟨h12, rfl⟩, B4.out⟩
end Go.Proofs.Ytpkhmihkchiheaa

import Derived.BigQuiet
import Derived.Test.YtnoohlmlpijhaaaDoorPX21
import Derived.Test.YtnoohlmlpijhaaaDoorPX27
import Derived.Test.YtnoohlmlpijhaaaDoorPX29
import Derived.Test.YtnoohlmlpijhaaaDoorPX30
namespace Go.Proofs.YtnoohlmlpijhaaaDoor.WLeans
open Go.RowKit Go.Proofs.YtnoohlmlpijhaaaDoor.Base Go.Proofs.YtnoohlmlpijhaaaDoor.EPure Go.Proofs.YtnoohlmlpijhaaaDoor.EPs Go.Proofs.YtnoohlmlpijhaaaDoor.EAw Go.Proofs.YtnoohlmlpijhaaaDoor.ELn Go.Proofs.YtnoohlmlpijhaaaDoor.ELv2 Go.Proofs.YtnoohlmlpijhaaaDoor.EBit Go.Proofs.YtnoohlmlpijhaaaDoor.XSm
open Go.Proofs.YtnoohlmlpijhaaaDoor.XBase (four_box two_box frozen_box Rg)
set_option linter.unusedVariables false
theorem smL_refl : ∀ (n : Nat) (l : List Ex), SizeOf.sizeOf l ≤ n → smL l l = true := by
  intro n
  induction n with
  | zero =>
    intro l h
    cases l with
    | nil => exact smL_nil
    | cons x t => exact absurd h (by simp)
  | succ n ih =>
    intro l h
    cases l with
    | nil => exact smL_nil
    | cons x t =>
      obtain ⟨o, i, s, k⟩ := x
      rw [smL_cons, smL_one, ih k (by simp at h; omega), ih t (by simp at h; omega)]
      simp
theorem apart {o o' : Int} (h : 12 ≤ o) : smL [lt' o o'] [rt' o o'] = false := by
  have e : smL [nd o [va, vb]] [va] = false := by
    show smL [.mk o 0 ⟨#[]⟩ [va, vb]] [.mk 6 0 ⟨#[97]⟩ []] = false
    rw [smL_one, show (o == (6 : Int)) = false by simp; omega, Bool.false_and]
  show smL [.mk o' 0 ⟨#[]⟩ [nd o [va, vb], vc]] [.mk o 0 ⟨#[]⟩ [va, nd o' [vb, vc]]] = false
  rw [smL_one, smL_cons, e]
  simp
theorem isx_eq {t : List UInt8} {x : Ex} (h : isx t x = true) : prs ⟨t.toArray⟩ = .ok x := by
  unfold isx at h
  cases hp : prs ⟨t.toArray⟩ with
  | error e => rw [hp] at h; cases h
  | ok y => rw [hp] at h; rw [eqx_eq _ _ _ h]
theorem app (a b : List UInt8) : (⟨a.toArray⟩ : ByteArray) ++ ⟨b.toArray⟩ = ⟨(a ++ b).toArray⟩ := by
  apply ByteArray.ext
  simp
/-- What the signs' texts say. -/
theorem say {k k' : Nat} {s t : List UInt8 × Int} (h : chk k k' s t = true) : ∃ x l r : Ex, prs (⟨#[97, 32]⟩ ++ ⟨s.1.toArray⟩ ++ ⟨#[32, 98, 32]⟩ ++ ⟨t.1.toArray⟩ ++ ⟨#[32, 99]⟩) = .ok x ∧ prs (⟨#[40, 97, 32]⟩ ++ ⟨s.1.toArray⟩ ++ ⟨#[32, 98, 41, 32]⟩ ++ ⟨t.1.toArray⟩ ++ ⟨#[32, 99]⟩) = .ok l ∧ prs (⟨#[97, 32]⟩ ++ ⟨s.1.toArray⟩ ++ ⟨#[32, 40, 98, 32]⟩ ++ ⟨t.1.toArray⟩ ++ ⟨#[32, 99, 41]⟩) = .ok r ∧ smL [l] [r] = false ∧ (k < k' → smL [x] [r] = true) ∧ (¬ k < k' → smL [x] [l] = true) := by
  unfold chk at h
  simp only [Bool.and_eq_true, decide_eq_true_eq] at h
  obtain ⟨⟨h12, h1⟩, h2, h3⟩ := h
  refine ⟨if k < k' then rt' s.2 t.2 else lt' s.2 t.2, lt' s.2 t.2, rt' s.2 t.2, ?_, ?_, ?_, apart h12, fun hk => ?_, fun hk => ?_⟩
  · rw [← isx_eq h1]
    congr 1
  · rw [← isx_eq h2]
    congr 1
  · rw [← isx_eq h3]
    congr 1
  · rw [if_pos hk]; exact smL_refl _ _ (Nat.le_refl _)
  · rw [if_neg hk]; exact smL_refl _ _ (Nat.le_refl _)
theorem lvs_len : ∀ k, k < 11 → 1 ≤ (lvs.getD k []).length ∧ (lvs.getD k []).length ≤ 4 := by decide
theorem sig_len : ∀ k, k < 11 → ∀ s ∈ lvs.getD k [], s.1.length ≤ 2 := by decide
set_option maxRecDepth 20000 in
set_option maxHeartbeats 3200000 in
theorem walk {w : World} (a0 : Int) (l0 : -9223372036854775808 ≤ a0) (u0 : a0 ≤ 9223372036854775807) (a1 : Int) (l1 : -9223372036854775808 ≤ a1) (u1 : a1 ≤ 9223372036854775807) (ht : TX w) :
    Calls Tryd.prog 5 #[.int .i64 a0, .int .i64 a1] w fun e w' => e = .returned (.bool true) ∧ Below w.heap.size w w' := by
  obtain ⟨m0, hm0, hl0⟩ : ∃ m0 : Nat, bits .and .i64 a0 1023 = m0 ∧ m0 < 1024 := ⟨(a0 % 1024).toNat, by rw [and1023]; omega, by omega⟩
  obtain ⟨m1, hm1, hl1⟩ : ∃ m1 : Nat, bits .and .i64 a1 1023 = m1 ∧ m1 < 1024 := ⟨(a1 % 1024).toNat, by rw [and1023]; omega, by omega⟩
  obtain ⟨p0, hp0, hq0⟩ : ∃ p0 : Nat, bits .and .i64 (a0 / 1024) 3 = p0 ∧ p0 < 4 := ⟨((a0 / 1024) % 4).toNat, by rw [and3]; omega, by omega⟩
  obtain ⟨p1, hp1, hq1⟩ : ∃ p1 : Nat, bits .and .i64 (a1 / 1024) 3 = p1 ∧ p1 < 4 := ⟨((a1 / 1024) % 4).toNat, by rw [and3]; omega, by omega⟩
  have hn0 := lvs_len (m0 % 11) (by omega)
  have hn1 := lvs_len (m1 % 11) (by omega)
  have HL : Hid (∀ W g, Lt W g → ∃ b0 b1, W.cell? ⟨g, m0 % 11, none⟩ = some (.slice (some ⟨b0, 0, none⟩) (lvs.getD (m0 % 11) []).length (lvs.getD (m0 % 11) []).length) ∧ W.cell? ⟨g, m1 % 11, none⟩ = some (.slice (some ⟨b1, 0, none⟩) (lvs.getD (m1 % 11) []).length (lvs.getD (m1 % 11) []).length) ∧ W.cell? ⟨b0, p0 % (lvs.getD (m0 % 11) []).length, none⟩ = some (.string ⟨((lvs.getD (m0 % 11) []).getD (p0 % (lvs.getD (m0 % 11) []).length) ([], 0)).1.toArray⟩) ∧ W.cell? ⟨b1, p1 % (lvs.getD (m1 % 11) []).length, none⟩ = some (.string ⟨((lvs.getD (m1 % 11) []).getD (p1 % (lvs.getD (m1 % 11) []).length) ([], 0)).1.toArray⟩)) := by
    intro W g h
    obtain ⟨b0, h1, h2⟩ := h (m0 % 11) (by omega)
    obtain ⟨b1, h3, h4⟩ := h (m1 % 11) (by omega)
    exact ⟨b0, b1, h1, h3, h2 _ (Nat.mod_lt _ (by omega)), h4 _ (Nat.mod_lt _ (by omega))⟩
  have mem : ∀ (k p : Nat), 1 ≤ (lvs.getD k []).length → (lvs.getD k []).getD (p % (lvs.getD k []).length) ([], 0) ∈ lvs.getD k [] := by
    intro k p h
    have hl : p % (lvs.getD k []).length < (lvs.getD k []).length := Nat.mod_lt _ (by omega)
    generalize p % (lvs.getD k []).length = q at *
    generalize lvs.getD k [] = l at *
    simp [List.getD, hl]
  have hS := mem (m0 % 11) p0 hn0.1
  have hT := mem (m1 % 11) p1 hn1.1
  have hsay := say (all (by omega) hS (by omega) hT)
  have hs2 := sig_len _ (by omega) _ hS
  have ht2 := sig_len _ (by omega) _ hT
  clear mem hS hT
  generalize (lvs.getD (m0 % 11) []).getD (p0 % (lvs.getD (m0 % 11) []).length) ([], 0) = S at *
  generalize (lvs.getD (m1 % 11) []).getD (p1 % (lvs.getD (m1 % 11) []).length) ([], 0) = T at *
  generalize (lvs.getD (m0 % 11) []).length = n0 at *
  generalize (lvs.getD (m1 % 11) []).length = n1 at *
  obtain ⟨x, l, r, e1, e2, e3, f1, f2, f3⟩ := hsay
  have hz : ∀ L : List UInt8, (⟨L.toArray⟩ : ByteArray).size = L.length := fun L => by show L.toArray.size = _; simp
  have zs : (⟨S.1.toArray⟩ : ByteArray).size ≤ 2 := by rw [hz]; exact hs2
  have zt : (⟨T.1.toArray⟩ : ByteArray).size ≤ 2 := by rw [hz]; exact ht2
  clear hs2 ht2 hz
  generalize (⟨S.1.toArray⟩ : ByteArray) = S' at *
  generalize (⟨T.1.toArray⟩ : ByteArray) = T' at *
  have H1 : Hid (∀ W, TX W → Calls Tryd.prog 11 #[.string (⟨#[97, 32]⟩ ++ S' ++ ⟨#[32, 98, 32]⟩ ++ T' ++ ⟨#[32, 99]⟩)] W fun e w' => Pout W e w' (.ok x)) := fun W hW => by
    rw [← e1]; exact parse_x (by simp only [ByteArray.size_append]; have : (⟨#[97, 32]⟩ : ByteArray).size = 2 := rfl; have : (⟨#[32, 98, 32]⟩ : ByteArray).size = 3 := rfl; have : (⟨#[32, 99]⟩ : ByteArray).size = 2 := rfl; omega) hW
  have H2 : Hid (∀ W, TX W → Calls Tryd.prog 11 #[.string (⟨#[40, 97, 32]⟩ ++ S' ++ ⟨#[32, 98, 41, 32]⟩ ++ T' ++ ⟨#[32, 99]⟩)] W fun e w' => Pout W e w' (.ok l)) := fun W hW => by
    rw [← e2]; exact parse_x (by simp only [ByteArray.size_append]; have : (⟨#[40, 97, 32]⟩ : ByteArray).size = 3 := rfl; have : (⟨#[32, 98, 41, 32]⟩ : ByteArray).size = 4 := rfl; have : (⟨#[32, 99]⟩ : ByteArray).size = 2 := rfl; omega) hW
  have H3 : Hid (∀ W, TX W → Calls Tryd.prog 11 #[.string (⟨#[97, 32]⟩ ++ S' ++ ⟨#[32, 40, 98, 32]⟩ ++ T' ++ ⟨#[32, 99, 41]⟩)] W fun e w' => Pout W e w' (.ok r)) := fun W hW => by
    rw [← e3]; exact parse_x (by simp only [ByteArray.size_append]; have : (⟨#[97, 32]⟩ : ByteArray).size = 2 := rfl; have : (⟨#[32, 40, 98, 32]⟩ : ByteArray).size = 4 := rfl; have : (⟨#[32, 99, 41]⟩ : ByteArray).size = 3 := rfl; omega) hW
  have F : Hid (smL [l] [r] = false ∧ (m0 % 11 < m1 % 11 → smL [x] [r] = true) ∧ (¬ m0 % 11 < m1 % 11 → smL [x] [l] = true)) := ⟨f1, f2, f3⟩
  clear e1 e2 e3 f1 f2 f3 l0 u0 l1 u1
  have y0 : p0 % n0 < n0 := Nat.mod_lt _ (by omega)
  have y1 : p1 % n1 < n1 := Nat.mod_lt _ (by omega)
  have x0 : ((p0 : Int) % (n0 : Int) < (n0 : Int)) := by rw [← Int.natCast_emod]; omega
  have x1 : ((p1 : Int) % (n1 : Int) < (n1 : Int)) := by rw [← Int.natCast_emod]; omega
  have HT : Hid (TX w) := ht
  have c0 := awake_c ht
  clear ht
  go_enter Tryd.func5, Tryd.ntmps5
  go_wp2_with fail
  refine c0.mono ?_
  rintro e W1 ⟨rfl, b1⟩
  have HB1 : Hid (Below w.heap.size w W1) := b1
  clear b1 c0
  go_wp2_with fail
  refine (levels_c W1).mono ?_
  rintro e W2 ⟨b2, g, rfl, hLt⟩
  have HB2 : Hid (Below w.heap.size w W2) := HB1.out.trans (b2.mono HB1.out.size)
  have HLT : Hid (Lt W2 g) := hLt
  clear b2 HB1 hLt
  obtain ⟨b0, b1, k0, k1, k2, k3⟩ := HL.out W2 g HLT.out
  clear HL HLT
  go_wp2_with fail
  refine (H1.out W2 (HT.out.later HB2.out)).mono ?_
  rintro e W3 ⟨b3, m3, a3, c3, rfl, in3⟩
  obtain ⟨W4, hW4⟩ : ∃ W4, W3.alloc (.cells #[.int .i64 x.o, .int .i64 x.i, .string x.s, .slice a3 x.l.length c3] 24) = W4 := ⟨_, rfl⟩
  have d4 : Below W3.heap.size W3 W4 := by rw [← hW4]; exact (Below.refl _ W3).alloc (Nat.le_refl _) _
  have x4 : W4.heap[W3.heap.size]? = some (.cells #[.int .i64 x.o, .int .i64 x.i, .string x.s, .slice a3 x.l.length c3] 24 (0, 0)) := by rw [← hW4]; exact heap_alloc_new W3 _
  have z4 : W4.heap.size = W3.heap.size + 1 := by rw [← hW4]; simp
  have HB4 : Hid (Below w.heap.size w W4) := HB2.out.trans ((b3.trans (d4.mono b3.size)).mono HB2.out.size)
  have HX4 : Hid (W4.heap[W3.heap.size]? = some (.cells #[.int .i64 x.o, .int .i64 x.i, .string x.s, .slice a3 x.l.length c3] 24 (0, 0)) ∧ W4.heap.size = W3.heap.size + 1 ∧ Below W2.heap.size W2 W4) := ⟨x4, z4, b3.trans (d4.mono b3.size)⟩
  have HI4 : Hid (XBase.In false (Rg W2.heap.size W3.heap.size) W4 m3 (.agg #[.int .i64 x.o, .int .i64 x.i, .string x.s, .slice a3 x.l.length c3]) x) := in3.below d4
  clear b3 in3 d4 x4 z4
  go_wp2_with fail
  clear hW4
  refine (H2.out W4 (HT.out.later HB4.out)).mono ?_
  rintro e W5 ⟨b5, m5, a5, c5, rfl, in5⟩
  obtain ⟨W6, hW6⟩ : ∃ W6, W5.alloc (.cells #[.int .i64 l.o, .int .i64 l.i, .string l.s, .slice a5 l.l.length c5] 24) = W6 := ⟨_, rfl⟩
  have d6 : Below W5.heap.size W5 W6 := by rw [← hW6]; exact (Below.refl _ W5).alloc (Nat.le_refl _) _
  have x6 : W6.heap[W5.heap.size]? = some (.cells #[.int .i64 l.o, .int .i64 l.i, .string l.s, .slice a5 l.l.length c5] 24 (0, 0)) := by rw [← hW6]; exact heap_alloc_new W5 _
  have z6 : W6.heap.size = W5.heap.size + 1 := by rw [← hW6]; simp
  have HB6 : Hid (Below w.heap.size w W6) := HB4.out.trans ((b5.trans (d6.mono b5.size)).mono HB4.out.size)
  have HX6 : Hid (W6.heap[W5.heap.size]? = some (.cells #[.int .i64 l.o, .int .i64 l.i, .string l.s, .slice a5 l.l.length c5] 24 (0, 0)) ∧ W6.heap.size = W5.heap.size + 1 ∧ Below W4.heap.size W4 W6) := ⟨x6, z6, b5.trans (d6.mono b5.size)⟩
  have HI6 : Hid (XBase.In false (Rg W4.heap.size W5.heap.size) W6 m5 (.agg #[.int .i64 l.o, .int .i64 l.i, .string l.s, .slice a5 l.l.length c5]) l) := in5.below d6
  clear b5 in5 d6 x6 z6
  go_wp2_with fail
  clear hW6
  refine (H3.out W6 (HT.out.later HB6.out)).mono ?_
  rintro e W7 ⟨b7, m7, a7, c7, rfl, in7⟩
  obtain ⟨W8, hW8⟩ : ∃ W8, W7.alloc (.cells #[.int .i64 r.o, .int .i64 r.i, .string r.s, .slice a7 r.l.length c7] 24) = W8 := ⟨_, rfl⟩
  have d8 : Below W7.heap.size W7 W8 := by rw [← hW8]; exact (Below.refl _ W7).alloc (Nat.le_refl _) _
  have x8 : W8.heap[W7.heap.size]? = some (.cells #[.int .i64 r.o, .int .i64 r.i, .string r.s, .slice a7 r.l.length c7] 24 (0, 0)) := by rw [← hW8]; exact heap_alloc_new W7 _
  have z8 : W8.heap.size = W7.heap.size + 1 := by rw [← hW8]; simp
  have HB8 : Hid (Below w.heap.size w W8) := HB6.out.trans ((b7.trans (d8.mono b7.size)).mono HB6.out.size)
  have HX8 : Hid (W8.heap[W7.heap.size]? = some (.cells #[.int .i64 r.o, .int .i64 r.i, .string r.s, .slice a7 r.l.length c7] 24 (0, 0)) ∧ W8.heap.size = W7.heap.size + 1 ∧ Below W6.heap.size W6 W8) := ⟨x8, z8, b7.trans (d8.mono b7.size)⟩
  have HI8 : Hid (XBase.In false (Rg W6.heap.size W7.heap.size) W8 m7 (.agg #[.int .i64 r.o, .int .i64 r.i, .string r.s, .slice a7 r.l.length c7]) r) := in7.below d8
  clear b7 in7 d8 x8 z8
  have q2 := (HX8.out.2.2.block _ (by have := HX6.out.2.1; omega)).trans HX6.out.1
  have q1 := (HX8.out.2.2.block W3.heap.size (by have := HX6.out.2.2.size; have := HX4.out.2.1; omega)).trans ((HX6.out.2.2.block _ (by have := HX4.out.2.1; omega)).trans HX4.out.1)
  have q3 := HX8.out.1
  have i1 := (HI4.out.below HX6.out.2.2).below HX8.out.2.2
  have i2 := HI6.out.below HX8.out.2.2
  have cS := same_c i2 HI8.out
  rw [F.out.1] at cS
  obtain ⟨r20, r21, r22, r23⟩ := four_box q2
  obtain ⟨r30, r31, r32, r33⟩ := four_box q3
  have Q8 : Hid (W3.heap.size < W8.heap.size ∧ W5.heap.size < W8.heap.size ∧ W7.heap.size < W8.heap.size) := ⟨by have := HX8.out.2.2.size; have := HX6.out.2.2.size; have := HX4.out.2.1; omega, by have := HX8.out.2.2.size; have := HX6.out.2.1; omega, by have := HX8.out.2.1; omega⟩
  have HQ1 : Hid (W8.heap[W3.heap.size]? = some (.cells #[.int .i64 x.o, .int .i64 x.i, .string x.s, .slice a3 x.l.length c3] 24 (0, 0))) := q1
  have HQ2 : Hid (W8.heap[W5.heap.size]? = some (.cells #[.int .i64 l.o, .int .i64 l.i, .string l.s, .slice a5 l.l.length c5] 24 (0, 0))) := q2
  have HQ3 : Hid (W8.heap[W7.heap.size]? = some (.cells #[.int .i64 r.o, .int .i64 r.i, .string r.s, .slice a7 r.l.length c7] 24 (0, 0))) := q3
  have HJ1 : Hid (XBase.In false (Rg W2.heap.size W3.heap.size) W8 m3 (.agg #[.int .i64 x.o, .int .i64 x.i, .string x.s, .slice a3 x.l.length c3]) x) := i1
  have HJ2 : Hid (XBase.In false (Rg W4.heap.size W5.heap.size) W8 m5 (.agg #[.int .i64 l.o, .int .i64 l.i, .string l.s, .slice a5 l.l.length c5]) l) := i2
  clear q1 q2 q3 i1 i2 HX4 HX6 HX8 HI4 HI6 HB2 HB4 HB6
  go_wp2_with (first | (go_at_call 10; refine (num_c _ _).mono ?_; rintro e w' ⟨rfl, hw'⟩; subst w') | (go_at_call 12; refine cS.mono ?_; rintro e W9 ⟨rfl, b9⟩))
  clear r20 r21 r22 r23 r30 r31 r32 r33 cS
  by_cases hk : m0 % 11 < m1 % 11
  · have dk : decide (((m1 : Int) % 11) > ((m0 : Int) % 11)) = true := by simp; omega
    go_quiet (fail)
    obtain ⟨W10, hW10⟩ : ∃ W10, W9.drewN nq = W10 := ⟨_, rfl⟩
    have b10 : Below W8.heap.size W8 W10 := by rw [← hW10]; exact b9.trans ⟨rfl, rfl, rfl, by simp, fun _ _ => by simp⟩
    have HB10 : Hid (Below w.heap.size w W10) := HB8.out.trans (b10.mono HB8.out.size)
    have q1 := (b10.block _ Q8.out.1).trans HQ1.out
    have q2 := (b10.block _ Q8.out.2.1).trans HQ2.out
    have q3 := (b10.block _ Q8.out.2.2).trans HQ3.out
    have cR := same_c (HJ1.out.below b10) (HI8.out.below b10)
    rw [F.out.2.1 hk] at cR
    obtain ⟨r10, r11, r12, r13⟩ := four_box q1
    obtain ⟨r20, r21, r22, r23⟩ := four_box q2
    obtain ⟨r30, r31, r32, r33⟩ := four_box q3
    rw [hW10]
    clear q1 q2 q3 HQ1 HQ2 HQ3 HJ1 HJ2 HI8 b9 b10 hW10
    go_wp2_with fail
    refine cR.mono ?_
    rintro e W11 ⟨rfl, b11⟩
    have HB11 : Hid (Below w.heap.size w W11) := HB10.out.trans (b11.mono HB10.out.size)
    clear b11 cR
    go_wp2_with fail
    go_ret
    exact ⟨rfl, HB11.out⟩
  · have dk : decide (((m1 : Int) % 11) > ((m0 : Int) % 11)) = false := by simp; omega
    go_quiet (fail)
    obtain ⟨W10, hW10⟩ : ∃ W10, W9.drewN nq = W10 := ⟨_, rfl⟩
    have b10 : Below W8.heap.size W8 W10 := by rw [← hW10]; exact b9.trans ⟨rfl, rfl, rfl, by simp, fun _ _ => by simp⟩
    have HB10 : Hid (Below w.heap.size w W10) := HB8.out.trans (b10.mono HB8.out.size)
    have q1 := (b10.block _ Q8.out.1).trans HQ1.out
    have q2 := (b10.block _ Q8.out.2.1).trans HQ2.out
    have q3 := (b10.block _ Q8.out.2.2).trans HQ3.out
    have cR := same_c (HJ1.out.below b10) (HJ2.out.below b10)
    rw [F.out.2.2 hk] at cR
    obtain ⟨r10, r11, r12, r13⟩ := four_box q1
    obtain ⟨r20, r21, r22, r23⟩ := four_box q2
    obtain ⟨r30, r31, r32, r33⟩ := four_box q3
    rw [hW10]
    clear q1 q2 q3 HQ1 HQ2 HQ3 HJ1 HJ2 HI8 b9 b10 hW10
    go_wp2_with fail
    refine cR.mono ?_
    rintro e W11 ⟨rfl, b11⟩
    have HB11 : Hid (Below w.heap.size w W11) := HB10.out.trans (b11.mono HB10.out.size)
    clear b11 cR
    go_wp2_with fail
    go_ret
    exact ⟨rfl, HB11.out⟩
end Go.Proofs.YtnoohlmlpijhaaaDoor.WLeans
namespace Go.Proofs.YtnoohlmlpijhaaaDoor.WNests
open Go.RowKit Go.Proofs.YtnoohlmlpijhaaaDoor.Base Go.Proofs.YtnoohlmlpijhaaaDoor.EPure Go.Proofs.YtnoohlmlpijhaaaDoor.EPs Go.Proofs.YtnoohlmlpijhaaaDoor.EAw Go.Proofs.YtnoohlmlpijhaaaDoor.ENst Go.Proofs.YtnoohlmlpijhaaaDoor.EBit
set_option linter.unusedVariables false
set_option maxRecDepth 20000 in
set_option maxHeartbeats 3200000 in
theorem walk {w : World} (a0 : Int) (l0 : -9223372036854775808 ≤ a0) (u0 : a0 ≤ 9223372036854775807) (a1 : Int) (l1 : -9223372036854775808 ≤ a1) (u1 : a1 ≤ 9223372036854775807) (ht : TX w) :
    Calls Tryd.prog 6 #[.int .i64 a0, .int .i64 a1] w fun e w' => e = .returned (.bool true) ∧ Below w.heap.size w w' := by
  obtain ⟨k, hk, hk64⟩ : ∃ k : Nat, bits .and .i64 a0 63 = k ∧ k < 64 := ⟨(a0 % 64).toNat, by rw [and63]; omega, by omega⟩
  obtain ⟨q, hq, hq4⟩ : ∃ q : Nat, bits .and .i64 a1 3 = q ∧ q < 4 := ⟨(a1 % 4).toNat, by rw [and3]; omega, by omega⟩
  have HT : Hid (TX w) := ht
  have c0 := awake_c ht
  have HK : Hid (k < 64) := hk64
  have HQ : Hid (q < 4) := hq4
  clear l0 u0 l1 u1 ht hk64 hq4
  go_enter Tryd.func6, Tryd.ntmps6
  go_wp2_with fail
  refine c0.mono ?_
  rintro e W1 ⟨rfl, b1⟩
  have HB1 : Hid (Below w.heap.size w W1) := b1
  clear b1 c0
  go_wp2_with fail
  go_loopw [6, 7] (fun s i wr => ∃ j : Nat, s = .string ⟨(nst q j).toArray⟩ ∧ i = .int .i64 j ∧ j ≤ k ∧ Below w.heap.size w wr) (fun _ i _ => k - (intOf i).toNat)
  case atStart => exact ⟨0, rfl, rfl, by omega, HB1.out⟩
  case round =>
    obtain ⟨j, rfl, rfl, hj, hb⟩ := hrel
    have HB : Hid (Below w.heap.size w wr) := hb
    clear hb HB1
    by_cases hjk : j < k
    · have d : decide ((j : Int) < (k : Int)) = true := by simp; omega
      have HS : Hid ((⟨(nst q (j + 1)).toArray⟩ : ByteArray) = ⟨(wrp q (nst q j)).toArray⟩) := rfl
      obtain ⟨X, hX⟩ : ∃ X, nst q j = X := ⟨_, rfl⟩
      have hlen := nst_len q j
      rw [hX] at HS hlen ⊢
      have hq4 := HQ.out
      have hk64 := HK.out
      have hqc : q = 0 ∨ q = 1 ∨ q = 2 ∨ q = 3 := by omega
      clear hX HQ hq4
      rcases hqc with rfl | rfl | rfl | rfl
      · replace hq : bits .and .i64 a1 3 = 0 := hq
        go_wp2_with fail
        all_goals first | (exfalso; omega) | skip
        go_roundw
        case rel => exact ⟨j + 1, by rw [HS.out]; simp only [wrp]; exact congrArg _ (ByteArray.ext (by simp)), by go_num, by omega, HB.out⟩
        case measure => simp only [intOf]; omega
      · replace hq : bits .and .i64 a1 3 = 1 := hq
        go_wp2_with fail
        all_goals first | (exfalso; omega) | skip
        go_roundw
        case rel => exact ⟨j + 1, by rw [HS.out]; simp only [wrp]; exact congrArg _ (ByteArray.ext (by simp)), by go_num, by omega, HB.out⟩
        case measure => simp only [intOf]; omega
      · replace hq : bits .and .i64 a1 3 = 2 := hq
        go_wp2_with fail
        all_goals first | (exfalso; omega) | skip
        go_roundw
        case rel => exact ⟨j + 1, by rw [HS.out]; simp only [wrp]; exact congrArg _ (ByteArray.ext (by simp)), by go_num, by omega, HB.out⟩
        case measure => simp only [intOf]; omega
      · replace hq : bits .and .i64 a1 3 = 3 := hq
        go_wp2_with fail
        all_goals first | (exfalso; omega) | skip
        go_roundw
        case rel => exact ⟨j + 1, by rw [HS.out]; simp only [wrp]; exact congrArg _ (ByteArray.ext (by simp)), by go_num, by omega, HB.out⟩
        case measure => simp only [intOf]; omega
    · have d : decide ((j : Int) < (k : Int)) = false := by simp; omega
      obtain rfl : j = k := by omega
      have hall := ENsE.all HQ.out HK.out
      have hlen := nst_len q j
      have hk64 := HK.out
      have c1 := parse_x (s := ⟨(nst q j).toArray⟩) (by show (nst q j).toArray.size ≤ _; simp; omega) (HT.out.later HB.out)
      unfold okk at hall
      obtain ⟨X, hX⟩ : ∃ X, nst q j = X := ⟨_, rfl⟩
      rw [hX] at c1 hall ⊢
      have HXS : Hid ((⟨X.toArray⟩ : ByteArray).size = X.length) := by show X.toArray.size = _; simp
      clear hX hlen hjk
      cases hp : prs ⟨X.toArray⟩ with
      | ok x =>
        rw [hp] at c1 hall
        have hlt : j < 32 := of_decide_eq_true hall
        have d32 : decide ((j : Int) < 32) = true := by simp; omega
        clear hp hall hlt
        go_wp2_with fail
        refine c1.mono ?_
        rintro e W2 ⟨b2, m, a, cap, rfl, hin⟩
        have HB2 : Hid (Below w.heap.size w W2) := HB.out.trans (b2.mono HB.out.size)
        clear c1 b2 hin
        go_wp2_with (first | (go_at_call 10; refine (num_c _ _).mono ?_; rintro e w' ⟨rfl, rfl⟩))
        go_ret
        exact ⟨rfl, HB2.out.alloc HB2.out.size _⟩
      | error f =>
        obtain ⟨c, p⟩ := f
        rw [hp] at c1 hall
        simp only [Bool.and_eq_true, decide_eq_true_eq, beq_iff_eq] at hall
        obtain ⟨hge, rfl, hp0, hpl⟩ := hall
        have d32 : decide ((j : Int) < 32) = false := by simp; omega
        clear hp hge
        go_wp2_with fail
        refine c1.mono ?_
        rintro e W2 ⟨b2, rfl⟩
        have HB2 : Hid (Below w.heap.size w W2) := HB.out.trans (b2.mono HB.out.size)
        clear c1 b2
        go_wp2_with (first | (go_at_call 10; refine (num_c _ _).mono ?_; rintro e w' ⟨rfl, rfl⟩))
        all_goals first | (exfalso; omega) | skip
        go_ret
        exact ⟨rfl, HB2.out.alloc HB2.out.size _⟩
end Go.Proofs.YtnoohlmlpijhaaaDoor.WNests
namespace Go.Proofs.YtnoohlmlpijhaaaDoor.EGd
open Go.Proofs.YtnoohlmlpijhaaaDoor.UBase Go.Proofs.YtnoohlmlpijhaaaDoor.EPure Go.Proofs.YtnoohlmlpijhaaaDoor.EDn Go.Proofs.YtnoohlmlpijhaaaDoor.EBs Go.Proofs.YtnoohlmlpijhaaaDoor.EBx Go.Proofs.YtnoohlmlpijhaaaDoor.PPl Go.Proofs.YtnoohlmlpijhaaaDoor.PFit Go.Proofs.YtnoohlmlpijhaaaDoor.PMay Go.Proofs.YtnoohlmlpijhaaaDoor.ENd Go.Proofs.YtnoohlmlpijhaaaDoor.ERg
open Go.Proofs.YtnoohlmlpijhaaaDoor.PPr (gd gdL gdL_cons)
set_option linter.unusedVariables false
theorem bad_join {s t : ByteArray} : ∀ (k i : Nat), s.size - i ≤ k → i ≤ s.size → bad s i = none → bad t 0 = none → bad (s ++ t) i = none := by
  have key : ∀ (k j : Nat), t.size - j ≤ k → bad t j = none → bad (s ++ t) (s.size + j) = none := by
    intro k
    induction k with
    | zero => intro j hj _; exact bad_end (by simp; omega)
    | succ k ih =>
      intro j hj hb
      by_cases hlt : j < t.size
      · have hl : len t j ≠ 0 := fun e => by rw [bad_here hlt e] at hb; cases hb
        have hin := len_in hlt
        have hag := len_same (s := s ++ t) (t := t) (j := s.size + j) (p := j) hl (fun m hm => by rw [Nat.add_assoc]; exact at_append_right s t (j + m))
        rw [bad_step hlt hl] at hb
        rw [bad_step (by simp; omega) (by rw [hag]; exact hl), hag, Nat.add_assoc]
        exact ih _ (by omega) hb
      · exact bad_end (by simp; omega)
  intro k
  induction k with
  | zero =>
    intro i hi hle hs ht
    have : i = s.size := by omega
    subst this
    exact key _ 0 (Nat.le_refl _) ht
  | succ k ih =>
    intro i hi hle hs ht
    by_cases hlt : i < s.size
    · have hl : len s i ≠ 0 := fun e => by rw [bad_here hlt e] at hs; cases hs
      have hin := len_in hlt
      have hag := len_same (s := s ++ t) (t := s) (j := i) (p := i) hl (fun m hm => at_append_left s t _ (by omega))
      rw [bad_step hlt hl] at hs
      rw [bad_step (by simp; omega) (by rw [hag]; exact hl), hag]
      exact ih _ (by omega) (by omega) hs ht
    · have : i = s.size := by omega
      subst this
      exact key _ 0 (Nat.le_refl _) ht
theorem mk_size (L : List UInt8) : (⟨L.toArray⟩ : ByteArray).size = L.length := by show L.toArray.size = _; simp
theorem bad_one (L : List UInt8) (h : len ⟨L.toArray⟩ 0 = L.length) (hne : L ≠ []) : bad ⟨L.toArray⟩ 0 = none := by
  have hs := mk_size L
  have hp := List.length_pos_iff.2 hne
  rw [bad_step (by omega) (by omega), h]
  exact bad_end (by omega)
theorem app_list (A M : List UInt8) : (⟨(A ++ M).toArray⟩ : ByteArray) = ⟨A.toArray⟩ ++ ⟨M.toArray⟩ := by
  apply ByteArray.ext
  rw [ByteArray.data_append]
  simp
/-- No byte below 32 but LF. -/
def Wl (L : List UInt8) : Prop := ∀ c ∈ L, 32 ≤ c.toNat ∨ c.toNat = 10
theorem chr_good {s : ByteArray} {i j : Nat} {x : List UInt8} (h : chr s i = .ok (x, j)) : bad ⟨x.toArray⟩ 0 = none ∧ Wl x := by
  unfold chr at h
  split at h
  · cases h
  · next hsz =>
    split at h
    · cases h
    · next h32 =>
      split at h
      · split at h
        · cases h
        · split at h
          · cases h
          · next c hc =>
            cases h
            unfold esc at hc
            have hc' : c = 39 ∨ c = 92 ∨ c = 125 ∨ c = 10 := by
              repeat' split at hc
              all_goals first
                | (injection hc with hc; omega)
                | (cases hc)
            rcases hc' with rfl | rfl | rfl | rfl
            all_goals exact ⟨bad_one _ (by decide) (by simp), fun d hd => by simp at hd; subst hd; decide⟩
      · split at h
        · cases h
        · next hl =>
          cases h
          have hlt : i < s.size := by omega
          have hin := len_in hlt
          have hlen : ((s.data.toList.drop i).take (len s i)).length = len s i := by rw [List.length_take, List.length_drop, sz]; omega
          have hat : ∀ k, k < len s i → at' ⟨((s.data.toList.drop i).take (len s i)).toArray⟩ (0 + k) = at' s (i + k) := by
            intro k hk
            have hst : St ⟨((s.data.toList.drop i).take (len s i)).toArray⟩ 0 ((s.data.toList.drop i).take (len s i)) := ⟨[], [], by simp, rfl⟩
            rw [EBx.St.nth hst (by rw [hlen]; exact hk), nth_at s hk hin, ofNat_at]
          have hls := len_same (s := ⟨((s.data.toList.drop i).take (len s i)).toArray⟩) (t := s) (j := 0) (p := i) hl hat
          refine ⟨bad_one _ (by rw [hls, hlen]) (fun e => by rw [e] at hlen; simp at hlen; omega), fun d hd => ?_⟩
          obtain ⟨k, hk, rfl⟩ := List.mem_iff_getElem.1 hd
          rw [hlen] at hk
          rw [nth_at s hk hin, ofNat_at]
          left
          have tt (x : Nat) (hx : tl s x = true) : 128 ≤ at' s x := ((tl_iff s x).1 hx).1
          rcases len_parts s i with e | ⟨e, _⟩ | ⟨e, _, q1⟩ | ⟨e, _, q1, q2⟩ | ⟨e, _, q1, q2, q3⟩
          · exact absurd e hl
          · obtain rfl : k = 0 := by omega
            simp; omega
          · match k, hk with
            | 0, _ => simp; omega
            | 1, _ => have := tt _ q1; omega
            | k + 2, h => omega
          · match k, hk with
            | 0, _ => simp; omega
            | 1, _ => have := tt _ q1; omega
            | 2, _ => have := tt _ q2; omega
            | k + 3, h => omega
          · match k, hk with
            | 0, _ => simp; omega
            | 1, _ => have := tt _ q1; omega
            | 2, _ => have := tt _ q2; omega
            | 3, _ => have := tt _ q3; omega
            | k + 4, h => omega
theorem txl_good {s : ByteArray} : ∀ (f i j : Nat) (B L : List UInt8), bad ⟨B.toArray⟩ 0 = none → Wl B → txl s f i B = .ok (L, j) → bad ⟨L.toArray⟩ 0 = none ∧ Wl L
  | 0, i, j, B, L, _, _, hn => by rw [txl] at hn; cases hn
  | f + 1, i, j, B, L, hB, hW, hn => by
    rw [txl] at hn
    split at hn
    · cases hn
    · split at hn
      · cases hn; exact ⟨hB, hW⟩
      · cases hc : chr s i with
        | error x => rw [hc] at hn; cases hn
        | ok y =>
          obtain ⟨x, m⟩ := y
          rw [hc] at hn
          dsimp only at hn
          obtain ⟨c1, c2⟩ := chr_good hc
          refine txl_good f m j _ L ?_ ?_ hn
          · rw [app_list]
            exact bad_join _ 0 (Nat.le_refl _) (Nat.zero_le _) hB c1
          · intro d hd
            rcases List.mem_append.1 hd with h | h
            · exact hW d h
            · exact c2 d h
theorem tx_of {L : List UInt8} (h1 : bad ⟨L.toArray⟩ 0 = none) (h2 : L.length ≤ 4096) (h3 : Wl L) : tx ⟨L.toArray⟩ = true := by
  have hs := mk_size L
  unfold tx tg verr wrt
  rw [if_pos h1]
  simp only [hs, h2, decide_true, Bool.true_and, beq_self_eq_true, decide_eq_true_eq]
  intro k hk
  have hst : St ⟨L.toArray⟩ 0 L := ⟨[], [], by simp, rfl⟩
  have := EBx.St.nth hst (k := k) hk
  rw [Nat.zero_add] at this
  rw [this]
  exact h3 _ (List.getElem_mem _)
theorem sk_all {p : Nat → Bool} {s : ByteArray} : ∀ f i k, i ≤ k → k < sk p s f i → p (at' s k) = true
  | 0, i, k, h1, h2 => by rw [sk] at h2; omega
  | f + 1, i, k, h1, h2 => by
    rw [sk] at h2
    split at h2
    · next hc =>
      by_cases e : k = i
      · rw [e]; exact hc.2
      · exact sk_all f (i + 1) k (by omega) h2
    · omega
theorem at_cut {s : ByteArray} {i j k : Nat} (hj : j ≤ s.size) (hk : k < j - i) : at' (cut s i j) k = at' s (i + k) := by
  have hs := cut_size s i j hj
  rw [at_get _ k (by omega), at_get s (i + k) (by omega)]
  unfold cut
  simp [ByteArray.getElem_extract]
theorem scan_ok {s : ByteArray} {i j : Nat} {t : Tk} (hi : i ≤ s.size) (h : scan s i = .ok (t, j)) : (t.k = 1 → 0 ≤ t.n) ∧ (t.k = 2 → tx t.t = true) ∧ (t.k = 3 → word t.t 95 = true) := by
  unfold scan at h
  split at h
  · cases h; exact ⟨fun h => (by cases h), fun h => (by cases h), fun h => (by cases h)⟩
  · next hsz =>
    split at h
    · split at h
      · cases h
      · next l m hx =>
        split at h
        · cases h
        · next hl =>
          cases h
          obtain ⟨c1, c2⟩ := txl_good _ _ _ [] l (bad_end (by decide)) (fun d hd => (by cases hd)) hx
          exact ⟨fun h => (by cases h), fun _ => tx_of c1 (by omega) c2, fun h => (by cases h)⟩
    · split at h
      · cases h; exact ⟨fun _ => Int.le_refl 0, fun h => (by cases h), fun h => (by cases h)⟩
      · split at h
        · next hd =>
          split at h
          · next hp =>
            cases h
            refine ⟨fun _ => ?_, fun h => (by cases h), fun h => (by cases h)⟩
            have hip := Nums.itoa_parse _ hp
            simp only
            rcases Int.lt_or_le (Nums.pnum (Sums.bs (cut s i (skp EPure.dig s i)))) 0 with hn | hn
            · exfalso
              have hin := skp_in (p := EPure.dig) (s := s) hi
              have hlt : i < skp EPure.dig s i := skp_lt (by omega) hd
              have hz := cut_size s i (skp EPure.dig s i) hin
              have ha := at_cut (s := s) (i := i) (j := skp EPure.dig s i) (k := 0) hin (by omega)
              rw [Nat.add_zero, at_drop, List.drop_zero] at ha
              generalize Nums.pnum (Sums.bs (cut s i (skp EPure.dig s i))) = n at *
              unfold Lib.itoa at hip
              rw [if_pos hn] at hip
              have hb : (cut s i (skp EPure.dig s i)).data.toList = 45 :: Lib.decDigits n.natAbs := hip.symm
              rw [hb] at ha
              simp only [List.headD_cons] at ha
              rw [← ha] at hd
              revert hd; decide
            · exact hn
          · cases h
        · split at h
          · next hle =>
            split at h
            · next h32 =>
              cases h
              refine ⟨fun h => (by cases h), fun h => (by cases h), fun _ => ?_⟩
              have hin := skp_in (p := wrd) (s := s) hi
              have hw0 : wrd (at' s i) = true := by unfold wrd; rw [hle]; rfl
              have hlt : i < skp wrd s i := skp_lt (by omega) hw0
              have hz := cut_size s i (skp wrd s i) hin
              unfold word
              simp only [Bool.and_eq_true, decide_eq_true_eq]
              refine ⟨by omega, by omega, ?_, fun k hk => ?_⟩
              · rw [at_cut hin (by omega), Nat.add_zero]
                simpa [UBase.let', EPure.let'] using hle
              · rw [hz] at hk
                rw [at_cut hin hk]
                have := sk_all (p := wrd) (s := s) (s.size - i) i (i + k) (by omega) (by show _ < skp wrd s i; omega)
                unfold sign
                unfold wrd at this
                simpa [UBase.let', UBase.dig, EPure.let', EPure.dig] using this
            · cases h
          · split at h
            · cases h
            · cases h; exact ⟨fun h => (by cases h), fun h => (by cases h), fun h => (by cases h)⟩
/-- How many nodes. -/
def nn : List Ex → Nat
  | [] => 0
  | .mk _ _ _ l :: t => 1 + nn l + nn t
theorem nn_nil : nn [] = 0 := by rw [nn]
theorem nn_cons (x : Ex) (t : List Ex) : nn (x :: t) = 1 + nn x.l + nn t := by
  obtain ⟨o, i, s, l⟩ := x
  rw [nn]; rfl
theorem nn_cons1 (x : Ex) (t : List Ex) : nn (x :: t) = nn [x] + nn t := by rw [nn_cons, nn_cons x [], nn_nil]; omega
theorem may_of : ∀ (n : Nat) (l : List Ex) (r : Nat), SizeOf.sizeOf l ≤ n → gdL l → nn l ≤ r → mayL l r = (true, r - nn l) := by
  intro n
  induction n with
  | zero =>
    intro l r h _ _
    cases l with
    | nil => rw [mayL_nil, nn_nil]; rfl
    | cons x t => exact absurd h (by simp)
  | succ n ih =>
    intro l r h hg hr
    cases l with
    | nil => rw [mayL_nil, nn_nil]; rfl
    | cons x t =>
      obtain ⟨o, i, s, k⟩ := x
      obtain ⟨⟨g1, g2, g3⟩, g4⟩ := gdL_cons.1 hg
      rw [nn_cons] at hr ⊢
      simp only [Ex.l] at hr g1 g3 ⊢
      have g1' : (k.length : Int) = kd o := g1
      have g2' : ft o i s = true := g2
      have hno : ¬ (r = 0 ∨ (k.length : Int) ≠ kd o ∨ ft o i s = false) := by
        rintro (h | h | h)
        · omega
        · exact h g1'
        · rw [g2'] at h; cases h
      rw [mayL, if_neg hno]
      rw [ih k (r - 1) (by simp at h; omega) g3 (by omega)]
      simp only
      rw [ih t _ (by simp at h; omega) g4 (by omega)]
      congr 1
      omega
/-- A tree that may be, its Ints ints. -/
def GX (x : Ex) : Prop := gdL [x] ∧ rgL [x]
theorem gx_nil : gdL [] ∧ rgL [] := ⟨by rw [gdL]; trivial, by rw [rgL]; trivial⟩
theorem gx_cons {x : Ex} {t : List Ex} (h : GX x) (ht : gdL t ∧ rgL t) : gdL (x :: t) ∧ rgL (x :: t) :=
  ⟨gdL_cons.2 ⟨(gdL_cons.1 h.1).1, ht.1⟩, rgL_cons.2 ⟨(rgL_cons.1 h.2).1, (rgL_cons.1 h.2).2.1, ht.2⟩⟩
theorem gx_mk {o i : Int} {s : ByteArray} {l : List Ex} (h1 : (l.length : Int) = kd o) (h2 : ft o i s = true) (h3 : -9223372036854775808 ≤ i ∧ i ≤ 9223372036854775807) (h4 : gdL l ∧ rgL l) : GX (.mk o i s l) :=
  ⟨gdL_cons.2 ⟨⟨h1, h2, h4.1⟩, gx_nil.1⟩, rgL_cons.2 ⟨h3, h4.2, gx_nil.2⟩⟩
theorem zero_in : -9223372036854775808 ≤ (0 : Int) ∧ (0 : Int) ≤ 9223372036854775807 := by omega
/-- What stands next may be; how many tokens have been passed. -/
structure Kk (s : ByteArray) (g : Sr) : Prop where
  sr : SrOk s g
  t1 : g.tk.k = 1 → 0 ≤ g.tk.n
  t2 : g.tk.k = 2 → tx g.tk.t = true
  t3 : g.tk.k = 3 → word g.tk.t 95 = true
  pos : g.tk.k ≠ 0 → 1 ≤ g.r
def cn (g : Sr) : Nat := if g.tk.k = 0 then g.r else g.r - 1
theorem adv_k0 {s : ByteArray} {a r : Nat} {g : Sr} (ha : a ≤ s.size) (hr : r ≤ 512) (h : adv s a r = .ok g) : Kk s g ∧ cn g = r := by
  have h1 := (adv_in ha hr h).1
  unfold adv at h
  split at h
  · cases h
  · next t j e =>
    obtain ⟨o1, o2, o3⟩ := scan_ok (skp_in ha) e
    split at h
    · next hk =>
      cases h
      exact ⟨⟨h1, o1, o2, o3, fun h => absurd hk h⟩, by unfold cn; rw [if_pos hk]⟩
    · next hk =>
      split at h
      · cases h
      · cases h
        exact ⟨⟨h1, o1, o2, o3, fun _ => by simp⟩, by unfold cn; rw [if_neg hk]; simp⟩
theorem adv_k {s : ByteArray} {g g' : Sr} (hg : Kk s g) (hk : g.tk.k ≠ 0) (h : adv s g.a g.r = .ok g') : Kk s g' ∧ cn g' = cn g + 1 := by
  obtain ⟨h1, h2⟩ := adv_k0 hg.sr.a hg.sr.r h
  refine ⟨h1, ?_⟩
  rw [h2]
  unfold cn
  rw [if_neg hk]
  have := hg.pos hk
  omega
theorem cn_le {s : ByteArray} {g : Sr} (h : Kk s g) : cn g ≤ 512 := by
  have := h.sr.r
  unfold cn
  split <;> omega
theorem tak_k {s : ByteArray} {x : List UInt8} {g g' : Sr} (hg : Kk s g) (h : tak s x g = .ok g') : Kk s g' ∧ cn g' = cn g + 1 := by
  unfold tak at h
  split at h
  · next hi => exact adv_k hg (is_k hi) h
  · cases h
/-- What such a reader reads may be, and has no more nodes than tokens were passed. -/
def Gp (s : ByteArray) (q : P) : Prop := ∀ g x g', Kk s g → q g = .ok (x, g') → Kk s g' ∧ GX x ∧ nn [x] + cn g ≤ cn g'
theorem nn_mk (o i : Int) (s : ByteArray) (l : List Ex) : nn [.mk o i s l] = 1 + nn l := by rw [nn_cons, nn_nil]; rfl
theorem nn_nd (o : Int) (l : List Ex) : nn [nd o l] = 1 + nn l := nn_mk o 0 ⟨#[]⟩ l
theorem lvs_range : ∀ k, k < 11 → ∀ p ∈ lvs.getD k [], 12 ≤ p.2 ∧ p.2 ≤ 30 := by decide
theorem opOf_mem {t : Tk} {o : Int} : ∀ {l : List (List UInt8 × Int)}, opOf t l = some o → ∃ p ∈ l, p.2 = o
  | [], h => by rw [opOf] at h; cases h
  | (x, y) :: l, h => by
    rw [opOf] at h
    split at h
    · injection h with h; exact ⟨(x, y), by simp, h⟩
    · obtain ⟨p, hp, e⟩ := opOf_mem h
      exact ⟨p, by simp [hp], e⟩
theorem op_range {t : Tk} {o : Int} {k : Nat} (h : opOf t (lvs.getD k []) = some o) : 12 ≤ o ∧ o ≤ 30 := by
  obtain ⟨p, hp, rfl⟩ := opOf_mem h
  rcases Nat.lt_or_ge k 11 with hk | hk
  · exact lvs_range k hk p hp
  · rw [show lvs.getD k [] = [] by simp [List.getD, List.getElem?_eq_none (show lvs.length ≤ k from hk)]] at hp
    cases hp
theorem ft_nd {o : Int} (h : o ≠ 4 ∧ o ≠ 5 ∧ o ≠ 6 ∧ o ≠ 7 ∧ o ≠ 9) : ft o 0 ⟨#[]⟩ = true := by
  unfold ft
  rw [if_neg h.1, if_neg h.2.1, if_neg h.2.2.1, if_neg h.2.2.2.1, if_neg h.2.2.2.2]
  rfl
theorem gx_op {o : Int} (h1 : 12 ≤ o) (h2 : o ≤ 30) {a b : Ex} (ha : GX a) (hb : GX b) : GX (nd o [a, b]) :=
  gx_mk (by unfold kd; rw [if_neg (by omega), if_neg (by omega), if_pos (by omega)]; rfl) (ft_nd (by omega)) zero_in (gx_cons ha (gx_cons hb gx_nil))
theorem ded_g (s : ByteArray) : Gp s ded := by
  intro g x g' hg h
  unfold ded at h
  split at h <;> cases h
theorem more_g {s : ByteArray} {k : Nat} {q : P} (hq : Gp s q) : ∀ f l g x g' c0, Kk s g → GX l → nn [l] + c0 ≤ cn g → more s k q f l g = .ok (x, g') → Kk s g' ∧ GX x ∧ nn [x] + c0 ≤ cn g'
  | 0, l, g, x, g', c0, hg, hl, hc, h => by rw [more] at h; cases h
  | f + 1, l, g, x, g', c0, hg, hl, hc, h => by
    rw [more] at h
    split at h
    · cases h; exact ⟨hg, hl, hc⟩
    · next ho =>
      split at h
      · cases h
      · next e1 =>
        obtain ⟨h1, m1⟩ := adv_k hg (opOf_k ho) e1
        split at h
        · cases h
        · next e2 =>
          obtain ⟨h2, g2, m2⟩ := hq _ _ _ h1 e2
          have hr := op_range ho
          exact more_g hq f _ _ _ _ c0 h2 (gx_op hr.1 hr.2 hl g2) (by rw [nn_nd, nn_cons1]; omega) h
theorem lev_g {s : ByteArray} {q : P} (hq : Gp s q) : ∀ j, Gp s (lev s q j)
  | 0 => hq
  | j + 1 => by
    intro g x g' hg h
    rw [lev] at h
    dsimp only at h
    split at h
    · cases h
    · next e =>
      obtain ⟨h1, g1, m1⟩ := lev_g hq j _ _ _ hg e
      exact more_g (lev_g hq j) _ _ _ _ _ (cn g) h1 g1 m1 h
theorem chc_g {s : ByteArray} {S C : P} (hS : Gp s S) (hC : Gp s C) : Gp s (chc s S C) := by
  intro g x g' hg h
  unfold chc at h
  split at h
  · cases h
  · next e =>
    obtain ⟨h1, g1, m1⟩ := lev_g hS 11 _ _ _ hg e
    split at h
    · next hi =>
      split at h
      · cases h
      · next e2 =>
        obtain ⟨h2, m2⟩ := adv_k h1 (is_k hi) e2
        split at h
        · cases h
        · next e3 =>
          obtain ⟨h3, g3, m3⟩ := hC _ _ _ h2 e3
          split at h
          · cases h
          · next e4 =>
            obtain ⟨h4, m4⟩ := tak_k h3 e4
            split at h
            · cases h
            · next e5 =>
              obtain ⟨h5, g5, m5⟩ := hC _ _ _ h4 e5
              cases h
              exact ⟨h5, gx_mk (by rfl) (ft_nd (by decide)) zero_in (gx_cons g1 (gx_cons g3 (gx_cons g5 gx_nil))), by rw [nn_nd, nn_cons1, nn_cons1 _ [_]]; omega⟩
    · cases h
      exact ⟨h1, g1, m1⟩
theorem btw_g {s : ByteArray} {C : P} (hC : Gp s C) (o c : List UInt8) : ∀ g x g', Kk s g → btw s C o c g = .ok (x, g') → Kk s g' ∧ GX x ∧ nn [x] + cn g + 2 ≤ cn g' := by
  intro g x g' hg h
  unfold btw at h
  split at h
  · cases h
  · next e1 =>
    obtain ⟨h1, m1⟩ := tak_k hg e1
    split at h
    · cases h
    · next e2 =>
      obtain ⟨h2, g2, m2⟩ := hC _ _ _ h1 e2
      split at h
      · cases h
      · next e3 =>
        obtain ⟨h3, m3⟩ := tak_k h2 e3
        cases h
        exact ⟨h3, g2, by omega⟩
theorem ft_field {t : ByteArray} (h : word t 95 = true) : ft 7 0 t = true := by
  show ((0 : Int) == 0 && word t 95) = true
  rw [h]; rfl
theorem prt_g {s : ByteArray} {C : P} (hC : Gp s C) : ∀ f l g x g' c0, Kk s g → GX l → nn [l] + c0 ≤ cn g → prt s C f l g = .ok (x, g') → Kk s g' ∧ GX x ∧ nn [x] + c0 ≤ cn g'
  | 0, l, g, x, g', c0, hg, hl, hc, h => by rw [prt] at h; cases h
  | f + 1, l, g, x, g', c0, hg, hl, hc, h => by
    rw [prt] at h
    split at h
    · next hi =>
      split at h
      · cases h
      · next e1 =>
        obtain ⟨h1, m1⟩ := adv_k hg (is_k hi) e1
        split at h
        · next h3 =>
          split at h
          · cases h
          · next e2 =>
            obtain ⟨h2, m2⟩ := adv_k h1 (by omega) e2
            exact prt_g hC f _ _ _ _ c0 h2 (gx_mk (by rfl) (ft_field (h1.t3 h3)) zero_in (gx_cons hl gx_nil)) (by rw [nn_mk]; omega) h
        · cases h
    · split at h
      · split at h
        · cases h
        · next e1 =>
          obtain ⟨h1, g1, m1⟩ := btw_g hC _ _ _ _ _ hg e1
          exact prt_g hC f _ _ _ _ c0 h1 (show GX (nd 8 [_, _]) from gx_mk (by rfl) (ft_nd (by decide)) zero_in (gx_cons hl (gx_cons g1 gx_nil))) (by rw [nn_nd, nn_cons1]; omega) h
      · cases h
        exact ⟨hg, hl, hc⟩
theorem ft_var {t : ByteArray} (h : word t 95 = true) (hn : wordOp t.data.toList = none) : ft 6 0 t = true := by
  show ((0 : Int) == 0 && (word t 95 && !(Lib.containsS wdl t))) = true
  rw [h]
  have hc : Lib.containsS wdl t = false := by
    cases hc : Lib.containsS wdl t with
    | false => rfl
    | true =>
      exfalso
      have hm := (Lib.containsS_iff wdl t).1 hc
      unfold wdl at hm
      simp only [List.mem_cons, List.not_mem_nil, or_false] at hm
      rcases hm with rfl | rfl | rfl | rfl
      · revert h; decide
      · revert hn; decide
      · revert hn; decide
      · revert hn; decide
  rw [hc]; rfl
theorem word_range {x : List UInt8} {o : Int} (h : wordOp x = some o) : o = 1 ∨ o = 2 ∨ o = 3 := by
  unfold wordOp at h
  repeat' split at h
  all_goals first
    | (injection h with h; omega)
    | (cases h)
theorem call_range {x : List UInt8} {c : Int} (h : callOf x = some c) : 1 ≤ c ∧ c ≤ 8 := by
  unfold callOf at h
  repeat' split at h
  all_goals first
    | (injection h with h; omega)
    | (cases h)
theorem nmd_g {s : ByteArray} {C : P} (hC : Gp s C) {t : ByteArray} (ht : word t 95 = true) : ∀ g x g' c0, Kk s g → c0 + 1 ≤ cn g → nmd s C t g = .ok (x, g') → Kk s g' ∧ GX x ∧ nn [x] + c0 ≤ cn g' := by
  intro g x g' c0 hg hc h
  unfold nmd at h
  split at h
  · next ho =>
    cases h
    have hr := word_range ho
    refine ⟨hg, gx_mk (by unfold kd; rw [if_pos (by omega)]; rfl) (ft_nd (by omega)) zero_in gx_nil, by rw [nn_nd, nn_nil]; omega⟩
  · next hn =>
    have hv : GX (.mk 6 0 t []) := gx_mk (by decide) (ft_var ht hn) zero_in gx_nil
    split at h
    · next hcl =>
      split at h
      · split at h
        · cases h
        · next e =>
          obtain ⟨h1, g1, m1⟩ := btw_g hC _ _ _ _ _ hg e
          cases h
          have hr := call_range hcl
          refine ⟨h1, gx_mk (by rfl) ?_ (by omega) (gx_cons g1 gx_nil), by rw [nn_mk]; omega⟩
          unfold ft
          simp [hr.1, hr.2]
          rfl
      · cases h; exact ⟨hg, hv, by rw [nn_mk, nn_nil]; omega⟩
    · cases h; exact ⟨hg, hv, by rw [nn_mk, nn_nil]; omega⟩
theorem wor_g {s : ByteArray} {C : P} (hC : Gp s C) : Gp s (wor s C) := by
  intro g x g' hg h
  unfold wor at h
  split at h
  · next hk =>
    split at h
    · cases h
    · next e =>
      obtain ⟨h1, m1⟩ := adv_k hg (by omega) e
      cases h
      have hn := hg.sr.t.hn
      have h0 := hg.t1 hk
      refine ⟨h1, gx_mk (by decide) ?_ hn gx_nil, by rw [nn_mk, nn_nil]; omega⟩
      unfold ft
      simp [h0]
      rfl
  · split at h
    · next hk =>
      split at h
      · cases h
      · next e =>
        obtain ⟨h1, m1⟩ := adv_k hg (by omega) e
        cases h
        refine ⟨h1, gx_mk (by decide) ?_ zero_in gx_nil, by rw [nn_mk, nn_nil]; omega⟩
        show ((0 : Int) == 0 && tx g.tk.t) = true
        rw [hg.t2 hk]; rfl
    · split at h
      · next hk =>
        split at h
        · cases h
        · next e =>
          obtain ⟨h1, m1⟩ := adv_k hg (by omega) e
          exact nmd_g hC (hg.t3 hk) _ _ _ (cn g) h1 (by omega) h
      · obtain ⟨h1, g1, m1⟩ := btw_g hC _ _ _ _ _ hg h
        exact ⟨h1, g1, by omega⟩
theorem par_g {s : ByteArray} {C : P} (hC : Gp s C) : Gp s (par s C) := by
  intro g x g' hg h
  unfold par at h
  split at h
  · cases h
  · next e =>
    obtain ⟨h1, g1, m1⟩ := wor_g hC _ _ _ hg e
    exact prt_g hC _ _ _ _ _ (cn g) h1 g1 m1 h
theorem sgd_g {s : ByteArray} {S C : P} (hS : Gp s S) (hC : Gp s C) : Gp s (sgd s S C) := by
  intro g x g' hg h
  unfold sgd at h
  split at h
  · next hi =>
    split at h
    · cases h
    · next e =>
      obtain ⟨h1, m1⟩ := adv_k hg (is_k hi) e
      split at h
      · cases h
      · next e2 =>
        obtain ⟨h2, g2, m2⟩ := hS _ _ _ h1 e2
        cases h
        exact ⟨h2, gx_mk (by rfl) (ft_nd (by decide)) zero_in (gx_cons g2 gx_nil), by rw [nn_nd]; omega⟩
  · split at h
    · next hi =>
      split at h
      · cases h
      · next e =>
        obtain ⟨h1, m1⟩ := adv_k hg (is_k hi) e
        split at h
        · cases h
        · next e2 =>
          obtain ⟨h2, g2, m2⟩ := hS _ _ _ h1 e2
          cases h
          exact ⟨h2, gx_mk (by rfl) (ft_nd (by decide)) zero_in (gx_cons g2 gx_nil), by rw [nn_nd]; omega⟩
    · exact par_g hC _ _ _ hg h
theorem lv2_g (s : ByteArray) : ∀ m, Gp s (lv2 s m).1 ∧ Gp s (lv2 s m).2
  | 0 => ⟨ded_g s, chc_g (ded_g s) (ded_g s)⟩
  | m + 1 => ⟨sgd_g (lv2_g s m).1 (lv2_g s m).2, chc_g (sgd_g (lv2_g s m).1 (lv2_g s m).2) (lv2_g s m).2⟩
/-- What is read may be. -/
theorem prs_good {s : ByteArray} {x : Ex} (h : prs s = .ok x) : (mayL [x] 512).1 = true ∧ gd x ∧ rgL [x] := by
  unfold prs at h
  split at h
  · cases h
  · next e1 =>
    obtain ⟨h1, c1⟩ := adv_k0 (Nat.zero_le _) (by omega) e1
    split at h
    · cases h
    · next e2 =>
      obtain ⟨h2, g2, m2⟩ := (lv2_g s 32).2 _ _ _ h1 e2
      split at h
      · cases h
        have hc := cn_le h2
        refine ⟨by rw [may_of _ [x] 512 (Nat.le_refl _) g2.1 (by omega)], (gdL_cons.1 g2.1).1, g2.2⟩
      · cases h
end Go.Proofs.YtnoohlmlpijhaaaDoor.EGd

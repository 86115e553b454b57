/- The law ProgramForms, gone through. -/
import Derived.Test.YtmodaihngcnlfaaYAw
namespace Go.Proofs.Ytmodaihngcnlfaa.WFm
open Go.RowKit Go.Proofs.Ytmodaihngcnlfaa.Leb Go.Proofs.Ytmodaihngcnlfaa.YPl Go.Proofs.Ytmodaihngcnlfaa.YRd Go.Proofs.Ytmodaihngcnlfaa.YWr Go.Proofs.Ytmodaihngcnlfaa.YRr Go.Proofs.Ytmodaihngcnlfaa.YRs Go.Proofs.Ytmodaihngcnlfaa.YRb Go.Proofs.Ytmodaihngcnlfaa.YRl Go.Proofs.Ytmodaihngcnlfaa.YRp Go.Proofs.Ytmodaihngcnlfaa.YDe Go.Proofs.Ytmodaihngcnlfaa.YDf Go.Proofs.Ytmodaihngcnlfaa.YAk Go.Proofs.Ytmodaihngcnlfaa.YFm
set_option linter.unusedVariables false

/-- What Decode answers, as four rows, a place and an error. -/
theorem dec4 {w : World} {ia : Option Addr} {n cap : Nat} {b : By} (hS : Seen w (.slice ia n cap) b) (hl : ∀ g, ia = some g → g.block < w.heap.size) :
    Calls Try.prog 9 #[.slice ia n cap] w fun e w' => Below w.heap.size w w' ∧ ∃ (a1 a2 a3 a4 : Option Addr) (n1 n2 n3 n4 d1 d2 d3 d4 z c : Nat), e = .returned (.tuple #[.agg #[.slice a1 n1 d1, .slice a2 n2 d2, .slice a3 n3 d3, .slice a4 n4 d4], .int .i64 z, .int .i64 c]) ∧
      ((∃ x, dec b = .ok x ∧ z = 0 ∧ c = 0 ∧ YEn.InPg w'.heap.size 65 w' (.agg #[.slice a1 n1 d1, .slice a2 n2 d2, .slice a3 n3 d3, .slice a4 n4 d4]) x) ∨ dec b = .error (z, c)) := by
  refine (YDc.decode_c hS hl).mono ?_
  rintro e w' ⟨hb, hA⟩
  cases hd : dec b with
  | error t =>
    obtain ⟨z, c⟩ := t
    rw [hd] at hA
    obtain rfl := hA
    exact ⟨hb, none, none, none, none, 0, 0, 0, 0, 0, 0, 0, 0, z, c, rfl, .inr rfl⟩
  | ok x =>
    rw [hd] at hA
    obtain ⟨v, rfl, hv⟩ := hA
    have hp := HvP.pg (K := w'.heap.size) hv (fun b h => h.2)
    have hp0 := hp
    obtain ⟨a, n1, c1, b1, n2, c2, c, n3, c3, d, n4, c4, rfl, -⟩ := hp0
    exact ⟨hb, a, b1, c, d, n1, n2, n3, n4, c1, c2, c3, c4, 0, 0, rfl, .inl ⟨x, rfl, rfl, rfl, hp⟩⟩
theorem own_lt {w : World} {B : Nat} {v : Value} {L : By} (h : Own w B v L) : ∃ a n c, v = .slice a n c ∧ (∀ g, a = some g → g.block < w.heap.size) := by
  rcases h.2 with ⟨rfl, h0⟩ | ⟨g, cap, cur, rfl, hb, hh, -⟩
  · exact ⟨none, 0, 0, rfl, fun g h => by cases h⟩
  · exact ⟨_, _, _, rfl, fun g' h => by cases h; exact (Array.getElem?_eq_some_iff.1 hh).1⟩
theorem copy_w (v : Value) (L : By) (w : World) (h : Seen w v L) (hl : L.length ≤ 140737488355328) :
    Calls Try.prog 11 #[v] w fun e w' => ∃ a n c, e = .returned (.slice a n c) ∧ (∀ g, a = some g → g.block < w'.heap.size) ∧ Own w' w.heap.size (.slice a n c) L ∧ Below w.heap.size w w' := by
  refine (copy_c v L w h hl).mono ?_
  rintro e w' ⟨u, rfl, -, ho, hb⟩
  obtain ⟨a, n, c, rfl, h⟩ := own_lt ho
  exact ⟨a, n, c, rfl, h, ho, hb⟩
theorem seen_w {w w' : World} {v : Value} {L : By} (h : Seen w v L) (hb : Below w.heap.size w w') : Seen w' v L := by
  obtain ⟨a, cap, rfl, hlc, hm, hnil, hcell⟩ := h
  refine ⟨a, cap, rfl, hlc, hm, hnil, fun g o s e j hj => ?_⟩
  obtain ⟨hs, hc⟩ := hcell g o s e j hj
  exact ⟨hs, (hb.cell (block_lt_of_cell hc)).trans hc⟩
theorem seen_front {w : World} {a : Option Addr} {n cap k : Nat} {L : By} (h : Seen w (.slice a n cap) L) (hk : k ≤ L.length) : Seen w (.slice a (L.take k).length cap) (L.take k) := by
  obtain ⟨a', c, e, h1, h2, h3, h4⟩ := h
  cases e
  have hl : (L.take k).length = k := by rw [List.length_take]; omega
  refine ⟨a, cap, rfl, by omega, h2, h3, fun g o s e j hj => ?_⟩
  obtain ⟨hs, hc⟩ := h4 g o s e j (by omega)
  exact ⟨hs, by rw [hc, List.getElem_take]⟩
theorem cut_at {at_ : Int} {n : Nat} (h0 : -9223372036854775808 ≤ at_) (h1 : at_ ≤ 9223372036854775807) (hn : 0 < n) (hm : n ≤ 1048576) : ∃ k : Nat, wrap64 ((IntKind.u64.wrap at_).tmod (n : Int)) = (k : Int) ∧ k < n := by
  have e1 : 0 ≤ IntKind.u64.wrap at_ := by rw [IntKind.wrap_u64]; omega
  obtain ⟨m, hm'⟩ : ∃ m : Nat, IntKind.u64.wrap at_ = (m : Int) := ⟨(IntKind.u64.wrap at_).toNat, by omega⟩
  have e2 : (IntKind.u64.wrap at_).tmod (n : Int) = ((m % n : Nat) : Int) := by rw [hm']; rfl
  have hlt : m % n < n := Nat.mod_lt _ hn
  refine ⟨m % n, ?_, hlt⟩
  rw [e2]
  unfold wrap64
  omega
set_option maxRecDepth 20000 in
set_option maxHeartbeats 6400000 in
theorem walk {w : World} {ba : Option Addr} {bc : Nat} {b : By} (at_ : Int) (h0 : -9223372036854775808 ≤ at_) (h1 : at_ ≤ 9223372036854775807) (more : UInt8) (hb : Seen w (.slice ba b.length bc) b) (hl : b.length ≤ 140737488351232) :
    Calls Try.prog 4 #[.slice ba b.length bc, .int .i64 at_, .int .u8 (more.toNat : Int)] w fun e w' => e = .returned (.bool true) ∧ Below w.heap.size w w' := by
  have cN : ∀ (x : Int) (W : World), Calls Try.prog 8 #[.int .i64 x] W fun e w' => e = .returned (.int .i64 x) ∧ W = w' := fun x W => (num_c x W).mono fun e w' h => ⟨h.1, h.2.symm⟩
  have cA := YAw.awake_c w
  have HB : Hid (∀ W, Below w.heap.size w W → Seen W (.slice ba b.length bc) b) := fun W hW => seen_w hb hW
  have hbc : b.length ≤ bc ∧ bc ≤ 9223372036854775807 := by obtain ⟨a, c, e, h, h', -⟩ := hb; cases e; unfold maxLen at h'; exact ⟨h, by omega⟩
  obtain ⟨hbc1, hbc2⟩ := hbc
  clear hb
  go_enter Try.func4, Try.ntmps4
  go_wp2_with fail
  refine cA.mono ?_
  rintro e W1 ⟨rfl, b1⟩
  have B1 : Hid (Below w.heap.size w W1) := b1
  have c1 := copy_w _ b W1 (HB.out W1 b1) (by omega)
  clear cA b1
  go_wp2_with fail
  refine c1.mono ?_
  rintro e W2 ⟨ya, yn, yc, rfl, hyl, ho2, b2⟩
  have B2 : Hid (Below w.heap.size w W2) := B1.out.trans (b2.mono B1.out.size)
  have c2 := dec4 ho2.seen hyl
  clear c1 b2 ho2 hyl
  go_wp2_with fail
  refine c2.mono ?_
  rintro e W3 ⟨b3, a1, a2, a3, a4, n1, n2, n3, n4, d1, d2, d3, d4, z, c, rfl, hD⟩
  have B3 : Hid (Below w.heap.size w W3) := B2.out.trans (b3.mono B2.out.size)
  have HD : Hid _ := hD
  clear c2 b3 hD

  obtain ⟨Wz1, hWz1⟩ : ∃ W, W3.alloc (.cells #[.slice none 0 0, .slice none 0 0, .slice none 0 0, .slice none 0 0] 27) = W := ⟨_, rfl⟩
  obtain ⟨W4, hW4⟩ : ∃ W, W3.alloc (.cells #[.slice a1 n1 d1, .slice a2 n2 d2, .slice a3 n3 d3, .slice a4 n4 d4] 27) = W := ⟨_, rfl⟩
  have nz1 : Wz1.heap[W3.heap.size]? = some (.cells #[.slice none 0 0, .slice none 0 0, .slice none 0 0, .slice none 0 0] 27 (0, 0)) := by rw [← hWz1]; exact heap_alloc_new W3 _
  have hWs1 : (((Wz1.setCell ⟨W3.heap.size, 0, none⟩ (.slice a1 n1 d1)).setCell ⟨W3.heap.size, 1, none⟩ (.slice a2 n2 d2)).setCell ⟨W3.heap.size, 2, none⟩ (.slice a3 n3 d3)).setCell ⟨W3.heap.size, 3, none⟩ (.slice a4 n4 d4) = W4 := by rw [← hWz1, ← hW4]; exact TPure.box4 _ _ _ _ _ _ _ _ _ _
  have nW4 : W4.heap[W3.heap.size]? = some (.cells #[.slice a1 n1 d1, .slice a2 n2 d2, .slice a3 n3 d3, .slice a4 n4 d4] 27 (0, 0)) := by rw [← hW4]; exact heap_alloc_new W3 _
  have bW4 : Below W3.heap.size W3 W4 := by rw [← hW4]; exact (Below.refl _ W3).alloc (Nat.le_refl _) _
  have zz10 := cell_of nz1 0 _ rfl
  have zf10 := TBase.frozen_box nz1 0
  have zz11 := cell_of nz1 1 _ rfl
  have zf11 := TBase.frozen_box nz1 1
  have zz12 := cell_of nz1 2 _ rfl
  have zf12 := TBase.frozen_box nz1 2
  have zz13 := cell_of nz1 3 _ rfl
  have zf13 := TBase.frozen_box nz1 3
  clear nz1 hW4
  have B4 : Hid (Below w.heap.size w W4) := B3.out.trans (bW4.mono B3.out.size)
  have S34 : Hid (Below W3.heap.size W3 W4) := bW4
  have x0 := cell_of nW4 0 _ rfl
  have x1 := cell_of nW4 1 _ rfl
  have x2 := cell_of nW4 2 _ rfl
  have x3 := cell_of nW4 3 _ rfl
  clear bW4 nW4

  by_cases hc0 : c = 0

  rotate_left 1
  · have hz : z ≤ b.length ∧ (c = 2100 ∨ c = 2101) := by
      rcases HD.out with ⟨x, -, -, h, -⟩ | h
      · exact absurd h hc0
      · exact dec_err h
    obtain ⟨hz1, hz2⟩ := hz
    have hcn : (((c : Nat) : Int) != 0) = true := by simp [hc0]
    have hz1' : (z : Int) ≤ (b.length : Int) := by omega
    clear HD
    rcases hz2 with rfl | rfl
    · go_wp2_with fail
      try rw [hWs1]
      refine (cN _ _).mono ?_
      rintro e w9 ⟨rfl, rfl⟩
      go_wp2_with fail
      refine (cN _ _).mono ?_
      rintro e w9 ⟨rfl, rfl⟩
      go_wp2_with fail
      go_ret
      exact ⟨rfl, B4.out⟩
    · go_wp2_with fail
      try rw [hWs1]
      refine (cN _ _).mono ?_
      rintro e w9 ⟨rfl, rfl⟩
      go_wp2_with fail
      refine (cN _ _).mono ?_
      rintro e w9 ⟨rfl, rfl⟩
      go_wp2_with fail
      refine (cN _ _).mono ?_
      rintro e w9 ⟨rfl, rfl⟩
      go_wp2_with fail
      go_ret
      exact ⟨rfl, B4.out⟩
  subst hc0
  obtain ⟨x, hdx, hin⟩ : ∃ x, dec b = .ok x ∧ YEn.InPg W3.heap.size 65 W3 (.agg #[.slice a1 n1 d1, .slice a2 n2 d2, .slice a3 n3 d3, .slice a4 n4 d4]) x := by
    rcases HD.out with ⟨x, h1, -, -, h2⟩ | h
    · exact ⟨x, h1, h2⟩
    · rcases (dec_err h).2 with h | h <;> cases h
  have HX : Hid (dec b = .ok x) := hdx
  have cE := YEd.encode_c x (hin.below S34.out) S34.out.size
  rw [YBt.enc_dec hdx] at cE
  have hpos := dec_pos hdx
  have hmax := (dec_ok hdx).1
  clear HD hin hdx
  go_wp2_with fail
  try rw [hWs1]
  refine (cN _ _).mono ?_
  rintro e w9 ⟨rfl, rfl⟩
  go_wp2_with fail
  refine cE.mono ?_
  rintro e W5 ⟨b5, ea, en, ec, rfl, ho5⟩
  have B5 : Hid (Below w.heap.size w W5) := B4.out.trans (b5.mono B4.out.size)
  have cS := same_c _ _ _ W5 (HB.out W5 B5.out) ho5.seen
  clear cE b5 ho5 hWs1 hWz1 zz10 zz11 zz12 zz13 zf10 zf11 zf12 zf13 x0 x1 x2 x3
  go_wp2_with fail
  refine (cN _ _).mono ?_
  rintro e w9 ⟨rfl, rfl⟩
  go_wp2_with fail
  refine cS.mono ?_
  rintro e w9 ⟨rfl, h9⟩
  replace h9 := h9.symm
  subst h9

  obtain ⟨k, hk, hkl⟩ := cut_at h0 h1 hpos hmax
  have c6 := copy_w _ (b.take k) W5 (seen_front (HB.out W5 B5.out) (Nat.le_of_lt hkl)) (by rw [List.length_take]; omega)
  obtain ⟨zc, hzc, hcut⟩ := dec_cut HX.out hkl
  have hmor := dec_more HX.out more
  have HCUT : Hid (dec (b.take k) = .error (zc, 2100)) := hcut
  have HMOR : Hid _ := hmor
  have htl : (b.take k).length = k := by rw [List.length_take]; omega
  rw [show (.slice ba (b.take k).length bc : Value) = .slice ba k bc by rw [htl]] at c6
  clear cS hcut hmor htl
  go_wp2_with fail
  refine c6.mono ?_
  rintro e W6 ⟨fa, fn, fc, rfl, hfl, ho6, b6⟩
  have B6 : Hid (Below w.heap.size w W6) := B5.out.trans (b6.mono B5.out.size)
  have c7 := dec4 ho6.seen hfl
  clear c6 b6 ho6 hfl
  go_wp2_with fail
  refine c7.mono ?_
  rintro e W7 ⟨b7, a1q, a2q, a3q, a4q, n1q, n2q, n3q, n4q, d1q, d2q, d3q, d4q, z2, c2, rfl, hD⟩
  have B7 : Hid (Below w.heap.size w W7) := B6.out.trans (b7.mono B6.out.size)
  obtain ⟨rfl, rfl⟩ : z2 = zc ∧ c2 = 2100 := by
    rcases hD with ⟨y, h, -⟩ | h
    · rw [HCUT.out] at h; cases h
    · rw [HCUT.out] at h; cases h; exact ⟨rfl, rfl⟩
  clear c7 b7 hD HCUT

  obtain ⟨Wz2, hWz2⟩ : ∃ W, W7.alloc (.cells #[.slice none 0 0, .slice none 0 0, .slice none 0 0, .slice none 0 0] 27) = W := ⟨_, rfl⟩
  obtain ⟨W8, hW8⟩ : ∃ W, W7.alloc (.cells #[.slice a1q n1q d1q, .slice a2q n2q d2q, .slice a3q n3q d3q, .slice a4q n4q d4q] 27) = W := ⟨_, rfl⟩
  have nz2 : Wz2.heap[W7.heap.size]? = some (.cells #[.slice none 0 0, .slice none 0 0, .slice none 0 0, .slice none 0 0] 27 (0, 0)) := by rw [← hWz2]; exact heap_alloc_new W7 _
  have hWs2 : (((Wz2.setCell ⟨W7.heap.size, 0, none⟩ (.slice a1q n1q d1q)).setCell ⟨W7.heap.size, 1, none⟩ (.slice a2q n2q d2q)).setCell ⟨W7.heap.size, 2, none⟩ (.slice a3q n3q d3q)).setCell ⟨W7.heap.size, 3, none⟩ (.slice a4q n4q d4q) = W8 := by rw [← hWz2, ← hW8]; exact TPure.box4 _ _ _ _ _ _ _ _ _ _
  have nW8 : W8.heap[W7.heap.size]? = some (.cells #[.slice a1q n1q d1q, .slice a2q n2q d2q, .slice a3q n3q d3q, .slice a4q n4q d4q] 27 (0, 0)) := by rw [← hW8]; exact heap_alloc_new W7 _
  have bW8 : Below W7.heap.size W7 W8 := by rw [← hW8]; exact (Below.refl _ W7).alloc (Nat.le_refl _) _
  have zz20 := cell_of nz2 0 _ rfl
  have zf20 := TBase.frozen_box nz2 0
  have zz21 := cell_of nz2 1 _ rfl
  have zf21 := TBase.frozen_box nz2 1
  have zz22 := cell_of nz2 2 _ rfl
  have zf22 := TBase.frozen_box nz2 2
  have zz23 := cell_of nz2 3 _ rfl
  have zf23 := TBase.frozen_box nz2 3
  clear nz2 hW8
  have B8 : Hid (Below w.heap.size w W8) := B7.out.trans (bW8.mono B7.out.size)
  have c9 := copy_w _ b W8 (HB.out W8 B8.out) (by omega)
  clear bW8 nW8
  go_wp2_with fail
  try rw [hWs2]
  refine c9.mono ?_
  rintro e W9 ⟨ga, gn, gc, rfl, hgl, ho9, b9⟩
  have B9 : Hid (Below w.heap.size w W9) := B8.out.trans (b9.mono B8.out.size)
  have l9 := b9.size
  obtain ⟨i0, hi, hz0, hz1, hz2⟩ := info_parts info5
  obtain ⟨W10, hW10⟩ : ∃ W, W9.alloc (.cells #[.int .u8 (more.toNat : Int)] 5) = W := ⟨_, rfl⟩
  have b10 : Below W9.heap.size W9 W10 := by rw [← hW10]; exact (Below.refl _ W9).alloc (Nat.le_refl _) _
  have n10 : W10.heap[W9.heap.size]? = some (.cells #[.int .u8 (more.toNat : Int)] 5 (0, 0)) := by rw [← hW10]; exact heap_alloc_new W9 _
  have l10 := b10.size
  have B10 : Hid (Below w.heap.size w W10) := B9.out.trans (b10.mono B9.out.size)
  have o10 := YWr.own_below ho9 b10
  have hcl := src_of (c := [.int .u8 (more.toNat : Int)]) n10
  clear c9 b9 b10 n10 ho9 hgl hWs2 hWz2 zz20 zz21 zz22 zz23 zf20 zf21 zf22 zf23
  go_wp2_with (first
    | (at_builtin; (try rw [hW10]); refine YAp.app_seen rfl _ _ 30 rfl W8.heap.size 5 i0 (.int .u8 0) 1 1 Try.underlying30 hi hz0 hz1 hz2 rfl (by decide) _ _ _ rfl o10 _ 1 _ [.int .u8 (more.toNat : Int)] rfl hcl rfl (by intro u hu; simp at hu; subst hu; rfl) (by unfold maxLen; omega) (by omega) (by omega) ?_))
  intro v' W11 hown hgrow _
  have o11 : Own W11 W8.heap.size v' (b ++ [more]) := by unfold Own; rw [cellsL_append, List.length_append]; exact hown
  obtain ⟨ha, hn, hc, rfl, hhl⟩ := own_lt o11
  have B11 : Hid (Below w.heap.size w W11) := B10.out.grown hgrow B10.out.size (fun r hr => by have := (World.ownsRow.lt o10 r hr).1; have := B8.out.size; omega)
  have c12 := dec4 o11.seen hhl
  clear hown hgrow o10 o11 hhl hcl hi hz0 hz1 hz2
  go_wp2_with fail
  refine c12.mono ?_
  rintro e W12 ⟨b12, a1r, a2r, a3r, a4r, n1r, n2r, n3r, n4r, d1r, d2r, d3r, d4r, z3, c3, rfl, hD⟩
  have B12 : Hid (Below w.heap.size w W12) := B11.out.trans (b12.mono B11.out.size)
  have hD3 : dec (b ++ [more]) = .error (z3, c3) := by
    rcases hD with ⟨y, h, -⟩ | h
    · rw [HMOR.out] at h; split at h <;> cases h
    · exact h
  rw [HMOR.out] at hD3
  clear c12 b12 hD HMOR
  obtain ⟨Wz3, hWz3⟩ : ∃ W, W12.alloc (.cells #[.slice none 0 0, .slice none 0 0, .slice none 0 0, .slice none 0 0] 27) = W := ⟨_, rfl⟩
  obtain ⟨W13, hW13⟩ : ∃ W, W12.alloc (.cells #[.slice a1r n1r d1r, .slice a2r n2r d2r, .slice a3r n3r d3r, .slice a4r n4r d4r] 27) = W := ⟨_, rfl⟩
  have nz3 : Wz3.heap[W12.heap.size]? = some (.cells #[.slice none 0 0, .slice none 0 0, .slice none 0 0, .slice none 0 0] 27 (0, 0)) := by rw [← hWz3]; exact heap_alloc_new W12 _
  have hWs3 : (((Wz3.setCell ⟨W12.heap.size, 0, none⟩ (.slice a1r n1r d1r)).setCell ⟨W12.heap.size, 1, none⟩ (.slice a2r n2r d2r)).setCell ⟨W12.heap.size, 2, none⟩ (.slice a3r n3r d3r)).setCell ⟨W12.heap.size, 3, none⟩ (.slice a4r n4r d4r) = W13 := by rw [← hWz3, ← hW13]; exact TPure.box4 _ _ _ _ _ _ _ _ _ _
  have nW13 : W13.heap[W12.heap.size]? = some (.cells #[.slice a1r n1r d1r, .slice a2r n2r d2r, .slice a3r n3r d3r, .slice a4r n4r d4r] 27 (0, 0)) := by rw [← hW13]; exact heap_alloc_new W12 _
  have bW13 : Below W12.heap.size W12 W13 := by rw [← hW13]; exact (Below.refl _ W12).alloc (Nat.le_refl _) _
  have zz30 := cell_of nz3 0 _ rfl
  have zf30 := TBase.frozen_box nz3 0
  have zz31 := cell_of nz3 1 _ rfl
  have zf31 := TBase.frozen_box nz3 1
  have zz32 := cell_of nz3 2 _ rfl
  have zf32 := TBase.frozen_box nz3 2
  have zz33 := cell_of nz3 3 _ rfl
  have zf33 := TBase.frozen_box nz3 3
  clear nz3 hW13
  have B13 : Hid (Below w.heap.size w W13) := B12.out.trans (bW13.mono B12.out.size)
  clear bW13 nW13
  by_cases hM : b.length = 1048576
  · rw [if_pos hM] at hD3
    cases hD3
    have hM' : ((b.length : Int) == 1048576) = true := by simp [hM]
    go_wp2_with fail
    try rw [hWs3]
    refine (cN _ _).mono ?_
    rintro e w9 ⟨rfl, rfl⟩
    go_wp2_with fail
    go_ret
    exact ⟨rfl, B13.out⟩
  · rw [if_neg hM] at hD3
    cases hD3
    have hM' : ((b.length : Int) == 1048576) = false := by simp; omega
    have hzc' : (z2 : Int) ≤ (k : Int) := by omega
    go_wp2_with fail
    try rw [hWs3]
    refine (cN _ _).mono ?_
    rintro e w9 ⟨rfl, rfl⟩
    go_wp2_with fail
    refine (cN _ _).mono ?_
    rintro e w9 ⟨rfl, rfl⟩
    go_wp2_with fail
    go_ret
    exact ⟨rfl, B13.out⟩

end Go.Proofs.Ytmodaihngcnlfaa.WFm

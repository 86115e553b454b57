/- Proved: for every program p (whatever lies in it, nil lists and spare room among it) the call stencillaw21.ProgramBack(p) of the landed program returns true, and what came in reads as before. Conditions: none beside those of the given row. -/
import Derived.Test.YthclndiekjaalaaYAw
import Derived.Test.YthclndiekjaalaaYSt
import Derived.Test.YthclndiekjaalaaYOp
import Derived.Test.YthclndiekjaalaaTShallow
import Derived.Test.YthclndiekjaalaaRows
import Derived.Test.YthclndiekjaalaaChecked
namespace Go.Proofs.Ythclndiekjaalaa.WFm
open Go.RowKit Go.Proofs.Ythclndiekjaalaa.Leb Go.Proofs.Ythclndiekjaalaa.YPl Go.Proofs.Ythclndiekjaalaa.YRd Go.Proofs.Ythclndiekjaalaa.YWr Go.Proofs.Ythclndiekjaalaa.YRr Go.Proofs.Ythclndiekjaalaa.YRs Go.Proofs.Ythclndiekjaalaa.YRb Go.Proofs.Ythclndiekjaalaa.YRl Go.Proofs.Ythclndiekjaalaa.YRp Go.Proofs.Ythclndiekjaalaa.YDe Go.Proofs.Ythclndiekjaalaa.YDf Go.Proofs.Ythclndiekjaalaa.YAk Go.Proofs.Ythclndiekjaalaa.YFm
set_option linter.unusedVariables false

/-- What Decode answers, as four rows, a place and an error. -/
theorem dec4 {w : World} {ia : Option Addr} {n cap : Nat} {b : By} (hS : Seen w (.slice ia n cap) b) (hl : ∀ g, ia = some g → g.block < w.heap.size) :
    Calls Try.prog 11 #[.slice ia n cap] w fun e w' => Below w.heap.size w w' ∧ ∃ (a1 a2 a3 a4 : Option Addr) (n1 n2 n3 n4 d1 d2 d3 d4 z c : Nat), e = .returned (.tuple #[.agg #[.slice a1 n1 d1, .slice a2 n2 d2, .slice a3 n3 d3, .slice a4 n4 d4], .int .i64 z, .int .i64 c]) ∧
      ((∃ x, dec b = .ok x ∧ z = 0 ∧ c = 0 ∧ YEn.InPg w'.heap.size 65 w' (.agg #[.slice a1 n1 d1, .slice a2 n2 d2, .slice a3 n3 d3, .slice a4 n4 d4]) x) ∨ dec b = .error (z, c)) := by
  refine (YDc.decode_c hS hl).mono ?_
  rintro e w' ⟨hb, hA⟩
  cases hd : dec b with
  | error t =>
    obtain ⟨z, c⟩ := t
    rw [hd] at hA
    obtain rfl := hA
    exact ⟨hb, none, none, none, none, 0, 0, 0, 0, 0, 0, 0, 0, z, c, rfl, .inr rfl⟩
  | ok x =>
    rw [hd] at hA
    obtain ⟨v, rfl, hv⟩ := hA
    have hp := HvP.pg (K := w'.heap.size) hv (fun b h => h.2)
    have hp0 := hp
    obtain ⟨a, n1, c1, b1, n2, c2, c, n3, c3, d, n4, c4, rfl, -⟩ := hp0
    exact ⟨hb, a, b1, c, d, n1, n2, n3, n4, c1, c2, c3, c4, 0, 0, rfl, .inl ⟨x, rfl, rfl, rfl, hp⟩⟩
theorem own_lt {w : World} {B : Nat} {v : Value} {L : By} (h : Own w B v L) : ∃ a n c, v = .slice a n c ∧ (∀ g, a = some g → g.block < w.heap.size) := by
  rcases h.2 with ⟨rfl, h0⟩ | ⟨g, cap, cur, rfl, hb, hh, -⟩
  · exact ⟨none, 0, 0, rfl, fun g h => by cases h⟩
  · exact ⟨_, _, _, rfl, fun g' h => by cases h; exact (Array.getElem?_eq_some_iff.1 hh).1⟩
theorem seen_w {w w' : World} {v : Value} {L : By} (h : Seen w v L) (hb : Below w.heap.size w w') : Seen w' v L := by
  obtain ⟨a, cap, rfl, hlc, hm, hnil, hcell⟩ := h
  refine ⟨a, cap, rfl, hlc, hm, hnil, fun g o s e j hj => ?_⟩
  obtain ⟨hs, hc⟩ := hcell g o s e j hj
  exact ⟨hs, (hb.cell (block_lt_of_cell hc)).trans hc⟩
theorem seen_front {w : World} {a : Option Addr} {n cap k : Nat} {L : By} (h : Seen w (.slice a n cap) L) (hk : k ≤ L.length) : Seen w (.slice a (L.take k).length cap) (L.take k) := by
  obtain ⟨a', c, e, h1, h2, h3, h4⟩ := h
  cases e
  have hl : (L.take k).length = k := by rw [List.length_take]; omega
  refine ⟨a, cap, rfl, by omega, h2, h3, fun g o s e j hj => ?_⟩
  obtain ⟨hs, hc⟩ := h4 g o s e j (by omega)
  exact ⟨hs, by rw [hc, List.getElem_take]⟩
theorem cut_at {at_ : Int} {n : Nat} (h0 : -9223372036854775808 ≤ at_) (h1 : at_ ≤ 9223372036854775807) (hn : 0 < n) (hm : n ≤ 1048576) : ∃ k : Nat, wrap64 ((IntKind.u64.wrap at_).tmod (n : Int)) = (k : Int) ∧ k < n := by
  have e1 : 0 ≤ IntKind.u64.wrap at_ := by rw [IntKind.wrap_u64]; omega
  obtain ⟨m, hm'⟩ : ∃ m : Nat, IntKind.u64.wrap at_ = (m : Int) := ⟨(IntKind.u64.wrap at_).toNat, by omega⟩
  have e2 : (IntKind.u64.wrap at_).tmod (n : Int) = ((m % n : Nat) : Int) := by rw [hm']; rfl
  have hlt : m % n < n := Nat.mod_lt _ hn
  refine ⟨m % n, ?_, hlt⟩
  rw [e2]
  unfold wrap64
  omega
end Go.Proofs.Ythclndiekjaalaa.WFm

namespace Go.Proofs.Ythclndiekjaalaa.WBp
open Go.RowKit Go.Proofs.Ythclndiekjaalaa.Leb Go.Proofs.Ythclndiekjaalaa.YPl Go.Proofs.Ythclndiekjaalaa.YRr Go.Proofs.Ythclndiekjaalaa.YEn
set_option linter.unusedVariables false

set_option maxRecDepth 20000 in
set_option maxHeartbeats 3200000 in
theorem shal_c {K m : Nat} {w : World} {v : Value} {x : Pg} (hI : InPg K m w v x) (hK : K ≤ w.heap.size) :
    Calls Try.prog 8 #[v] w fun e w' => e = .returned (.bool (decide (TShallow.depL x.s ≤ 4096))) ∧ Below w.heap.size w w' := by
  obtain ⟨a, n1, c1, b, n2, c2, c, n3, c3, d, n4, c4, rfl, h1, h2, h3, h4⟩ := hI
  obtain ⟨W0, hW0⟩ : ∃ W, w.alloc (.cells #[.slice a n1 c1, .slice b n2 c2, .slice c n3 c3, .slice d n4 c4] 27) = W := ⟨_, rfl⟩
  have b0 : Below w.heap.size w W0 := by rw [← hW0]; exact (Below.refl _ w).alloc (Nat.le_refl _) _
  have g0 : W0.heap[w.heap.size]? = some (.cells #[.slice a n1 c1, .slice b n2 c2, .slice c n3 c3, .slice d n4 c4] 27 (0, 0)) := by rw [← hW0]; exact heap_alloc_new w _
  have cS := TShallow.shallow_c m _ x.s W0 ((h3.keep (TVisit.keep_lo (b0.mono hK))).weak (fun _ _ => trivial) false id m (Nat.le_refl _))
  have z2 := cell_of g0 2 _ rfl
  have HB : Hid _ := b0
  clear h1 h2 h3 h4 b0 g0
  go_enter Try.func8, Try.ntmps8
  go_wp2_with fail
  try rw [hW0]
  refine cS.mono ?_
  rintro e W1 ⟨rfl, b1⟩
  go_wp2_with fail
  go_ret
  exact ⟨rfl, HB.out.trans (b1.mono HB.out.size)⟩
theorem enc_err {x : Pg} {q : Nat} (h : enc x = .error q) : q = 2100 ∨ q = 2101 := by
  unfold enc at h
  split at h
  · cases h; exact .inl rfl
  · split at h
    · cases h; exact .inr rfl
    · cases h
set_option maxRecDepth 20000 in
set_option maxHeartbeats 6400000 in
theorem walk {m : Nat} {w : World} {v : Value} {x : Pg} (hI : InPg w.heap.size m w v x) :
    Calls Try.prog 3 #[v] w fun e w' => e = .returned (.bool true) ∧ Below w.heap.size w w' := by
  have cN : ∀ (x : Int) (W : World), Calls Try.prog 10 #[.int .i64 x] W fun e w' => e = .returned (.int .i64 x) ∧ W = w' := fun x W => (num_c x W).mono fun e w' h => ⟨h.1, h.2.symm⟩
  have HI : Hid (∀ W, Below w.heap.size w W → InPg w.heap.size m W v x) := fun W hW => hI.below hW
  have HO : Hid (YDt.okP x) := YOp.okP_of hI
  obtain ⟨a, n1, c1, b, n2, c2, c, n3, c3, d, n4, c4, rfl, -⟩ := hI
  obtain ⟨W0, hW0⟩ : ∃ W, w.alloc (.cells #[.slice a n1 c1, .slice b n2 c2, .slice c n3 c3, .slice d n4 c4] 27) = W := ⟨_, rfl⟩
  have b0 : Below w.heap.size w W0 := by rw [← hW0]; exact (Below.refl _ w).alloc (Nat.le_refl _) _
  have s0 : w.heap.size < W0.heap.size := by rw [← hW0]; simp
  have g0 : W0.heap[w.heap.size]? = some (.cells #[.slice a n1 c1, .slice b n2 c2, .slice c n3 c3, .slice d n4 c4] 27 (0, 0)) := by rw [← hW0]; exact heap_alloc_new w _
  have cA := YAw.awake_c W0
  have B0 : Hid (Below w.heap.size w W0) := b0
  have HG : Hid (∀ W, Below W0.heap.size W0 W → W.heap[w.heap.size]? = some (.cells #[.slice a n1 c1, .slice b n2 c2, .slice c n3 c3, .slice d n4 c4] 27 (0, 0))) := fun W h => (h.block _ s0).trans g0
  clear b0 g0
  go_enter Try.func3, Try.ntmps3
  go_wp2_with fail
  try rw [hW0]
  refine cA.mono ?_
  rintro e W1 ⟨rfl, b1⟩
  have z0 := cell_of (HG.out W1 b1) 0 _ rfl
  have z1 := cell_of (HG.out W1 b1) 1 _ rfl
  have z2 := cell_of (HG.out W1 b1) 2 _ rfl
  have z3 := cell_of (HG.out W1 b1) 3 _ rfl
  have B1 : Hid (Below w.heap.size w W1) := B0.out.trans (b1.mono B0.out.size)
  have T1 : Hid (Below W0.heap.size W0 W1) := b1
  have cS := shal_c (HI.out W1 B1.out) B1.out.size
  clear cA b1 hW0
  go_wp2_with fail
  refine cS.mono ?_
  rintro e W2 ⟨rfl, b2⟩
  have T2 : Hid (Below W0.heap.size W0 W2) := T1.out.trans (b2.mono T1.out.size)
  have B2 : Hid (Below w.heap.size w W2) := B1.out.trans (b2.mono B1.out.size)
  clear cS b2 z0 z1 z2 z3
  by_cases hsh : TShallow.depL x.s ≤ 4096
  rotate_left 1
  · have hs' : decide (TShallow.depL x.s ≤ 4096) = false := by simp [hsh]
    clear hsh
    go_wp2_with fail
    go_ret
    exact ⟨rfl, B2.out⟩
  have hs' : decide (TShallow.depL x.s ≤ 4096) = true := by simp [hsh]
  clear hsh
  have z0 := cell_of (HG.out W2 T2.out) 0 _ rfl
  have z1 := cell_of (HG.out W2 T2.out) 1 _ rfl
  have z2 := cell_of (HG.out W2 T2.out) 2 _ rfl
  have z3 := cell_of (HG.out W2 T2.out) 3 _ rfl
  have cE := YEd.encode_c x (HI.out W2 B2.out) B2.out.size
  go_wp2_with fail
  refine cE.mono ?_
  rintro e W3 ⟨b3, hA⟩
  have T3 : Hid (Below W0.heap.size W0 W3) := T2.out.trans (b3.mono T2.out.size)
  have B3 : Hid (Below w.heap.size w W3) := B2.out.trans (b3.mono B2.out.size)
  clear cE b3 z0 z1 z2 z3
  cases hE : enc x with
  | error q =>
    rw [hE] at hA
    obtain rfl := hA
    rcases enc_err hE with rfl | rfl
    · clear hE
      go_wp2_with fail
      refine (cN _ _).mono ?_
      rintro e w9 ⟨rfl, rfl⟩
      go_wp2_with fail
      refine (cN _ _).mono ?_
      rintro e w9 ⟨rfl, rfl⟩
      go_wp2_with fail
      go_ret
      exact ⟨rfl, B3.out⟩
    · clear hE
      go_wp2_with fail
      refine (cN _ _).mono ?_
      rintro e w9 ⟨rfl, rfl⟩
      go_wp2_with fail
      refine (cN _ _).mono ?_
      rintro e w9 ⟨rfl, rfl⟩
      go_wp2_with fail
      refine (cN _ _).mono ?_
      rintro e w9 ⟨rfl, rfl⟩
      go_wp2_with fail
      go_ret
      exact ⟨rfl, B3.out⟩
  | ok X =>
  rw [hE] at hA
  obtain ⟨pa, pn, pc, rfl, ho⟩ := hA
  have hd := YDt.dec_enc HO.out hE
  have hlt : ∀ g, pa = some g → g.block < W3.heap.size := by
    obtain ⟨a, n, c, e, h⟩ := WFm.own_lt ho
    cases e
    exact h
  have cD := WFm.dec4 ho.seen hlt
  rw [hd] at cD
  clear hE ho hlt hd
  go_wp2_with fail
  refine (cN _ _).mono ?_
  rintro e w9 ⟨rfl, rfl⟩
  go_wp2_with fail
  refine cD.mono ?_
  rintro e W4 ⟨b4, a1, a2, a3, a4, m1, m2, m3, m4, d1, d2, d3, d4, z, cc, rfl, hD⟩
  have T4 : Hid (Below W0.heap.size W0 W4) := T3.out.trans (b4.mono T3.out.size)
  have B4 : Hid (Below w.heap.size w W4) := B3.out.trans (b4.mono B3.out.size)
  rcases hD with ⟨y, hy, rfl, rfl, hy'⟩ | hD
  rotate_left 1
  · cases hD
  obtain rfl : x = y := by cases hy; rfl
  have HY : Hid (InPg W4.heap.size 65 W4 (.agg #[.slice a1 m1 d1, .slice a2 m2 d2, .slice a3 m3 d3, .slice a4 m4 d4]) x) := hy'
  clear cD b4 hy hy'
  obtain ⟨Wz1, hWz1⟩ : ∃ W, W4.alloc (.cells #[.slice none 0 0, .slice none 0 0, .slice none 0 0, .slice none 0 0] 27) = W := ⟨_, rfl⟩
  obtain ⟨W5, hW5⟩ : ∃ W, W4.alloc (.cells #[.slice a1 m1 d1, .slice a2 m2 d2, .slice a3 m3 d3, .slice a4 m4 d4] 27) = W := ⟨_, rfl⟩
  have nz1 : Wz1.heap[W4.heap.size]? = some (.cells #[.slice none 0 0, .slice none 0 0, .slice none 0 0, .slice none 0 0] 27 (0, 0)) := by rw [← hWz1]; exact heap_alloc_new W4 _
  have hWs1 : (((Wz1.setCell ⟨W4.heap.size, 0, none⟩ (.slice a1 m1 d1)).setCell ⟨W4.heap.size, 1, none⟩ (.slice a2 m2 d2)).setCell ⟨W4.heap.size, 2, none⟩ (.slice a3 m3 d3)).setCell ⟨W4.heap.size, 3, none⟩ (.slice a4 m4 d4) = W5 := by rw [← hWz1, ← hW5]; exact TPure.box4 _ _ _ _ _ _ _ _ _ _
  have nW5 : W5.heap[W4.heap.size]? = some (.cells #[.slice a1 m1 d1, .slice a2 m2 d2, .slice a3 m3 d3, .slice a4 m4 d4] 27 (0, 0)) := by rw [← hW5]; exact heap_alloc_new W4 _
  have bW5 : Below W4.heap.size W4 W5 := by rw [← hW5]; exact (Below.refl _ W4).alloc (Nat.le_refl _) _
  have zz10 := cell_of nz1 0 _ rfl
  have zf10 := TBase.frozen_box nz1 0
  have zz11 := cell_of nz1 1 _ rfl
  have zf11 := TBase.frozen_box nz1 1
  have zz12 := cell_of nz1 2 _ rfl
  have zf12 := TBase.frozen_box nz1 2
  have zz13 := cell_of nz1 3 _ rfl
  have zf13 := TBase.frozen_box nz1 3
  clear nz1 hW5
  have B5 : Hid (Below w.heap.size w W5) := B4.out.trans (bW5.mono B4.out.size)
  have T5 : Hid (Below W0.heap.size W0 W5) := T4.out.trans (bW5.mono T4.out.size)
  have x0 := cell_of nW5 0 _ rfl
  have x1 := cell_of nW5 1 _ rfl
  have x2 := cell_of nW5 2 _ rfl
  have x3 := cell_of nW5 3 _ rfl
  have z0 := cell_of (HG.out W5 T5.out) 0 _ rfl
  have z1 := cell_of (HG.out W5 T5.out) 1 _ rfl
  have z2 := cell_of (HG.out W5 T5.out) 2 _ rfl
  have z3 := cell_of (HG.out W5 T5.out) 3 _ rfl
  have cP := YSt.same_pg ((HI.out W5 B5.out).up (Nat.le_trans B4.out.size bW5.size)) ((HY.out.below bW5).up bW5.size) (Nat.le_refl _)
  clear bW5 nW5
  go_wp2_with fail
  try rw [hWs1]
  refine (cN _ _).mono ?_
  rintro e w9 ⟨rfl, rfl⟩
  go_wp2_with fail
  refine cP.mono ?_
  rintro e W6 ⟨rfl, b6⟩
  go_wp2_with fail
  go_ret
  exact ⟨rfl, B5.out.trans (b6.mono B5.out.size)⟩
end Go.Proofs.Ythclndiekjaalaa.WBp

namespace Go.Proofs.Ythclndiekjaalaa.programBack
open Go.ChangeShapes Go.WideShapes Go.ChangeAt Go.RowKit Go.Proofs.Ythclndiekjaalaa
set_option linter.unusedVariables false

set_option maxRecDepth 100000 in
theorem lifted (os : Os) (started : os.Started) (H : Type) (enc : TypeId × Value → H) :
    ReturnsInHanded {} Try.checked os 3 .any (Rows.programBackSpec.pre6 enc Try.prog Try.f3 Rows.programBackRow.domain false) (Rows.programBackSpec.post enc Try.prog Try.f3 false true false false) := by
  refine returnsInHanded_of_change_sized (C := Try.checked) YOp.own started (by kernel_rfl) Try.func3
    (ChangeSpec.witness6 (enc := enc) (C := Try.checked) false ⟨#[], #[.agg #[.slice none 0 0, .slice none 0 0, .slice none 0 0, .slice none 0 0]], []⟩ 8 (by kernel_rfl) (by kernel_rfl) (by kernel_rfl) (by kernel_rfl)) ?_
  intro W base args ds gs before hval0 hW hcnd hsz0 _
  have hval : ∀ (j : Nat) t v, Try.f3.params[j]? = some t → args[j]? = some v → Value.okWide Try.prog W .any base t v := hval0
  have hsz : (DataW.weightsEach Try.prog (Try.f3.params.toList ++ Rows.programBackSpec.plain.varTypes Try.prog) (ds ++ gs)).all (· ≤ reachBytes) = true := hsz0
  have hW' := hW
  obtain ⟨p, q, hA0, hV, rfl, hfz, hnd⟩ := hW
  have hA : DataW.TrodAll enc Try.prog W 0 (fun _ => true) true Try.f3.params.toList args.toList ds p := hA0
  rw [Try.params3] at hA hval hsz
  obtain ⟨v0, vs0, d0, ds0, p0, q0, hargs, rfl, rfl, h0, r0⟩ := trodAll_cons hA
  obtain ⟨rfl, rfl, rfl⟩ := trodAll_nil r0
  obtain rfl : args = #[v0] := by cases args; simp_all
  obtain ⟨rfl, rfl⟩ := trodVars_none hV
  obtain ⟨⟨m0, x0, g0⟩, s0⟩ := YOp.come (hval 0 27 v0 rfl rfl) h0 hsz (j := 0) rfl rfl
  clear hA0 hval0 hsz0
  refine (WBp.walk g0).mono fun e W' ⟨he, bel⟩ => ?_
  subst he
  exact ⟨_, rfl, _, _, _, [], _, [], hW', trodAll_mk1 (shut_bool Try.underlying4 _), (trodAll_cons_mk (s0 _ bel) trodAll_mk0), rfl, bel.frame _, fun h => by cases h⟩
theorem over : Rows.programBackRow.holds Try.pinned (OpenSpec.ofChange Rows.programBackSpec) :=
  OpenClaim.holds_of_wide 3 Try.f3 rfl rfl rfl rfl rfl rfl rfl ⟨rfl, rfl, rfl, rfl, rfl⟩ rfl rfl rfl rfl rfl (by kernel_rfl) Try.func3 (by kernel_rfl)
    (of_decide_eq_true (by kernel_rfl)) (by unfold Func.isWrapper; first | (rw [if_pos (by decide +kernel)]; kernel_rfl) | (rw [if_neg (by decide +kernel)]; exact ⟨rfl, rfl⟩))
    (fun os started H enc _ => lifted os started H enc)
theorem programBack_holds : Rows.ProgramBackSaid := over
#print axioms programBack_holds
end Go.Proofs.Ythclndiekjaalaa.programBack

/- All expressions of a node, with how many values lie on the stack for each: the document's own answer (stencilref15.Exprs). -/
import Derived.Test.YtofjedecjlodmaaGreatKSt
import Derived.Test.YtofjedecjlodmaaGreatXLend
import Derived.Laws.OwnMore
import Derived.Maps.AppendAt
namespace Go.Proofs.YtofjedecjlodmaaGreat.KRx
open Go.RowKit Go.Proofs.YtofjedecjlodmaaGreat.Base Go.Proofs.YtofjedecjlodmaaGreat.EPure Go.Proofs.YtofjedecjlodmaaGreat.KBase Go.Proofs.YtofjedecjlodmaaGreat.KEx
open Go.Proofs.YtofjedecjlodmaaGreat.KSt (Oi infoI Oi.same Oi.lt)
open Go.Proofs.YtofjedecjlodmaaGreat.XLend (flat flat_append OwnV Fours fours_snoc info_parts infoX own_below new_cells)
set_option linter.unusedVariables false

/-- How many values lie on the stack for the j-th. -/
def dv (k d : Int) (j : Nat) : Int := if k = 4 ∧ j = 1 then d + 2 else d
def dl (k d : Int) (n : Nat) : List Int := (List.range n).map (dv k d)
theorem dl_len (k d : Int) (n : Nat) : (dl k d n).length = n := by simp [dl]
theorem dl_succ (k d : Int) (n : Nat) : dl k d (n + 1) = dl k d n ++ [dv k d n] := by simp [dl, List.range_succ]
/-- Two rows that are gathered side by side. -/
structure Er (w : World) (C : Array Value) (wr : World) (es ds : Value) (us : List Value) (L : List Ex) (D : List Int) : Prop where
  own : OwnV wr (w.heap.size + 1) es us
  len : us.length = L.length
  el : ∀ j (h : j < us.length) (h' : j < L.length), ∃ m, XBase.In false (fun _ => True) w m us[j] L[j]
  row : Oi wr (w.heap.size + 1) ds D
  ne : ∀ g, es.ownBlock = some g → ds.ownBlock ≠ some g
  bel : Below w.heap.size w wr
  box : wr.heap[w.heap.size]? = some (.cells C 40 (0, 0))
theorem Er.addE {w : World} {C : Array Value} {wr w2 : World} {es ds v' : Value} {us : List Value} {L : List Ex} {D : List Int} {x0 x1 x2 x3 : Value} {y : Ex} {m : Nat} (h : Er w C wr es ds us L D) (hone : ∀ u ∈ [x0, x1, x2, x3], u.oneCell' = true)
    (hin : XBase.In false (fun _ => True) w m (.agg #[x0, x1, x2, x3]) y) {o : Obj} (hown : w2.ownsRow (w.heap.size + 1) 58 4 v' (us.length + 1) (flat us ++ [x0, x1, x2, x3]))
    (hgrow : (wr.alloc o).grownBy w2 es.ownBlock) (hat : v'.ownBlock = es.ownBlock ∨ v'.ownBlock = some (wr.heap.size + 1)) : Er w C w2 v' ds (us ++ [.agg #[x0, x1, x2, x3]]) (L ++ [y]) D := by
  have hsz := h.bel.size
  have hlt := World.ownsRow.lt h.own.1
  have hbx := (Array.getElem?_eq_some_iff.1 h.box).1
  have keep : ∀ b, b < wr.heap.size → some b ≠ es.ownBlock → w2.heap[b]? = wr.heap[b]? := fun b hb hn => (hgrow.block b (by simp; omega) hn).trans (Below.heap_alloc _ _ _ hb)
  refine ⟨⟨?_, fours_snoc h.own.2 ⟨_, _, _, _, rfl, hone⟩⟩, ?_, ?_, ?_, ?_, ?_, ?_⟩
  · rw [flat_append, List.length_append]
    exact hown
  · rw [List.length_append, List.length_append, h.len]; rfl
  · intro j h1 h2
    by_cases hj : j < us.length
    · rw [List.getElem_append_left hj, List.getElem_append_left (by rw [← h.len]; exact hj)]
      exact h.el j hj _
    · have e : j = us.length := by simp at h1; omega
      subst e
      simp only [List.getElem_append_right (Nat.le_refl _), Nat.sub_self, List.getElem_cons_zero]
      rw [List.getElem_append_right (by rw [h.len]; exact Nat.le_refl _)]
      simp only [h.len, Nat.sub_self, List.getElem_cons_zero]
      exact ⟨m, hin⟩
  · refine h.row.same (fun g hg => keep g (h.row.lt hg).2 (fun e => h.ne g e.symm hg))
  · intro g hg hd
    rcases hat with e | e
    · exact h.ne g (by rw [← e]; exact hg) hd
    · rw [e] at hg
      have := Option.some.inj hg
      have := (h.row.lt hd).2
      omega
  · exact (h.bel.alloc hsz o).grown hgrow (by simp; omega) (fun k hk => by have := (hlt k hk).1; omega)
  · exact (keep _ hbx (fun e => by have := (hlt _ e.symm).1; omega)).trans h.box
theorem Er.addD {w : World} {C : Array Value} {wr w2 : World} {es ds v' : Value} {us : List Value} {L : List Ex} {D : List Int} {z : Int} (h : Er w C wr es ds us L D) {o : Obj}
    (hown : w2.ownsRow (w.heap.size + 1) 3 1 v' (D.length + 1) (D.map (Value.int .i64) ++ [.int .i64 z]))
    (hgrow : (wr.alloc o).grownBy w2 ds.ownBlock) (hat : v'.ownBlock = ds.ownBlock ∨ v'.ownBlock = some (wr.heap.size + 1)) : Er w C w2 es v' us L (D ++ [z]) := by
  have hsz := h.bel.size
  have hlt := World.ownsRow.lt h.own.1
  have hbx := (Array.getElem?_eq_some_iff.1 h.box).1
  have keep : ∀ b, b < wr.heap.size → some b ≠ ds.ownBlock → w2.heap[b]? = wr.heap[b]? := fun b hb hn => (hgrow.block b (by simp; omega) hn).trans (Below.heap_alloc _ _ _ hb)
  refine ⟨⟨?_, h.own.2⟩, h.len, h.el, ?_, ?_, ?_, ?_⟩
  · refine ⟨h.own.1.1, ?_⟩
    rcases h.own.1.2 with h2 | ⟨g, cap, cur, hv, hg, hh, r⟩
    · exact .inl h2
    · refine .inr ⟨g, cap, cur, hv, hg, (keep g (hlt g (by rw [hv]; rfl)).2 (fun e => h.ne g (by rw [hv]; rfl) e.symm)).trans hh, r⟩
  · show World.ownsRow _ _ _ _ _ _ _
    rw [List.map_append, List.length_append]
    exact hown
  · intro g hg hd
    rcases hat with e | e
    · exact h.ne g hg (by rw [← e]; exact hd)
    · rw [e] at hd
      have := Option.some.inj hd
      have := (hlt g hg).2
      omega
  · exact (h.bel.alloc hsz o).grown hgrow (by simp; omega) (fun k hk => by have := (h.row.lt hk).1; omega)
  · exact (keep _ hbx (fun e => by have := (h.row.lt e.symm).1; omega)).trans h.box
theorem ex1_len (l : List Fld) : (ex1 l).length ≤ l.length := by unfold ex1; rw [List.length_map]; exact List.length_filter_le _ _
theorem ex2_len (l : List Pt) : (ex2 l).length ≤ l.length := by unfold ex2; rw [List.length_map]; exact List.length_filter_le _ _
set_option maxRecDepth 20000 in
set_option maxHeartbeats 3200000 in
theorem exprs_c {m : Nat} {v : Value} {c : Co} {w : World} (hin : In false (fun _ => True) w m v c) {d : Int} (hd0 : 0 ≤ d ∧ d ≤ 100000) (hln : c.f.length + c.p.length + c.x.length ≤ 4096) (hk4 : c.k = 4 → c.f = [] ∧ c.p = []) :
    Calls Tryz.prog 43 #[v, .int .i64 d] w fun e w' => ∃ es ds us, e = .returned (.tuple #[es, ds]) ∧ ∃ C, Er w C w' es ds us (xsC c) (dl c.k d (xsC c).length) := by
  obtain ⟨ix, hix, hx0, hx1, hx2⟩ := info_parts infoX
  obtain ⟨ij, hij, hj0, hj1, hj2⟩ := info_parts infoI
  obtain ⟨m', fv, pv, xv, lv, uv, rfl, rfl, -, ht, hF, hP, ⟨mx, hX⟩, hL, hU⟩ := hin.shape
  have HXS : Hid (xsC c = ex1 c.f ++ (ex2 c.p ++ c.x)) := rfl
  obtain ⟨X, hX'⟩ : ∃ X, xsC c = X := ⟨_, rfl⟩
  rw [hX'] at HXS
  rw [hX']
  obtain ⟨k0, hk0⟩ : ∃ k, c.k = k := ⟨_, rfl⟩
  obtain ⟨t0, ht0⟩ : ∃ k, c.t = k := ⟨_, rfl⟩
  obtain ⟨f, hf⟩ : ∃ k, c.f = k := ⟨_, rfl⟩
  obtain ⟨p, hp⟩ : ∃ k, c.p = k := ⟨_, rfl⟩
  obtain ⟨x, hx⟩ : ∃ k, c.x = k := ⟨_, rfl⟩
  rw [hf, hp, hx] at HXS hln
  rw [hf, hp, hk0] at hk4
  rw [hf] at hF
  rw [hp] at hP
  rw [hx] at hX
  rw [hk0, ht0]
  have HF : Hid (RF false (fun _ => True) w fv f) := hF
  have HP : Hid (RP false (fun _ => True) w pv p) := hP
  have HX : Hid (XBase.InL false (fun _ => True) w mx xv x) := hX
  obtain ⟨a1, c1, rfl, hc1, hm1, hl1, -, -⟩ := hF
  obtain ⟨a2, c2, rfl, hc2, hm2, hl2, -, -⟩ := hP
  obtain ⟨a3, c3, rfl, hc3, hm3, hl3, -, -⟩ := hX
  have HK4 : Hid (k0 = 4 → f = [] ∧ p = []) := hk4
  obtain ⟨C, hC⟩ : ∃ C : Array Value, #[.int .i64 k0, .string t0, .slice a1 f.length c1, .slice a2 p.length c2, .slice a3 x.length c3, lv, uv] = C := ⟨_, rfl⟩
  have HC : Hid (#[.int .i64 k0, .string t0, .slice a1 f.length c1, .slice a2 p.length c2, .slice a3 x.length c3, lv, uv] = C) := hC
  clear hC
  clear hX' hk0 ht0 hf hp hx hin hL hU ht hk4
  obtain ⟨W0, hW0⟩ : ∃ W0, w.alloc (.cells #[.int .i64 k0, .string t0, .slice a1 f.length c1, .slice a2 p.length c2, .slice a3 x.length c3, lv, uv] 40) = W0 := ⟨_, rfl⟩
  have b0 : Below w.heap.size w W0 := by rw [← hW0]; exact (Below.refl _ w).alloc (Nat.le_refl _) _
  have q0 : W0.heap[w.heap.size]? = some (.cells #[.int .i64 k0, .string t0, .slice a1 f.length c1, .slice a2 p.length c2, .slice a3 x.length c3, lv, uv] 40 (0, 0)) := by rw [← hW0]; exact heap_alloc_new w _
  have HB0 : Hid (Below w.heap.size w W0) := b0
  have HQ0 : Hid (W0.heap[w.heap.size]? = some (.cells #[.int .i64 k0, .string t0, .slice a1 f.length c1, .slice a2 p.length c2, .slice a3 x.length c3, lv, uv] 40 (0, 0))) := q0
  have HW0 : Hid (w.alloc (.cells #[.int .i64 k0, .string t0, .slice a1 f.length c1, .slice a2 p.length c2, .slice a3 x.length c3, lv, uv] 40) = W0) := hW0
  have hwd : IntKind.i64.wrap (d + 2) = d + 2 := by rw [IntKind.wrap_i64]; omega
  clear b0 q0 hW0
  go_enter Tryz.func43, Tryz.ntmps43
  go_wp2_with fail
  try rw [HW0.out]
  go_loopw [6, 7, 8] (fun es ds i wr => ∃ (q : Nat) (us : List Value), i = .int .i64 q ∧ q ≤ f.length ∧ Er w C wr es ds us (ex1 (f.take q)) (dl k0 d (ex1 (f.take q)).length)) (fun _ _ i _ => f.length - (intOf i).toNat)
  case atStart => exact ⟨0, [], rfl, by omega, ⟨⟨World.ownsRow_nil _ _ _ _, fun x hx => by cases hx⟩, rfl, (fun j h => by simp at h), World.ownsRow_nil _ _ _ _, (fun g h => by cases h), HB0.out, by rw [← HC.out]; exact HQ0.out⟩⟩
  case round =>
    clear HB0 HQ0 HW0
    obtain ⟨q, us, rfl, hq, hE⟩ := hrel
    have HE : Hid (Er w C wr u6 u7 us (ex1 (f.take q)) (dl k0 d (ex1 (f.take q)).length)) := hE
    have hbx := hE.box
    rw [← HC.out] at hbx
    obtain ⟨z0, z1, z2, z3, z4, z5, z6⟩ := seven_box hbx
    clear hE hbx
    by_cases hlt : q < f.length
    · have d0 : decide ((q : Int) < (f.length : Int)) = true := by simp; omega
      have i0 : (0 : Int) ≤ (q : Int) := by omega
      have i1 : (q : Int) < (f.length : Int) := by omega
      obtain ⟨D, hD⟩ : ∃ D, dl k0 d (ex1 (f.take q)).length = D := ⟨_, rfl⟩
      have hDl : D.length = (ex1 (f.take q)).length := by rw [← hD, dl_len]
      rw [hD] at HE
      have hul := HE.out.len
      have hu1 := ex1_len (f.take q)
      rw [List.length_take] at hu1
      have hsz := HE.out.bel.size
      have hus : us.length ≤ 8192 := by omega
      have hDs : D.length ≤ 8192 := by omega
      have HUL : Hid _ := hul
      clear hul hDl hu1
      obtain ⟨aa, cc, hsl, -, -, -, -, hLA⟩ := HF.out
      cases hsl
      obtain ⟨g, o, u, rfl, -, hu, hi⟩ := hLA.elem hlt
      obtain ⟨v0, v1, v2, e0, e1, e2, e3, v7, rfl, k0', k1, k2, k3, k4, k5, k6, k7⟩ := hu
      obtain ⟨rfl, rfl, rfl, rfl, -, -, -, mm, hInq⟩ := hi.kinds
      have k2 := below_cell k2 HE.out.bel
      have k3 := below_cell k3 HE.out.bel
      have k4 := below_cell k4 HE.out.bel
      have k5 := below_cell k5 HE.out.bel
      have k6 := below_cell k6 HE.out.bel
      clear hLA hi k0' k1 k7
      obtain ⟨bb, hbb⟩ : ∃ bb, f[q].b = bb := ⟨_, rfl⟩
      cases bb with
      | true =>
        rw [hbb] at k2
        have hone : ∀ u ∈ [e0, e1, e2, e3], u.oneCell' = true := by
          obtain ⟨y0, y1, y2, y3, E, h⟩ := XLend.In.four hInq
          simp only [Value.agg.injEq, Array.mk.injEq, List.cons.injEq, and_true] at E
          obtain ⟨rfl, rfl, rfl, rfl⟩ := E
          exact h
        have hrow1 := World.ownsRow.alloc HE.out.own.1 (.cells #[e0, e1, e2, e3] 58)
        have HI : Hid (XBase.In false (fun _ => True) w _ (.agg #[e0, e1, e2, e3]) _) := hInq
        have HDV : Hid (dv k0 d us.length = d) := by
          show _ = _
          unfold dv
          rw [if_neg]
          rintro ⟨h, -⟩
          rw [(HK4.out h).1] at hlt
          simp at hlt
        clear hInq
        go_wp2_with (first
          | (at_builtin; refine wpList_append_own_at _ rfl _ _ 38 rfl (w.heap.size + 1) 58 ix (.agg #[.int .i64 0, .int .i64 0, .string ⟨#[]⟩, .slice none 0 0]) 4 56 Tryz.underlying38 hix hx0 hx1 hx2 rfl (by decide) _ _ _ rfl hrow1 ⟨wr.heap.size, 0, none⟩ 1 1 [e0, e1, e2, e3] rfl rfl (new_cells wr _ 58) hone (by unfold maxLen; omega) (by omega) (by simp; omega) ?_))
        intro v' w2 hown' hgrow _ hat
        have hE2 := HE.out.addE hone HI.out hown' hgrow hat
        have HE2 : Hid _ := hE2
        have hsz2 := hE2.bel.size
        have hrow2 := World.ownsRow.alloc hE2.row (.cells #[.int .i64 (d)] 3)
        have hbx := hE2.box
        rw [← HC.out] at hbx
        obtain ⟨z0, z1, z2, z3, z4, z5, z6⟩ := seven_box hbx
        clear hbx hown' hgrow hat hE2 hrow1 HI k3 k4 k5 k6 hone
        go_wp2_with (first
          | (at_builtin; refine wpList_append_own_at _ rfl _ _ 28 rfl (w.heap.size + 1) 3 ij (.int .i64 0) 1 8 Tryz.underlying28 hij hj0 hj1 hj2 rfl (by decide) _ _ _ rfl hrow2 ⟨w2.heap.size, 0, none⟩ 1 1 [.int .i64 (d)] rfl rfl (cell_one_new _ _ _) (by simp [Value.oneCell']) (by unfold maxLen; omega) (by omega) (by simp; omega) ?_))
        intro v'' w3 hown' hgrow _ hat
        have hE3 := HE2.out.addD hown' hgrow hat
        have HE3 : Hid (Er w C w3 v' v'' (us ++ [.agg #[e0, e1, e2, e3]]) (ex1 (f.take (q + 1))) (dl k0 d (ex1 (f.take (q + 1))).length)) := by
          have e1 : (ex1 (f.take (q + 1))) = (ex1 (f.take q)) ++ [f[q].e] := ex1_yes f q hlt hbb
          show Er _ _ _ _ _ _ _ _
          rw [e1, List.length_append, List.length_singleton, dl_succ, hD, ← HE.out.len, HDV.out]
          exact hE3
        clear hown' hgrow hat hE3 hrow2 HE2 HDV
        go_wp2_with fail
        go_roundw
        case rel => exact ⟨q + 1, us ++ [.agg #[e0, e1, e2, e3]], by go_num, by omega, HE3.out⟩
        case measure => simp only [intOf]; omega
      | false =>
        rw [hbb] at k2
        have HE3 : Hid (Er w C wr u6 u7 us (ex1 (f.take (q + 1))) (dl k0 d (ex1 (f.take (q + 1))).length)) := by
          show Er _ _ _ _ _ _ _ _
          rw [ex1_no f q hlt hbb, hD]
          exact HE.out
        clear hInq
        go_wp2_with fail
        go_roundw
        case rel => exact ⟨q + 1, us, by go_num, by omega, HE3.out⟩
        case measure => simp only [intOf]; omega
    · obtain rfl : q = f.length := by omega
      have d0 : decide ((f.length : Int) < (f.length : Int)) = false := by simp
      have HE2 : Hid (Er w C wr u6 u7 us (ex1 f ++ ex2 (p.take 0)) (dl k0 d (ex1 f ++ ex2 (p.take 0)).length)) := by
        show Er _ _ _ _ _ _ _ _
        have e1 : (ex1 f ++ ex2 (p.take 0)) = (ex1 (f.take f.length)) := by simp [ex2]
        rw [e1]
        exact HE.out
      clear HE
      go_wp2_with fail
      go_loopw [6, 7, 9] (fun es ds i wr => ∃ (q : Nat) (us : List Value), i = .int .i64 q ∧ q ≤ p.length ∧ Er w C wr es ds us (ex1 f ++ ex2 (p.take q)) (dl k0 d (ex1 f ++ ex2 (p.take q)).length)) (fun _ _ i _ => p.length - (intOf i).toNat)
      case atStart => exact ⟨0, us, rfl, by omega, HE2.out⟩
      case round =>
        clear HE2 hq d0 z0 z1 z2 z3 z4 z5 z6
        obtain ⟨q, us, rfl, hq, hE⟩ := hrel
        have HE : Hid (Er w C wr u6 u7 us (ex1 f ++ ex2 (p.take q)) (dl k0 d (ex1 f ++ ex2 (p.take q)).length)) := hE
        have hbx := hE.box
        rw [← HC.out] at hbx
        obtain ⟨z0, z1, z2, z3, z4, z5, z6⟩ := seven_box hbx
        clear hE hbx
        by_cases hlt : q < p.length
        · have d0 : decide ((q : Int) < (p.length : Int)) = true := by simp; omega
          have i0 : (0 : Int) ≤ (q : Int) := by omega
          have i1 : (q : Int) < (p.length : Int) := by omega
          obtain ⟨D, hD⟩ : ∃ D, dl k0 d (ex1 f ++ ex2 (p.take q)).length = D := ⟨_, rfl⟩
          have hDl : D.length = (ex1 f ++ ex2 (p.take q)).length := by rw [← hD, dl_len]
          rw [hD] at HE
          have hul := HE.out.len
          have hu1 := ex1_len f
          have hu2 := ex2_len (p.take q)
          rw [List.length_take] at hu2
          rw [List.length_append] at hul hDl
          have hsz := HE.out.bel.size
          have hus : us.length ≤ 8192 := by omega
          have hDs : D.length ≤ 8192 := by omega
          have HUL : Hid _ := hul
          clear hul hDl hu1 hu2
          obtain ⟨aa, cc, hsl, -, -, -, -, hLA⟩ := HP.out
          cases hsl
          obtain ⟨g, o, u, rfl, -, hu, hi⟩ := hLA.elem hlt
          obtain ⟨v0, v1, e0, e1, e2, e3, rfl, k0', k2, k3, k4, k5, k6⟩ := hu
          obtain ⟨rfl, rfl, -, mm, hInq⟩ := hi.kinds
          have k2 := below_cell k2 HE.out.bel
          have k3 := below_cell k3 HE.out.bel
          have k4 := below_cell k4 HE.out.bel
          have k5 := below_cell k5 HE.out.bel
          have k6 := below_cell k6 HE.out.bel
          clear hLA hi k0'
          obtain ⟨bb, hbb⟩ : ∃ bb, p[q].b = bb := ⟨_, rfl⟩
          cases bb with
          | true =>
            rw [hbb] at k2
            have hone : ∀ u ∈ [e0, e1, e2, e3], u.oneCell' = true := by
              obtain ⟨y0, y1, y2, y3, E, h⟩ := XLend.In.four hInq
              simp only [Value.agg.injEq, Array.mk.injEq, List.cons.injEq, and_true] at E
              obtain ⟨rfl, rfl, rfl, rfl⟩ := E
              exact h
            have hrow1 := World.ownsRow.alloc HE.out.own.1 (.cells #[e0, e1, e2, e3] 58)
            have HI : Hid (XBase.In false (fun _ => True) w _ (.agg #[e0, e1, e2, e3]) _) := hInq
            have HDV : Hid (dv k0 d us.length = d) := by
              show _ = _
              unfold dv
              rw [if_neg]
              rintro ⟨h, -⟩
              rw [(HK4.out h).2] at hlt
              simp at hlt
            clear hInq
            go_wp2_with (first
              | (at_builtin; refine wpList_append_own_at _ rfl _ _ 38 rfl (w.heap.size + 1) 58 ix (.agg #[.int .i64 0, .int .i64 0, .string ⟨#[]⟩, .slice none 0 0]) 4 56 Tryz.underlying38 hix hx0 hx1 hx2 rfl (by decide) _ _ _ rfl hrow1 ⟨wr.heap.size, 0, none⟩ 1 1 [e0, e1, e2, e3] rfl rfl (new_cells wr _ 58) hone (by unfold maxLen; omega) (by omega) (by simp; omega) ?_))
            intro v' w2 hown' hgrow _ hat
            have hE2 := HE.out.addE hone HI.out hown' hgrow hat
            have HE2 : Hid _ := hE2
            have hsz2 := hE2.bel.size
            have hrow2 := World.ownsRow.alloc hE2.row (.cells #[.int .i64 (d)] 3)
            have hbx := hE2.box
            rw [← HC.out] at hbx
            obtain ⟨z0, z1, z2, z3, z4, z5, z6⟩ := seven_box hbx
            clear hbx hown' hgrow hat hE2 hrow1 HI k3 k4 k5 k6 hone
            go_wp2_with (first
              | (at_builtin; refine wpList_append_own_at _ rfl _ _ 28 rfl (w.heap.size + 1) 3 ij (.int .i64 0) 1 8 Tryz.underlying28 hij hj0 hj1 hj2 rfl (by decide) _ _ _ rfl hrow2 ⟨w2.heap.size, 0, none⟩ 1 1 [.int .i64 (d)] rfl rfl (cell_one_new _ _ _) (by simp [Value.oneCell']) (by unfold maxLen; omega) (by omega) (by simp; omega) ?_))
            intro v'' w3 hown' hgrow _ hat
            have hE3 := HE2.out.addD hown' hgrow hat
            have HE3 : Hid (Er w C w3 v' v'' (us ++ [.agg #[e0, e1, e2, e3]]) (ex1 f ++ ex2 (p.take (q + 1))) (dl k0 d (ex1 f ++ ex2 (p.take (q + 1))).length)) := by
              have e1 : (ex1 f ++ ex2 (p.take (q + 1))) = (ex1 f ++ ex2 (p.take q)) ++ [p[q].e] := by rw [ex2_yes p q hlt hbb, List.append_assoc]
              show Er _ _ _ _ _ _ _ _
              rw [e1, List.length_append, List.length_singleton, dl_succ, hD, ← HE.out.len, HDV.out]
              exact hE3
            clear hown' hgrow hat hE3 hrow2 HE2 HDV
            go_wp2_with fail
            go_roundw
            case rel => exact ⟨q + 1, us ++ [.agg #[e0, e1, e2, e3]], by go_num, by omega, HE3.out⟩
            case measure => simp only [intOf]; omega
          | false =>
            rw [hbb] at k2
            have HE3 : Hid (Er w C wr u6 u7 us (ex1 f ++ ex2 (p.take (q + 1))) (dl k0 d (ex1 f ++ ex2 (p.take (q + 1))).length)) := by
              show Er _ _ _ _ _ _ _ _
              rw [ex2_no p q hlt hbb, hD]
              exact HE.out
            clear hInq
            go_wp2_with fail
            go_roundw
            case rel => exact ⟨q + 1, us, by go_num, by omega, HE3.out⟩
            case measure => simp only [intOf]; omega
        · obtain rfl : q = p.length := by omega
          have d0 : decide ((p.length : Int) < (p.length : Int)) = false := by simp
          have HE2 : Hid (Er w C wr u6 u7 us (ex1 f ++ (ex2 p ++ x.take 0)) (dl k0 d (ex1 f ++ (ex2 p ++ x.take 0)).length)) := by
            show Er _ _ _ _ _ _ _ _
            have e1 : (ex1 f ++ (ex2 p ++ x.take 0)) = (ex1 f ++ ex2 (p.take p.length)) := by simp [ex2]
            rw [e1]
            exact HE.out
          clear HE
          go_wp2_with fail
          go_loopw [6, 7, 10] (fun es ds i wr => ∃ (q : Nat) (us : List Value), i = .int .i64 q ∧ q ≤ x.length ∧ Er w C wr es ds us (ex1 f ++ (ex2 p ++ x.take q)) (dl k0 d (ex1 f ++ (ex2 p ++ x.take q)).length)) (fun _ _ i _ => x.length - (intOf i).toNat)
          case atStart => exact ⟨0, us, rfl, by omega, HE2.out⟩
          case round =>
            clear HE2 hq d0 z0 z1 z2 z3 z4 z5 z6
            obtain ⟨q, us, rfl, hq, hE⟩ := hrel
            have HE : Hid (Er w C wr u6 u7 us (ex1 f ++ (ex2 p ++ x.take q)) (dl k0 d (ex1 f ++ (ex2 p ++ x.take q)).length)) := hE
            have hbx := hE.box
            rw [← HC.out] at hbx
            obtain ⟨z0, z1, z2, z3, z4, z5, z6⟩ := seven_box hbx
            clear hE hbx
            by_cases hlt : q < x.length
            · have d0 : decide ((q : Int) < (x.length : Int)) = true := by simp; omega
              have i0 : (0 : Int) ≤ (q : Int) := by omega
              have i1 : (q : Int) < (x.length : Int) := by omega
              obtain ⟨D, hD⟩ : ∃ D, dl k0 d (ex1 f ++ (ex2 p ++ x.take q)).length = D := ⟨_, rfl⟩
              have hDl : D.length = (ex1 f ++ (ex2 p ++ x.take q)).length := by rw [← hD, dl_len]
              rw [hD] at HE
              have hul := HE.out.len
              have hu1 := ex1_len f
              have hu2 := ex2_len p
              rw [List.length_append, List.length_append, List.length_take] at hul hDl
              have hsz := HE.out.bel.size
              have hus : us.length ≤ 8192 := by omega
              have hDs : D.length ≤ 8192 := by omega
              have HUL : Hid _ := hul
              clear hul hDl hu1 hu2
              obtain ⟨aa, cc, hsl, -, -, -, -, hLA⟩ := HX.out
              cases hsl
              obtain ⟨g, of, u, rfl, -, hFour, hInq⟩ := XBase.elem_at hLA hlt
              obtain ⟨e0, e1, e2, e3, rfl, k3, k4, k5, k6⟩ := hFour
              have k3 := below_cell k3 HE.out.bel
              have k4 := below_cell k4 HE.out.bel
              have k5 := below_cell k5 HE.out.bel
              have k6 := below_cell k6 HE.out.bel
              clear hLA
              by_cases hk : k0 = 4
              · subst hk
                have ek : ((4 : Int) == 4) = true := rfl
                by_cases hq1 : q = 1
                · have eq : ((q : Int) == 1) = true := by simp; omega
                  have HQ1 : Hid (q = 1) := hq1
                  clear hq1
                  have hone : ∀ u ∈ [e0, e1, e2, e3], u.oneCell' = true := by
                    obtain ⟨y0, y1, y2, y3, E, h⟩ := XLend.In.four hInq
                    simp only [Value.agg.injEq, Array.mk.injEq, List.cons.injEq, and_true] at E
                    obtain ⟨rfl, rfl, rfl, rfl⟩ := E
                    exact h
                  have hrow1 := World.ownsRow.alloc HE.out.own.1 (.cells #[e0, e1, e2, e3] 58)
                  have HI : Hid (XBase.In false (fun _ => True) w _ (.agg #[e0, e1, e2, e3]) _) := hInq
                  have HDV : Hid (dv 4 d us.length = d + 2) := by
                    show _ = _
                    obtain ⟨h1, h2⟩ := HK4.out rfl
                    subst h1
                    subst h2
                    have hq2 : us.length = q := by rw [HUL.out]; simp [ex1, ex2]; omega
                    unfold dv
                    rw [hq2, if_pos ⟨rfl, HQ1.out⟩]
                  clear hInq
                  go_wp2_with (first
                    | (at_builtin; refine wpList_append_own_at _ rfl _ _ 38 rfl (w.heap.size + 1) 58 ix (.agg #[.int .i64 0, .int .i64 0, .string ⟨#[]⟩, .slice none 0 0]) 4 56 Tryz.underlying38 hix hx0 hx1 hx2 rfl (by decide) _ _ _ rfl hrow1 ⟨wr.heap.size, 0, none⟩ 1 1 [e0, e1, e2, e3] rfl rfl (new_cells wr _ 58) hone (by unfold maxLen; omega) (by omega) (by simp; omega) ?_))
                  intro v' w2 hown' hgrow _ hat
                  have hE2 := HE.out.addE hone HI.out hown' hgrow hat
                  have HE2 : Hid _ := hE2
                  have hsz2 := hE2.bel.size
                  have hrow2 := World.ownsRow.alloc hE2.row (.cells #[.int .i64 (d + 2)] 3)
                  have hbx := hE2.box
                  rw [← HC.out] at hbx
                  obtain ⟨z0, z1, z2, z3, z4, z5, z6⟩ := seven_box hbx
                  clear hbx hown' hgrow hat hE2 hrow1 HI k3 k4 k5 k6 hone
                  go_wp2_with (first
                    | (at_builtin; refine wpList_append_own_at _ rfl _ _ 28 rfl (w.heap.size + 1) 3 ij (.int .i64 0) 1 8 Tryz.underlying28 hij hj0 hj1 hj2 rfl (by decide) _ _ _ rfl hrow2 ⟨w2.heap.size, 0, none⟩ 1 1 [.int .i64 (d + 2)] rfl rfl (cell_one_new _ _ _) (by simp [Value.oneCell']) (by unfold maxLen; omega) (by omega) (by simp; omega) ?_))
                  intro v'' w3 hown' hgrow _ hat
                  have hE3 := HE2.out.addD hown' hgrow hat
                  have HE3 : Hid (Er w C w3 v' v'' (us ++ [.agg #[e0, e1, e2, e3]]) (ex1 f ++ (ex2 p ++ x.take (q + 1))) (dl 4 d (ex1 f ++ (ex2 p ++ x.take (q + 1))).length)) := by
                    have e1 : (ex1 f ++ (ex2 p ++ x.take (q + 1))) = (ex1 f ++ (ex2 p ++ x.take q)) ++ [x[q]] := by rw [List.take_succ_eq_append_getElem hlt, List.append_assoc, List.append_assoc]
                    show Er _ _ _ _ _ _ _ _
                    rw [e1, List.length_append, List.length_singleton, dl_succ, hD, ← HE.out.len, HDV.out]
                    exact hE3
                  clear hown' hgrow hat hE3 hrow2 HE2 HDV
                  go_wp2_with fail
                  go_roundw
                  case rel => exact ⟨q + 1, us ++ [.agg #[e0, e1, e2, e3]], by go_num, by omega, HE3.out⟩
                  case measure => simp only [intOf]; omega
                · have eq : ((q : Int) == 1) = false := by simp; omega
                  have HQ1 : Hid (¬ q = 1) := hq1
                  clear hq1
                  have hone : ∀ u ∈ [e0, e1, e2, e3], u.oneCell' = true := by
                    obtain ⟨y0, y1, y2, y3, E, h⟩ := XLend.In.four hInq
                    simp only [Value.agg.injEq, Array.mk.injEq, List.cons.injEq, and_true] at E
                    obtain ⟨rfl, rfl, rfl, rfl⟩ := E
                    exact h
                  have hrow1 := World.ownsRow.alloc HE.out.own.1 (.cells #[e0, e1, e2, e3] 58)
                  have HI : Hid (XBase.In false (fun _ => True) w _ (.agg #[e0, e1, e2, e3]) _) := hInq
                  have HDV : Hid (dv 4 d us.length = d) := by
                    show _ = _
                    obtain ⟨h1, h2⟩ := HK4.out rfl
                    subst h1
                    subst h2
                    have hq2 : us.length = q := by rw [HUL.out]; simp [ex1, ex2]; omega
                    unfold dv
                    rw [hq2, if_neg (fun h => HQ1.out h.2)]
                  clear hInq
                  go_wp2_with (first
                    | (at_builtin; refine wpList_append_own_at _ rfl _ _ 38 rfl (w.heap.size + 1) 58 ix (.agg #[.int .i64 0, .int .i64 0, .string ⟨#[]⟩, .slice none 0 0]) 4 56 Tryz.underlying38 hix hx0 hx1 hx2 rfl (by decide) _ _ _ rfl hrow1 ⟨wr.heap.size, 0, none⟩ 1 1 [e0, e1, e2, e3] rfl rfl (new_cells wr _ 58) hone (by unfold maxLen; omega) (by omega) (by simp; omega) ?_))
                  intro v' w2 hown' hgrow _ hat
                  have hE2 := HE.out.addE hone HI.out hown' hgrow hat
                  have HE2 : Hid _ := hE2
                  have hsz2 := hE2.bel.size
                  have hrow2 := World.ownsRow.alloc hE2.row (.cells #[.int .i64 (d)] 3)
                  have hbx := hE2.box
                  rw [← HC.out] at hbx
                  obtain ⟨z0, z1, z2, z3, z4, z5, z6⟩ := seven_box hbx
                  clear hbx hown' hgrow hat hE2 hrow1 HI k3 k4 k5 k6 hone
                  go_wp2_with (first
                    | (at_builtin; refine wpList_append_own_at _ rfl _ _ 28 rfl (w.heap.size + 1) 3 ij (.int .i64 0) 1 8 Tryz.underlying28 hij hj0 hj1 hj2 rfl (by decide) _ _ _ rfl hrow2 ⟨w2.heap.size, 0, none⟩ 1 1 [.int .i64 (d)] rfl rfl (cell_one_new _ _ _) (by simp [Value.oneCell']) (by unfold maxLen; omega) (by omega) (by simp; omega) ?_))
                  intro v'' w3 hown' hgrow _ hat
                  have hE3 := HE2.out.addD hown' hgrow hat
                  have HE3 : Hid (Er w C w3 v' v'' (us ++ [.agg #[e0, e1, e2, e3]]) (ex1 f ++ (ex2 p ++ x.take (q + 1))) (dl 4 d (ex1 f ++ (ex2 p ++ x.take (q + 1))).length)) := by
                    have e1 : (ex1 f ++ (ex2 p ++ x.take (q + 1))) = (ex1 f ++ (ex2 p ++ x.take q)) ++ [x[q]] := by rw [List.take_succ_eq_append_getElem hlt, List.append_assoc, List.append_assoc]
                    show Er _ _ _ _ _ _ _ _
                    rw [e1, List.length_append, List.length_singleton, dl_succ, hD, ← HE.out.len, HDV.out]
                    exact hE3
                  clear hown' hgrow hat hE3 hrow2 HE2 HDV
                  go_wp2_with fail
                  go_roundw
                  case rel => exact ⟨q + 1, us ++ [.agg #[e0, e1, e2, e3]], by go_num, by omega, HE3.out⟩
                  case measure => simp only [intOf]; omega
              · have ek : (k0 == 4) = false := by simp [hk]
                have hone : ∀ u ∈ [e0, e1, e2, e3], u.oneCell' = true := by
                  obtain ⟨y0, y1, y2, y3, E, h⟩ := XLend.In.four hInq
                  simp only [Value.agg.injEq, Array.mk.injEq, List.cons.injEq, and_true] at E
                  obtain ⟨rfl, rfl, rfl, rfl⟩ := E
                  exact h
                have hrow1 := World.ownsRow.alloc HE.out.own.1 (.cells #[e0, e1, e2, e3] 58)
                have HI : Hid (XBase.In false (fun _ => True) w _ (.agg #[e0, e1, e2, e3]) _) := hInq
                have HDV : Hid (dv k0 d us.length = d) := by
                  show _ = _
                  unfold dv
                  rw [if_neg (fun h => hk h.1)]
                clear hInq
                go_wp2_with (first
                  | (at_builtin; refine wpList_append_own_at _ rfl _ _ 38 rfl (w.heap.size + 1) 58 ix (.agg #[.int .i64 0, .int .i64 0, .string ⟨#[]⟩, .slice none 0 0]) 4 56 Tryz.underlying38 hix hx0 hx1 hx2 rfl (by decide) _ _ _ rfl hrow1 ⟨wr.heap.size, 0, none⟩ 1 1 [e0, e1, e2, e3] rfl rfl (new_cells wr _ 58) hone (by unfold maxLen; omega) (by omega) (by simp; omega) ?_))
                intro v' w2 hown' hgrow _ hat
                have hE2 := HE.out.addE hone HI.out hown' hgrow hat
                have HE2 : Hid _ := hE2
                have hsz2 := hE2.bel.size
                have hrow2 := World.ownsRow.alloc hE2.row (.cells #[.int .i64 (d)] 3)
                have hbx := hE2.box
                rw [← HC.out] at hbx
                obtain ⟨z0, z1, z2, z3, z4, z5, z6⟩ := seven_box hbx
                clear hbx hown' hgrow hat hE2 hrow1 HI k3 k4 k5 k6 hone
                go_wp2_with (first
                  | (at_builtin; refine wpList_append_own_at _ rfl _ _ 28 rfl (w.heap.size + 1) 3 ij (.int .i64 0) 1 8 Tryz.underlying28 hij hj0 hj1 hj2 rfl (by decide) _ _ _ rfl hrow2 ⟨w2.heap.size, 0, none⟩ 1 1 [.int .i64 (d)] rfl rfl (cell_one_new _ _ _) (by simp [Value.oneCell']) (by unfold maxLen; omega) (by omega) (by simp; omega) ?_))
                intro v'' w3 hown' hgrow _ hat
                have hE3 := HE2.out.addD hown' hgrow hat
                have HE3 : Hid (Er w C w3 v' v'' (us ++ [.agg #[e0, e1, e2, e3]]) (ex1 f ++ (ex2 p ++ x.take (q + 1))) (dl k0 d (ex1 f ++ (ex2 p ++ x.take (q + 1))).length)) := by
                  have e1 : (ex1 f ++ (ex2 p ++ x.take (q + 1))) = (ex1 f ++ (ex2 p ++ x.take q)) ++ [x[q]] := by rw [List.take_succ_eq_append_getElem hlt, List.append_assoc, List.append_assoc]
                  show Er _ _ _ _ _ _ _ _
                  rw [e1, List.length_append, List.length_singleton, dl_succ, hD, ← HE.out.len, HDV.out]
                  exact hE3
                clear hown' hgrow hat hE3 hrow2 HE2 HDV
                go_wp2_with fail
                go_roundw
                case rel => exact ⟨q + 1, us ++ [.agg #[e0, e1, e2, e3]], by go_num, by omega, HE3.out⟩
                case measure => simp only [intOf]; omega
            · obtain rfl : q = x.length := by omega
              have d0 : decide ((x.length : Int) < (x.length : Int)) = false := by simp
              have HE2 : Hid (Er w C wr u6 u7 us X (dl k0 d X.length)) := by
                show Er _ _ _ _ _ _ _ _
                have e1 : X = (ex1 f ++ (ex2 p ++ x.take x.length)) := by rw [HXS.out]; simp
                rw [e1]
                exact HE.out
              clear HE
              go_wp2_with fail
              go_ret2
              exact ⟨u6, u7, us, rfl, C, HE2.out⟩
end Go.Proofs.YtofjedecjlodmaaGreat.KRx

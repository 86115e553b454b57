/- How many pieces a node has, up to a limit: the document's own answer (stencilref15.Pieces). -/
import Derived.Test.YtofjedecjlodmaaGreatKJp
import Derived.Test.YtofjedecjlodmaaGreatKNp
namespace Go.Proofs.YtofjedecjlodmaaGreat.KRn2
open Go.RowKit Go.Proofs.YtofjedecjlodmaaGreat.Base Go.Proofs.YtofjedecjlodmaaGreat.EPure Go.Proofs.YtofjedecjlodmaaGreat.KBase Go.Proofs.YtofjedecjlodmaaGreat.KAr Go.Proofs.YtofjedecjlodmaaGreat.KJp
open Go.Proofs.YtofjedecjlodmaaGreat.XBase (four_box)
set_option linter.unusedVariables false

def NI (m : Nat) : Prop := ∀ (w : World) (v : Value) (x : Ex) (n : Nat), XBase.In false (fun _ => True) w m v x → n ≤ 4096 →
    Calls Tryz.prog 66 #[v, .int .i64 n] w fun e w' => e = .returned (.int .i64 (min (n + esz [x]) 4097 : Nat)) ∧ Below w.heap.size w w'
theorem esz_drop (l : List Ex) (q : Nat) (h : q < l.length) : esz (l.drop q) = esz [l[q]] + esz (l.drop (q + 1)) := by
  rw [List.drop_eq_getElem_cons h, esz_cons, esz_cons, esz_nil]
  omega
set_option maxRecDepth 20000 in
set_option maxHeartbeats 1600000 in
theorem nodes_step (m : Nat) (ih : ∀ m', m' < m → NI m') : NI m := by
  intro w v x n hin hn
  have Hih : Hid (∀ m', m' < m → NI m') := ih
  obtain ⟨m', lv, rfl, rfl, -, -, -, hl⟩ := hin.shape
  have HIN : Hid (XBase.InL false (fun _ => True) w m' lv x.l) := hl
  obtain ⟨a, cap, rfl, hlc, hcm, hlen, -, -⟩ := hl
  obtain ⟨W0, hW0⟩ : ∃ W0, w.alloc (.cells #[.int .i64 x.o, .int .i64 x.i, .string x.s, .slice a x.l.length cap] 58) = W0 := ⟨_, rfl⟩
  have b0 : Below w.heap.size w W0 := by rw [← hW0]; exact (Below.refl _ w).alloc (Nat.le_refl _) _
  have q0 : W0.heap[w.heap.size]? = some (.cells #[.int .i64 x.o, .int .i64 x.i, .string x.s, .slice a x.l.length cap] 58 (0, 0)) := by rw [← hW0]; exact heap_alloc_new w _
  have HB0 : Hid (Below w.heap.size w W0) := b0
  have HQ0 : Hid (W0.heap[w.heap.size]? = some (.cells #[.int .i64 x.o, .int .i64 x.i, .string x.s, .slice a x.l.length cap] 58 (0, 0))) := q0
  have HX : Hid (esz [x] = 1 + esz x.l) := by show _ = _; rw [esz_cons, esz_nil]; omega
  obtain ⟨T, hT⟩ : ∃ T, min (n + esz [x]) 4097 = T := ⟨_, rfl⟩
  have HT : Hid (min (n + (1 + esz x.l)) 4097 = T) := by show _ = _; rw [← HX.out]; exact hT
  rw [hT]
  obtain ⟨l, hl⟩ : ∃ l, x.l = l := ⟨_, rfl⟩
  have hw1 : IntKind.i64.wrap ((n : Int) + 1) = (n : Int) + 1 := by rw [IntKind.wrap_i64]; omega
  have HW0 : Hid (w.alloc (.cells #[.int .i64 x.o, .int .i64 x.i, .string x.s, .slice a x.l.length cap] 58) = W0) := hW0
  rw [hl] at HIN HQ0 HT hlc hlen HW0 ⊢
  clear b0 q0 hT ih hin hW0 HX hl
  go_enter Tryz.func66, Tryz.ntmps66
  go_wp2_with fail
  try rw [HW0.out]
  go_loopw [1, 5] (fun k i wr => ∃ (q M : Nat), i = .int .i64 q ∧ k = .int .i64 M ∧ q ≤ l.length ∧ M ≤ 4097 ∧ min (M + esz (l.drop q)) 4097 = T ∧ Below w.heap.size w wr ∧ wr.heap[w.heap.size]? = some (.cells #[.int .i64 x.o, .int .i64 x.i, .string x.s, .slice a l.length cap] 58 (0, 0))) (fun _ i _ => l.length - (intOf i).toNat)
  case atStart => exact ⟨0, n + 1, rfl, by simp, by omega, by omega, by have := HT.out; rw [List.drop_zero]; omega, HB0.out, HQ0.out⟩
  case round =>
    obtain ⟨q, M, rfl, rfl, hq, hM, hR, hb, hQ⟩ := hrel
    have HB : Hid (Below w.heap.size w wr) := hb
    have HQ : Hid (wr.heap[w.heap.size]? = some (.cells #[.int .i64 x.o, .int .i64 x.i, .string x.s, .slice a l.length cap] 58 (0, 0))) := hQ
    have HR : Hid (min (M + esz (l.drop q)) 4097 = T) := hR
    obtain ⟨c0, c1, c2, c3⟩ := four_box hQ
    clear hb hQ HB0 HQ0 HT HW0
    by_cases hlt : q < l.length
    · have d0 : decide ((q : Int) < (l.length : Int)) = true := by simp; omega
      by_cases hM2 : M ≤ 4096
      · have d1 : decide ((M : Int) ≤ 4096) = true := by simp; omega
        have i0 : (0 : Int) ≤ (q : Int) := by omega
        have i1 : (q : Int) < (l.length : Int) := by omega
        have hinl := HIN.out.below HB.out
        obtain ⟨aa, cc, hsl, -, -, -, -, hLA⟩ := hinl
        cases hsl
        obtain ⟨g, of, u, rfl, -, hFour, hInq⟩ := XBase.elem_at hLA hlt
        obtain ⟨u0, u1, u2, u3', rfl, f0, f1, f2, f3⟩ := hFour
        have cN := Hih.out m' (by omega) wr _ _ M hInq hM2
        have hd := esz_drop l q hlt
        obtain ⟨E, hE⟩ : ∃ E, esz [l[q]] = E := ⟨_, rfl⟩
        rw [hE] at cN hd
        obtain ⟨N, hN⟩ : ∃ N, min (M + E) 4097 = N := ⟨_, rfl⟩
        rw [hN] at cN
        have HR2 : Hid (min (N + esz (l.drop (q + 1))) 4097 = T) := by show _ = _; omega
        have hN2 : N ≤ 4097 := by omega
        clear hLA hInq hd hE hN hR
        go_wp2_with fail
        refine cN.mono ?_
        rintro e W1 ⟨rfl, b1⟩
        have HB1 : Hid (Below w.heap.size w W1) := nx HB.out b1
        have HQ1 : Hid _ := (b1.block w.heap.size (Array.getElem?_eq_some_iff.1 HQ.out).1).trans HQ.out
        clear cN b1
        go_wp2_with fail
        go_roundw
        case rel => exact ⟨q + 1, N, by go_num, rfl, by omega, hN2, HR2.out, HB1.out, HQ1.out⟩
        case measure => simp only [intOf]; omega
      · have d1 : decide ((M : Int) ≤ 4096) = false := by simp; omega
        obtain rfl : T = M := by omega
        clear hR
        go_wp2_with fail
        go_ret
        exact ⟨rfl, HB.out⟩
    · obtain rfl : q = l.length := by omega
      have d0 : decide ((l.length : Int) < (l.length : Int)) = false := by simp
      obtain rfl : T = M := by rw [List.drop_length, esz_nil] at hR; omega
      clear hR
      go_wp2_with fail
      go_ret
      exact ⟨rfl, HB.out⟩
theorem nodes_all (m : Nat) : NI m := by
  induction m using Nat.strongRecOn with
  | _ m ih => exact nodes_step m ih
end Go.Proofs.YtofjedecjlodmaaGreat.KRn2

namespace Go.Proofs.YtofjedecjlodmaaGreat.KRc
open Go.RowKit Go.Proofs.YtofjedecjlodmaaGreat.Base Go.Proofs.YtofjedecjlodmaaGreat.EPure Go.Proofs.YtofjedecjlodmaaGreat.KBase Go.Proofs.YtofjedecjlodmaaGreat.KAr Go.Proofs.YtofjedecjlodmaaGreat.KEx Go.Proofs.YtofjedecjlodmaaGreat.KJp
open Go.Proofs.YtofjedecjlodmaaGreat.XBase (four_box)
set_option linter.unusedVariables false

theorem esz_app (a b : List Ex) : esz (a ++ b) = esz a + esz b := by
  induction a with
  | nil => rw [List.nil_append, esz_nil, Nat.zero_add]
  | cons x t ih => rw [List.cons_append, esz_cons, esz_cons, ih]; omega
theorem ex1_nil : ex1 [] = [] := rfl
theorem ex2_nil : ex2 [] = [] := rfl
theorem ex1_drop_yes (l : List Fld) (q : Nat) (h : q < l.length) (hb : l[q].b = true) : esz (ex1 (l.drop q)) = esz [l[q].e] + esz (ex1 (l.drop (q + 1))) := by
  rw [List.drop_eq_getElem_cons h]
  have : ex1 (l[q] :: l.drop (q + 1)) = [l[q].e] ++ ex1 (l.drop (q + 1)) := by unfold ex1; rw [List.filter_cons_of_pos hb]; rfl
  rw [this, esz_app]
theorem ex1_drop_no (l : List Fld) (q : Nat) (h : q < l.length) (hb : l[q].b = false) : esz (ex1 (l.drop q)) = esz (ex1 (l.drop (q + 1))) := by
  rw [List.drop_eq_getElem_cons h]
  have : ex1 (l[q] :: l.drop (q + 1)) = ex1 (l.drop (q + 1)) := by unfold ex1; rw [List.filter_cons_of_neg (by rw [hb]; simp)]
  rw [this]
theorem ex2_drop_yes (l : List Pt) (q : Nat) (h : q < l.length) (hb : l[q].b = true) : esz (ex2 (l.drop q)) = esz [l[q].e] + esz (ex2 (l.drop (q + 1))) := by
  rw [List.drop_eq_getElem_cons h]
  have : ex2 (l[q] :: l.drop (q + 1)) = [l[q].e] ++ ex2 (l.drop (q + 1)) := by unfold ex2; rw [List.filter_cons_of_pos hb]; rfl
  rw [this, esz_app]
theorem ex2_drop_no (l : List Pt) (q : Nat) (h : q < l.length) (hb : l[q].b = false) : esz (ex2 (l.drop q)) = esz (ex2 (l.drop (q + 1))) := by
  rw [List.drop_eq_getElem_cons h]
  have : ex2 (l[q] :: l.drop (q + 1)) = ex2 (l.drop (q + 1)) := by unfold ex2; rw [List.filter_cons_of_neg (by rw [hb]; simp)]
  rw [this]
set_option maxRecDepth 20000 in
set_option maxHeartbeats 3200000 in
theorem pieces_c {m : Nat} {v : Value} {c : Co} {w : World} (hin : In false (fun _ => True) w m v c) {n : Nat} (hn : n ≤ 4096) :
    Calls Tryz.prog 41 #[v, .int .i64 n] w fun e w' => Below w.heap.size w w' ∧ ∃ M : Nat, e = .returned (.int .i64 M) ∧ M ≤ 900000000000000 ∧ (M = n + pz c ∨ (4096 < M ∧ 4096 < n + pz c)) := by
  obtain ⟨m', fv, pv, xv, lv, uv, rfl, rfl, -, ht, hF, hP, ⟨mx, hX⟩, hL, hU⟩ := hin.shape
  have HT0 : Hid (n + (1 + c.f.length + c.p.length + c.x.length) + (esz (ex1 c.f) + (esz (ex2 c.p) + esz c.x)) = n + pz c) := by
    show _ = _
    unfold pz xsC
    rw [esz_app, esz_app]
    omega
  obtain ⟨T, hT⟩ : ∃ T, n + pz c = T := ⟨_, rfl⟩
  rw [hT] at HT0
  rw [hT]
  obtain ⟨k0, hk0⟩ : ∃ k, c.k = k := ⟨_, rfl⟩
  obtain ⟨t0, ht0⟩ : ∃ k, c.t = k := ⟨_, rfl⟩
  obtain ⟨f, hf⟩ : ∃ k, c.f = k := ⟨_, rfl⟩
  obtain ⟨p, hp⟩ : ∃ k, c.p = k := ⟨_, rfl⟩
  obtain ⟨x, hx⟩ : ∃ k, c.x = k := ⟨_, rfl⟩
  rw [hf, hp, hx] at HT0
  rw [hf] at hF
  rw [hp] at hP
  rw [hx] at hX
  rw [hk0, ht0]
  have HF : Hid (RF false (fun _ => True) w fv f) := hF
  have HP : Hid (RP false (fun _ => True) w pv p) := hP
  have HX : Hid (XBase.InL false (fun _ => True) w mx xv x) := hX
  obtain ⟨a1, c1, rfl, hc1, hm1, hl1, -, -⟩ := hF
  obtain ⟨a2, c2, rfl, hc2, hm2, hl2, -, -⟩ := hP
  obtain ⟨a3, c3, rfl, hc3, hm3, hl3, -, -⟩ := hX
  clear hT hk0 ht0 hf hp hx hin hL hU ht
  obtain ⟨W0, hW0⟩ : ∃ W0, w.alloc (.cells #[.int .i64 k0, .string t0, .slice a1 f.length c1, .slice a2 p.length c2, .slice a3 x.length c3, lv, uv] 40) = W0 := ⟨_, rfl⟩
  have b0 : Below w.heap.size w W0 := by rw [← hW0]; exact (Below.refl _ w).alloc (Nat.le_refl _) _
  have q0 : W0.heap[w.heap.size]? = some (.cells #[.int .i64 k0, .string t0, .slice a1 f.length c1, .slice a2 p.length c2, .slice a3 x.length c3, lv, uv] 40 (0, 0)) := by rw [← hW0]; exact heap_alloc_new w _
  have HB0 : Hid (Below w.heap.size w W0) := b0
  have HQ0 : Hid (W0.heap[w.heap.size]? = some (.cells #[.int .i64 k0, .string t0, .slice a1 f.length c1, .slice a2 p.length c2, .slice a3 x.length c3, lv, uv] 40 (0, 0))) := q0
  have HW0 : Hid (w.alloc (.cells #[.int .i64 k0, .string t0, .slice a1 f.length c1, .slice a2 p.length c2, .slice a3 x.length c3, lv, uv] 40) = W0) := hW0
  have hw1 : IntKind.i64.wrap ((n : Int) + 1) = (n : Int) + 1 := by rw [IntKind.wrap_i64]; omega
  have hw2 : IntKind.i64.wrap ((n : Int) + 1 + (f.length : Int)) = (n : Int) + 1 + (f.length : Int) := by rw [IntKind.wrap_i64]; omega
  have hw3 : IntKind.i64.wrap ((n : Int) + 1 + (f.length : Int) + (p.length : Int)) = (n : Int) + 1 + (f.length : Int) + (p.length : Int) := by rw [IntKind.wrap_i64]; omega
  have hw4 : IntKind.i64.wrap ((n : Int) + 1 + (f.length : Int) + (p.length : Int) + (x.length : Int)) = (n : Int) + 1 + (f.length : Int) + (p.length : Int) + (x.length : Int) := by rw [IntKind.wrap_i64]; omega
  have HI : Hid (n + 1 + f.length + p.length + x.length ≤ 900000000000000) := by show _ ≤ _; omega
  have HR0 : Hid ((n + 1 + f.length + p.length + x.length) + (esz (ex1 (f.drop 0)) + (esz (ex2 p) + esz x)) = T ∨ (4096 < (n + 1 + f.length + p.length + x.length) ∧ 4096 < T)) := .inl (by have := HT0.out; rw [List.drop_zero]; omega)
  clear b0 q0 hW0 HT0
  go_enter Tryz.func41, Tryz.ntmps41
  go_wp2_with fail
  try rw [HW0.out]
  go_loopw [1, 5] (fun k i wr => ∃ (q M : Nat), i = .int .i64 q ∧ k = .int .i64 M ∧ q ≤ f.length ∧ M ≤ 900000000000000 ∧ (M + (esz (ex1 (f.drop q)) + (esz (ex2 p) + esz x)) = T ∨ (4096 < M ∧ 4096 < T)) ∧ Below w.heap.size w wr ∧ wr.heap[w.heap.size]? = some (.cells #[.int .i64 k0, .string t0, .slice a1 f.length c1, .slice a2 p.length c2, .slice a3 x.length c3, lv, uv] 40 (0, 0))) (fun _ i _ => f.length - (intOf i).toNat)
  case atStart => exact ⟨0, n + 1 + f.length + p.length + x.length, rfl, by simp, by omega, HI.out, HR0.out, HB0.out, HQ0.out⟩
  case round =>
    clear HB0 HQ0 HW0 HI HR0 hw1 hw2 hw3 hw4
    obtain ⟨q, M, rfl, rfl, hq, hM, hR, hb, hQ⟩ := hrel
    have HB : Hid (Below w.heap.size w wr) := hb
    have HQ : Hid (wr.heap[w.heap.size]? = some (.cells #[.int .i64 k0, .string t0, .slice a1 f.length c1, .slice a2 p.length c2, .slice a3 x.length c3, lv, uv] 40 (0, 0))) := hQ
    have HR : Hid (M + (esz (ex1 (f.drop q)) + (esz (ex2 p) + esz x)) = T ∨ (4096 < M ∧ 4096 < T)) := hR
    obtain ⟨z0, z1, z2, z3, z4, z5, z6⟩ := seven_box hQ
    clear hb hQ hR
    by_cases hlt : q < f.length
    · have d0 : decide ((q : Int) < (f.length : Int)) = true := by simp; omega
      by_cases hM2 : M ≤ 4096
      · have d1 : decide ((M : Int) ≤ 4096) = true := by simp; omega
        have i0 : (0 : Int) ≤ (q : Int) := by omega
        have i1 : (q : Int) < (f.length : Int) := by omega
        have HR' : Hid (M + (esz (ex1 (f.drop q)) + (esz (ex2 p) + esz x)) = T) := by
          rcases HR.out with h | h
          · exact h
          · exact absurd h.1 (by omega)
        clear HR
        have hinl := RF.keep (Keep.of_below HB.out) HF.out
        obtain ⟨aa, cc, hsl, -, -, -, -, hLA⟩ := hinl
        cases hsl
        obtain ⟨g, o, u, rfl, -, hu, hi⟩ := hLA.elem hlt
        obtain ⟨v0, v1, v2, e0, e1, e2, e3, v7, rfl, k0, k1, k2, k3, k4, k5, k6, k7⟩ := hu
        obtain ⟨rfl, rfl, rfl, rfl, -, -, -, mm, hInq⟩ := hi.kinds
        obtain ⟨bb, hbb⟩ : ∃ bb, f[q].b = bb := ⟨_, rfl⟩
        clear hLA hi
        cases bb with
        | true =>
          have hd := ex1_drop_yes f q hlt hbb
          rw [hbb] at k2
          have cN := KRn2.nodes_all _ wr _ _ M hInq hM2
          obtain ⟨E, hE⟩ : ∃ E, esz [f[q].e] = E := ⟨_, rfl⟩
          rw [hE] at cN hd
          obtain ⟨N, hN⟩ : ∃ N, min (M + E) 4097 = N := ⟨_, rfl⟩
          rw [hN] at cN
          have HR2 : Hid (N + (esz (ex1 (f.drop (q + 1))) + (esz (ex2 p) + esz x)) = T ∨ (4096 < N ∧ 4096 < T)) := by
            have := HR'.out
            show _ ∨ _
            omega
          have hN2 : N ≤ 900000000000000 := by omega
          clear hInq hd hE hN HR'
          go_wp2_with fail
          refine cN.mono ?_
          rintro e W1 ⟨rfl, b1⟩
          have HB1 : Hid (Below w.heap.size w W1) := nx HB.out b1
          have HQ1 : Hid _ := (b1.block w.heap.size (Array.getElem?_eq_some_iff.1 HQ.out).1).trans HQ.out
          clear cN b1
          go_wp2_with fail
          go_roundw
          case rel => exact ⟨q + 1, N, by go_num, rfl, by omega, hN2, HR2.out, HB1.out, HQ1.out⟩
          case measure => simp only [intOf]; omega
        | false =>
          have HR2 : Hid (M + (esz (ex1 (f.drop (q + 1))) + (esz (ex2 p) + esz x)) = T ∨ (4096 < M ∧ 4096 < T)) := .inl (by rw [← ex1_drop_no f q hlt hbb]; exact HR'.out)
          rw [hbb] at k2
          clear hInq HR'
          go_wp2_with fail
          go_roundw
          case rel => exact ⟨q + 1, M, by go_num, rfl, by omega, hM, HR2.out, HB.out, HQ.out⟩
          case measure => simp only [intOf]; omega
      · have d1 : decide ((M : Int) ≤ 4096) = false := by simp; omega
        have HO : Hid (4096 < M ∧ 4096 < T) := by
          show _ ∧ _
          have := HR.out
          omega
        clear HR
        go_wp2_with fail
        go_loopw [1, 6] (fun k i wy => ∃ qp : Nat, i = .int .i64 qp ∧ k = .int .i64 M ∧ wy = wr) (fun _ _ _ => 0)
        case atStart => exact ⟨0, rfl, rfl, rfl⟩
        case round =>
          obtain ⟨qp, rfl, rfl, hwy⟩ := hrel
          subst hwy
          by_cases hlp : qp < p.length
          · have e0 : decide ((qp : Int) < (p.length : Int)) = true := decide_eq_true (by omega)
            go_wp2_with fail
            go_loopw [1, 7] (fun k i wy => ∃ qx : Nat, i = .int .i64 qx ∧ k = .int .i64 M ∧ wy = wr) (fun _ _ _ => 0)
            case atStart => exact ⟨0, rfl, rfl, rfl⟩
            case round =>
              obtain ⟨qx, rfl, rfl, hwy⟩ := hrel
              subst hwy
              by_cases hlx : qx < x.length
              · have e0 : decide ((qx : Int) < (x.length : Int)) = true := decide_eq_true (by omega)
                go_wp2_with fail
                go_ret
                exact ⟨HB.out, M, rfl, hM, .inr HO.out⟩
              · have e0 : decide ((qx : Int) < (x.length : Int)) = false := decide_eq_false (by omega)
                go_wp2_with fail
                go_ret
                exact ⟨HB.out, M, rfl, hM, .inr HO.out⟩
          · have e0 : decide ((qp : Int) < (p.length : Int)) = false := decide_eq_false (by omega)
            go_wp2_with fail
            go_loopw [1, 7] (fun k i wy => ∃ qx : Nat, i = .int .i64 qx ∧ k = .int .i64 M ∧ wy = wr) (fun _ _ _ => 0)
            case atStart => exact ⟨0, rfl, rfl, rfl⟩
            case round =>
              obtain ⟨qx, rfl, rfl, hwy⟩ := hrel
              subst hwy
              by_cases hlx : qx < x.length
              · have e0 : decide ((qx : Int) < (x.length : Int)) = true := decide_eq_true (by omega)
                go_wp2_with fail
                go_ret
                exact ⟨HB.out, M, rfl, hM, .inr HO.out⟩
              · have e0 : decide ((qx : Int) < (x.length : Int)) = false := decide_eq_false (by omega)
                go_wp2_with fail
                go_ret
                exact ⟨HB.out, M, rfl, hM, .inr HO.out⟩
    · obtain rfl : q = f.length := by omega
      have d0 : decide ((f.length : Int) < (f.length : Int)) = false := by simp
      have HR2 : Hid (M + (esz (ex2 (p.drop 0)) + esz x) = T ∨ (4096 < M ∧ 4096 < T)) := by
        have := HR.out
        rw [List.drop_length, ex1_nil, esz_nil] at this
        show _ ∨ _
        rw [List.drop_zero]
        omega
      clear HR
      go_wp2_with fail
      go_loopw [1, 6] (fun k i wr => ∃ (q M : Nat), i = .int .i64 q ∧ k = .int .i64 M ∧ q ≤ p.length ∧ M ≤ 900000000000000 ∧ (M + (esz (ex2 (p.drop q)) + esz x) = T ∨ (4096 < M ∧ 4096 < T)) ∧ Below w.heap.size w wr ∧ wr.heap[w.heap.size]? = some (.cells #[.int .i64 k0, .string t0, .slice a1 f.length c1, .slice a2 p.length c2, .slice a3 x.length c3, lv, uv] 40 (0, 0))) (fun _ i _ => p.length - (intOf i).toNat)
      case atStart => exact ⟨0, M, rfl, rfl, by omega, hM, HR2.out, HB.out, HQ.out⟩
      case round =>
        clear HR2 HB HQ hq hM d0 z0 z1 z2 z3 z4 z5 z6
        obtain ⟨q, M, rfl, rfl, hq, hM, hR, hb, hQ⟩ := hrel
        have HB : Hid (Below w.heap.size w wr) := hb
        have HQ : Hid (wr.heap[w.heap.size]? = some (.cells #[.int .i64 k0, .string t0, .slice a1 f.length c1, .slice a2 p.length c2, .slice a3 x.length c3, lv, uv] 40 (0, 0))) := hQ
        have HR : Hid (M + (esz (ex2 (p.drop q)) + esz x) = T ∨ (4096 < M ∧ 4096 < T)) := hR
        obtain ⟨z0, z1, z2, z3, z4, z5, z6⟩ := seven_box hQ
        clear hb hQ hR
        by_cases hlt : q < p.length
        · have d0 : decide ((q : Int) < (p.length : Int)) = true := by simp; omega
          by_cases hM2 : M ≤ 4096
          · have d1 : decide ((M : Int) ≤ 4096) = true := by simp; omega
            have i0 : (0 : Int) ≤ (q : Int) := by omega
            have i1 : (q : Int) < (p.length : Int) := by omega
            have HR' : Hid (M + (esz (ex2 (p.drop q)) + esz x) = T) := by
              rcases HR.out with h | h
              · exact h
              · exact absurd h.1 (by omega)
            clear HR
            have hinl := RP.keep (Keep.of_below HB.out) HP.out
            obtain ⟨aa, cc, hsl, -, -, -, -, hLA⟩ := hinl
            cases hsl
            obtain ⟨g, o, u, rfl, -, hu, hi⟩ := hLA.elem hlt
            obtain ⟨v0, v1, e0, e1, e2, e3, rfl, k0, k1, k2, k3, k4, k5⟩ := hu
            obtain ⟨rfl, rfl, -, mm, hInq⟩ := hi.kinds
            obtain ⟨bb, hbb⟩ : ∃ bb, p[q].b = bb := ⟨_, rfl⟩
            clear hLA hi
            cases bb with
            | true =>
              have hd := ex2_drop_yes p q hlt hbb
              rw [hbb] at k1
              have cN := KRn2.nodes_all _ wr _ _ M hInq hM2
              obtain ⟨E, hE⟩ : ∃ E, esz [p[q].e] = E := ⟨_, rfl⟩
              rw [hE] at cN hd
              obtain ⟨N, hN⟩ : ∃ N, min (M + E) 4097 = N := ⟨_, rfl⟩
              rw [hN] at cN
              have HR2 : Hid (N + (esz (ex2 (p.drop (q + 1))) + esz x) = T ∨ (4096 < N ∧ 4096 < T)) := by
                have := HR'.out
                show _ ∨ _
                omega
              have hN2 : N ≤ 900000000000000 := by omega
              clear hInq hd hE hN HR'
              go_wp2_with fail
              refine cN.mono ?_
              rintro e W1 ⟨rfl, b1⟩
              have HB1 : Hid (Below w.heap.size w W1) := nx HB.out b1
              have HQ1 : Hid _ := (b1.block w.heap.size (Array.getElem?_eq_some_iff.1 HQ.out).1).trans HQ.out
              clear cN b1
              go_wp2_with fail
              go_roundw
              case rel => exact ⟨q + 1, N, by go_num, rfl, by omega, hN2, HR2.out, HB1.out, HQ1.out⟩
              case measure => simp only [intOf]; omega
            | false =>
              have HR2 : Hid (M + (esz (ex2 (p.drop (q + 1))) + esz x) = T ∨ (4096 < M ∧ 4096 < T)) := .inl (by rw [← ex2_drop_no p q hlt hbb]; exact HR'.out)
              rw [hbb] at k1
              clear hInq HR'
              go_wp2_with fail
              go_roundw
              case rel => exact ⟨q + 1, M, by go_num, rfl, by omega, hM, HR2.out, HB.out, HQ.out⟩
              case measure => simp only [intOf]; omega
          · have d1 : decide ((M : Int) ≤ 4096) = false := by simp; omega
            have HO : Hid (4096 < M ∧ 4096 < T) := by
              show _ ∧ _
              have := HR.out
              omega
            clear HR
            go_wp2_with fail
            go_loopw [1, 7] (fun k i wy => ∃ qx : Nat, i = .int .i64 qx ∧ k = .int .i64 M ∧ wy = wr) (fun _ _ _ => 0)
            case atStart => exact ⟨0, rfl, rfl, rfl⟩
            case round =>
              obtain ⟨qx, rfl, rfl, hwy⟩ := hrel
              subst hwy
              by_cases hlx : qx < x.length
              · have e0 : decide ((qx : Int) < (x.length : Int)) = true := decide_eq_true (by omega)
                go_wp2_with fail
                go_ret
                exact ⟨HB.out, M, rfl, hM, .inr HO.out⟩
              · have e0 : decide ((qx : Int) < (x.length : Int)) = false := decide_eq_false (by omega)
                go_wp2_with fail
                go_ret
                exact ⟨HB.out, M, rfl, hM, .inr HO.out⟩
        · obtain rfl : q = p.length := by omega
          have d0 : decide ((p.length : Int) < (p.length : Int)) = false := by simp
          have HR2 : Hid (M + (esz (x.drop 0)) = T ∨ (4096 < M ∧ 4096 < T)) := by
            have := HR.out
            rw [List.drop_length, ex2_nil, esz_nil] at this
            show _ ∨ _
            rw [List.drop_zero]
            omega
          clear HR
          go_wp2_with fail
          go_loopw [1, 7] (fun k i wr => ∃ (q M : Nat), i = .int .i64 q ∧ k = .int .i64 M ∧ q ≤ x.length ∧ M ≤ 900000000000000 ∧ (M + (esz (x.drop q)) = T ∨ (4096 < M ∧ 4096 < T)) ∧ Below w.heap.size w wr ∧ wr.heap[w.heap.size]? = some (.cells #[.int .i64 k0, .string t0, .slice a1 f.length c1, .slice a2 p.length c2, .slice a3 x.length c3, lv, uv] 40 (0, 0))) (fun _ i _ => x.length - (intOf i).toNat)
          case atStart => exact ⟨0, M, rfl, rfl, by omega, hM, HR2.out, HB.out, HQ.out⟩
          case round =>
            clear HR2 HB HQ hq hM d0 z0 z1 z2 z3 z4 z5 z6
            obtain ⟨q, M, rfl, rfl, hq, hM, hR, hb, hQ⟩ := hrel
            have HB : Hid (Below w.heap.size w wr) := hb
            have HQ : Hid (wr.heap[w.heap.size]? = some (.cells #[.int .i64 k0, .string t0, .slice a1 f.length c1, .slice a2 p.length c2, .slice a3 x.length c3, lv, uv] 40 (0, 0))) := hQ
            have HR : Hid (M + (esz (x.drop q)) = T ∨ (4096 < M ∧ 4096 < T)) := hR
            obtain ⟨z0, z1, z2, z3, z4, z5, z6⟩ := seven_box hQ
            clear hb hQ hR
            by_cases hlt : q < x.length
            · have d0 : decide ((q : Int) < (x.length : Int)) = true := by simp; omega
              by_cases hM2 : M ≤ 4096
              · have d1 : decide ((M : Int) ≤ 4096) = true := by simp; omega
                have i0 : (0 : Int) ≤ (q : Int) := by omega
                have i1 : (q : Int) < (x.length : Int) := by omega
                have HR' : Hid (M + (esz (x.drop q)) = T) := by
                  rcases HR.out with h | h
                  · exact h
                  · exact absurd h.1 (by omega)
                clear HR
                have hinl := HX.out.below HB.out
                obtain ⟨aa, cc, hsl, -, -, -, -, hLA⟩ := hinl
                cases hsl
                obtain ⟨g, of, u, rfl, -, hFour, hInq⟩ := XBase.elem_at hLA hlt
                obtain ⟨u0, u1, u2, u3', rfl, f0, f1, f2, f3⟩ := hFour
                have hd := KRn2.esz_drop x q hlt
                clear hLA
                have cN := KRn2.nodes_all _ wr _ _ M hInq hM2
                obtain ⟨E, hE⟩ : ∃ E, esz [x[q]] = E := ⟨_, rfl⟩
                rw [hE] at cN hd
                obtain ⟨N, hN⟩ : ∃ N, min (M + E) 4097 = N := ⟨_, rfl⟩
                rw [hN] at cN
                have HR2 : Hid (N + (esz (x.drop (q + 1))) = T ∨ (4096 < N ∧ 4096 < T)) := by
                  have := HR'.out
                  show _ ∨ _
                  omega
                have hN2 : N ≤ 900000000000000 := by omega
                clear hInq hd hE hN HR'
                go_wp2_with fail
                refine cN.mono ?_
                rintro e W1 ⟨rfl, b1⟩
                have HB1 : Hid (Below w.heap.size w W1) := nx HB.out b1
                have HQ1 : Hid _ := (b1.block w.heap.size (Array.getElem?_eq_some_iff.1 HQ.out).1).trans HQ.out
                clear cN b1
                go_wp2_with fail
                go_roundw
                case rel => exact ⟨q + 1, N, by go_num, rfl, by omega, hN2, HR2.out, HB1.out, HQ1.out⟩
                case measure => simp only [intOf]; omega
              · have d1 : decide ((M : Int) ≤ 4096) = false := by simp; omega
                have HO : Hid (4096 < M ∧ 4096 < T) := by
                  show _ ∧ _
                  have := HR.out
                  omega
                clear HR
                go_wp2_with fail
                go_ret
                exact ⟨HB.out, M, rfl, hM, .inr HO.out⟩
            · obtain rfl : q = x.length := by omega
              have d0 : decide ((x.length : Int) < (x.length : Int)) = false := by simp
              have HE : Hid (M = T ∨ (4096 < M ∧ 4096 < T)) := by
                have := HR.out
                rw [List.drop_length, esz_nil] at this
                show _ ∨ _
                omega
              clear HR
              go_wp2_with fail
              go_ret
              exact ⟨HB.out, M, rfl, hM, HE.out⟩
end Go.Proofs.YtofjedecjlodmaaGreat.KRc

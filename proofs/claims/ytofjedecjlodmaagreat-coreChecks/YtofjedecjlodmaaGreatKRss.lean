/- The numbers of static elements: the document's own answer (stencilref15.statics). -/
import Derived.Test.YtofjedecjlodmaaGreatKRp
import Derived.Test.YtofjedecjlodmaaGreatKRs1
import Derived.Test.YtofjedecjlodmaaGreatXLend
import Derived.Laws.OwnMore
import Derived.Laws.AppendOwnNone
import Derived.Maps.AppendAt
import Derived.Deep.RegionHeld3
import Derived.Deep.CutBlock
namespace Go.Proofs.YtofjedecjlodmaaGreat.KRst
open Go.RowKit Go.Proofs.YtofjedecjlodmaaGreat.Base Go.Proofs.YtofjedecjlodmaaGreat.EPure Go.Proofs.YtofjedecjlodmaaGreat.KBase Go.Proofs.YtofjedecjlodmaaGreat.KAr Go.Proofs.YtofjedecjlodmaaGreat.KRp
open Go.Proofs.YtofjedecjlodmaaGreat.SFit (ret_bool)
set_option linter.unusedVariables false

def StI (m : Nat) : Prop := ∀ (w : World) (v : Value) (c : Co), In false (fun _ => True) w m v c →
    Calls Tryz.prog 39 #[v] w fun e w' => e = .returned (.bool (sta1 c)) ∧ Below w.heap.size w w'
theorem any_none {l : List Fld} (h : ∀ j (h : j < l.length), l[j].b = false) : l.any Fld.b = false := by
  rw [List.any_eq_false]
  intro x hx
  obtain ⟨j, hj, rfl⟩ := List.getElem_of_mem hx
  rw [h j hj]
  decide
theorem any_one {l : List Fld} {j : Nat} (hj : j < l.length) (h : l[j].b = true) : l.any Fld.b = true := List.any_eq_true.2 ⟨_, List.getElem_mem hj, h⟩
set_option maxRecDepth 20000 in
set_option maxHeartbeats 3200000 in
theorem static_step (m : Nat) (ih : ∀ m', m' < m → StI m') : StI m := by
  intro w v c hin
  have Hih : Hid (∀ m', m' < m → StI m') := ih
  obtain ⟨m', fv, pv, xv, lv, uv, rfl, rfl, hk0, ht, hF, hP, hX, hL, hU⟩ := hin.shape
  have HS : Hid (sta1 c = if c.k = 1 then c.p.length == 1 && !(c.p.any Pt.b) else if c.k = 2 then !(c.f.any Fld.b) && staL c.l else false) := rfl
  obtain ⟨Z, hZ⟩ : ∃ Z, sta1 c = Z := ⟨_, rfl⟩
  rw [hZ] at HS
  rw [hZ]
  obtain ⟨k, hk⟩ : ∃ k, c.k = k := ⟨_, rfl⟩
  obtain ⟨t0, ht0⟩ : ∃ k, c.t = k := ⟨_, rfl⟩
  obtain ⟨f, hf⟩ : ∃ k, c.f = k := ⟨_, rfl⟩
  obtain ⟨p, hp⟩ : ∃ k, c.p = k := ⟨_, rfl⟩
  obtain ⟨l, hl⟩ : ∃ k, c.l = k := ⟨_, rfl⟩
  rw [hk, hf, hp, hl] at HS
  rw [hf] at hF
  rw [hp] at hP
  rw [hl] at hL
  rw [hk, ht0]
  have HF : Hid (RF false (fun _ => True) w fv f) := hF
  have HP : Hid (RP false (fun _ => True) w pv p) := hP
  have HL : Hid (InL false (fun _ => True) w m' lv l) := hL
  obtain ⟨a1, c1, rfl, hc1, hm1, hl1, -, -⟩ := hF
  obtain ⟨a2, c2, rfl, hc2, hm2, hl2, -, -⟩ := hP
  obtain ⟨a4, c4, rfl, hc4, hm4, hl4, -, -⟩ := hL
  obtain ⟨W0, hW0⟩ : ∃ W0, w.alloc (.cells #[.int .i64 k, .string t0, .slice a1 f.length c1, .slice a2 p.length c2, xv, .slice a4 l.length c4, uv] 40) = W0 := ⟨_, rfl⟩
  have HB0 : Hid (Below w.heap.size w W0) := by rw [← hW0]; exact (Below.refl _ w).alloc (Nat.le_refl _) _
  have HQ0 : Hid (W0.heap[w.heap.size]? = some (.cells #[.int .i64 k, .string t0, .slice a1 f.length c1, .slice a2 p.length c2, xv, .slice a4 l.length c4, uv] 40 (0, 0))) := by rw [← hW0]; exact heap_alloc_new w _
  have HW0 : Hid (w.alloc (.cells #[.int .i64 k, .string t0, .slice a1 f.length c1, .slice a2 p.length c2, xv, .slice a4 l.length c4, uv] 40) = W0) := hW0
  clear hZ hk ht0 hf hp hl hin hX hU ht ih hW0 hk0
  by_cases h1 : k = 1
  · subst h1
    have HS1 : Hid (Z = (p.length == 1 && !(p.any Pt.b))) := by show _ = _; rw [HS.out, if_pos rfl]
    clear HS
    by_cases hp1 : p.length = 1
    · obtain ⟨n, hn⟩ : ∃ n, p.length = n := ⟨_, rfl⟩
      obtain ⟨a, ha⟩ : ∃ a, p = [a] := List.length_eq_one_iff.1 hp1
      obtain ⟨aa, cc, hsl, -, -, -, -, hLA⟩ := HP.out
      cases hsl
      obtain ⟨g, o, u, hga, -, hu, hi⟩ := hLA.elem (q := 0) (by omega)
      subst hga
      obtain ⟨v0, v1, e0, e1, e2, e3, rfl, x0, x1, -⟩ := hu
      obtain ⟨-, rfl, -⟩ := hi.kinds
      rw [Nat.zero_mul, Nat.add_zero] at x1
      replace x1 := below_cell x1 HB0.out
      rw [← HW0.out] at x1
      have HZ : Hid (Z = !(p[0]'(by omega)).b) := by
        show _ = _
        rw [HS1.out]
        subst ha
        simp
      obtain ⟨b, hb⟩ : ∃ b, (p[0]'(by omega)).b = b := ⟨_, rfl⟩
      rw [hb] at x1 HZ
      have hZ := HZ.out
      subst hZ
      rw [hp1] at HQ0 HW0 x1 ⊢
      clear hb hLA hi ha hn HS1 hl2 hc2 HP hp1 x0
      go_enter Tryz.func39, Tryz.ntmps39
      go_wp2_with fail
      try rw [HW0.out]
      go_ret
      exact ⟨ret_bool rfl, HB0.out⟩
    · have o1 : ((p.length : Int) == 1) = false := by simp; omega
      have hZ : Z = false := by rw [HS1.out, show (p.length == 1) = false by simp [hp1]]; rfl
      subst hZ
      clear HS1 hp1
      go_enter Tryz.func39, Tryz.ntmps39
      go_wp2_with fail
      try rw [HW0.out]
      go_ret
      exact ⟨rfl, HB0.out⟩
  have k1 : (k == 1) = false := by simp [h1]
  by_cases h2 : k = 2
  · subst h2
    have HS1 : Hid (Z = (!(f.any Fld.b) && staL l)) := by show _ = _; rw [HS.out, if_neg h1, if_pos rfl]
    clear HS h1
    go_enter Tryz.func39, Tryz.ntmps39
    go_wp2_with fail
    try rw [HW0.out]
    go_loopw [3] (fun i wr => ∃ q : Nat, i = .int .i64 q ∧ q ≤ f.length ∧ (∀ j (h : j < f.length), j < q → f[j].b = false) ∧ wr = W0) (fun i _ => f.length - (intOf i).toNat)
    case atStart => exact ⟨0, rfl, by omega, (fun j h h' => by omega), rfl⟩
    case round =>
      obtain ⟨q, rfl, hq, hall, hwr⟩ := hrel
      subst hwr
      have HALL : Hid (∀ j (h : j < f.length), j < q → f[j].b = false) := hall
      obtain ⟨z0, z1, z2, z3, z4, z5, z6⟩ := seven_box HQ0.out
      clear hall
      by_cases hlt : q < f.length
      · have d0 : decide ((q : Int) < (f.length : Int)) = true := by simp; omega
        have i0 : (0 : Int) ≤ (q : Int) := by omega
        have i1 : (q : Int) < (f.length : Int) := by omega
        have hinl := RF.keep (Keep.of_below HB0.out) HF.out
        obtain ⟨aa, cc, hsl, -, -, -, -, hLA⟩ := hinl
        cases hsl
        obtain ⟨g, o, u, rfl, -, hu, hi⟩ := hLA.elem hlt
        obtain ⟨v0, v1, v2, e0, e1, e2, e3, v7, rfl, y0, y1, y2, -⟩ := hu
        obtain ⟨rfl, rfl, rfl, rfl, -⟩ := hi.kinds
        obtain ⟨bb, hbb⟩ : ∃ bb, f[q].b = bb := ⟨_, rfl⟩
        rw [hbb] at y2
        clear hLA hi y0 y1
        cases bb with
        | true =>
          have hZ : Z = false := by rw [HS1.out, any_one hlt hbb]; rfl
          subst hZ
          go_wp2_with fail
          go_ret
          exact ⟨rfl, HB0.out⟩
        | false =>
          have HALL2 : Hid (∀ j (h : j < f.length), j < q + 1 → f[j].b = false) := fun j h h' => by
            by_cases ej : j = q
            · subst ej; exact hbb
            · exact HALL.out j h (by omega)
          go_wp2_with fail
          go_roundw
          case rel => exact ⟨q + 1, by go_num, by omega, HALL2.out, by first | rfl | trivial⟩
          case measure => simp only [intOf]; omega
      · obtain rfl : q = f.length := by omega
        have d0 : decide ((f.length : Int) < (f.length : Int)) = false := by simp
        have HZ : Hid (Z = staL (l.drop 0)) := by
          show _ = _
          rw [HS1.out, any_none (fun j h => HALL.out j h h), List.drop_zero]
          rfl
        clear HALL HS1
        go_wp2_with fail
        go_loopw [4] (fun i wr => ∃ q : Nat, i = .int .i64 q ∧ q ≤ l.length ∧ Z = staL (l.drop q) ∧ Below w.heap.size w wr ∧ wr.heap[w.heap.size]? = some (.cells #[.int .i64 2, .string t0, .slice a1 f.length c1, .slice a2 p.length c2, xv, .slice a4 l.length c4, uv] 40 (0, 0))) (fun i _ => l.length - (intOf i).toNat)
        case atStart => exact ⟨0, rfl, by omega, HZ.out, HB0.out, HQ0.out⟩
        case round =>
          obtain ⟨q, rfl, hq', hz, hb, hQ⟩ := hrel
          have HB : Hid (Below w.heap.size w wr) := hb
          have HQ : Hid (wr.heap[w.heap.size]? = some (.cells #[.int .i64 2, .string t0, .slice a1 f.length c1, .slice a2 p.length c2, xv, .slice a4 l.length c4, uv] 40 (0, 0))) := hQ
          have HZ2 : Hid (Z = staL (l.drop q)) := hz
          clear z0 z1 z2 z3 z4 z5 z6 hz hb HZ HB0 HQ0 HW0
          obtain ⟨z0, z1, z2, z3, z4, z5, z6⟩ := seven_box hQ
          clear hQ
          by_cases hlt : q < l.length
          · have d1 : decide ((q : Int) < (l.length : Int)) = true := by simp; omega
            have i0 : (0 : Int) ≤ (q : Int) := by omega
            have i1 : (q : Int) < (l.length : Int) := by omega
            have hinl := HL.out.below HB.out
            obtain ⟨aa, cc, hsl, -, -, -, -, hLA⟩ := hinl
            cases hsl
            obtain ⟨g, o, u, rfl, -, hu, hi⟩ := hLA.elem hlt
            obtain ⟨v0, v1, v2, v3, v4, v5, v6, rfl, y0, y1, y2, y3, y4, y5, y6⟩ := hu
            have cS := Hih.out m' (by omega) wr _ _ hi
            have HD : Hid (staL (l.drop q) = (sta1 l[q] && staL (l.drop (q + 1)))) := by show _ = _; rw [List.drop_eq_getElem_cons hlt, staL_cons]
            obtain ⟨zz, hzz⟩ : ∃ zz, sta1 l[q] = zz := ⟨_, rfl⟩
            rw [hzz] at cS HD
            clear hLA hi hzz
            go_wp2_with fail
            refine cS.mono ?_
            rintro e W1 ⟨rfl, b1⟩
            have HB1 : Hid (Below w.heap.size w W1) := nx HB.out b1
            have HQ1 : Hid _ := (b1.block w.heap.size (Array.getElem?_eq_some_iff.1 HQ.out).1).trans HQ.out
            clear cS b1
            cases zz with
            | true =>
              have HZ3 : Hid (Z = staL (l.drop (q + 1))) := by show _ = _; rw [HZ2.out, HD.out]; rfl
              go_wp2_with fail
              go_roundw
              case rel => exact ⟨q + 1, by go_num, by omega, HZ3.out, HB1.out, HQ1.out⟩
              case measure => simp only [intOf]; omega
            | false =>
              have hZ : Z = false := by rw [HZ2.out, HD.out]; rfl
              subst hZ
              go_wp2_with fail
              go_ret
              exact ⟨rfl, HB1.out⟩
          · obtain rfl : q = l.length := by omega
            have d1 : decide ((l.length : Int) < (l.length : Int)) = false := by simp
            have hZ : Z = true := by rw [HZ2.out, List.drop_length, staL_nil]
            subst hZ
            go_wp2_with fail
            go_ret
            exact ⟨rfl, HB.out⟩
  have k2 : (k == 2) = false := by simp [h2]
  have hZ : Z = false := by rw [HS.out, if_neg h1, if_neg h2]
  subst hZ
  clear HS h1 h2
  go_enter Tryz.func39, Tryz.ntmps39
  go_wp2_with fail
  try rw [HW0.out]
  go_ret
  exact ⟨rfl, HB0.out⟩
theorem static_all (m : Nat) : StI m := by
  induction m using Nat.strongRecOn with
  | _ m ih => exact static_step m ih
end Go.Proofs.YtofjedecjlodmaaGreat.KRst

namespace Go.Proofs.YtofjedecjlodmaaGreat.KRss
open Go.RowKit Go.Proofs.YtofjedecjlodmaaGreat.Base Go.Proofs.YtofjedecjlodmaaGreat.EPure Go.Proofs.YtofjedecjlodmaaGreat.KBase Go.Proofs.YtofjedecjlodmaaGreat.KAr Go.Proofs.YtofjedecjlodmaaGreat.KRp Go.Proofs.YtofjedecjlodmaaGreat.KVp
open Go.Proofs.YtofjedecjlodmaaGreat.KSt (Oi infoI Oi.same Oi.lt Oi.below s1)
open Go.Proofs.YtofjedecjlodmaaGreat.XLend (info_parts)
set_option linter.unusedVariables false

theorem rst_len : ∀ (m : Nat) (cs : List Co) (n : Nat), SizeOf.sizeOf cs ≤ m → (rst cs n).length ≤ szL cs := by
  intro m
  induction m with
  | zero =>
    intro cs n h
    cases cs with
    | nil => rw [rst_nil, szL_nil]; simp
    | cons c t => exact absurd h (by simp)
  | succ m ih =>
    intro cs n h
    cases cs with
    | nil => rw [rst_nil, szL_nil]; simp
    | cons c t =>
      rw [rst_cons, szL_cons, List.length_append]
      obtain ⟨k, tg, f, p, x, l, u⟩ := c
      have e1 : (Co.mk k tg f p x l u).l = l := rfl
      have e2 : (Co.mk k tg f p x l u).u = u := rfl
      rw [e1, e2]
      have i1 := ih l (n + 1) (by simp at h; omega)
      have i2 := ih u (n + 1 + szL l) (by simp at h; omega)
      have i3 := ih t (n + s1 (.mk k tg f p x l u)) (by simp at h; omega)
      split
      · simp; omega
      · rw [List.length_append]; omega
/-- append of a row of integers to a row of one's own. -/
theorem run_row {w : World} {base n B2 m : Nat} {v v2 : Value} {xs news : List Value} (hown : w.ownsRow base 3 1 v n xs) (h2 : w.ownsRow B2 3 1 v2 m news) (h1 : ∀ u ∈ news, u.oneCell' = true) (hb : n + m ≤ 4000000) (hbase : base ≤ w.heap.size) (ty : TypeId) :
    ∃ v' w', (Builtin.append_ #[28, 28] ty #[v, v2]).run Tryz.prog w = .ok v' w' ∧ w'.ownsRow base 3 1 v' (n + m) (xs ++ news) ∧ w.grownBy w' v.ownBlock ∧ (v'.ownBlock = v.ownBlock ∨ v'.ownBlock = some w.heap.size) := by
  obtain ⟨ij, hij, hj0, hj1, hj2⟩ := info_parts infoI
  rcases h2.2 with ⟨e2, e20⟩ | ⟨g2, cap2, cur2, e2, -⟩
  · subst e2
    subst e20
    obtain rfl : news = [] := List.eq_nil_of_length_eq_zero (by have := h2.1; omega)
    refine ⟨v, w, run_append_owned_none (P := Tryz.prog) (w := w) base 28 ty 3 ij 1 Tryz.underlying28 hij v n xs hown, by simpa using hown, ⟨rfl, rfl, rfl, Nat.le_refl _, fun _ _ _ => rfl⟩, .inl rfl⟩
  · subst e2
    obtain ⟨v', w', hrun, k1, k2, -, k4⟩ := run_append_own_at (P := Tryz.prog) w base 28 ty 3 ij (.int .i64 0) 1 8 Tryz.underlying28 hij hj0 hj1 hj2 rfl (by decide) v n xs hown ⟨g2, 0, none⟩ m cap2 news (by have := h2.1; omega) (fun j u hu => World.ownsRow.cells (g := g2) h2 rfl j u hu) h1 (by unfold maxLen; omega) (by omega) hbase
    exact ⟨v', w', hrun, k1, k2, k4⟩
section
variable {ops : Array Oper} {o : Oper} {y : Act} {K : Act → World → Prop} {Q : Exit → Act → World → Prop} {E : Prop} {w : World} {base n B2 m : Nat} {v v2 : Value} {xs news : List Value}
theorem wp_row (x z : Operand) (ho : o.op = .call { callee := .builtin .append, args := #[x, z], argTypes := #[28, 28] }) (hown : w.ownsRow base 3 1 v n xs) (h2 : w.ownsRow B2 3 1 v2 m news) (h1 : ∀ u ∈ news, u.oneCell' = true) (hb : n + m ≤ 4000000) (hbase : base ≤ w.heap.size)
    (hx : y.eval x = v) (hz : y.eval z = v2) (hk : ∀ v' W, W.ownsRow base 3 1 v' (n + m) (xs ++ news) → w.grownBy W v.ownBlock → (v'.ownBlock = v.ownBlock ∨ v'.ownBlock = some w.heap.size) → K (y.put o.dst v') W) : o.wp Tryz.prog y w K Q := by
  obtain ⟨v', W, hrun, h3, h4, h5⟩ := run_row hown h2 h1 hb hbase o.type
  unfold Oper.wp execOp
  simp only [ho, resolve, invoke, builtin, Sem.run_bind, Sem.run_pure, Result.andThen_ok, List.map_toArray, List.map_cons, List.map_nil, hx, hz, hrun]
  exact hk v' W h3 h4 h5
theorem step_row (hgd : o.guard = none) (x z : Operand) (ho : o.op = .call { callee := .builtin .append, args := #[x, z], argTypes := #[28, 28] }) (hown : w.ownsRow base 3 1 v n xs) (h2 : w.ownsRow B2 3 1 v2 m news) (h1 : ∀ u ∈ news, u.oneCell' = true) (hb : n + m ≤ 4000000) (hbase : base ≤ w.heap.size)
    (hx : y.eval x = v) (hz : y.eval z = v2) (hk : ∀ v' W, W.ownsRow base 3 1 v' (n + m) (xs ++ news) → w.grownBy W v.ownBlock → (v'.ownBlock = v.ownBlock ∨ v'.ownBlock = some w.heap.size) → K (y.put o.dst v') W) : if Region.wanted o (yielded ops y.tmps) = true then Oper.wp Tryz.prog o y w K Q else E := by
  have hw : Region.wanted o (yielded ops y.tmps) = true := by simp [Region.wanted, hgd]
  rw [if_pos hw]
  exact wp_row x z ho hown h2 h1 hb hbase hx hz hk
theorem list_row {rest : List Oper} (hgd : o.guard = none) (x z : Operand) (ho : o.op = .call { callee := .builtin .append, args := #[x, z], argTypes := #[28, 28] }) (hown : w.ownsRow base 3 1 v n xs) (h2 : w.ownsRow B2 3 1 v2 m news) (h1 : ∀ u ∈ news, u.oneCell' = true) (hb : n + m ≤ 4000000) (hbase : base ≤ w.heap.size)
    (hx : y.eval x = v) (hz : y.eval z = v2) (hk : ∀ v' W, W.ownsRow base 3 1 v' (n + m) (xs ++ news) → w.grownBy W v.ownBlock → (v'.ownBlock = v.ownBlock ∨ v'.ownBlock = some w.heap.size) → wpList Tryz.prog ops Q rest (y.put o.dst v') W) : wpList Tryz.prog ops Q (o :: rest) y w :=
  wpList_plain hgd fun _ hK => wp_row x z ho hown h2 h1 hb hbase hx hz fun v' W a b c => hK _ _ (hk v' W a b c)
end
/-- A row that is gathered, beside the box of a node. -/
structure Sr (w : World) (cb : Nat) (C : Array Value) (W : World) (out : Value) (F : List Int) : Prop where
  bel : Below w.heap.size w W
  row : Oi W w.heap.size out F
  box : W.heap[cb]? = some (.cells C 40 (0, 0))
  ne : out.ownBlock ≠ some cb
  lo : w.heap.size ≤ cb
theorem Sr.below {w : World} {cb : Nat} {C : Array Value} {W W' : World} {out : Value} {F : List Int} (h : Sr w cb C W out F) (hb : Below W.heap.size W W') : Sr w cb C W' out F :=
  ⟨nx h.bel hb, h.row.below hb, (hb.block _ (Array.getElem?_eq_some_iff.1 h.box).1).trans h.box, h.ne, h.lo⟩
theorem Sr.app {w : World} {cb : Nat} {C : Array Value} {W W' : World} {out v' : Value} {F M : List Int} (h : Sr w cb C W out F) (hown : W'.ownsRow w.heap.size 3 1 v' (F.length + M.length) (F.map (Value.int .i64) ++ M.map (Value.int .i64)))
    (hgrow : W.grownBy W' out.ownBlock) (hat : v'.ownBlock = out.ownBlock ∨ v'.ownBlock = some W.heap.size) : Sr w cb C W' v' (F ++ M) := by
  have hlt := (Array.getElem?_eq_some_iff.1 h.box).1
  refine ⟨h.bel.grown hgrow h.bel.size (fun k hk => (h.row.lt hk).1), ?_, (hgrow.block cb hlt (fun e => h.ne e.symm)).trans h.box, ?_, h.lo⟩
  · show World.ownsRow _ _ _ _ _ _ _
    rw [List.length_append, List.map_append]
    exact hown
  · rcases hat with e | e
    · rw [e]; exact h.ne
    · rw [e]
      intro k
      have := Option.some.inj k
      omega
theorem ones (M : List Int) : ∀ u ∈ M.map (Value.int .i64), u.oneCell' = true := by
  intro u hu
  obtain ⟨z, -, rfl⟩ := List.mem_map.1 hu
  rfl
def SsI (m : Nat) : Prop := ∀ (w : World) (v : Value) (cs : List Co) (n : Nat), InL false (fun _ => True) w m v cs → n + szL cs ≤ 1000000 →
    Calls Tryz.prog 27 #[v, .int .i64 n] w fun e w' => Below w.heap.size w w' ∧ ∃ u, e = .returned u ∧ Oi w' w.heap.size u (rst cs n)
set_option maxRecDepth 20000 in
set_option maxHeartbeats 6400000 in
theorem statics_step (m : Nat) (ih : ∀ m', m' < m → SsI m') : SsI m := by
  intro w v cs n hin hsz
  have Hih : Hid (∀ m', m' < m → SsI m') := ih
  obtain ⟨ij, hij, hj0, hj1, hj2⟩ := info_parts infoI
  obtain ⟨a, cap, rfl, hlc, hcm, hlen, hnil, hL⟩ := hin
  have HL : Hid (RwAt 7 Co7 rmC false (fun _ => True) w (KBase.In false (fun _ => True) w m) a cap cs) := hL
  obtain ⟨T, hT⟩ : ∃ T, rst cs n = T := ⟨_, rfl⟩
  have HT : Hid (([] : List Int) ++ rst (cs.drop 0) n = T) := hT
  have HTl : Hid (T.length ≤ 1000000) := by
    have := rst_len _ cs n (Nat.le_refl _)
    rw [hT] at this
    show _ ≤ _
    omega
  rw [hT]
  clear ih hL hT
  go_enter Tryz.func27, Tryz.ntmps27
  go_wp2_with fail
  go_loopw [1, 5, 6] (fun k out i wr => ∃ (q n : Nat) (F : List Int), i = .int .i64 q ∧ k = .int .i64 n ∧ q ≤ cs.length ∧ F ++ rst (cs.drop q) n = T ∧ n + szL (cs.drop q) ≤ 1000000 ∧ Oi wr w.heap.size out F ∧ Below w.heap.size w wr) (fun _ _ i _ => cs.length - (intOf i).toNat)
  case atStart => exact ⟨0, n, [], rfl, rfl, by omega, HT.out, by rw [List.drop_zero]; exact hsz, World.ownsRow_nil _ _ _ _, Below.refl _ _⟩
  case round =>
    clear HT hsz
    obtain ⟨q, n, F, rfl, rfl, hq, hM, hsz, ho, hb⟩ := hrel
    obtain ⟨V, hV⟩ : ∃ V, V = wr := ⟨_, rfl⟩
    subst hV
    by_cases hlt : q < cs.length
    · have d0 : decide ((q : Int) < (cs.length : Int)) = true := by simp; omega
      have i0 : (0 : Int) ≤ (q : Int) := by omega
      have i1 : (q : Int) < (cs.length : Int) := by omega
      obtain ⟨g, o, u, ha, -, hu, hy⟩ := HL.out.elem hlt
      subst ha
      have HY : Hid (KBase.In false (fun _ => True) w m u cs[q]) := hy
      obtain ⟨m', fv, pv, xv, lv, uv, rfl, rfl, hyk, hyt, hF, hP, ⟨mx, hX⟩, hKl, hKu⟩ := hy.shape
      obtain ⟨a1, c1, rfl, -⟩ := hF
      obtain ⟨a2, c2, rfl, -⟩ := hP
      obtain ⟨a3, c3, rfl, -⟩ := hX
      rw [List.drop_eq_getElem_cons hlt, rst_cons] at hM
      rw [List.drop_eq_getElem_cons hlt, szL_cons] at hsz
      obtain ⟨y, hyy⟩ : ∃ y, cs[q] = y := ⟨_, rfl⟩
      rw [hyy] at HY hKl hKu hu hM hsz
      have hKl0 := hKl
      have hKu0 := hKu
      obtain ⟨a4, c4, rfl, hc4, hm4, hl4, -, -⟩ := hKl
      obtain ⟨a5, c5, rfl, hc5, hm5, hl5, -, -⟩ := hKu
      have HKl : Hid (InL false (fun _ => True) w m' (.slice a4 y.l.length c4) y.l) := hKl0
      have HKu : Hid (InL false (fun _ => True) w m' (.slice a5 y.u.length c5) y.u) := hKu0
      obtain ⟨v0, v1, v2, v3, v4, v5, v6, E, k0, k1, k2, k3, k4, k5, k6⟩ := hu
      simp only [Value.agg.injEq, Array.mk.injEq, List.cons.injEq, and_true] at E
      obtain ⟨rfl, rfl, rfl, rfl, rfl, rfl, rfl⟩ := E
      have k0 := below_cell k0 hb
      have k1 := below_cell k1 hb
      have k2 := below_cell k2 hb
      have k3 := below_cell k3 hb
      have k4 := below_cell k4 hb
      have k5 := below_cell k5 hb
      have k6 := below_cell k6 hb
      obtain ⟨W1, hW1⟩ : ∃ W1, V.alloc (.cells #[.int .i64 y.k, .string y.t, .slice a1 y.f.length c1, .slice a2 y.p.length c2, .slice a3 y.x.length c3, .slice a4 y.l.length c4, .slice a5 y.u.length c5] 40) = W1 := ⟨_, rfl⟩
      have b1 : Below V.heap.size V W1 := by rw [← hW1]; exact (Below.refl _ V).alloc (Nat.le_refl _) _
      have hsw := hb.size
      have HSr1 : Hid (Sr w V.heap.size #[.int .i64 y.k, .string y.t, .slice a1 y.f.length c1, .slice a2 y.p.length c2, .slice a3 y.x.length c3, .slice a4 y.l.length c4, .slice a5 y.u.length c5] W1 u5 F) := ⟨nx hb b1, ho.below b1, by rw [← hW1]; exact heap_alloc_new V _, fun e => by have := (ho.lt e).2; omega, hsw⟩
      have HW1 : Hid (V.alloc (.cells #[.int .i64 y.k, .string y.t, .slice a1 y.f.length c1, .slice a2 y.p.length c2, .slice a3 y.x.length c3, .slice a4 y.l.length c4, .slice a5 y.u.length c5] 40) = W1) := hW1
      obtain ⟨A, hA⟩ : ∃ A, szL y.l = A := ⟨_, rfl⟩
      obtain ⟨B, hB⟩ : ∃ B, szL y.u = B := ⟨_, rfl⟩
      have hs1y : s1 y = 1 + A + B := by unfold s1; rw [hA, hB]
      rw [hA, hB] at hsz
      rw [hA, hs1y] at hM
      have HMM : Hid (F ++ ((if y.k = 2 ∧ sta1 y = true then [(n : Int)] else rst y.l (n + 1) ++ rst y.u (n + 1 + A)) ++ rst (cs.drop (q + 1)) (n + (1 + A + B))) = T) := hM
      have hw1 : IntKind.i64.wrap ((n : Int) + 1) = (n : Int) + 1 := by rw [IntKind.wrap_i64]; omega
      have hw2 : IntKind.i64.wrap ((n : Int) + 1 + (A : Int)) = (n : Int) + 1 + (A : Int) := by rw [IntKind.wrap_i64]; omega
      have hw3 : IntKind.i64.wrap ((n : Int) + 1 + (A : Int) + (B : Int)) = (n : Int) + 1 + (A : Int) + (B : Int) := by rw [IntKind.wrap_i64]; omega
      have HA' : Hid (szL y.l = A) := hA
      have HB' : Hid (szL y.u = B) := hB
      have hA1 : A ≤ 1000000 := by omega
      have hB1 : B ≤ 1000000 := by omega
      have hFl : F.length ≤ 1000000 := by
        have := HTl.out
        rw [← hM, List.length_append] at this
        omega
      have cAf : ∀ W, Below w.heap.size w W → Calls Tryz.prog 29 #[.slice a4 y.l.length c4] W fun e w' => e = .returned (.int .i64 (A : Int)) ∧ Below W.heap.size W w' := fun W hW => by
        have := KRs1.size_all m' W _ _ (InL.below HKl.out hW) (by rw [HA'.out]; exact hA1)
        rw [HA'.out] at this
        exact this
      have cBf : ∀ W, Below w.heap.size w W → Calls Tryz.prog 29 #[.slice a5 y.u.length c5] W fun e w' => e = .returned (.int .i64 (B : Int)) ∧ Below W.heap.size W w' := fun W hW => by
        have := KRs1.size_all m' W _ _ (InL.below HKu.out hW) (by rw [HB'.out]; exact hB1)
        rw [HB'.out] at this
        exact this
      have cLf : ∀ W, Below w.heap.size w W → Calls Tryz.prog 27 #[.slice a4 y.l.length c4, .int .i64 ((n : Int) + 1)] W fun e w' => Below W.heap.size W w' ∧ ∃ u, e = .returned u ∧ Oi w' W.heap.size u (rst y.l (n + 1)) := fun W hW => by
        have := Hih.out m' (by omega) W _ y.l (n + 1) (InL.below HKl.out hW) (by rw [HA'.out]; omega)
        simpa using this
      have cUf : ∀ W, Below w.heap.size w W → Calls Tryz.prog 27 #[.slice a5 y.u.length c5, .int .i64 ((n : Int) + 1 + (A : Int))] W fun e w' => Below W.heap.size W w' ∧ ∃ u, e = .returned u ∧ Oi w' W.heap.size u (rst y.u (n + 1 + A)) := fun W hW => by
        have := Hih.out m' (by omega) W _ y.u (n + 1 + A) (InL.below HKu.out hW) (by rw [HB'.out]; omega)
        simpa using this
      have hll : (rst y.l (n + 1)).length ≤ 1000000 := by have := rst_len _ y.l (n + 1) (Nat.le_refl _); rw [hA] at this; omega
      have hlu : (rst y.u (n + 1 + A)).length ≤ 1000000 := by have := rst_len _ y.u (n + 1 + A) (Nat.le_refl _); rw [hB] at this; omega
      obtain ⟨Lr, hLr⟩ : ∃ Lr, rst y.l (n + 1) = Lr := ⟨_, rfl⟩
      obtain ⟨Ur, hUr⟩ : ∃ Ur, rst y.u (n + 1 + A) = Ur := ⟨_, rfl⟩
      rw [hLr] at cLf hll HMM
      rw [hUr] at cUf hlu HMM
      have HcA : Hid (∀ W, Below w.heap.size w W → Calls Tryz.prog 29 #[.slice a4 y.l.length c4] W fun e w' => e = .returned (.int .i64 (A : Int)) ∧ Below W.heap.size W w') := cAf
      have HcB : Hid (∀ W, Below w.heap.size w W → Calls Tryz.prog 29 #[.slice a5 y.u.length c5] W fun e w' => e = .returned (.int .i64 (B : Int)) ∧ Below W.heap.size W w') := cBf
      have HcL : Hid (∀ W, Below w.heap.size w W → Calls Tryz.prog 27 #[.slice a4 y.l.length c4, .int .i64 ((n : Int) + 1)] W fun e w' => Below W.heap.size W w' ∧ ∃ u, e = .returned u ∧ Oi w' W.heap.size u Lr) := cLf
      have HcU : Hid (∀ W, Below w.heap.size w W → Calls Tryz.prog 27 #[.slice a5 y.u.length c5, .int .i64 ((n : Int) + 1 + (A : Int))] W fun e w' => Below W.heap.size W w' ∧ ∃ u, e = .returned u ∧ Oi w' W.heap.size u Ur) := cUf
      have cS : ∀ W, Below w.heap.size w W → Calls Tryz.prog 39 #[.agg #[.int .i64 y.k, .string y.t, .slice a1 y.f.length c1, .slice a2 y.p.length c2, .slice a3 y.x.length c3, .slice a4 y.l.length c4, .slice a5 y.u.length c5]] W fun e w' => e = .returned (.bool (sta1 y)) ∧ Below W.heap.size W w' := fun W hW => KRst.static_all _ W _ _ (HY.out.below hW)
      have HcS : Hid (∀ W, Below w.heap.size w W → Calls Tryz.prog 39 #[.agg #[.int .i64 y.k, .string y.t, .slice a1 y.f.length c1, .slice a2 y.p.length c2, .slice a3 y.x.length c3, .slice a4 y.l.length c4, .slice a5 y.u.length c5]] W fun e w' => e = .returned (.bool (sta1 y)) ∧ Below W.heap.size W w') := cS
      obtain ⟨zc0, zc1, zc2, zc3, zc4, zc5, zc6⟩ := seven_box HSr1.out.box
      clear hy hyy hb ho hKl0 hKu0 hW1 b1 hM hA hB hs1y hLr hUr cAf cBf cLf cUf cS
      by_cases hk2 : y.k = 2
      · have e2 : (y.k == 2) = true := by simp [hk2]
        have HY2 : Hid (y.k = 2) := hk2
        obtain ⟨st, hst⟩ : ∃ st, sta1 y = st := ⟨_, rfl⟩
        rw [hst] at HcS
        have HST : Hid (sta1 y = st) := hst
        clear hk2 hst
        go_wp2_with fail
        try rw [HW1.out]
        refine (HcS.out _ HSr1.out.bel).mono ?_
        rintro ee W2 ⟨rfl, b2⟩
        have HS2 : Hid (Sr w V.heap.size #[.int .i64 y.k, .string y.t, .slice a1 y.f.length c1, .slice a2 y.p.length c2, .slice a3 y.x.length c3, .slice a4 y.l.length c4, .slice a5 y.u.length c5] W2 u5 F) := HSr1.out.below b2
        clear zc0 zc1 zc2 zc3 zc4 zc5 zc6
        obtain ⟨zc0, zc1, zc2, zc3, zc4, zc5, zc6⟩ := seven_box HS2.out.box
        clear b2
        cases st with
        | true =>
          have hrow2 := World.ownsRow.alloc HS2.out.row (.cells #[.int .i64 (n : Int)] 3)
          have hz2 := HS2.out.bel.size
          go_wp2_with (first
            | (at_builtin; refine wpList_append_own_at _ rfl _ _ 28 rfl w.heap.size 3 ij (.int .i64 0) 1 8 Tryz.underlying28 hij hj0 hj1 hj2 rfl (by decide) _ _ _ rfl hrow2 ⟨W2.heap.size, 0, none⟩ 1 1 [.int .i64 (n : Int)] rfl rfl (cell_one_new _ _ _) (by simp [Value.oneCell']) (by unfold maxLen; omega) (by omega) (by simp; omega) ?_))
          intro v' W4 hown hgrow _ hat
          have HS3 : Hid (Sr w V.heap.size #[.int .i64 y.k, .string y.t, .slice a1 y.f.length c1, .slice a2 y.p.length c2, .slice a3 y.x.length c3, .slice a4 y.l.length c4, .slice a5 y.u.length c5] (W2.alloc (.cells #[.int .i64 (n : Int)] 3)) u5 F) := HS2.out.below ((Below.refl _ W2).alloc (Nat.le_refl _) _)
          have HS4 : Hid (Sr w V.heap.size #[.int .i64 y.k, .string y.t, .slice a1 y.f.length c1, .slice a2 y.p.length c2, .slice a3 y.x.length c3, .slice a4 y.l.length c4, .slice a5 y.u.length c5] W4 v' (F ++ [(n : Int)])) := HS3.out.app (M := [(n : Int)]) hown hgrow (by simpa using hat)
          clear zc0 zc1 zc2 zc3 zc4 zc5 zc6
          obtain ⟨zc0, zc1, zc2, zc3, zc4, zc5, zc6⟩ := seven_box HS4.out.box
          clear hown hgrow hat hrow2
          have HT2 : Hid ((F ++ [(n : Int)]) ++ rst (cs.drop (q + 1)) (n + (1 + A + B)) = T) := by
            have := HMM.out
            rw [if_pos ⟨HY2.out, HST.out⟩] at this
            show _ = _
            rw [← this]
            simp
          go_wp2_with fail
          go_region_held3 (fun w' => w'.cell? ⟨V.heap.size, 5, none⟩ = some (.slice a4 y.l.length c4) ∧ w'.cell? ⟨V.heap.size, 6, none⟩ = some (.slice a5 y.u.length c5)) (go_keep) (first
            | (have tt := HSs1; clear tt; go_at_call 29; refine (HcB.out _ HSs1.out.bel).mono ?_; rintro ee Ws2 ⟨rfl, bs2⟩; have HSs2 : Hid _ := HSs1.out.below bs2; obtain ⟨-, -, -, -, -, kk5, kk6⟩ := seven_box HSs2.out.box; clear bs2)
            | (go_at_call 29; refine (HcA.out _ HS4.out.bel.drew).mono ?_; rintro ee Ws1 ⟨rfl, bs1⟩; have HSs1 : Hid _ := HS4.out.below ((Below.refl _ W4).drew.trans bs1); obtain ⟨-, -, -, -, -, jj5, jj6⟩ := seven_box HSs1.out.box; clear bs1)
            | fail)
          all_goals
            rename_i hHeld
            clear hHeld
            go_wp2_with fail
            go_roundw
          all_goals first
            | (case rel => exact ⟨q + 1, n + (1 + A + B), F ++ [(n : Int)], by go_num, (by simp; omega), by omega, HT2.out, by omega, HSs2.out.row, HSs2.out.bel⟩)
            | (case measure => simp only [intOf]; omega)
        | false =>
          go_wp2_with fail
          refine (HcL.out _ HS2.out.bel).mono ?_
          rintro ee W3 ⟨b3, lv', rfl, hl3⟩
          have HS3 : Hid (Sr w V.heap.size #[.int .i64 y.k, .string y.t, .slice a1 y.f.length c1, .slice a2 y.p.length c2, .slice a3 y.x.length c3, .slice a4 y.l.length c4, .slice a5 y.u.length c5] W3 u5 F) := HS2.out.below b3
          have hz3 := HS3.out.bel.size
          have HL3 : Hid (Oi W3 W2.heap.size lv' Lr) := hl3
          clear zc0 zc1 zc2 zc3 zc4 zc5 zc6
          obtain ⟨zc0, zc1, zc2, zc3, zc4, zc5, zc6⟩ := seven_box HS3.out.box
          clear b3 hl3
          go_wp2_with (first
            | (at_builtin; refine list_row rfl _ _ rfl HS3.out.row HL3.out (ones _) (by omega) (by omega) rfl rfl ?_))
          intro v' W4 hown hgrow hat
          have HS4 : Hid (Sr w V.heap.size #[.int .i64 y.k, .string y.t, .slice a1 y.f.length c1, .slice a2 y.p.length c2, .slice a3 y.x.length c3, .slice a4 y.l.length c4, .slice a5 y.u.length c5] W4 v' (F ++ Lr)) := HS3.out.app hown hgrow hat
          have hz4 := HS4.out.bel.size
          clear zc0 zc1 zc2 zc3 zc4 zc5 zc6
          obtain ⟨zc0, zc1, zc2, zc3, zc4, zc5, zc6⟩ := seven_box HS4.out.box
          clear hown hgrow hat
          go_wp2_with fail
          refine wp_region_held_drew (S := fun w' => w'.cell? ⟨V.heap.size, 5, none⟩ = some (.slice a4 y.l.length c4) ∧ w'.cell? ⟨V.heap.size, 6, none⟩ = some (.slice a5 y.u.length c5)) (by kernel_rfl) (by exact ⟨zc5, zc6⟩) (fun hHeld => ?_)
          refine wpAnyH_take (i := 0) (v := ?_) rfl (by kernel_rfl) (by kernel_rfl) (by kernel_rfl) (fun _ _ _ h => h) (Or.inl ⟨by rfl, ?_⟩) (by assumption) ?_
          rotate_left 1
          · intro w hSw; (try dsimp only at hSw); go_simp; first | done | with_reducible rfl | (rw [if_neg (by omega)])
          try simp only [Act.put, List.getElem_toArray, List.getElem_cons_zero, List.setIfInBounds_toArray, List.set_cons_zero, List.set_cons_succ]
          refine wpAnyH_take (i := 1) (v := ?_) rfl (by kernel_rfl) (by kernel_rfl) (by kernel_rfl) (fun _ _ _ h => h) (Or.inl ⟨by rfl, ?_⟩) (by assumption) ?_
          rotate_left 1
          · intro w hSw; (try dsimp only at hSw); go_simp; first | done | with_reducible rfl | (rw [if_neg (by omega)])
          try simp only [Act.put, List.getElem_toArray, List.getElem_cons_zero, List.getElem_cons_succ, List.setIfInBounds_toArray, List.set_cons_zero, List.set_cons_succ]
          refine wpAnyH_take (i := 2) (v := ?_) rfl (by kernel_rfl) (by kernel_rfl) (by kernel_rfl) (fun _ _ _ h => h) (Or.inl ⟨by rfl, ?_⟩) (by assumption) ?_
          rotate_left 1
          · intro w hSw; (try dsimp only at hSw); go_simp; first | done | with_reducible rfl | (rw [if_neg (by omega)])
          try simp only [Act.put, List.getElem_toArray, List.getElem_cons_zero, List.getElem_cons_succ, List.setIfInBounds_toArray, List.set_cons_zero, List.set_cons_succ]
          refine wpAnyH_take (i := 3) (v := ?_) rfl (by kernel_rfl) (by kernel_rfl) (by kernel_rfl) (fun _ _ _ h => h) (Or.inl ⟨by rfl, ?_⟩) (by assumption) ?_
          rotate_left 1
          · intro w hSw; (try dsimp only at hSw); go_simp; first | done | with_reducible rfl | (rw [if_neg (by omega)])
          try simp only [Act.put, List.getElem_toArray, List.getElem_cons_zero, List.getElem_cons_succ, List.setIfInBounds_toArray, List.set_cons_zero, List.set_cons_succ]
          refine wpAnyH_take (i := 4) (v := ?_) rfl (by kernel_rfl) (by kernel_rfl) (by kernel_rfl) (fun _ _ _ h => h) (Or.inl ⟨by rfl, ?_⟩) (by assumption) ?_
          rotate_left 1
          · intro w hSw; (try dsimp only at hSw); go_simp; first | done | with_reducible rfl | (rw [if_neg (by omega)])
          try simp only [Act.put, List.getElem_toArray, List.getElem_cons_zero, List.getElem_cons_succ, List.setIfInBounds_toArray, List.set_cons_zero, List.set_cons_succ]
          refine wpAnyH_take (i := 5) (v := ?_) rfl (by kernel_rfl) (by kernel_rfl) (by kernel_rfl) (fun _ _ _ h => h) (Or.inl ⟨by rfl, ?_⟩) (by assumption) ?_
          rotate_left 1
          · intro w hSw; (try dsimp only at hSw); go_simp; first | done | with_reducible rfl | (rw [if_neg (by omega)])
          try simp only [Act.put, List.getElem_toArray, List.getElem_cons_zero, List.getElem_cons_succ, List.setIfInBounds_toArray, List.set_cons_zero, List.set_cons_succ]
          refine wpAnyH_take (i := 6) (v := ?_) rfl (by kernel_rfl) (by kernel_rfl) (by kernel_rfl) (fun _ _ _ h => h) (Or.inl ⟨by rfl, ?_⟩) (by assumption) ?_
          rotate_left 1
          · intro w hSw; (try dsimp only at hSw); go_simp; first | done | with_reducible rfl | (rw [if_neg (by omega)])
          try simp only [Act.put, List.getElem_toArray, List.getElem_cons_zero, List.getElem_cons_succ, List.setIfInBounds_toArray, List.set_cons_zero, List.set_cons_succ]
          refine wpAnyH_ready (rs := [7]) (by kernel_rfl) (by simp) ?_
          refine AllReadyH.cons rfl (fun K hK => ?_) AllReadyH.nil
          go_simp
          refine (HcA.out _ HS4.out.bel.drew).mono ?_
          rintro ee W5 ⟨rfl, b5⟩
          have HS5 : Hid (Sr w V.heap.size #[.int .i64 y.k, .string y.t, .slice a1 y.f.length c1, .slice a2 y.p.length c2, .slice a3 y.x.length c3, .slice a4 y.l.length c4, .slice a5 y.u.length c5] W5 v' (F ++ Lr)) := HS4.out.below ((Below.refl _ W4).drew.trans b5)
          clear zc0 zc1 zc2 zc3 zc4 zc5 zc6
          obtain ⟨zc0, zc1, zc2, zc3, zc4, zc5, zc6⟩ := seven_box HS5.out.box
          clear b5
          refine hK.out _ _ (by exact ⟨zc5, zc6⟩) (fun hHeld => ?_)
          clear hK K
          try simp only [Act.put, List.getElem_toArray, List.getElem_cons_zero, List.getElem_cons_succ, List.setIfInBounds_toArray, List.set_cons_zero, List.set_cons_succ]
          refine wpAnyH_take (i := 8) (v := ?_) rfl (by kernel_rfl) (by kernel_rfl) (by kernel_rfl) (fun _ _ _ h => h) (Or.inl ⟨by rfl, ?_⟩) (by assumption) ?_
          rotate_left 1
          · intro w hSw; (try dsimp only at hSw); go_simp; first | done | with_reducible rfl | (rw [if_neg (by omega)])
          try simp only [Act.put, List.getElem_toArray, List.getElem_cons_zero, List.getElem_cons_succ, List.setIfInBounds_toArray, List.set_cons_zero, List.set_cons_succ]
          refine wpAnyH_ready (rs := [9]) (by kernel_rfl) (by simp) ?_
          refine AllReadyH.cons rfl (fun K hK => ?_) AllReadyH.nil
          go_simp
          try rw [hw2]
          refine (HcU.out _ HS5.out.bel).mono ?_
          rintro ee W6 ⟨b6, uv', rfl, hu6⟩
          have HS6 : Hid (Sr w V.heap.size #[.int .i64 y.k, .string y.t, .slice a1 y.f.length c1, .slice a2 y.p.length c2, .slice a3 y.x.length c3, .slice a4 y.l.length c4, .slice a5 y.u.length c5] W6 v' (F ++ Lr)) := HS5.out.below b6
          have hz6 := HS6.out.bel.size
          have HU6 : Hid (Oi W6 W5.heap.size uv' Ur) := hu6
          clear zc0 zc1 zc2 zc3 zc4 zc5 zc6
          obtain ⟨zc0, zc1, zc2, zc3, zc4, zc5, zc6⟩ := seven_box HS6.out.box
          clear b6 hu6
          refine hK.out _ _ (by exact ⟨zc5, zc6⟩) (fun hHeld => ?_)
          clear hK K
          try simp only [Act.put, List.getElem_toArray, List.getElem_cons_zero, List.getElem_cons_succ, List.setIfInBounds_toArray, List.set_cons_zero, List.set_cons_succ]
          refine wpAnyH_ready (rs := [10]) (by kernel_rfl) (by simp) ?_
          refine AllReadyH.cons rfl (fun K hK => ?_) AllReadyH.nil
          refine step_row rfl _ _ rfl HS6.out.row HU6.out (ones _) (by rw [List.length_append]; omega) (by omega) rfl rfl ?_
          intro v'' W7 hown hgrow hat
          have HS7 : Hid (Sr w V.heap.size #[.int .i64 y.k, .string y.t, .slice a1 y.f.length c1, .slice a2 y.p.length c2, .slice a3 y.x.length c3, .slice a4 y.l.length c4, .slice a5 y.u.length c5] W7 v'' ((F ++ Lr) ++ Ur)) := HS6.out.app hown hgrow hat
          clear zc0 zc1 zc2 zc3 zc4 zc5 zc6
          obtain ⟨zc0, zc1, zc2, zc3, zc4, zc5, zc6⟩ := seven_box HS7.out.box
          clear hown hgrow hat
          refine hK.out _ _ (by exact ⟨zc5, zc6⟩) (fun hHeld => ?_)
          clear hK K
          try simp only [Act.put, List.getElem_toArray, List.getElem_cons_zero, List.getElem_cons_succ, List.setIfInBounds_toArray, List.set_cons_zero, List.set_cons_succ]
          refine wpAnyH_take (i := 11) (v := ?_) rfl (by kernel_rfl) (by kernel_rfl) (by kernel_rfl) (fun _ _ _ h => h) (Or.inl ⟨by rfl, ?_⟩) (by assumption) ?_
          rotate_left 1
          · intro w hSw; (try dsimp only at hSw); go_simp; first | done | with_reducible rfl | (rw [if_neg (by omega)])
          try simp only [Act.put, List.getElem_toArray, List.getElem_cons_zero, List.getElem_cons_succ, List.setIfInBounds_toArray, List.set_cons_zero, List.set_cons_succ]
          refine wpAnyH_done (by kernel_rfl) ?_ _
          clear hHeld
          have HT2 : Hid (((F ++ Lr) ++ Ur) ++ rst (cs.drop (q + 1)) (n + (1 + A + B)) = T) := by
            have := HMM.out
            rw [if_neg (fun h => by have := HST.out; rw [h.2] at this; cases this)] at this
            show _ = _
            rw [← this]
            simp
          go_wp2_with fail
          go_region_held3 (fun w' => w'.cell? ⟨V.heap.size, 5, none⟩ = some (.slice a4 y.l.length c4) ∧ w'.cell? ⟨V.heap.size, 6, none⟩ = some (.slice a5 y.u.length c5)) (go_keep) (first
            | (have tt := HSs1; clear tt; go_at_call 29; refine (HcB.out _ HSs1.out.bel).mono ?_; rintro ee Ws2 ⟨rfl, bs2⟩; have HSs2 : Hid _ := HSs1.out.below bs2; obtain ⟨-, -, -, -, -, kk5, kk6⟩ := seven_box HSs2.out.box; clear bs2)
            | (go_at_call 29; refine (HcA.out _ HS7.out.bel.drew).mono ?_; rintro ee Ws1 ⟨rfl, bs1⟩; have HSs1 : Hid _ := HS7.out.below ((Below.refl _ W7).drew.trans bs1); obtain ⟨-, -, -, -, -, jj5, jj6⟩ := seven_box HSs1.out.box; clear bs1)
            | fail)
          all_goals
            rename_i hHeld
            clear hHeld
            go_wp2_with fail
            go_roundw
          all_goals first
            | (case rel => exact ⟨q + 1, n + (1 + A + B), (F ++ Lr) ++ Ur, by go_num, (by simp; omega), by omega, HT2.out, by omega, HSs2.out.row, HSs2.out.bel⟩)
            | (case measure => simp only [intOf]; omega)
      · have e2 : (y.k == 2) = false := by simp [hk2]
        have HY2 : Hid (y.k ≠ 2) := hk2
        clear hk2
        go_upto_region 8 with fail
        try rw [HW1.out]
        go_wp2_with fail
        refine (HcL.out _ HSr1.out.bel).mono ?_
        rintro ee W3 ⟨b3, lv', rfl, hl3⟩
        have HS3 : Hid (Sr w V.heap.size #[.int .i64 y.k, .string y.t, .slice a1 y.f.length c1, .slice a2 y.p.length c2, .slice a3 y.x.length c3, .slice a4 y.l.length c4, .slice a5 y.u.length c5] W3 u5 F) := HSr1.out.below b3
        have hz3 := HS3.out.bel.size
        have HL3 : Hid (Oi W3 W1.heap.size lv' Lr) := hl3
        clear zc0 zc1 zc2 zc3 zc4 zc5 zc6
        obtain ⟨zc0, zc1, zc2, zc3, zc4, zc5, zc6⟩ := seven_box HS3.out.box
        clear b3 hl3
        go_wp2_with (first
          | (at_builtin; refine list_row rfl _ _ rfl HS3.out.row HL3.out (ones _) (by omega) (by omega) rfl rfl ?_))
        intro v' W4 hown hgrow hat
        have HS4 : Hid (Sr w V.heap.size #[.int .i64 y.k, .string y.t, .slice a1 y.f.length c1, .slice a2 y.p.length c2, .slice a3 y.x.length c3, .slice a4 y.l.length c4, .slice a5 y.u.length c5] W4 v' (F ++ Lr)) := HS3.out.app hown hgrow hat
        have hz4 := HS4.out.bel.size
        clear zc0 zc1 zc2 zc3 zc4 zc5 zc6
        obtain ⟨zc0, zc1, zc2, zc3, zc4, zc5, zc6⟩ := seven_box HS4.out.box
        clear hown hgrow hat
        go_wp2_with fail
        refine wp_region_held_drew (S := fun w' => w'.cell? ⟨V.heap.size, 5, none⟩ = some (.slice a4 y.l.length c4) ∧ w'.cell? ⟨V.heap.size, 6, none⟩ = some (.slice a5 y.u.length c5)) (by kernel_rfl) (by exact ⟨zc5, zc6⟩) (fun hHeld => ?_)
        refine wpAnyH_take (i := 0) (v := ?_) rfl (by kernel_rfl) (by kernel_rfl) (by kernel_rfl) (fun _ _ _ h => h) (Or.inl ⟨by rfl, ?_⟩) (by assumption) ?_
        rotate_left 1
        · intro w hSw; (try dsimp only at hSw); go_simp; first | done | with_reducible rfl | (rw [if_neg (by omega)])
        try simp only [Act.put, List.getElem_toArray, List.getElem_cons_zero, List.setIfInBounds_toArray, List.set_cons_zero, List.set_cons_succ]
        refine wpAnyH_take (i := 1) (v := ?_) rfl (by kernel_rfl) (by kernel_rfl) (by kernel_rfl) (fun _ _ _ h => h) (Or.inl ⟨by rfl, ?_⟩) (by assumption) ?_
        rotate_left 1
        · intro w hSw; (try dsimp only at hSw); go_simp; first | done | with_reducible rfl | (rw [if_neg (by omega)])
        try simp only [Act.put, List.getElem_toArray, List.getElem_cons_zero, List.getElem_cons_succ, List.setIfInBounds_toArray, List.set_cons_zero, List.set_cons_succ]
        refine wpAnyH_take (i := 2) (v := ?_) rfl (by kernel_rfl) (by kernel_rfl) (by kernel_rfl) (fun _ _ _ h => h) (Or.inl ⟨by rfl, ?_⟩) (by assumption) ?_
        rotate_left 1
        · intro w hSw; (try dsimp only at hSw); go_simp; first | done | with_reducible rfl | (rw [if_neg (by omega)])
        try simp only [Act.put, List.getElem_toArray, List.getElem_cons_zero, List.getElem_cons_succ, List.setIfInBounds_toArray, List.set_cons_zero, List.set_cons_succ]
        refine wpAnyH_take (i := 3) (v := ?_) rfl (by kernel_rfl) (by kernel_rfl) (by kernel_rfl) (fun _ _ _ h => h) (Or.inl ⟨by rfl, ?_⟩) (by assumption) ?_
        rotate_left 1
        · intro w hSw; (try dsimp only at hSw); go_simp; first | done | with_reducible rfl | (rw [if_neg (by omega)])
        try simp only [Act.put, List.getElem_toArray, List.getElem_cons_zero, List.getElem_cons_succ, List.setIfInBounds_toArray, List.set_cons_zero, List.set_cons_succ]
        refine wpAnyH_take (i := 4) (v := ?_) rfl (by kernel_rfl) (by kernel_rfl) (by kernel_rfl) (fun _ _ _ h => h) (Or.inl ⟨by rfl, ?_⟩) (by assumption) ?_
        rotate_left 1
        · intro w hSw; (try dsimp only at hSw); go_simp; first | done | with_reducible rfl | (rw [if_neg (by omega)])
        try simp only [Act.put, List.getElem_toArray, List.getElem_cons_zero, List.getElem_cons_succ, List.setIfInBounds_toArray, List.set_cons_zero, List.set_cons_succ]
        refine wpAnyH_take (i := 5) (v := ?_) rfl (by kernel_rfl) (by kernel_rfl) (by kernel_rfl) (fun _ _ _ h => h) (Or.inl ⟨by rfl, ?_⟩) (by assumption) ?_
        rotate_left 1
        · intro w hSw; (try dsimp only at hSw); go_simp; first | done | with_reducible rfl | (rw [if_neg (by omega)])
        try simp only [Act.put, List.getElem_toArray, List.getElem_cons_zero, List.getElem_cons_succ, List.setIfInBounds_toArray, List.set_cons_zero, List.set_cons_succ]
        refine wpAnyH_take (i := 6) (v := ?_) rfl (by kernel_rfl) (by kernel_rfl) (by kernel_rfl) (fun _ _ _ h => h) (Or.inl ⟨by rfl, ?_⟩) (by assumption) ?_
        rotate_left 1
        · intro w hSw; (try dsimp only at hSw); go_simp; first | done | with_reducible rfl | (rw [if_neg (by omega)])
        try simp only [Act.put, List.getElem_toArray, List.getElem_cons_zero, List.getElem_cons_succ, List.setIfInBounds_toArray, List.set_cons_zero, List.set_cons_succ]
        refine wpAnyH_ready (rs := [7]) (by kernel_rfl) (by simp) ?_
        refine AllReadyH.cons rfl (fun K hK => ?_) AllReadyH.nil
        go_simp
        refine (HcA.out _ HS4.out.bel.drew).mono ?_
        rintro ee W5 ⟨rfl, b5⟩
        have HS5 : Hid (Sr w V.heap.size #[.int .i64 y.k, .string y.t, .slice a1 y.f.length c1, .slice a2 y.p.length c2, .slice a3 y.x.length c3, .slice a4 y.l.length c4, .slice a5 y.u.length c5] W5 v' (F ++ Lr)) := HS4.out.below ((Below.refl _ W4).drew.trans b5)
        clear zc0 zc1 zc2 zc3 zc4 zc5 zc6
        obtain ⟨zc0, zc1, zc2, zc3, zc4, zc5, zc6⟩ := seven_box HS5.out.box
        clear b5
        refine hK.out _ _ (by exact ⟨zc5, zc6⟩) (fun hHeld => ?_)
        clear hK K
        try simp only [Act.put, List.getElem_toArray, List.getElem_cons_zero, List.getElem_cons_succ, List.setIfInBounds_toArray, List.set_cons_zero, List.set_cons_succ]
        refine wpAnyH_take (i := 8) (v := ?_) rfl (by kernel_rfl) (by kernel_rfl) (by kernel_rfl) (fun _ _ _ h => h) (Or.inl ⟨by rfl, ?_⟩) (by assumption) ?_
        rotate_left 1
        · intro w hSw; (try dsimp only at hSw); go_simp; first | done | with_reducible rfl | (rw [if_neg (by omega)])
        try simp only [Act.put, List.getElem_toArray, List.getElem_cons_zero, List.getElem_cons_succ, List.setIfInBounds_toArray, List.set_cons_zero, List.set_cons_succ]
        refine wpAnyH_ready (rs := [9]) (by kernel_rfl) (by simp) ?_
        refine AllReadyH.cons rfl (fun K hK => ?_) AllReadyH.nil
        go_simp
        try rw [hw2]
        refine (HcU.out _ HS5.out.bel).mono ?_
        rintro ee W6 ⟨b6, uv', rfl, hu6⟩
        have HS6 : Hid (Sr w V.heap.size #[.int .i64 y.k, .string y.t, .slice a1 y.f.length c1, .slice a2 y.p.length c2, .slice a3 y.x.length c3, .slice a4 y.l.length c4, .slice a5 y.u.length c5] W6 v' (F ++ Lr)) := HS5.out.below b6
        have hz6 := HS6.out.bel.size
        have HU6 : Hid (Oi W6 W5.heap.size uv' Ur) := hu6
        clear zc0 zc1 zc2 zc3 zc4 zc5 zc6
        obtain ⟨zc0, zc1, zc2, zc3, zc4, zc5, zc6⟩ := seven_box HS6.out.box
        clear b6 hu6
        refine hK.out _ _ (by exact ⟨zc5, zc6⟩) (fun hHeld => ?_)
        clear hK K
        try simp only [Act.put, List.getElem_toArray, List.getElem_cons_zero, List.getElem_cons_succ, List.setIfInBounds_toArray, List.set_cons_zero, List.set_cons_succ]
        refine wpAnyH_ready (rs := [10]) (by kernel_rfl) (by simp) ?_
        refine AllReadyH.cons rfl (fun K hK => ?_) AllReadyH.nil
        refine step_row rfl _ _ rfl HS6.out.row HU6.out (ones _) (by rw [List.length_append]; omega) (by omega) rfl rfl ?_
        intro v'' W7 hown hgrow hat
        have HS7 : Hid (Sr w V.heap.size #[.int .i64 y.k, .string y.t, .slice a1 y.f.length c1, .slice a2 y.p.length c2, .slice a3 y.x.length c3, .slice a4 y.l.length c4, .slice a5 y.u.length c5] W7 v'' ((F ++ Lr) ++ Ur)) := HS6.out.app hown hgrow hat
        clear zc0 zc1 zc2 zc3 zc4 zc5 zc6
        obtain ⟨zc0, zc1, zc2, zc3, zc4, zc5, zc6⟩ := seven_box HS7.out.box
        clear hown hgrow hat
        refine hK.out _ _ (by exact ⟨zc5, zc6⟩) (fun hHeld => ?_)
        clear hK K
        try simp only [Act.put, List.getElem_toArray, List.getElem_cons_zero, List.getElem_cons_succ, List.setIfInBounds_toArray, List.set_cons_zero, List.set_cons_succ]
        refine wpAnyH_take (i := 11) (v := ?_) rfl (by kernel_rfl) (by kernel_rfl) (by kernel_rfl) (fun _ _ _ h => h) (Or.inl ⟨by rfl, ?_⟩) (by assumption) ?_
        rotate_left 1
        · intro w hSw; (try dsimp only at hSw); go_simp; first | done | with_reducible rfl | (rw [if_neg (by omega)])
        try simp only [Act.put, List.getElem_toArray, List.getElem_cons_zero, List.getElem_cons_succ, List.setIfInBounds_toArray, List.set_cons_zero, List.set_cons_succ]
        refine wpAnyH_done (by kernel_rfl) ?_ _
        clear hHeld
        have HT2 : Hid (((F ++ Lr) ++ Ur) ++ rst (cs.drop (q + 1)) (n + (1 + A + B)) = T) := by
          have := HMM.out
          rw [if_neg (fun h => HY2.out h.1)] at this
          show _ = _
          rw [← this]
          simp
        go_wp2_with fail
        go_region_held3 (fun w' => w'.cell? ⟨V.heap.size, 5, none⟩ = some (.slice a4 y.l.length c4) ∧ w'.cell? ⟨V.heap.size, 6, none⟩ = some (.slice a5 y.u.length c5)) (go_keep) (first
          | (have tt := HSs1; clear tt; go_at_call 29; refine (HcB.out _ HSs1.out.bel).mono ?_; rintro ee Ws2 ⟨rfl, bs2⟩; have HSs2 : Hid _ := HSs1.out.below bs2; obtain ⟨-, -, -, -, -, kk5, kk6⟩ := seven_box HSs2.out.box; clear bs2)
          | (go_at_call 29; refine (HcA.out _ HS7.out.bel.drew).mono ?_; rintro ee Ws1 ⟨rfl, bs1⟩; have HSs1 : Hid _ := HS7.out.below ((Below.refl _ W7).drew.trans bs1); obtain ⟨-, -, -, -, -, jj5, jj6⟩ := seven_box HSs1.out.box; clear bs1)
          | fail)
        all_goals
          rename_i hHeld
          clear hHeld
          go_wp2_with fail
          go_roundw
        all_goals first
          | (case rel => exact ⟨q + 1, n + (1 + A + B), (F ++ Lr) ++ Ur, by go_num, (by simp; omega), by omega, HT2.out, by omega, HSs2.out.row, HSs2.out.bel⟩)
          | (case measure => simp only [intOf]; omega)
    · have d0 : decide ((q : Int) < (cs.length : Int)) = false := by simp; omega
      have hT : F = T := by
        rw [← hM, List.drop_eq_nil_of_le (by omega), rst_nil, List.append_nil]
      subst hT
      have HO : Hid (Oi V w.heap.size u5 F) := ho
      have HB : Hid (Below w.heap.size w V) := hb
      clear hM hb ho
      go_wp2_with fail
      go_ret
      exact ⟨HB.out, _, rfl, HO.out⟩
theorem statics_all (m : Nat) : SsI m := by
  induction m using Nat.strongRecOn with
  | _ m ih => exact statics_step m ih
end Go.Proofs.YtofjedecjlodmaaGreat.KRss

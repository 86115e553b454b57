import Derived.Laws.ResultCell
import Derived.Test.YtiijfmdfccdagaaGreatDoorPM41
open Go.Proofs.Tryz
set_option linter.unusedVariables false
namespace Go.Proofs.YtiijfmdfccdagaaGreatDoor.TMeas
open Go.RowKit TBase TVisit
def ck (l : List T) : Nat := (vis l 1 0 0).2.2
def ct (l : List T) : Nat := if ck l = 0 then (vis l 1 0 0).1 else 0
def dp (l : List T) : Nat := if ck l = 0 then (vis l 1 0 0).2.1 else 0
theorem lo_of_in {w : World} {m : Nat} {v : Value} {l : List T} (h : InL false All w m v l) : InL false (Lo w.heap.size) w m v l := by
  have key : ∀ (m : Nat) (v : Value) (c : T), In false All w m v c -> In false (Lo w.heap.size) w m v c := by
    intro m
    induction m with
    | zero => intro v c h; rw [In] at h; exact h.elim
    | succ m ih =>
      intro v c h
      obtain ⟨g, s, n, l⟩ := c
      rw [in_iff] at h ⊢
      obtain ⟨nv, lv, h1, h3, h4, ⟨a, cap, e1, e2, e3, e4, e5, e6, e7⟩, ⟨a', cap', f1, f2, f3, f4, f5, f6⟩⟩ := h
      refine ⟨nv, lv, h1, h3, h4, ⟨a, cap, e1, e2, e3, e4, e5, e6, ?_⟩, ⟨a', cap', f1, f2, f3, f4, f5, ?_⟩⟩
      · cases n with
        | nil => exact .inl ⟨rfl, rfl⟩
        | cons t n =>
          rcases e7 with ⟨e7, -⟩ | ⟨g, o, ha, hS, hc, hr⟩
          · cases e7
          · exact .inr ⟨g, o, ha, cell_lt (hc 0 (by simp)).1, hc, fun h => by cases h⟩
      · cases l with
        | nil => exact .inl ⟨rfl, rfl⟩
        | cons t l =>
          rcases f6 with ⟨f6, -⟩ | ⟨g, o, ha, hS, hc, hr⟩
          · cases f6
          · obtain ⟨u, ⟨v0, v1, v2, v3, -, k0, -⟩, -⟩ := hc 0 (by simp)
            refine .inr ⟨g, o, ha, cell_lt k0, fun j hj => ?_, fun h => by cases h⟩
            obtain ⟨u, hu, hi⟩ := hc j hj
            exact ⟨u, hu, ih _ _ hi⟩
  obtain ⟨a', cap', f1, f2, f3, f4, f5, f6⟩ := h
  refine ⟨a', cap', f1, f2, f3, f4, f5, ?_⟩
  cases l with
  | nil => exact .inl ⟨rfl, rfl⟩
  | cons t l =>
    rcases f6 with ⟨f6, -⟩ | ⟨g, o, ha, hS, hc, hr⟩
    · cases f6
    · obtain ⟨u, ⟨v0, v1, v2, v3, -, k0, -⟩, -⟩ := hc 0 (by simp)
      refine .inr ⟨g, o, ha, cell_lt k0, fun j hj => ?_, fun h => by cases h⟩
      obtain ⟨u, hu, hi⟩ := hc j hj
      exact ⟨u, hu, key _ _ _ hi⟩
theorem ck_ok (l : List T) : ck l <= 702 /\ ct l <= 4096 /\ dp l <= 64 := by
  have h := vis_ok _ l 1 0 0 (Nat.le_refl _) (by omega) (by omega)
  unfold ct dp ck
  by_cases h0 : (vis l 1 0 0).2.2 = 0
  · rw [if_pos h0, if_pos h0]
    exact ⟨h.1, (h.2 h0).1, (h.2 h0).2⟩
  · rw [if_neg h0, if_neg h0]
    exact ⟨h.1, by omega, by omega⟩
theorem res_row_tmp {P : Program} {fn : Func} {p u : Tmp} {ty : TypeId} (h : fn.results = #[.cell p ty, .tmp u]) (tmps : Array Value) (w : World) (g : Nat) (t : TypeId) (cs : Array Value) (fr : Nat × Nat) (d : TypeDesc)
    (hp : tmps.getD p undef = .pointer (some ⟨g, 0, none⟩)) (hg : w.heap[g]? = some (.cells cs t fr)) (hu : P.underlying ty = some d) (hd : (match d with | .struct _ | .array _ _ => true | _ => false) = true) (hi : (P.info? ty).map (·.size) = some cs.size) :
    (results fn tmps).run P w = .ok (.tuple #[.agg cs, tmps.getD u undef]) w := by
  rw [results_cell_tmp h, hp]
  simp [asAddr, run_loadVar_row w g t ty cs fr d hg hu hd hi, Result.andThen]
theorem set2 {W W' : World} {B : Nat} {t : TypeId} {y0 y1 : Value} (x0 x1 : Value) (h : W.heap[B]? = some (.cells #[y0, y1] t (0, 0))) (hW : (W.setCell ⟨B, 0, none⟩ x0).setCell ⟨B, 1, none⟩ x1 = W') :
    W'.heap[B]? = some (.cells #[x0, x1] t (0, 0)) /\ ∀ w n, n <= B -> Below n w W -> Below n w W' := by
  subst hW
  refine ⟨?_, fun w n hn hb => (hb.setCell (p := ⟨B, 0, none⟩) hn x0).setCell (p := ⟨B, 1, none⟩) hn x1⟩
  rw [block_set (block_set h _) _]
  rfl
theorem measure_c (m : Nat) (v : Value) (l : List T) (w : World) (h : InL false All w m v l) :
    Calls prog 30 #[v] w fun r w' => r = .returned (.tuple #[.agg #[.int .i64 (ct l : Nat), .int .i64 (dp l : Nat)], .int .i64 (ck l : Nat)]) /\ Below w.heap.size w w' := by
  obtain ⟨W0, hW0⟩ : ∃ W0, (w.alloc (.cells #[.int .i64 0, .int .i64 0] 79)).alloc (.cells #[.int .i64 0, .int .i64 0] 79) = W0 := ⟨_, rfl⟩
  have hb0 : Below w.heap.size w W0 := by rw [<- hW0]; exact ((Below.refl _ w).alloc (Nat.le_refl _) _).alloc (by simp) _
  have hsz0 : W0.heap.size = w.heap.size + 2 := by rw [<- hW0]; simp
  have hx0 : W0.heap[w.heap.size]? = some (.cells #[.int .i64 0, .int .i64 0] 79) := by
    rw [<- hW0, Below.heap_alloc _ _ _ (by simp), heap_alloc_new]
  have hx1 : W0.heap[w.heap.size + 1]? = some (.cells #[.int .i64 0, .int .i64 0] 79) := by
    have := heap_alloc_new (w.alloc (.cells #[.int .i64 0, .int .i64 0] 79)) (.cells #[.int .i64 0, .int .i64 0] 79)
    rwa [hW0, World.size_alloc] at this
  have hl := ((lo_of_in h).keep (keep_lo hb0)).weak (S' := Lo (w.heap.size + 1)) (fun b hb => Nat.lt_succ_of_lt hb) false id m (Nat.le_refl _)
  have c40 := visits m v l 1 0 0 (w.heap.size + 1) W0 hl hx1 (by omega) (by omega) (by omega)
  obtain ⟨a, cap, rfl, -⟩ := h
  have hck := (ck_ok l)
  obtain ⟨R, hR⟩ : ∃ R, vis l 1 0 0 = R := ⟨_, rfl⟩
  have e1 : ck l = R.2.2 := by rw [<- hR]; rfl
  have e2 : ct l = if R.2.2 = 0 then R.1 else 0 := by rw [<- hR]; rfl
  have e3 : dp l = if R.2.2 = 0 then R.2.1 else 0 := by rw [<- hR]; rfl
  rw [hR] at c40
  rw [e1, e2, e3] at hck
  rw [e1, e2, e3]
  obtain ⟨R1, R2, R3⟩ := R
  clear hR e1 e2 e3 hl
  generalize l.length = n at *
  simp only at c40 hck ⊢
  by_cases h0 : R3 = 0
  · subst h0
    rw [if_pos rfl, if_pos rfl] at hck
    rw [if_pos rfl, if_pos rfl]
    go_enter func30, ntmps30
    go_wp2_with (first | (go_at_call 52; refine c40.mono ?_; rintro e w1 ⟨rfl, b1, p1⟩; have q1 := p1.out rfl; have q0 := (b1.block w.heap.size (by omega)).trans hx0; obtain ⟨k0, k1⟩ := two_box q1; have f0 := frozen_box q0 0; have f1 := frozen_box q0 1; obtain ⟨j0, j1⟩ := two_box q0)
      )
    obtain ⟨W1, hW1⟩ : ∃ W1, (w1.setCell ⟨w.heap.size, 0, none⟩ (.int .i64 (R1 : Nat))).setCell ⟨w.heap.size, 1, none⟩ (.int .i64 (R2 : Nat)) = W1 := ⟨_, rfl⟩
    rw [hW1]
    obtain ⟨z1, z2⟩ := set2 _ _ q0 hW1
    refine bodyPost_ret (res_row_tmp rfl _ W1 w.heap.size 79 _ (0, 0) _ rfl z1 underlying79 rfl (by kernel_rfl)) rfl ?_
    exact ⟨rfl, z2 _ _ (Nat.le_refl _) (hb0.trans (b1.mono (by omega)))⟩
  · have h1 : ((R3 : Int) == 0) = false := by simp; omega
    rw [if_neg h0, if_neg h0]
    go_enter func30, ntmps30
    go_wp2_with (first | (go_at_call 52; refine c40.mono ?_; rintro e w1 ⟨rfl, b1, p1⟩; have q0 := (b1.block w.heap.size (by omega)).trans hx0; have f0 := frozen_box q0 0; have f1 := frozen_box q0 1; obtain ⟨j0, j1⟩ := two_box q0)
      )
    obtain ⟨W1, hW1⟩ : ∃ W1, (w1.setCell ⟨w.heap.size, 0, none⟩ (.int .i64 0)).setCell ⟨w.heap.size, 1, none⟩ (.int .i64 0) = W1 := ⟨_, rfl⟩
    rw [hW1]
    obtain ⟨z1, z2⟩ := set2 _ _ q0 hW1
    refine bodyPost_ret (res_row_tmp rfl _ W1 w.heap.size 79 _ (0, 0) _ rfl z1 underlying79 rfl (by kernel_rfl)) rfl ?_
    exact ⟨rfl, z2 _ _ (Nat.le_refl _) (hb0.trans (b1.mono (by omega)))⟩
theorem check_c (m : Nat) (v : Value) (l : List T) (w : World) (h : InL false All w m v l) :
    Calls prog 13 #[v] w fun r w' => r = .returned (.int .i64 (ck l : Nat)) /\ Below w.heap.size w w' := by
  have c27 := measure_c m v l w h
  obtain ⟨a, cap, rfl, -⟩ := h
  generalize l.length = n at *
  generalize ck l = x at *
  generalize ct l = y at *
  generalize dp l = z at *
  go_enter func13, ntmps13
  go_wp2_with (first | (go_at_call 30; refine c27.mono ?_; rintro e w1 ⟨rfl, b1⟩))
  go_ret
  exact ⟨rfl, b1.alloc b1.size _⟩
end Go.Proofs.YtiijfmdfccdagaaGreatDoor.TMeas
namespace Go.Proofs.YtiijfmdfccdagaaGreatDoor.GOk
open Go.RowKit Base KAr KLe KNp KNd JGd JGe GPl GTr GAs GNo GNe GRn GKl GAn GOa GRa
open VPure hiding evL
open KBase (Pt Fld Co)
open TBase (T)
open KVp (szL szL_cons szL_nil)
def eok : Nat -> Nat -> Co -> Prop
  | 0, _, _ => False
  | n + 1, e, c => e <= 63 /\ (c.k = 1 -> c.p.all KSh.vOk = true) /\ (c.k = 2 -> e + 1 <= 63 /\ UBase.word c.t 45 = true /\ ∀ d ∈ c.l, eok n (e + 1) d) /\ (c.k ≠ 2 -> (∀ d ∈ c.l, eok n e d) /\ ∀ d ∈ c.u, eok n e d)
theorem own_zero2 {c : Co} {r s e l : Int} (h : own c r s e l = 0) : (ent c s e l).1.2.1 <= 63 /\ (ent c s e l).2 = true := by
  unfold own at h
  by_cases h1 : r < 0
  · rw [if_pos h1] at h; cases h
  rw [if_neg h1] at h
  by_cases h2 : deep (ent c s e l).1.1 (ent c s e l).1.2.1 (ent c s e l).1.2.2 = true
  · rw [if_pos h2] at h; cases h
  rw [if_neg h2] at h
  by_cases h3 : (ent c s e l).2 = false
  · rw [if_pos h3] at h; cases h
  refine ⟨?_, by simpa using h3⟩
  unfold deep at h2
  simp only [Bool.or_eq_true, decide_eq_true_eq, not_or] at h2
  omega
theorem ent_e (c : Co) (s e l : Int) (h : c.k ≠ 2) : (ent c s e l).1.2.1 = e := by
  unfold ent
  repeat' split
  all_goals first | rfl | omega
theorem nd_eok : ∀ (n : Nat) (cs : List Co) (r s : Int) (e : Nat) (l : Int), szL cs <= n -> (ndL cs r s e l).2 = 0 -> ∀ c ∈ cs, eok n e c := by
  intro n
  induction n with
  | zero =>
    intro cs r s e l hz h c hc
    cases cs with
    | nil => cases hc
    | cons d t => rw [szL_cons] at hz; omega
  | succ n ih =>
    intro cs
    induction cs with
    | nil => intro r s e l hz h c hc; cases hc
    | cons d t iht =>
      intro r s e l hz h c hc
      rw [szL_cons] at hz
      rw [ndL_cons] at h
      by_cases h1 : (ndL [d] r s e l).2 ≠ 0
      · rw [if_pos h1] at h; exact (h1 h).elim
      rw [if_neg h1] at h
      have h1n : (ndL [d] r s e l).2 = 0 := by omega
      rw [ndL_one] at h1n
      by_cases o1 : own d (lft d r) s e l ≠ 0
      · rw [if_pos o1] at h1n; exact (o1 h1n).elim
      rw [if_neg o1] at h1n
      obtain ⟨z2, z3⟩ := own_zero2 (c := d) (r := lft d r) (s := s) (e := e) (l := l) (by omega)
      by_cases o2 : (ndL d.l (lft d r) (ent d s e l).1.1 (ent d s e l).1.2.1 (ent d s e l).1.2.2).2 ≠ 0
      · rw [if_pos o2] at h1n; exact (o2 h1n).elim
      rw [if_neg o2] at h1n
      have o2' : (ndL d.l (lft d r) (ent d s e l).1.1 (ent d s e l).1.2.1 (ent d s e l).1.2.2).2 = 0 := by omega
      rcases List.mem_cons.1 hc with rfl | hc
      · rw [eok]
        by_cases k2 : c.k = 2
        · have e2 : ent c s e l = ((s, (e : Int) + 1, l), (UBase.word c.t 45 && KFd.fl1 none c.f) && bare ⟨#[]⟩ 0 c.p.length c.x.length 0 c.u.length) := by unfold ent; rw [if_neg (by omega), if_pos k2]
          rw [e2] at z2 z3 o2'
          simp only [Bool.and_eq_true] at z3
          dsimp only at z2 o2'
          exact ⟨by omega, fun k1 => by omega, fun _ => ⟨by omega, z3.1.1, ih c.l _ _ (e + 1) _ (by omega) o2'⟩, fun k => (k k2).elim⟩
        · have ee := ent_e c s e l k2
          rw [ee] at z2 o2' h1n
          refine ⟨by omega, fun k1 => ?_, fun k => (k2 k).elim, fun _ => ⟨ih c.l _ _ e _ (by omega) o2', ih c.u _ _ e _ (by omega) h1n⟩⟩
          unfold ent at z3
          rw [if_pos k1] at z3
          simp only [Bool.and_eq_true] at z3
          have := z3.1
          unfold KRo.prOk at this
          simp only [Bool.and_eq_true] at this
          exact this.1
      · exact iht _ s e l (by omega) h c hc
def tsz : List T -> Nat
  | [] => 0
  | .mk g s n l :: t => 1 + tsz l + tsz t
theorem tsz_app : ∀ (a b : List T), tsz (a ++ b) = tsz a + tsz b
  | [], b => by rw [List.nil_append, tsz]; omega
  | .mk g s n l :: t, b => by rw [List.cons_append, tsz, tsz, tsz_app t b]; omega
def fitL : Nat -> List T -> Prop
  | _, [] => True
  | h, .mk g s n l :: t => (0 < h /\ TPure.alone (.mk g s n l) = true /\ fitL (h - 1) l) /\ fitL h t
theorem fit_nil (h : Nat) : fitL h [] := by rw [fitL]; trivial
theorem emp : (⟨#[]⟩ : ByteArray).toList.isEmpty = true := by rw [SFit.ne]; rfl
theorem fit_app : ∀ {h : Nat} {a b : List T}, fitL h a -> fitL h b -> fitL h (a ++ b)
  | _, [], b, _, k => k
  | h, .mk g s n l :: t, b, i, k => by
    rw [fitL] at i
    rw [List.cons_append, fitL]
    exact ⟨i.1, fit_app i.2 k⟩
theorem vis_fit : ∀ (l : List T) (d k e : Nat), 1 <= d -> fitL (65 - d) l -> k + tsz l <= 4096 -> (TVisit.vis l d k e).2.2 = 0 /\ (TVisit.vis l d k e).1 = k + tsz l
  | [], d, k, e, _, _, _ => by rw [TVisit.vis_nil, tsz]; exact ⟨rfl, rfl⟩
  | .mk g s n l :: t, d, k, e, hd, hf, hk => by
    rw [fitL] at hf
    rw [tsz] at hk
    have f0 : TMay.flt (.mk g s n l) d (k + 1) = 0 := by
      unfold TMay.flt
      rw [if_neg (by omega), if_neg (by omega), if_pos hf.1.2.1]
    obtain ⟨i1, i2⟩ := vis_fit l (d + 1) (k + 1) (max e d) (by omega) (by rw [show 65 - (d + 1) = 65 - d - 1 from by omega]; exact hf.1.2.2) (by omega)
    rw [TVisit.vis, if_pos f0, if_pos i1, i2]
    obtain ⟨j1, j2⟩ := vis_fit t d (k + 1 + tsz l) (TVisit.vis l (d + 1) (k + 1) (max e d)).2.1 hd hf.2 (by omega)
    refine ⟨j1, ?_⟩
    rw [j2, tsz]
    omega
def Mk (h : Nat) (x : Int) (a : List T × Int) : Prop := fitL h a.1 /\ (tsz a.1 : Int) + a.2 = x /\ 0 <= a.2
theorem rnL_mk {f : Co -> Int -> Except Nat (List T × Int)} {h : Nat} : ∀ (cs : List Co) (r : Int) (F : List T) (a : List T × Int), (∀ d ∈ cs, ∀ x b, 0 <= x -> f d x = .ok b -> Mk h x b) -> 0 <= r -> rnL f cs r F = .ok a -> ∃ G, a.1 = F ++ G /\ Mk h r (G, a.2)
  | [], r, F, a, _, hr, e => by
    rw [rnL] at e
    injection e with e
    subst e
    exact ⟨[], by simp, ⟨fit_nil h, by simp [tsz], hr⟩⟩
  | c :: t, r, F, a, hf, hr, e => by
    rw [rnL] at e
    obtain ⟨b, e1, e2⟩ := bnd_ok e
    obtain ⟨m1, m2, m3⟩ := hf c (by simp) r b hr e1
    obtain ⟨G, g1, g2, g3, g4⟩ := rnL_mk t b.2 (F ++ b.1) a (fun d hd => hf d (by simp [hd])) m3 e2
    refine ⟨b.1 ++ G, by rw [g1, List.append_assoc], fit_app m1 g2, ?_, g4⟩
    rw [tsz_app]
    dsimp only at g3 ⊢
    omega
theorem rnL_mk0 {f : Co -> Int -> Except Nat (List T × Int)} {h : Nat} {cs : List Co} {r : Int} {a : List T × Int} (hf : ∀ d ∈ cs, ∀ x b, 0 <= x -> f d x = .ok b -> Mk h x b) (hr : 0 <= r) (e : rnL f cs r [] = .ok a) : Mk h r a := by
  obtain ⟨G, g1, g2⟩ := rnL_mk cs r [] a hf hr e
  rw [List.nil_append] at g1
  rw [<- g1] at g2
  exact g2
theorem lp_mk {f : Nat -> C -> Int -> Except Nat (List T × Int)} {h : Nat} : ∀ (l : List C) (i : Nat) (r : Int) (F : List T) (a : List T × Int), (∀ j v, v ∈ l -> i <= j -> j < i + l.length -> ∀ x b, 0 <= x -> f j v x = .ok b -> Mk h x b) -> 0 <= r -> lp f l i r F = .ok a -> ∃ G, a.1 = F ++ G /\ Mk h r (G, a.2)
  | [], i, r, F, a, _, hr, e => by
    rw [lp] at e
    injection e with e
    subst e
    exact ⟨[], by simp, ⟨fit_nil h, by simp [tsz], hr⟩⟩
  | v :: t, i, r, F, a, hf, hr, e => by
    rw [lp] at e
    obtain ⟨b, e1, e2⟩ := bnd_ok e
    obtain ⟨m1, m2, m3⟩ := hf i v (by simp) (Nat.le_refl _) (by simp) r b hr e1
    obtain ⟨G, g1, g2, g3, g4⟩ := lp_mk t (i + 1) b.2 (F ++ b.1) a (fun j u hu h1 h2 => hf j u (by simp [hu]) (by omega) (by simp; omega)) m3 e2
    refine ⟨b.1 ++ G, by rw [g1, List.append_assoc], fit_app m1 g2, ?_, g4⟩
    rw [tsz_app]
    dsimp only at g3 ⊢
    omega
theorem tree_one {h : Nat} {c : T} (h0 : 0 < h) (ha : TPure.alone c = true) (hl : fitL (h - 1) c.l) : fitL h [c] := by
  obtain ⟨g, s, n, l⟩ := c
  rw [fitL, fitL]
  exact ⟨⟨h0, ha, hl⟩, trivial⟩
theorem tsz_one (c : T) : tsz [c] = 1 + tsz c.l := by
  obtain ⟨g, s, n, l⟩ := c
  rw [tsz, tsz]
  rfl
theorem rn_mk : ∀ (n : Nat) (L : List C) (e : Nat) (c : Co), oks n L.length c -> eok n e c -> gds L -> ∀ (x : Int) (a : List T × Int), 0 <= x -> rn n L c x = .ok a -> Mk (64 - e) x a := by
  intro n
  induction n with
  | zero => intro L e c h; rw [oks] at h; exact h.elim
  | succ n ih =>
    intro L e c h he hL x a hx0 hr
    rw [oks] at h
    rw [eok] at he
    obtain ⟨hx, hf, hs, h⟩ := h
    obtain ⟨e0, e1, e2, e3⟩ := he
    rcases h with k | ⟨k, hfl, hl⟩ | ⟨k, hn, hl, hu⟩ | ⟨k, hn, h2, hl⟩ | ⟨k, h2, hl⟩
    · rw [rn, if_pos k] at hr
      obtain ⟨t, r1, r2⟩ := bnd_ok hr
      injection r2 with r2
      subst r2
      unfold nT at r1
      by_cases hx1 : x = 0
      · rw [if_pos hx1] at r1; cases r1
      rw [if_neg hx1] at r1
      obtain ⟨s, r3, r4⟩ := bnd_ok r1
      injection r4 with r4
      subst r4
      obtain ⟨t1, t2⟩ := tgo_tg hL c.p 0 (by omega) (fun j hj hb => (hx _ (mem_p hj hb)).2.2) (e1 k) s r3
      refine ⟨tree_one (by omega) ?_ (fit_nil _), ?_, ?_⟩
      · show (if (⟨#[]⟩ : ByteArray).toList.isEmpty = true then decide (0 = 0) && (decide (0 = 0) && TPure.tg ⟨s.toArray⟩) else _) = true
        have t3 : TPure.tg ⟨s.toArray⟩ = true := t1
        rw [if_pos emp, t3]
        rfl
      · dsimp only
        rw [tsz_one]
        show ((1 + tsz [] : Nat) : Int) + (x - 1) = x
        rw [tsz]
        omega
      · dsimp only; omega
    · rw [rn, if_neg (by omega), if_pos k] at hr
      obtain ⟨t, r1, r2⟩ := bnd_ok hr
      injection r2 with r2
      subst r2
      unfold nE at r1
      by_cases hx1 : x = 0
      · rw [if_pos hx1] at r1; cases r1
      rw [if_neg hx1] at r1
      obtain ⟨s, r3, r4⟩ := bnd_ok r1
      obtain ⟨b, r5, r6⟩ := bnd_ok r4
      injection r6 with r6
      subst r6
      obtain ⟨q1, q2, q3⟩ := e2 k
      obtain ⟨a1, a2⟩ := ats_ok hL none c.f hfl (fun j hj hb => (hx _ (mem_f hj hb)).2.2) s r3
      have hk := rnL_mk0 (h := 64 - (e + 1)) (fun d hd x b h0 hb => ih L (e + 1) d (hl d hd) (q3 d hd) hL x b h0 hb) (by omega) r5
      obtain ⟨m1, m2, m3⟩ := hk
      refine ⟨tree_one (by omega) ?_ (by show fitL _ b.1; rw [show 64 - e - 1 = 64 - (e + 1) from by omega]; exact m1), ?_, m3⟩
      · show (if c.t.toList.isEmpty = true then decide (s.length = 0) && (decide (b.1.length = 0) && TPure.tg ⟨#[]⟩) else UBase.word c.t 45 && ((⟨#[]⟩ : ByteArray).toList.isEmpty && TPure.attrsOK s)) = true
        have hne : ¬ c.t.toList.isEmpty = true := by
          rw [SFit.ne]
          have := q2
          unfold UBase.word at this
          simp only [Bool.and_eq_true, decide_eq_true_eq] at this
          have h0 := this.1
          intro hc
          rw [beq_iff_eq] at hc
          omega
        rw [if_neg hne, q2, attrs_ok a1 a2, emp]
        rfl
      · dsimp only
        rw [tsz_one]
        show ((1 + tsz b.1 : Nat) : Int) + b.2 = x
        omega
    · obtain ⟨y, hy⟩ : ∃ y, c.x = [y] := List.length_eq_one_iff.1 hn
      rw [rn, if_neg (by omega), if_neg (by omega), if_pos k] at hr
      obtain ⟨b, r1, r2⟩ := bnd_ok hr
      obtain ⟨q1, q2⟩ := e3 (by omega)
      cases b
      · exact rnL_mk0 (fun d hd x b h0 hb => ih L e d (hu d hd) (q2 d hd) hL x b h0 hb) hx0 r2
      · exact rnL_mk0 (fun d hd x b h0 hb => ih L e d (hl d hd) (q1 d hd) hL x b h0 hb) hx0 r2
    · obtain ⟨y0, y1, hy⟩ : ∃ y0 y1, c.x = [y0, y1] := by
        match hc : c.x with
        | [] => rw [hc] at hn; simp at hn
        | [a] => rw [hc] at hn; simp at hn
        | [a, b] => exact ⟨a, b, rfl⟩
        | a :: b :: d :: t => rw [hc] at hn; simp at hn
      have hg0 := hx y0 (mem_x (by rw [hy]; simp))
      rw [rn, if_neg (by omega), if_neg (by omega), if_neg (by omega), if_pos k] at hr
      have e0' : GRn.x0 c = y0 := by unfold GRn.x0; rw [hy]; rfl
      rw [e0'] at hr
      obtain ⟨l, r1, r2⟩ := bnd_ok hr
      obtain ⟨ks, r3, r4⟩ := bnd_ok r2
      obtain ⟨v, s1, s2⟩ := bnd_ok r1
      have hv := ev_gd hL.rh hg0.2.2 s1
      have hlg : l.length <= 16384 /\ gds l := by
        unfold isL at s2
        by_cases k5 : v.k = 5
        · rw [if_pos k5] at s2
          injection s2 with s2
          subst s2
          exact ⟨hv.self.2.2.2, fun d hd => GAn.Gd.mem hv hd⟩
        · rw [if_neg k5] at s2; cases s2
      obtain ⟨q1, q2⟩ := e3 (by omega)
      obtain ⟨G, g1, g2⟩ := lp_mk (h := 64 - e) l 0 x [] a (fun j u hu h1 h2 x b h0 hb => rnL_mk0 (fun d hd x b h0 hb => ih (L ++ [u, iV j]) e d (by have := hl d hd; simpa using this) (q1 d hd) (hL.app fun w hw => by
        rcases List.mem_cons.1 hw with rfl | hw
        · exact hlg.2 _ hu
        · rw [List.mem_singleton.1 hw]
          exact gd_int ⟨by omega, by omega⟩) x b h0 hb) h0 hb) hx0 r4
      rw [List.nil_append] at g1
      rw [<- g1] at g2
      exact g2
    · rw [rn, if_neg (by omega), if_neg (by omega), if_neg (by omega), if_neg (by omega)] at hr
      obtain ⟨L', r1, r2⟩ := bnd_ok hr
      obtain ⟨N, rfl, hN⟩ := GWi.wth_app r1
      obtain ⟨q1, q2⟩ := e3 (by omega)
      exact rnL_mk0 (fun d hd x b h0 hb => ih (L ++ N) e d (by rw [List.length_append, hN]; exact hl d hd) (q1 d hd) (wth_gd hL (fun y hy => (hx y (mem_x hy)).2.2) r1) x b h0 hb) hx0 r2
theorem rnd_ok {cs : List Co} {c : C} {F : List T} (hi : icL cs) (hg : ∀ p ∈ Walk.pl 1 c, rg p.2.i) (h : rnd cs c = .ok F) : TMeas.ck F = 0 := by
  unfold rnd at h
  by_cases h1 : chk cs ≠ 0
  · rw [if_pos h1] at h; cases h
  rw [if_neg h1] at h
  by_cases h2 : vch c ≠ 0
  · rw [if_pos h2] at h; cases h
  rw [if_neg h2] at h
  obtain ⟨a, e1, e2⟩ := bnd_ok h
  injection e2 with e2
  subst e2
  have hok := chk_oks (cs := cs) (by omega) hi
  have heo := nd_eok _ cs 4096 1 0 0 (Nat.le_refl _) (by have : chk cs = 0 := by omega
                                                         exact this)
  have hgd : gds [c] := fun d hd => by rw [List.mem_singleton.1 hd]; exact ⟨by show vch c = 0; omega, hg⟩
  obtain ⟨m1, m2, m3⟩ := rnL_mk0 (h := 64) (fun d hd x b h0 hb => rn_mk _ [c] 0 d (hok d hd) (heo d hd) hgd x b h0 hb) (by omega) e1
  exact (vis_fit a.1 1 0 0 (by omega) m1 (by omega)).1
end Go.Proofs.YtiijfmdfccdagaaGreatDoor.GOk
namespace Go.Proofs.YtiijfmdfccdagaaGreatDoor.JEs
open Go.RowKit Base EPure JPure
open VPure hiding evL
open SFit (kd)
def N0 {α : Type} (x : Except Nat α) : Prop := ∀ e, x = .error e -> (1100 <= e /\ e <= 1107) \/ e = 1600 \/ e = 1601
theorem ok0 {α : Type} (a : α) : N0 (.ok a) := fun e h => by cases h
theorem er0 {α : Type} {e : Nat} (h : (1100 <= e /\ e <= 1107) \/ e = 1600 \/ e = 1601) : N0 (.error e : Except Nat α) := fun e q => by injection q with q; rw [<- q]; exact h
theorem bnd0 {α β : Type} {x : Except Nat α} {f : α -> Except Nat β} (h : N0 x) (hf : ∀ a, N0 (f a)) : N0 (bnd x f) := by
  cases x with
  | error e => exact er0 (h _ rfl)
  | ok a => exact hf a
theorem isT0 (c : C) : N0 (isT c) := by unfold isT; split <;> first | exact ok0 _ | exact er0 (by decide)
theorem chk0 (x e : Int) : N0 (chkI x e) := by unfold chkI; (repeat' split) <;> first | exact ok0 _ | exact er0 (by decide)
theorem mapI0 {x : Except Nat Int} (h : N0 x) : N0 (mapI x) := by
  cases x with
  | error e => exact er0 (h _ rfl)
  | ok a => exact ok0 _
theorem mapS0 {x : Except Nat ByteArray} (h : N0 x) : N0 (mapS x) := by
  cases x with
  | error e => exact er0 (h _ rfl)
  | ok a => exact ok0 _
theorem mapB0 {x : Except Nat Bool} (h : N0 x) : N0 (mapB x) := by
  cases x with
  | error e => exact er0 (h _ rfl)
  | ok a => exact ok0 _
theorem txt0 (c : C) : N0 (txt c) := by unfold txt; split <;> first | exact ok0 _ | exact er0 (by decide)
theorem ord0 (k1 i1 : Int) (s1 : ByteArray) (k2 i2 : Int) (s2 : ByteArray) : N0 (ord k1 i1 s1 k2 i2 s2) := by unfold ord; (repeat' split) <;> first | exact ok0 _ | exact er0 (by decide)
theorem numb0 (o : Int) (a b : C) : N0 (numb o a b) := by
  refine mapI0 ?_
  unfold twI
  (repeat' split) <;> first | exact chk0 _ _ | exact er0 (by decide)
theorem pr20 (o : Int) (a b : C) : N0 (pr2 o a b) := by
  unfold pr2
  by_cases q : o = 17
  · rw [if_pos q]
    exact bnd0 (txt0 a) fun x => bnd0 (txt0 b) fun y => by split <;> first | exact er0 (by decide) | exact ok0 _
  rw [if_neg q]
  clear q
  by_cases q : o = 10
  · rw [if_pos q]; exact numb0 _ _ _
  rw [if_neg q]
  clear q
  by_cases q : o = 23
  · rw [if_pos q]; exact bnd0 (ord0 _ _ _ _ _ _) fun _ => ok0 _
  rw [if_neg q]
  clear q
  by_cases q : o = 24
  · rw [if_pos q]; exact bnd0 (ord0 _ _ _ _ _ _) fun _ => ok0 _
  rw [if_neg q]
  clear q
  by_cases q : o = 25
  · rw [if_pos q]; exact bnd0 (ord0 _ _ _ _ _ _) fun _ => ok0 _
  rw [if_neg q]
  clear q
  by_cases q : o = 26
  · rw [if_pos q]; exact bnd0 (ord0 _ _ _ _ _ _) fun _ => ok0 _
  rw [if_neg q]
  clear q
  by_cases q : o = 27
  · rw [if_pos q]; exact ok0 _
  rw [if_neg q]
  clear q
  by_cases q : o = 28
  · rw [if_pos q]; exact ok0 _
  rw [if_neg q]
  clear q
  by_cases q : o = 7 \/ o = 8
  · rw [if_pos q]
    unfold VPure.prt prtR
    by_cases q5 : a.k = 5
    · rw [if_pos q5]
      (repeat' split) <;> first | exact er0 (by decide) | exact ok0 _
    · rw [if_neg q5]
      by_cases q6 : a.k = 6 /\ b.k = 4
      · rw [if_pos q6]
        cases Part.fi a.n b.s with
        | none => exact er0 (by decide)
        | some q => exact ok0 _
      · rw [if_neg q6]; exact er0 (by decide)
  rw [if_neg q]
  clear q
  by_cases q : o = 9
  · rw [if_pos q]
    unfold cal
    by_cases q1 : b.i = 1
    · rw [if_pos q1]
      refine mapI0 ?_
      unfold lenI
      (repeat' split) <;> first | exact er0 (by decide) | exact ok0 _
    rw [if_neg q1]
    by_cases q2 : b.i = 2
    · rw [if_pos q2]; exact mapS0 (txt0 a)
    · rw [if_neg q2]
      refine mapI0 ?_
      unfold tunI
      split <;> first | exact er0 (by decide) | exact ok0 _
  rw [if_neg q]
  clear q
  by_cases q : o = 11
  · rw [if_pos q]
    refine mapB0 ?_
    unfold notT
    split <;> first | exact er0 (by decide) | exact ok0 _
  rw [if_neg q]
  clear q
  by_cases q : o = 20 \/ o = 21 \/ o = 22
  · rw [if_pos q]
    refine mapI0 ?_
    unfold twX
    (repeat' split) <;> first | exact er0 (by decide) | exact ok0 _
  rw [if_neg q]
  clear q
  exact numb0 _ _ _
theorem kd_pos {o : Int} {n : Nat} (h : (n : Int) = kd o) (h1 : ¬ (1 <= o /\ o <= 6)) : 0 < n /\ (¬ (o = 7 \/ o = 9 \/ o = 10 \/ o = 11) -> 1 < n) /\ (o = 31 -> 2 < n) := by
  unfold kd at h
  rw [if_neg h1] at h
  by_cases h2 : o = 7 \/ o = 9 \/ o = 10 \/ o = 11
  · rw [if_pos h2] at h; exact ⟨by omega, fun q => (q h2).elim, fun q => by omega⟩
  rw [if_neg h2] at h
  by_cases h3 : o = 8 \/ (12 <= o /\ o <= 30)
  · rw [if_pos h3] at h; exact ⟨by omega, fun _ => by omega, fun q => by omega⟩
  rw [if_neg h3] at h
  by_cases h4 : o = 31
  · rw [if_pos h4] at h; exact ⟨by omega, fun _ => by omega, fun q => by omega⟩
  rw [if_neg h4] at h
  omega
theorem node0 {ρ : ByteArray -> Option C} {o i : Int} {s : ByteArray} {p : List Ans} (hk : (p.length : Int) = kd o) (hp : ∀ q, q < p.length -> N0 (p.getD q (.error 0))) : N0 (node ρ o i s p) := by
  unfold node
  by_cases q1 : o = 1
  · rw [if_pos q1]; exact ok0 _
  rw [if_neg q1]
  by_cases q2 : o = 2 \/ o = 3
  · rw [if_pos q2]; exact ok0 _
  rw [if_neg q2]
  by_cases q4 : o = 4
  · rw [if_pos q4]; exact ok0 _
  rw [if_neg q4]
  by_cases q5 : o = 5
  · rw [if_pos q5]; exact ok0 _
  rw [if_neg q5]
  by_cases q6 : o = 6
  · rw [if_pos q6]
    cases ρ s with
    | none => exact er0 (by decide)
    | some c => exact ok0 _
  rw [if_neg q6]
  obtain ⟨k0, k1, k2⟩ := kd_pos hk (by omega)
  have h0 := hp 0 k0
  by_cases q29 : o = 29 \/ o = 30
  · rw [if_pos q29]
    have h1 := hp 1 (k1 (by omega))
    exact bnd0 (bnd0 h0 isT0) fun b => by
      split
      · exact ok0 _
      · exact bnd0 (bnd0 h1 isT0) fun c => ok0 _
  rw [if_neg q29]
  by_cases q31 : o = 31
  · rw [if_pos q31]
    have h1 := hp 1 (k1 (by omega))
    have h2 := hp 2 (k2 q31)
    exact bnd0 (bnd0 h0 isT0) fun b => by
      split
      · exact h1
      · exact h2
  rw [if_neg q31]
  refine bnd0 h0 fun a => bnd0 ?_ fun b => pr20 o a b
  unfold snd2
  by_cases r7 : o = 7
  · rw [if_pos r7]; exact ok0 _
  rw [if_neg r7]
  by_cases r9 : o = 9
  · rw [if_pos r9]; exact ok0 _
  rw [if_neg r9]
  by_cases r10 : o = 10 \/ o = 11
  · rw [if_pos r10]; exact ok0 _
  rw [if_neg r10]
  exact hp 1 (k1 (by omega))
theorem evL_len (ρ : Int -> Option C) : ∀ l : List Ex, (evL ρ l).length = l.length
  | [] => by rw [evL]; rfl
  | x :: t => by rw [evL_cons, List.length_cons, List.length_cons, evL_len ρ t]
theorem evL0 {ρ : Int -> Option C} : ∀ (l : List Ex), gdL l -> ∀ q, q < (evL ρ l).length -> N0 ((evL ρ l).getD q (.error 0))
  | [], _, q, h => by rw [evL] at h; simp at h
  | .mk o i s l :: t, hg, 0, h => by
    rw [gdL] at hg
    rw [evL]
    show N0 (node (fun _ => ρ i) o i s (evL ρ l))
    exact node0 (by rw [evL_len]; exact hg.1.1) (evL0 (ρ := ρ) l hg.1.2.2)
  | .mk o i s l :: t, hg, q + 1, h => by
    rw [gdL] at hg
    rw [evL] at h ⊢
    have := evL0 (ρ := ρ) t hg.2 q (by simpa using h)
    simpa using this
theorem ev0 {ρ : Int -> Option C} {x : Ex} (hg : gd x) : N0 (ev ρ x) := node0 (by rw [evL_len]; exact hg.1) (evL0 x.l hg.2.2)
end Go.Proofs.YtiijfmdfccdagaaGreatDoor.JEs

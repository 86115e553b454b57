import Derived.Deep.RegionWith
import Derived.Laws.ResultCell
import Derived.Test.YtaiackmmmlhgbaaGreatPR00
import Derived.Test.YtaiackmmmlhgbaaGreatPR05
open Go.Proofs.Tryz
set_option linter.unusedVariables false
set_option maxRecDepth 20000
set_option maxHeartbeats 3200000
namespace Go.Proofs.YtaiackmmmlhgbaaGreat.TVisit
open Go.RowKit TBase TPure TMay
def vis : List T -> Nat -> Nat -> Nat -> Nat × Nat × Nat
  | [], _, k, e => (k, e, 0)
  | .mk g s n l :: cs, d, k, e =>
    if flt (.mk g s n l) d (k + 1) = 0 then
      if (vis l (d + 1) (k + 1) (max e d)).2.2 = 0 then vis cs d (vis l (d + 1) (k + 1) (max e d)).1 (vis l (d + 1) (k + 1) (max e d)).2.1 else vis l (d + 1) (k + 1) (max e d)
    else (k + 1, max e d, flt (.mk g s n l) d (k + 1))
theorem vis_cons (c : T) (cs : List T) (d k e : Nat) : vis (c :: cs) d k e =
    if flt c d (k + 1) = 0 then
      if (vis c.l (d + 1) (k + 1) (max e d)).2.2 = 0 then vis cs d (vis c.l (d + 1) (k + 1) (max e d)).1 (vis c.l (d + 1) (k + 1) (max e d)).2.1 else vis c.l (d + 1) (k + 1) (max e d)
    else (k + 1, max e d, flt c d (k + 1)) := by
  obtain ⟨g, s, n, l⟩ := c
  rw [vis]
  rfl
theorem vis_nil (d k e : Nat) : vis [] d k e = (k, e, 0) := by rw [vis]
theorem flt_zero {c : T} {d k : Nat} (h : flt c d k = 0) : k <= 4096 /\ d <= 64 /\ alone c = true := by
  unfold flt at h
  split at h
  · omega
  · split at h
    · omega
    · split at h
      · next h3 => exact ⟨by omega, by omega, h3⟩
      · omega
theorem flt_le (c : T) (d k : Nat) : flt c d k <= 702 := by
  unfold flt
  repeat' split
  all_goals omega
theorem vis_ok : ∀ (m : Nat) (l : List T) (d k e : Nat), SizeOf.sizeOf l <= m -> k <= 4096 -> e <= 64 -> (vis l d k e).2.2 <= 702 /\ ((vis l d k e).2.2 = 0 -> (vis l d k e).1 <= 4096 /\ (vis l d k e).2.1 <= 64) := by
  intro m
  induction m with
  | zero =>
    intro l d k e hm hk he
    cases l with
    | nil => rw [vis_nil]; exact ⟨by simp, fun _ => ⟨hk, he⟩⟩
    | cons c cs => simp at hm
  | succ m ih =>
    intro l d k e hm hk he
    cases l with
    | nil => rw [vis_nil]; exact ⟨by simp, fun _ => ⟨hk, he⟩⟩
    | cons c cs =>
      obtain ⟨g, s, n, l⟩ := c
      simp at hm
      rw [vis_cons]
      by_cases h1 : flt (.mk g s n l) d (k + 1) = 0
      · rw [if_pos h1]
        obtain ⟨h2, h3, -⟩ := flt_zero h1
        obtain ⟨i0, i1⟩ := ih l (d + 1) (k + 1) (max e d) (by omega) h2 (by omega)
        by_cases h4 : (vis (T.mk g s n l).l (d + 1) (k + 1) (max e d)).2.2 = 0
        · rw [if_pos h4]
          obtain ⟨j1, j2⟩ := i1 h4
          exact ih cs d _ _ (by omega) j1 j2
        · rw [if_neg h4]
          exact ⟨i0, fun h => (h4 h).elim⟩
      · rw [if_neg h1]
        exact ⟨flt_le _ _ _, fun h => (h1 h).elim⟩
def Lo (P : Nat) : Nat -> Prop := fun b => b < P
theorem keep_lo {P : Nat} {w w' : World} (h : Below P w w') : Keep (Lo P) w w' := fun b hb _ => h.block b hb
theorem stepped {wr W0 : World} {P : Nat} {y0 y1 x0 x1 v0 v1 v2 v3 : Value} {t t' : TypeId} (hp : wr.heap[P]? = some (.cells #[y0, y1] t (0, 0)))
    (h : ((wr.setCell ⟨P, 0, none⟩ x0).setCell ⟨P, 1, none⟩ x1).alloc (.cells #[v0, v1, v2, v3] t') = W0) :
    W0.heap[P]? = some (.cells #[x0, x1] t (0, 0)) /\ Below P wr W0 /\ W0.heap[wr.heap.size]? = some (.cells #[v0, v1, v2, v3] t' (0, 0)) := by
  have hlt := (Array.getElem?_eq_some_iff.1 hp).1
  have hs : ((wr.setCell ⟨P, 0, none⟩ x0).setCell ⟨P, 1, none⟩ x1).heap.size = wr.heap.size := by simp [World.setCell]
  subst h
  refine ⟨?_, ?_, ?_⟩
  · rw [Below.heap_alloc _ _ _ (by rw [hs]; exact hlt), block_set (block_set hp _) _]
    rfl
  · exact (((Below.refl P wr).setCell (p := ⟨P, 0, none⟩) (Nat.le_refl _) _).setCell (p := ⟨P, 1, none⟩) (Nat.le_refl _) _).alloc (by rw [hs]; omega) _
  · have := heap_alloc_new ((wr.setCell ⟨P, 0, none⟩ x0).setCell ⟨P, 1, none⟩ x1) (.cells #[v0, v1, v2, v3] t')
    rwa [hs] at this
def Visits (m : Nat) : Prop := ∀ (v : Value) (l : List T) (d k e P : Nat) (w : World), InL false (Lo P) w m v l -> w.heap[P]? = some (.cells #[.int .i64 k, .int .i64 e] 189 (0, 0)) -> k <= 4096 -> e <= 64 -> d <= 65 ->
    Calls prog 186 #[v, .int .i64 d, .pointer (some ⟨P, 0, none⟩)] w fun r w' => r = .returned (.int .i64 ((vis l d k e).2.2 : Nat)) /\ Below P w w' /\
      Hid ((vis l d k e).2.2 = 0 -> w'.heap[P]? = some (.cells #[.int .i64 ((vis l d k e).1 : Nat), .int .i64 ((vis l d k e).2.1 : Nat)] 189 (0, 0)))
theorem visit_of (m : Nat) (ih : ∀ m', m = m' + 1 -> Visits m') : Visits m := by
  intro v l d k e P w h hP hk he hd
  obtain ⟨a, cap, rfl, hlc, hcm, hlen, hnil, hL⟩ := h
  have H : Hid (∀ m', m = m' + 1 -> Visits m') := ih
  clear ih
  obtain ⟨V, hV⟩ : ∃ V, vis l d k e = V := ⟨_, rfl⟩
  rw [hV]
  have HV : Hid (vis l d k e = V) := hV
  clear hV
  have hPw := (Array.getElem?_eq_some_iff.1 hP).1
  go_enter func186, ntmps186
  go_wp2_with fail
  go_loopw [13] (fun i wr => ∃ (q kq eq : Nat), q <= l.length /\ i = .int .i64 q /\ vis (l.drop q) d kq eq = V /\ kq <= 4096 /\ eq <= 64 /\ Below P w wr /\ wr.heap[P]? = some (.cells #[.int .i64 kq, .int .i64 eq] 189 (0, 0))) (fun i _ => l.length - (intOf i).toNat)
  case atStart => exact ⟨0, k, e, by omega, rfl, by rw [List.drop_zero]; exact HV.out, hk, he, Below.refl _ _, hP⟩
  case round =>
    obtain ⟨q, kq, eq, hq, rfl, hv, hkq, heq, hb, hp⟩ := hrel
    have Hv : Hid (vis (l.drop q) d kq eq = V) := hv
    clear hv
    by_cases hlt : q < l.length
    · obtain ⟨g, o, u, rfl, hgP, hu, hin⟩ := elem_at hL hlt
      have hu := (keep_lo hb).four hgP hu
      have hin := hin.keep (keep_lo hb)
      obtain ⟨v0, v1, v2, v3, rfl, d0, d1, d2, d3⟩ := hu
      obtain ⟨m', a1, c1, a2, c2, hm, rfl, rfl, rfl, rfl, -, -, hn', hl'⟩ := hin.kinds
      have hcons : l.drop q = l[q] :: l.drop (q + 1) := List.drop_eq_getElem_cons hlt
      have HV2 := Hv.out
      rw [hcons, vis_cons] at HV2
      clear Hv hcons
      obtain ⟨k0, k1⟩ := two_box hp
      have f0 := frozen_box hp 0
      have f1 := frozen_box hp 1
      have hPr := (Array.getElem?_eq_some_iff.1 hp).1
      by_cases hde : eq < d
      · have hmx : max eq d = d := by omega
        have hmi : max (eq : Int) (d : Int) = (d : Int) := by omega
        rw [hmx] at HV2
        have Hv : Hid ((if flt l[q] d (kq + 1) = 0 then if (vis l[q].l (d + 1) (kq + 1) d).2.2 = 0 then vis (l.drop (q + 1)) d (vis l[q].l (d + 1) (kq + 1) d).1 (vis l[q].l (d + 1) (kq + 1) d).2.1 else vis l[q].l (d + 1) (kq + 1) d else (kq + 1, d, flt l[q] d (kq + 1))) = V) := HV2
        clear HV2
        go_wp2_with fail
        obtain ⟨W0, hW0⟩ : ∃ W0, (((wr.setCell ⟨P, 0, none⟩ (.int .i64 ((kq : Int) + 1))).setCell ⟨P, 1, none⟩ (.int .i64 (d : Nat))).alloc (.cells #[.string l[q].g, .string l[q].s, .slice a1 l[q].n.length c1, .slice a2 l[q].l.length c2] 68)) = W0 := ⟨_, rfl⟩
        rw [hW0]
        obtain ⟨p0, b0, x0⟩ := stepped hp hW0
        have hin0 := (hin.keep (keep_lo b0)).below (Below.refl W0.heap.size W0).drew
        have c54 := fault_c m _ l[q] d (kq + 1) hd (by omega) W0.drew hin0.plain
        obtain ⟨F, hF⟩ : ∃ F, flt l[q] d (kq + 1) = F := ⟨_, rfl⟩
        rw [hF] at c54
        have hFl := flt_le l[q] d (kq + 1)
        rw [hF] at hFl
        have HF : Hid (flt l[q] d (kq + 1) = F) := hF
        clear hF
        obtain ⟨t0, t1⟩ := two_box p0
        obtain ⟨y0, y1, y2, y3⟩ := four_box x0
        have hPs := (Array.getElem?_eq_some_iff.1 p0).1
        have hXs := (Array.getElem?_eq_some_iff.1 x0).1
        have HP0 : Hid (W0.heap[P]? = some (.cells #[.int .i64 (kq + 1 : Nat), .int .i64 (d : Nat)] 189 (0, 0))) := p0
        have HX0 : Hid (W0.heap[wr.heap.size]? = some (.cells #[.string l[q].g, .string l[q].s, .slice a1 l[q].n.length c1, .slice a2 l[q].l.length c2] 68 (0, 0))) := x0
        have Hl : Hid (InL false (Lo P) wr m' (.slice a2 l[q].l.length c2) l[q].l) := hl'
        have Hb0 : Hid (Below P wr W0) := b0
        have Hb : Hid (Below P w wr) := hb
        clear hin hin0 hW0 d0 d1 d2 d3 k0 k1 f0 f1 hl' hn' p0 x0 b0 hb hp hL
        by_cases hF0 : F = 0
        · subst hF0
          obtain ⟨z1, z2, -⟩ := flt_zero HF.out
          go_region_with (go_at_call 214; refine c54.mono ?_; rintro e w1 ⟨rfl, b1⟩)
          all_goals
            have p1 := (b1.block P hPs).trans HP0.out
            have x1 := (b1.block wr.heap.size hXs).trans HX0.out
            have bw1 : Below P wr w1 := (Hb0.out.drew).trans (b1.mono (by show P <= W0.heap.size; omega))
            have c40 := H.out m' hm _ _ (d + 1) (kq + 1) d P w1 (Hl.out.keep (keep_lo bw1)) p1 z1 (by omega) (by omega)
            obtain ⟨g0, g1, g2, g3⟩ := four_box x1
            obtain ⟨R, hR⟩ : ∃ R, vis l[q].l (d + 1) (kq + 1) d = R := ⟨_, rfl⟩
            have hRo := (vis_ok _ l[q].l (d + 1) (kq + 1) d (Nat.le_refl _) z1 (by omega))
            rw [hR] at c40 hRo
            have hV2 := Hv.out
            rw [if_pos HF.out, hR] at hV2
            clear hR p1 x1
            by_cases hR0 : R.2.2 = 0
            · obtain ⟨r1, r2⟩ := hRo.2 hR0
              rw [if_pos hR0] at hV2
              rw [hR0] at c40
              have HR0 : Hid (R.2.2 = 0) := hR0
              have HV3 : Hid (vis (l.drop (q + 1)) d R.1 R.2.1 = V) := hV2
              clear hV2 hR0 hRo
              go_wp2_with (first | (go_at_call 186; refine c40.mono ?_; rintro e w2 ⟨rfl, b2, p2⟩))
              go_roundw
              case rel => exact ⟨q + 1, R.1, R.2.1, by omega, by go_num, HV3.out, r1, r2, (Hb.out.trans bw1).trans b2, p2.out (by first | rfl | trivial)⟩
              case measure => simp only [intOf]; omega
            · rw [if_neg hR0] at hV2
              have HV3 : Hid (R = V) := hV2
              obtain ⟨R1, R2, R3⟩ := R
              have hRl : R3 <= 702 := hRo.1
              have hR1 : ((R3 : Int) == 0) = false := by have : ¬ R3 = 0 := hR0; simp; omega
              simp only at c40
              clear hV2 hRo hR0
              go_wp2_with (first | (go_at_call 186; refine c40.mono ?_; rintro e w2 ⟨rfl, b2, p2⟩))
              go_ret
              refine ⟨by rw [<- HV3.out]; rfl, (Hb.out.trans bw1).trans b2, ?_⟩
              rw [<- HV3.out]
              exact p2
        · have hF1 : ((F : Int) == 0) = false := by simp; omega
          have hV2 := Hv.out
          rw [if_neg (by rw [HF.out]; exact hF0), HF.out] at hV2
          have HV3 : Hid ((kq + 1, d, F) = V) := hV2
          have HF0 : Hid (¬ F = 0) := hF0
          clear hV2 hF0
          go_region_with (go_at_call 214; refine c54.mono ?_; rintro e w1 ⟨rfl, b1⟩)
          all_goals
            have bw1 : Below P wr w1 := (Hb0.out.drew).trans (b1.mono (by show P <= W0.heap.size; omega))
            go_wp2_with fail
            go_ret
            refine ⟨by rw [<- HV3.out]; rfl, Hb.out.trans bw1, ?_⟩
            rw [<- HV3.out]
            exact fun h => (HF0.out h).elim
      · have hmx : max eq d = eq := by omega
        have hmi : max (eq : Int) (d : Int) = (eq : Int) := by omega
        rw [hmx] at HV2
        have Hv : Hid ((if flt l[q] d (kq + 1) = 0 then if (vis l[q].l (d + 1) (kq + 1) eq).2.2 = 0 then vis (l.drop (q + 1)) d (vis l[q].l (d + 1) (kq + 1) eq).1 (vis l[q].l (d + 1) (kq + 1) eq).2.1 else vis l[q].l (d + 1) (kq + 1) eq else (kq + 1, eq, flt l[q] d (kq + 1))) = V) := HV2
        clear HV2
        go_wp2_with fail
        obtain ⟨W0, hW0⟩ : ∃ W0, (((wr.setCell ⟨P, 0, none⟩ (.int .i64 ((kq : Int) + 1))).setCell ⟨P, 1, none⟩ (.int .i64 (eq : Nat))).alloc (.cells #[.string l[q].g, .string l[q].s, .slice a1 l[q].n.length c1, .slice a2 l[q].l.length c2] 68)) = W0 := ⟨_, rfl⟩
        rw [hW0]
        obtain ⟨p0, b0, x0⟩ := stepped hp hW0
        have hin0 := (hin.keep (keep_lo b0)).below (Below.refl W0.heap.size W0).drew
        have c54 := fault_c m _ l[q] d (kq + 1) hd (by omega) W0.drew hin0.plain
        obtain ⟨F, hF⟩ : ∃ F, flt l[q] d (kq + 1) = F := ⟨_, rfl⟩
        rw [hF] at c54
        have hFl := flt_le l[q] d (kq + 1)
        rw [hF] at hFl
        have HF : Hid (flt l[q] d (kq + 1) = F) := hF
        clear hF
        obtain ⟨t0, t1⟩ := two_box p0
        obtain ⟨y0, y1, y2, y3⟩ := four_box x0
        have hPs := (Array.getElem?_eq_some_iff.1 p0).1
        have hXs := (Array.getElem?_eq_some_iff.1 x0).1
        have HP0 : Hid (W0.heap[P]? = some (.cells #[.int .i64 (kq + 1 : Nat), .int .i64 (eq : Nat)] 189 (0, 0))) := p0
        have HX0 : Hid (W0.heap[wr.heap.size]? = some (.cells #[.string l[q].g, .string l[q].s, .slice a1 l[q].n.length c1, .slice a2 l[q].l.length c2] 68 (0, 0))) := x0
        have Hl : Hid (InL false (Lo P) wr m' (.slice a2 l[q].l.length c2) l[q].l) := hl'
        have Hb0 : Hid (Below P wr W0) := b0
        have Hb : Hid (Below P w wr) := hb
        clear hin hin0 hW0 d0 d1 d2 d3 k0 k1 f0 f1 hl' hn' p0 x0 b0 hb hp hL
        by_cases hF0 : F = 0
        · subst hF0
          obtain ⟨z1, z2, -⟩ := flt_zero HF.out
          go_region_with (go_at_call 214; refine c54.mono ?_; rintro e w1 ⟨rfl, b1⟩)
          all_goals
            have p1 := (b1.block P hPs).trans HP0.out
            have x1 := (b1.block wr.heap.size hXs).trans HX0.out
            have bw1 : Below P wr w1 := (Hb0.out.drew).trans (b1.mono (by show P <= W0.heap.size; omega))
            have c40 := H.out m' hm _ _ (d + 1) (kq + 1) eq P w1 (Hl.out.keep (keep_lo bw1)) p1 z1 (by omega) (by omega)
            obtain ⟨g0, g1, g2, g3⟩ := four_box x1
            obtain ⟨R, hR⟩ : ∃ R, vis l[q].l (d + 1) (kq + 1) eq = R := ⟨_, rfl⟩
            have hRo := (vis_ok _ l[q].l (d + 1) (kq + 1) eq (Nat.le_refl _) z1 (by omega))
            rw [hR] at c40 hRo
            have hV2 := Hv.out
            rw [if_pos HF.out, hR] at hV2
            clear hR p1 x1
            by_cases hR0 : R.2.2 = 0
            · obtain ⟨r1, r2⟩ := hRo.2 hR0
              rw [if_pos hR0] at hV2
              rw [hR0] at c40
              have HR0 : Hid (R.2.2 = 0) := hR0
              have HV3 : Hid (vis (l.drop (q + 1)) d R.1 R.2.1 = V) := hV2
              clear hV2 hR0 hRo
              go_wp2_with (first | (go_at_call 186; refine c40.mono ?_; rintro e w2 ⟨rfl, b2, p2⟩))
              go_roundw
              case rel => exact ⟨q + 1, R.1, R.2.1, by omega, by go_num, HV3.out, r1, r2, (Hb.out.trans bw1).trans b2, p2.out (by first | rfl | trivial)⟩
              case measure => simp only [intOf]; omega
            · rw [if_neg hR0] at hV2
              have HV3 : Hid (R = V) := hV2
              obtain ⟨R1, R2, R3⟩ := R
              have hRl : R3 <= 702 := hRo.1
              have hR1 : ((R3 : Int) == 0) = false := by have : ¬ R3 = 0 := hR0; simp; omega
              simp only at c40
              clear hV2 hRo hR0
              go_wp2_with (first | (go_at_call 186; refine c40.mono ?_; rintro e w2 ⟨rfl, b2, p2⟩))
              go_ret
              refine ⟨by rw [<- HV3.out]; rfl, (Hb.out.trans bw1).trans b2, ?_⟩
              rw [<- HV3.out]
              exact p2
        · have hF1 : ((F : Int) == 0) = false := by simp; omega
          have hV2 := Hv.out
          rw [if_neg (by rw [HF.out]; exact hF0), HF.out] at hV2
          have HV3 : Hid ((kq + 1, eq, F) = V) := hV2
          have HF0 : Hid (¬ F = 0) := hF0
          clear hV2 hF0
          go_region_with (go_at_call 214; refine c54.mono ?_; rintro e w1 ⟨rfl, b1⟩)
          all_goals
            have bw1 : Below P wr w1 := (Hb0.out.drew).trans (b1.mono (by show P <= W0.heap.size; omega))
            go_wp2_with fail
            go_ret
            refine ⟨by rw [<- HV3.out]; rfl, Hb.out.trans bw1, ?_⟩
            rw [<- HV3.out]
            exact fun h => (HF0.out h).elim
    · have hlt' : decide ((q : Int) < (l.length : Int)) = false := by simp; omega
      have hv := Hv.out
      rw [List.drop_eq_nil_of_le (by omega), vis_nil] at hv
      have Hv2 : Hid ((kq, eq, 0) = V) := hv
      clear hv Hv
      go_wp2_with fail
      go_ret
      refine ⟨by rw [<- Hv2.out]; rfl, hb, ?_⟩
      rw [<- Hv2.out]
      exact fun _ => hp
theorem visits : ∀ m, Visits m := by
  intro m
  induction m with
  | zero => exact visit_of 0 (fun m' h => by omega)
  | succ m ih => exact visit_of (m + 1) (fun m' h => by have e : m = m' := (by omega); subst e; exact ih)
end Go.Proofs.YtaiackmmmlhgbaaGreat.TVisit
namespace Go.Proofs.YtaiackmmmlhgbaaGreat.TMeas
open Go.RowKit TBase TVisit
def ck (l : List T) : Nat := (vis l 1 0 0).2.2
def ct (l : List T) : Nat := if ck l = 0 then (vis l 1 0 0).1 else 0
def dp (l : List T) : Nat := if ck l = 0 then (vis l 1 0 0).2.1 else 0
theorem lo_of_in {w : World} {m : Nat} {v : Value} {l : List T} (h : InL false All w m v l) : InL false (Lo w.heap.size) w m v l := by
  have key : ∀ (m : Nat) (v : Value) (c : T), In false All w m v c -> In false (Lo w.heap.size) w m v c := by
    intro m
    induction m with
    | zero => intro v c h; rw [In] at h; exact h.elim
    | succ m ih =>
      intro v c h
      obtain ⟨g, s, n, l⟩ := c
      rw [in_iff] at h ⊢
      obtain ⟨nv, lv, h1, h3, h4, ⟨a, cap, e1, e2, e3, e4, e5, e6, e7⟩, ⟨a', cap', f1, f2, f3, f4, f5, f6⟩⟩ := h
      refine ⟨nv, lv, h1, h3, h4, ⟨a, cap, e1, e2, e3, e4, e5, e6, ?_⟩, ⟨a', cap', f1, f2, f3, f4, f5, ?_⟩⟩
      · cases n with
        | nil => exact .inl ⟨rfl, rfl⟩
        | cons t n =>
          rcases e7 with ⟨e7, -⟩ | ⟨g, o, ha, hS, hc, hr⟩
          · cases e7
          · exact .inr ⟨g, o, ha, cell_lt (hc 0 (by simp)).1, hc, fun h => by cases h⟩
      · cases l with
        | nil => exact .inl ⟨rfl, rfl⟩
        | cons t l =>
          rcases f6 with ⟨f6, -⟩ | ⟨g, o, ha, hS, hc, hr⟩
          · cases f6
          · obtain ⟨u, ⟨v0, v1, v2, v3, -, k0, -⟩, -⟩ := hc 0 (by simp)
            refine .inr ⟨g, o, ha, cell_lt k0, fun j hj => ?_, fun h => by cases h⟩
            obtain ⟨u, hu, hi⟩ := hc j hj
            exact ⟨u, hu, ih _ _ hi⟩
  obtain ⟨a', cap', f1, f2, f3, f4, f5, f6⟩ := h
  refine ⟨a', cap', f1, f2, f3, f4, f5, ?_⟩
  cases l with
  | nil => exact .inl ⟨rfl, rfl⟩
  | cons t l =>
    rcases f6 with ⟨f6, -⟩ | ⟨g, o, ha, hS, hc, hr⟩
    · cases f6
    · obtain ⟨u, ⟨v0, v1, v2, v3, -, k0, -⟩, -⟩ := hc 0 (by simp)
      refine .inr ⟨g, o, ha, cell_lt k0, fun j hj => ?_, fun h => by cases h⟩
      obtain ⟨u, hu, hi⟩ := hc j hj
      exact ⟨u, hu, key _ _ _ hi⟩
theorem ck_ok (l : List T) : ck l <= 702 /\ ct l <= 4096 /\ dp l <= 64 := by
  have h := vis_ok _ l 1 0 0 (Nat.le_refl _) (by omega) (by omega)
  unfold ct dp ck
  by_cases h0 : (vis l 1 0 0).2.2 = 0
  · rw [if_pos h0, if_pos h0]
    exact ⟨h.1, (h.2 h0).1, (h.2 h0).2⟩
  · rw [if_neg h0, if_neg h0]
    exact ⟨h.1, by omega, by omega⟩
theorem res_row_tmp {P : Program} {fn : Func} {p u : Tmp} {ty : TypeId} (h : fn.results = #[.cell p ty, .tmp u]) (tmps : Array Value) (w : World) (g : Nat) (t : TypeId) (cs : Array Value) (fr : Nat × Nat) (d : TypeDesc)
    (hp : tmps.getD p undef = .pointer (some ⟨g, 0, none⟩)) (hg : w.heap[g]? = some (.cells cs t fr)) (hu : P.underlying ty = some d) (hd : (match d with | .struct _ | .array _ _ => true | _ => false) = true) (hi : (P.info? ty).map (·.size) = some cs.size) :
    (results fn tmps).run P w = .ok (.tuple #[.agg cs, tmps.getD u undef]) w := by
  rw [results_cell_tmp h, hp]
  simp [asAddr, run_loadVar_row w g t ty cs fr d hg hu hd hi, Result.andThen]
theorem set2 {W W' : World} {B : Nat} {t : TypeId} {y0 y1 : Value} (x0 x1 : Value) (h : W.heap[B]? = some (.cells #[y0, y1] t (0, 0))) (hW : (W.setCell ⟨B, 0, none⟩ x0).setCell ⟨B, 1, none⟩ x1 = W') :
    W'.heap[B]? = some (.cells #[x0, x1] t (0, 0)) /\ ∀ w n, n <= B -> Below n w W -> Below n w W' := by
  subst hW
  refine ⟨?_, fun w n hn hb => (hb.setCell (p := ⟨B, 0, none⟩) hn x0).setCell (p := ⟨B, 1, none⟩) hn x1⟩
  rw [block_set (block_set h _) _]
  rfl
theorem measure_c (m : Nat) (v : Value) (l : List T) (w : World) (h : InL false All w m v l) :
    Calls prog 140 #[v] w fun r w' => r = .returned (.tuple #[.agg #[.int .i64 (ct l : Nat), .int .i64 (dp l : Nat)], .int .i64 (ck l : Nat)]) /\ Below w.heap.size w w' := by
  obtain ⟨W0, hW0⟩ : ∃ W0, (w.alloc (.cells #[.int .i64 0, .int .i64 0] 189)).alloc (.cells #[.int .i64 0, .int .i64 0] 189) = W0 := ⟨_, rfl⟩
  have hb0 : Below w.heap.size w W0 := by rw [<- hW0]; exact ((Below.refl _ w).alloc (Nat.le_refl _) _).alloc (by simp) _
  have hsz0 : W0.heap.size = w.heap.size + 2 := by rw [<- hW0]; simp
  have hx0 : W0.heap[w.heap.size]? = some (.cells #[.int .i64 0, .int .i64 0] 189) := by
    rw [<- hW0, Below.heap_alloc _ _ _ (by simp), heap_alloc_new]
  have hx1 : W0.heap[w.heap.size + 1]? = some (.cells #[.int .i64 0, .int .i64 0] 189) := by
    have := heap_alloc_new (w.alloc (.cells #[.int .i64 0, .int .i64 0] 189)) (.cells #[.int .i64 0, .int .i64 0] 189)
    rwa [hW0, World.size_alloc] at this
  have hl := ((lo_of_in h).keep (keep_lo hb0)).weak (S' := Lo (w.heap.size + 1)) (fun b hb => Nat.lt_succ_of_lt hb) false id m (Nat.le_refl _)
  have c40 := visits m v l 1 0 0 (w.heap.size + 1) W0 hl hx1 (by omega) (by omega) (by omega)
  obtain ⟨a, cap, rfl, -⟩ := h
  have hck := (ck_ok l)
  obtain ⟨R, hR⟩ : ∃ R, vis l 1 0 0 = R := ⟨_, rfl⟩
  have e1 : ck l = R.2.2 := by rw [<- hR]; rfl
  have e2 : ct l = if R.2.2 = 0 then R.1 else 0 := by rw [<- hR]; rfl
  have e3 : dp l = if R.2.2 = 0 then R.2.1 else 0 := by rw [<- hR]; rfl
  rw [hR] at c40
  rw [e1, e2, e3] at hck
  rw [e1, e2, e3]
  obtain ⟨R1, R2, R3⟩ := R
  clear hR e1 e2 e3 hl
  generalize l.length = n at *
  simp only at c40 hck ⊢
  by_cases h0 : R3 = 0
  · subst h0
    rw [if_pos rfl, if_pos rfl] at hck
    rw [if_pos rfl, if_pos rfl]
    go_enter func140, ntmps140
    go_wp2_with (first | (go_at_call 186; refine c40.mono ?_; rintro e w1 ⟨rfl, b1, p1⟩; have q1 := p1.out rfl; have q0 := (b1.block w.heap.size (by omega)).trans hx0; obtain ⟨k0, k1⟩ := two_box q1; have f0 := frozen_box q0 0; have f1 := frozen_box q0 1; obtain ⟨j0, j1⟩ := two_box q0)
      )
    obtain ⟨W1, hW1⟩ : ∃ W1, (w1.setCell ⟨w.heap.size, 0, none⟩ (.int .i64 (R1 : Nat))).setCell ⟨w.heap.size, 1, none⟩ (.int .i64 (R2 : Nat)) = W1 := ⟨_, rfl⟩
    rw [hW1]
    obtain ⟨z1, z2⟩ := set2 _ _ q0 hW1
    refine bodyPost_ret (res_row_tmp rfl _ W1 w.heap.size 189 _ (0, 0) _ rfl z1 underlying189 rfl (by kernel_rfl)) rfl ?_
    exact ⟨rfl, z2 _ _ (Nat.le_refl _) (hb0.trans (b1.mono (by omega)))⟩
  · have h1 : ((R3 : Int) == 0) = false := by simp; omega
    rw [if_neg h0, if_neg h0]
    go_enter func140, ntmps140
    go_wp2_with (first | (go_at_call 186; refine c40.mono ?_; rintro e w1 ⟨rfl, b1, p1⟩; have q0 := (b1.block w.heap.size (by omega)).trans hx0; have f0 := frozen_box q0 0; have f1 := frozen_box q0 1; obtain ⟨j0, j1⟩ := two_box q0)
      )
    obtain ⟨W1, hW1⟩ : ∃ W1, (w1.setCell ⟨w.heap.size, 0, none⟩ (.int .i64 0)).setCell ⟨w.heap.size, 1, none⟩ (.int .i64 0) = W1 := ⟨_, rfl⟩
    rw [hW1]
    obtain ⟨z1, z2⟩ := set2 _ _ q0 hW1
    refine bodyPost_ret (res_row_tmp rfl _ W1 w.heap.size 189 _ (0, 0) _ rfl z1 underlying189 rfl (by kernel_rfl)) rfl ?_
    exact ⟨rfl, z2 _ _ (Nat.le_refl _) (hb0.trans (b1.mono (by omega)))⟩
theorem check_c (m : Nat) (v : Value) (l : List T) (w : World) (h : InL false All w m v l) :
    Calls prog 139 #[v] w fun r w' => r = .returned (.int .i64 (ck l : Nat)) /\ Below w.heap.size w w' := by
  have c27 := measure_c m v l w h
  obtain ⟨a, cap, rfl, -⟩ := h
  generalize l.length = n at *
  generalize ck l = x at *
  generalize ct l = y at *
  generalize dp l = z at *
  go_enter func139, ntmps139
  go_wp2_with (first | (go_at_call 140; refine c27.mono ?_; rintro e w1 ⟨rfl, b1⟩))
  go_ret
  exact ⟨rfl, b1.alloc b1.size _⟩
end Go.Proofs.YtaiackmmmlhgbaaGreat.TMeas
namespace Go.Proofs.YtaiackmmmlhgbaaGreat.YPl
open Leb
open TBase (T)
abbrev By := List UInt8
def pt (L X : By) : By := if 1048576 < L.length then L else L ++ X
def pts (L : By) (Xs : List By) : By := Xs.foldl pt L
theorem pts_app (L : By) (Xs Ys : List By) : pts L (Xs ++ Ys) = pts (pts L Xs) Ys := List.foldl_append
theorem pt_len {L X : By} (hX : X.length <= 4096) (h : L.length <= 1052672) : (pt L X).length <= 1052672 := by
  unfold pt; split <;> (try rw [List.length_append]) <;> omega
abbrev Pc := Option (List By)
def cnt (lim : Nat) (n : Int) : Pc := if 0 <= n /\ n <= lim then some [putL n.toNat] else none
def oct (x : Int) : Pc := if 0 <= x /\ x <= 255 then some [[UInt8.ofNat x.toNat]] else none
def whl (x : Int) : Pc := some [putL (zig x)]
def txt (s : ByteArray) : Pc := if s.size <= 4096 /\ UBase.verr s = 0 then some [putL s.size, s.data.toList] else none
def cat (a b : Pc) : Pc := match a, b with | some x, some y => some (x ++ y) | _, _ => none
def lis {α : Type} (f : α -> Pc) : List α -> Pc
  | [] => some []
  | c :: l => cat (f c) (lis f l)
def lst {α : Type} (lim : Nat) (f : α -> Pc) (l : List α) : Pc := cat (cnt lim l.length) (lis f l)
abbrev Ins := Int × Int
def ins (i : Ins) : Pc := cat (oct i.1) (whl i.2)
def att (a : ByteArray × ByteArray) : Pc := cat (txt a.1) (txt a.2)
structure Oq where
  (k a b c : Int) (l : List Int)
structure Bk where
  (d : Int) (o : List Oq) (u : List Int)
structure Pg where
  (t : List ByteArray) (c : List (List Ins)) (s : List T) (b : List Bk)
def opc (o : Oq) : Pc := cat (oct o.k) (cat (whl o.a) (cat (whl o.b) (cat (whl o.c) (lst 64 whl o.l))))
def blk (b : Bk) : Pc := cat (cnt 64 b.d) (cat (lst 8192 opc b.o) (lst 8192 whl b.u))
def ndL : List T -> Pc
  | [] => some []
  | .mk g s n l :: r => cat (cat (txt g) (if g.size = 0 then txt s else cat (lst 4096 att n) (cat (cnt 4096 l.length) (ndL l)))) (ndL r)
def nd (t : T) : Pc := ndL [t]
def stt (t : T) : Pc := if TMeas.ck [t] = 0 then nd t else none
def prg (p : Pg) : Pc := cat (oct 1) (cat (lst 16384 txt p.t) (cat (lst 8192 (fun l => lst 8192 ins l) p.c) (cat (lst 4096 stt p.s) (lst 8192 blk p.b))))
def enc (p : Pg) : Except Nat By := match prg p with
  | none => .error 2100
  | some Xs => if 1048576 < (pts [] Xs).length then .error 2101 else .ok (pts [] Xs)
theorem cat_none {a : Pc} : cat none a = none := by cases a <;> rfl
theorem cat_nil {a : Pc} : cat (some []) a = a := by cases a <;> rfl
theorem cat_nil' {a : Pc} : cat a (some []) = a := by cases a <;> simp [cat]
theorem cat_assoc (a b c : Pc) : cat (cat a b) c = cat a (cat b c) := by cases a <;> cases b <;> cases c <;> simp [cat]
end Go.Proofs.YtaiackmmmlhgbaaGreat.YPl
namespace Go.Proofs.YtaiackmmmlhgbaaGreat.YRd
open Leb YPl
open TBase (T)
abbrev Rs (α : Type) := Except Nat (α × Nat)
def bnd {α β : Type} (a : Rs α) (f : α -> Nat -> Rs β) : Rs β := match a with
  | .ok (x, p) => f x p
  | .error q => .error q
def roct (b : By) (p : Nat) : Rs Int := if h : p < b.length then .ok ((b[p].toNat : Int), p + 1) else .error p
def rwhl (b : By) (p : Nat) : Rs Int := let t := tk b p; if t.2.2 = 0 then .ok (unz t.1, t.2.1) else .error p
def rcnt (lim : Nat) (b : By) (p : Nat) : Rs Nat := let t := tk b p; if t.2.2 = 0 /\ t.1 <= lim then .ok (t.1, t.2.1) else .error p
def sub (b : By) (p n : Nat) : ByteArray := ⟨((b.drop p).take n).toArray⟩
def rtxt (b : By) (p : Nat) : Rs ByteArray := bnd (rcnt 4096 b p) fun n q => if b.length < q + n then .error p else if UBase.verr (sub b q n) = 0 then .ok (sub b q n, q + n) else .error p
def rmany {α : Type} (f : Nat -> Rs α) : Nat -> Nat -> Rs (List α)
  | 0, p => .ok ([], p)
  | n + 1, p => bnd (f p) fun x q => bnd (rmany f n q) fun l r => .ok (x :: l, r)
def rlst {α : Type} (lim : Nat) (f : Nat -> Rs α) (b : By) (p : Nat) : Rs (List α) := bnd (rcnt lim b p) fun n q => rmany f n q
def rins (b : By) (p : Nat) : Rs Ins := bnd (roct b p) fun x q => bnd (rwhl b q) fun y r => .ok ((x, y), r)
def ratt (b : By) (p : Nat) : Rs (ByteArray × ByteArray) := bnd (rtxt b p) fun x q => bnd (rtxt b q) fun y r => .ok ((x, y), r)
def ropc (b : By) (p : Nat) : Rs Oq := bnd (roct b p) fun k q => bnd (rwhl b q) fun x q => bnd (rwhl b q) fun y q => bnd (rwhl b q) fun z q => bnd (rlst 64 (rwhl b) b q) fun l q => .ok (⟨k, x, y, z, l⟩, q)
def rblk (b : By) (p : Nat) : Rs Bk := bnd (rcnt 64 b p) fun d q => bnd (rlst 8192 (ropc b) b q) fun o q => bnd (rlst 8192 (rwhl b) b q) fun u q => .ok (⟨d, o, u⟩, q)
abbrev Rt (α : Type) := Except Nat (α × Nat × Nat)
def rmanyT (f : Nat -> Nat -> Rt T) : Nat -> Nat -> Nat -> Rt (List T)
  | 0, p, k => .ok ([], p, k)
  | n + 1, p, k => match f p k with
    | .error q => .error q
    | .ok (x, p, k) => match rmanyT f n p k with
      | .error q => .error q
      | .ok (l, p, k) => .ok (x :: l, p, k)
def rnd (b : By) : Nat -> Nat -> Nat -> Rt T
  | 0, p, k => .error p
  | m + 1, p, k => if 4096 < k + 1 then .error p else match rtxt b p with
    | .error q => .error q
    | .ok (g, q) => if g.size = 0 then (match rtxt b q with
        | .error r => .error r
        | .ok (s, r) => .ok (.mk ⟨#[]⟩ s [] [], r, k + 1))
      else match rlst 4096 (ratt b) b q with
        | .error r => .error r
        | .ok (n, r) => if TMeas.ck [.mk g ⟨#[]⟩ n []] = 0 then (match rcnt 4096 b r with
            | .error z => .error z
            | .ok (c, z) => match rmanyT (rnd b m) c z (k + 1) with
              | .error z => .error z
              | .ok (l, z, k) => .ok (.mk g ⟨#[]⟩ n l, z, k))
          else .error p
def rlstT (lim : Nat) (f : Nat -> Nat -> Rt T) (b : By) (p k : Nat) : Rt (List T) := match rcnt lim b p with
  | .error q => .error q
  | .ok (n, q) => rmanyT f n q k
def rprg (b : By) : Rs Pg := bnd (roct b 0) fun v q => if v = 1 then bnd (rlst 16384 (rtxt b) b q) fun t q => bnd (rlst 8192 (rlst 8192 (rins b) b) b q) fun c q => (match rlstT 4096 (fun p _ => rnd b 64 p 0) b q 0 with
  | .error q => .error q
  | .ok (s, q, _) => bnd (rlst 8192 (rblk b) b q) fun k q => if q < b.length then .error q else .ok (⟨t, c, s, k⟩, q)) else .error 0
def dec (b : By) : Except (Nat × Nat) Pg := if 1048576 < b.length then .error (0, 2101) else match rprg b with
  | .error q => .error (q, 2100)
  | .ok (p, _) => .ok p
end Go.Proofs.YtaiackmmmlhgbaaGreat.YRd

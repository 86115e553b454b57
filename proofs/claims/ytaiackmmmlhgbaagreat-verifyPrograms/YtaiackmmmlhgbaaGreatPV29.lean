import Derived.Test.YtaiackmmmlhgbaaGreatPV01
import Derived.Test.YtaiackmmmlhgbaaGreatPV04
import Derived.Test.YtaiackmmmlhgbaaGreatPV08
import Derived.Test.YtaiackmmmlhgbaaGreatPV10
import Derived.Test.YtaiackmmmlhgbaaGreatPV28
open Go.Proofs.Tryz
set_option linter.unusedVariables false
set_option maxRecDepth 20000
set_option maxHeartbeats 3200000
namespace Go.Proofs.YtaiackmmmlhgbaaGreat.RLook
open Go.RowKit TBase TPure TMay TVisit TMeas TShallow RAlone
def lk : List T -> Nat -> Nat -> Nat × Nat
  | [], _, k => (k, 0)
  | .mk g s n l :: cs, d, k =>
    if flt (.mk g s n l) d (k + 1) = 0 then
      if (lk l (d + 1) (k + 1)).2 = 0 then lk cs d (lk l (d + 1) (k + 1)).1 else lk l (d + 1) (k + 1)
    else (k, flt (.mk g s n l) d (k + 1))
theorem lk_nil (d k : Nat) : lk [] d k = (k, 0) := by rw [lk]
theorem lk_cons (c : T) (cs : List T) (d k : Nat) : lk (c :: cs) d k =
    if flt c d (k + 1) = 0 then
      if (lk c.l (d + 1) (k + 1)).2 = 0 then lk cs d (lk c.l (d + 1) (k + 1)).1 else lk c.l (d + 1) (k + 1)
    else (k, flt c d (k + 1)) := by
  obtain ⟨g, s, n, l⟩ := c
  rw [lk]
  rfl
theorem vis_lk : ∀ (m : Nat) (l : List T) (d k e : Nat), SizeOf.sizeOf l <= m -> 1 <= d -> (vis l d k e).2.2 = (lk l d k).2 /\
    ((lk l d k).2 = 0 -> (vis l d k e).1 = (lk l d k).1 /\ (vis l d k e).2.1 = if l.isEmpty = true then e else max e (depL l + d - 1)) := by
  intro m
  induction m with
  | zero =>
    intro l d k e hm hd
    cases l with
    | nil => rw [vis_nil, lk_nil]; exact ⟨rfl, fun _ => ⟨rfl, rfl⟩⟩
    | cons c cs => simp at hm
  | succ m ih =>
    intro l d k e hm hd
    cases l with
    | nil => rw [vis_nil, lk_nil]; exact ⟨rfl, fun _ => ⟨rfl, rfl⟩⟩
    | cons c cs =>
      obtain ⟨g, s, n, l⟩ := c
      simp at hm
      rw [vis_cons, lk_cons, depL_cons]
      have hl : (T.mk g s n l).l = l := rfl
      rw [hl]
      by_cases h1 : flt (.mk g s n l) d (k + 1) = 0
      · rw [if_pos h1, if_pos h1]
        obtain ⟨i0, i1⟩ := ih l (d + 1) (k + 1) (max e d) (by omega) (by omega)
        by_cases h4 : (lk l (d + 1) (k + 1)).2 = 0
        · obtain ⟨j1, j2⟩ := i1 h4
          rw [if_pos h4, if_pos (by rw [i0]; exact h4)]
          obtain ⟨k0, k1⟩ := ih cs d (lk l (d + 1) (k + 1)).1 (vis l (d + 1) (k + 1) (max e d)).2.1 (by omega) hd
          rw [j1]
          refine ⟨k0, fun h => ⟨(k1 h).1, ?_⟩⟩
          rw [(k1 h).2, j2]
          cases l with
          | nil =>
            cases cs with
            | nil => simp [depL] <;> omega
            | cons a b => simp [depL] <;> omega
          | cons a b =>
            cases cs with
            | nil => simp [depL] <;> omega
            | cons c d => simp <;> omega
        · rw [if_neg h4, if_neg (by rw [i0]; exact h4)]
          exact ⟨i0, fun h => (h4 h).elim⟩
      · rw [if_neg h1, if_neg h1]
        exact ⟨rfl, fun h => (h1 h).elim⟩
theorem lk_ok (l : List T) (d k : Nat) (hd : 1 <= d) (hk : k <= 4096) : (lk l d k).2 <= 702 /\ ((lk l d k).2 = 0 -> (lk l d k).1 <= 4096) := by
  obtain ⟨h1, h2⟩ := vis_lk _ l d k 0 (Nat.le_refl _) hd
  obtain ⟨h3, h4⟩ := vis_ok _ l d k 0 (Nat.le_refl _) hk (by omega)
  rw [h1] at h3 h4
  exact ⟨h3, fun h => by rw [<- (h2 h).1]; exact (h4 h).1⟩
theorem ck_lk (l : List T) : ck l = (lk l 1 0).2 := (vis_lk _ l 1 0 0 (Nat.le_refl _) (by omega)).1
theorem dp_lk (l : List T) (h : ck l = 0) : dp l = depL l := by
  unfold dp
  rw [if_pos h, ((vis_lk _ l 1 0 0 (Nat.le_refl _) (by omega)).2 (by rw [<- ck_lk]; exact h)).2]
  cases l with
  | nil => simp [depL]
  | cons c cs => simp
def Looks (m : Nat) : Prop := ∀ (v : Value) (l : List T) (d k : Nat) (w : World), InL false All w m v l -> k <= 4096 -> 1 <= d -> d <= 65 ->
    Calls prog 151 #[v, .int .i64 k, .int .i64 d] w fun r w' => ∃ x : Nat, r = .returned (.tuple #[.int .i64 x, .int .i64 ((lk l d k).2 : Nat)]) /\ Below w.heap.size w w' /\ Hid ((lk l d k).2 = 0 -> x = (lk l d k).1)
theorem look_of (m : Nat) (ih : ∀ m', m = m' + 1 -> Looks m') : Looks m := by
  intro v l d k w h hk hd1 hd
  obtain ⟨a, cap, rfl, hlc, hcm, hlen, hnil, hL⟩ := h
  have H : Hid (∀ m', m = m' + 1 -> Looks m') := ih
  clear ih
  obtain ⟨V, hV⟩ : ∃ V, lk l d k = V := ⟨_, rfl⟩
  rw [hV]
  have HV : Hid (lk l d k = V) := hV
  clear hV
  go_enter func151, ntmps151
  go_wp2_with fail
  go_loopw [1, 8] (fun n i wr => ∃ (q kq : Nat), q <= l.length /\ n = .int .i64 kq /\ i = .int .i64 q /\ lk (l.drop q) d kq = V /\ kq <= 4096 /\ Below w.heap.size w wr) (fun _ i _ => l.length - (intOf i).toNat)
  case atStart => exact ⟨0, k, by omega, rfl, rfl, by rw [List.drop_zero]; exact HV.out, hk, Below.refl _ _⟩
  case round =>
    obtain ⟨q, kq, hq, rfl, rfl, hv, hkq, hb⟩ := hrel
    have Hv : Hid (lk (l.drop q) d kq = V) := hv
    clear hv
    by_cases hlt : q < l.length
    · obtain ⟨g, o, u, rfl, -, hu, hin⟩ := elem_at hL hlt
      have hu := four_below hu hb
      have hin := hin.below hb
      obtain ⟨v0, v1, v2, v3, rfl, d0, d1, d2, d3⟩ := hu
      obtain ⟨m', a1, c1, a2, c2, hm, rfl, rfl, rfl, rfl, -, -, hn', hl'⟩ := hin.kinds
      have hcons : l.drop q = l[q] :: l.drop (q + 1) := List.drop_eq_getElem_cons hlt
      have HV2 := Hv.out
      rw [hcons, lk_cons] at HV2
      clear Hv hcons
      have c45 := ralone_c m _ l[q] wr hin
      have Hl : Hid (InL false All wr m' (.slice a2 l[q].l.length c2) l[q].l) := hl'
      clear hin hl' hn' hL
      by_cases h1 : 4096 < kq + 1
      · have h1' : decide ((4096 : Int) <= (kq : Int)) = true := by simp; omega
        have hf : flt l[q] d (kq + 1) = 702 := by unfold flt; rw [if_pos h1]
        rw [hf, if_neg (by omega)] at HV2
        have HV3 : Hid ((kq, 702) = V) := HV2
        clear HV2 hf
        go_wp2_with fail
        go_ret2
        refine ⟨kq, by rw [<- HV3.out]; rfl, hb, ?_⟩
        rw [<- HV3.out]
        exact fun h => by cases h
      · have h1' : decide ((4096 : Int) <= (kq : Int)) = false := by simp; omega
        by_cases h2 : 64 < d
        · have h2' : decide ((64 : Int) < (d : Int)) = true := by simp; omega
          have hf : flt l[q] d (kq + 1) = 701 := by unfold flt; rw [if_neg h1, if_pos h2]
          rw [hf, if_neg (by omega)] at HV2
          have HV3 : Hid ((kq, 701) = V) := HV2
          clear HV2 hf
          go_wp2_with fail
          go_ret2
          refine ⟨kq, by rw [<- HV3.out]; rfl, hb, ?_⟩
          rw [<- HV3.out]
          exact fun h => by cases h
        · have h2' : decide ((64 : Int) < (d : Int)) = false := by simp; omega
          cases h3 : alone l[q] with
          | false =>
            rw [h3] at c45
            have hf : flt l[q] d (kq + 1) = 700 := by unfold flt; rw [if_neg h1, if_neg h2, h3]; rfl
            rw [hf, if_neg (by omega)] at HV2
            have HV3 : Hid ((kq, 700) = V) := HV2
            clear HV2 hf
            go_wp2_with (first | (go_at_call 69; refine c45.mono ?_; rintro e w1 ⟨rfl, b1⟩))
            go_ret2
            refine ⟨kq, by rw [<- HV3.out]; rfl, nx hb b1, ?_⟩
            rw [<- HV3.out]
            exact fun h => by cases h
          | true =>
            rw [h3] at c45
            have hf : flt l[q] d (kq + 1) = 0 := by unfold flt; rw [if_neg h1, if_neg h2, h3]; rfl
            rw [if_pos hf] at HV2
            obtain ⟨R, hR⟩ : ∃ R, lk l[q].l (d + 1) (kq + 1) = R := ⟨_, rfl⟩
            have hRo := lk_ok l[q].l (d + 1) (kq + 1) (by omega) (by omega)
            rw [hR] at HV2 hRo
            have c31 := fun (W : World) (hW : InL false All W m' (.slice a2 l[q].l.length c2) l[q].l) => H.out m' hm (.slice a2 l[q].l.length c2) l[q].l (d + 1) (kq + 1) W hW (by omega) (by omega) (by omega)
            rw [hR] at c31
            obtain ⟨R1, R2⟩ := R
            have hR2 : R2 <= 702 := hRo.1
            clear hf hR
            by_cases hR0 : R2 = 0
            · subst hR0
              have hR1 : R1 <= 4096 := hRo.2 rfl
              have HV3 : Hid (lk (l.drop (q + 1)) d R1 = V) := HV2
              clear HV2 hRo
              go_wp2_with (first | (go_at_call 69; refine c45.mono ?_; rintro e w1 ⟨rfl, b1⟩; have t3 := below_cell d3 b1; have c31' := c31 w1 (Hl.out.below b1); simp only at c31') | (go_at_call 151; refine c31'.mono ?_; rintro e w2 ⟨x, rfl, b2, hx⟩; have hx := hx.out (by first | rfl | trivial); subst hx))
              go_roundw
              case rel => exact ⟨q + 1, x, by omega, rfl, by go_num, HV3.out, hR1, nx (nx hb b1) b2⟩
              case measure => simp only [intOf]; omega
            · rw [if_neg hR0] at HV2
              have HV3 : Hid ((R1, R2) = V) := HV2
              have hR3 : ((R2 : Int) == 0) = false := by simp; omega
              have HR0 : Hid (¬ R2 = 0) := hR0
              clear HV2 hRo hR0
              go_wp2_with (first | (go_at_call 69; refine c45.mono ?_; rintro e w1 ⟨rfl, b1⟩; have t3 := below_cell d3 b1; have c31' := c31 w1 (Hl.out.below b1); simp only at c31') | (go_at_call 151; refine c31'.mono ?_; rintro e w2 ⟨x, rfl, b2, hx⟩))
              go_ret2
              refine ⟨x, by rw [<- HV3.out]; rfl, nx (nx hb b1) b2, ?_⟩
              rw [<- HV3.out]
              exact fun h => (HR0.out h).elim
    · have hlt' : decide ((q : Int) < (l.length : Int)) = false := by simp; omega
      have hv := Hv.out
      rw [List.drop_eq_nil_of_le (by omega), lk_nil] at hv
      have Hv2 : Hid ((kq, 0) = V) := hv
      clear hv Hv
      go_wp2_with fail
      go_ret2
      refine ⟨kq, by rw [<- Hv2.out]; rfl, hb, ?_⟩
      rw [<- Hv2.out]
      exact fun _ => rfl
theorem looks : ∀ m, Looks m := by
  intro m
  induction m with
  | zero => exact look_of 0 (fun m' h => by omega)
  | succ m ih => exact look_of (m + 1) (fun m' h => Nat.succ.inj h ▸ ih)
def Dps (m : Nat) : Prop := ∀ (v : Value) (l : List T) (w : World), InL false All w m v l -> depL l <= 4096 ->
    Calls prog 198 #[v] w fun r w' => r = .returned (.int .i64 (depL l : Nat)) /\ Below w.heap.size w w'
theorem depL_take (l : List T) (q : Nat) (h : q < l.length) : depL (l.take (q + 1)) = max (depL (l.take q)) (depL l[q].l + 1) := by
  have key : ∀ (a : List T) (c : T), depL (a ++ [c]) = max (depL a) (depL c.l + 1) := by
    intro a c
    induction a with
    | nil => rw [List.nil_append, depL_cons]; simp [depL]
    | cons x a ih => rw [List.cons_append, depL_cons, ih, depL_cons]; omega
  rw [List.take_succ_eq_append_getElem h, key]
theorem depL_get (l : List T) (q : Nat) (h : q < l.length) : depL l[q].l + 1 <= depL l := depL_le.1 (Nat.le_refl _) q h
theorem deep_of (m : Nat) (ih : ∀ m', m = m' + 1 -> Dps m') : Dps m := by
  intro v l w h hl
  obtain ⟨a, cap, rfl, hlc, hcm, hlen, hnil, hL⟩ := h
  have H : Hid (∀ m', m = m' + 1 -> Dps m') := ih
  clear ih
  have Hl : Hid (depL l <= 4096) := hl
  clear hl
  go_enter func198, ntmps198
  go_wp2_with fail
  go_loopw [3, 4] (fun n i wr => ∃ (q x : Nat), q <= l.length /\ n = .int .i64 x /\ i = .int .i64 q /\ depL (l.take q) = x /\ x <= 4096 /\ Below w.heap.size w wr) (fun _ i _ => l.length - (intOf i).toNat)
  case atStart => exact ⟨0, 0, by omega, rfl, rfl, by simp [depL], by omega, Below.refl _ _⟩
  case round =>
    obtain ⟨q, x, hq, rfl, rfl, hx, hx4, hb⟩ := hrel
    have Hx : Hid (depL (l.take q) = x) := hx
    clear hx
    by_cases hlt : q < l.length
    · obtain ⟨g, o, u, rfl, -, hu, hin⟩ := elem_at hL hlt
      have hu := four_below hu hb
      have hin := hin.below hb
      obtain ⟨v0, v1, v2, v3, rfl, d0, d1, d2, d3⟩ := hu
      obtain ⟨m', a1, c1, a2, c2, hm, rfl, rfl, rfl, rfl, -, -, hn', hl'⟩ := hin.kinds
      have hd := depL_get l q hlt
      have hl4 := Hl.out
      have c32 := H.out m' hm _ _ wr hl' (by omega)
      have ht := depL_take l q hlt
      rw [Hx.out] at ht
      obtain ⟨y, hy⟩ : ∃ y, depL l[q].l = y := ⟨_, rfl⟩
      rw [hy] at c32 ht hd
      have hy4 : y + 1 <= 4096 := by omega
      clear hin hl' hn' hL hl4 hd hy
      by_cases hxy : x < 1 + y
      · have ht2 : depL (l.take (q + 1)) = y + 1 := by rw [ht]; omega
        have Ht : Hid (depL (l.take (q + 1)) = y + 1) := ht2
        clear ht ht2
        go_wp2_with (first | (go_at_call 198; refine c32.mono ?_; rintro e w1 ⟨rfl, b1⟩))
        all_goals first
          | (go_roundw
             case rel => exact ⟨q + 1, y + 1, by omega, by go_num, by go_num, Ht.out, hy4, nx hb b1⟩
             case measure => simp only [intOf]; omega)
          | omega
      · have ht2 : depL (l.take (q + 1)) = x := by rw [ht]; omega
        have Ht : Hid (depL (l.take (q + 1)) = x) := ht2
        clear ht ht2
        go_wp2_with (first | (go_at_call 198; refine c32.mono ?_; rintro e w1 ⟨rfl, b1⟩))
        all_goals first
          | (go_roundw
             case rel => exact ⟨q + 1, x, by omega, by go_num, by go_num, Ht.out, hx4, nx hb b1⟩
             case measure => simp only [intOf]; omega)
          | omega
    · have hlt' : decide ((q : Int) < (l.length : Int)) = false := by simp; omega
      have hx := Hx.out
      rw [List.take_of_length_le (by omega)] at hx
      have Hx2 : Hid (depL l = x) := hx
      clear hx Hx
      go_wp2_with fail
      go_ret
      exact ⟨by rw [Hx2.out]; rfl, hb⟩
theorem deeps : ∀ m, Dps m := by
  intro m
  induction m with
  | zero => exact deep_of 0 (fun m' h => by omega)
  | succ m ih => exact deep_of (m + 1) (fun m' h => Nat.succ.inj h ▸ ih)
theorem rcheck_c (m : Nat) (v : Value) (l : List T) (w : World) (h : InL false All w m v l) :
    Calls prog 96 #[v] w fun r w' => r = .returned (.int .i64 (ck l : Nat)) /\ Below w.heap.size w w' := by
  have c31 := looks m v l 1 0 w h (by omega) (by omega) (by omega)
  rw [ck_lk]
  obtain ⟨a, cap, rfl, -⟩ := h
  generalize l.length = n at *
  obtain ⟨R, hR⟩ : ∃ R, lk l 1 0 = R := ⟨_, rfl⟩
  rw [hR] at c31 ⊢
  obtain ⟨R1, R2⟩ := R
  clear hR
  simp only at c31 ⊢
  go_enter func96, ntmps96
  go_wp2_with (first | (go_at_call 151; refine c31.mono ?_; rintro e w1 ⟨x, rfl, b1, hx⟩))
  go_ret
  exact ⟨rfl, b1⟩
theorem rdepth_c (m : Nat) (v : Value) (l : List T) (w : World) (h : InL false All w m v l) (hd : depL l <= 4096) :
    Calls prog 155 #[v] w fun r w' => r = .returned (.int .i64 (dp l : Nat)) /\ Below w.heap.size w w' := by
  have c15 := rcheck_c m v l w h
  have c32 := fun (W : World) (hW : Below w.heap.size w W) => deeps m v l W (h.below hW) hd
  have e1 : dp l = if ck l = 0 then depL l else 0 := by
    by_cases h0 : ck l = 0
    · rw [dp_lk l h0, if_pos h0]
    · rw [if_neg h0]
      unfold dp
      rw [if_neg h0]
  have hck := (ck_ok l).1
  rw [e1]
  obtain ⟨a, cap, rfl, -⟩ := h
  generalize l.length = n at *
  generalize depL l = y at *
  clear e1
  by_cases h0 : ck l = 0
  · rw [h0] at c15
    rw [if_pos h0]
    clear hck h0
    go_enter func155, ntmps155
    go_wp2_with (first | (go_at_call 96; refine c15.mono ?_; rintro e w1 ⟨rfl, b1⟩) | (go_at_call 198; refine (c32 w1 b1).mono ?_; rintro e w2 ⟨rfl, b2⟩))
    go_ret
    exact ⟨rfl, nx b1 b2⟩
  · have h1 : (((ck l : Nat) : Int) == 0) = false := by simp; omega
    rw [if_neg h0]
    generalize ck l = x at *
    go_enter func155, ntmps155
    go_wp2_with (first | (go_at_call 96; refine c15.mono ?_; rintro e w1 ⟨rfl, b1⟩))
    go_ret
    exact ⟨rfl, b1⟩
end Go.Proofs.YtaiackmmmlhgbaaGreat.RLook
namespace Go.Proofs.YtaiackmmmlhgbaaGreat.YRl
open Go.RowKit Leb YRr YRs
open TBase (T Keep)
theorem RowI.push {α : Type} {Hd : Hdt α} (hs : Stays Hd) {ty : TypeId} {n lo R : Nat} {w w2 w3 : World} {v : Value} {l : List α} {c : List Value} {x : α} (h : RowI Hd ty n lo w v l) (hR : R < lo) (hlo : lo <= w.heap.size) (hg : Gx R w w2)
    (hx : Hd (fun g => w.heap.size <= g /\ g < w2.heap.size) w2 c x) (hb : Below w2.heap.size w2 w3) :
    ∃ css : List (List Value), w3.ownsRow lo ty n v l.length css.flatten /\ css.length = l.length /\ (∀ c ∈ css, c.length = n) /\ (∀ j (h1 : j < css.length) (h2 : j < l.length), Hd (Sx lo w3 v) w3 css[j] l[j]) /\ Hd (Sx lo w3 v) w3 c x := by
  obtain ⟨css, h1, h2, h3, h4⟩ := (h.other hs hR hg).other hs hR (Gx.of (R := R) hb)
  refine ⟨css, h1, h2, h3, h4, hs.out (S := fun g => w.heap.size <= g /\ g < w2.heap.size) (fun b hb' hl => hb.block b hl) (fun b hb' => ⟨by omega, by have := hb.size; omega, fun e => ?_⟩) hx⟩
  obtain ⟨css', h1', -⟩ := h
  have := (World.ownsRow.lt h1' b e).2
  omega
theorem src_of {W : World} {B : Nat} {c : List Value} {t : TypeId} (h : W.heap[B]? = some (.cells c.toArray t (0, 0))) : ((some (⟨B, 0, none⟩ : Addr)) = none /\ 1 = 0 /\ 1 = 0) \/ ∃ ad : Addr, some (⟨B, 0, none⟩ : Addr) = some ad /\ ∀ j u, c[j]? = some u -> W.cell? (ad.add j) = some u :=
  .inr ⟨_, rfl, fun j u hu => by rw [Leb.add_none, Nat.zero_add]; exact cell_of h j u (by simpa using hu)⟩
end Go.Proofs.YtaiackmmmlhgbaaGreat.YRl
namespace Go.Proofs.YtaiackmmmlhgbaaGreat.YRf
open Go.RowKit YRr
theorem info_c : (prog.info? 63).map (fun i => (i.zero, i.size, i.bytes)) = some (some (.slice none 0 0), 1, 24) := by kernel_rfl
theorem info_o : (prog.info? 127).map (fun i => (i.zero, i.size, i.bytes)) = some (some (.agg #[.int .i64 0, .int .i64 0, .int .i64 0, .int .i64 0, .slice none 0 0]), 5, 56) := by kernel_rfl
theorem info_b : (prog.info? 74).map (fun i => (i.zero, i.size, i.bytes)) = some (some (.agg #[.int .i64 0, .slice none 0 0, .slice none 0 0]), 3, 56) := by kernel_rfl
end Go.Proofs.YtaiackmmmlhgbaaGreat.YRf
namespace Go.Proofs.YtaiackmmmlhgbaaGreat.YCb
open Go.RowKit
theorem block_set {w : World} {B j : Nat} {cs : Array Value} {t : TypeId} {fz : Nat × Nat} (h : w.heap[B]? = some (.cells cs t fz)) (u : Value) : (w.setCell ⟨B, j, none⟩ u).heap[B]? = some (.cells (cs.setIfInBounds j u) t fz) := by
  simp [World.setCell, Array.getElem?_modify, h]
end Go.Proofs.YtaiackmmmlhgbaaGreat.YCb

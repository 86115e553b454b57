import Derived.Deep.RegionHeld3
import Derived.Test.YtiijfmdfccdagaaGreatDoorPM42
open Go.Proofs.Tryz
set_option linter.unusedVariables false
set_option maxRecDepth 20000
set_option maxHeartbeats 3200000
namespace Go.Proofs.YtiijfmdfccdagaaGreatDoor.GIs
open Go.RowKit Base EPure JPure JEs GTr GAt GAs GTx GNo GNe GRn GKl GAn GRa
open VPure hiding evL
open KBase (Pt Fld Co)
open TBase (T)
open Walk (pl plL)
theorem isL0 (c : C) : N0 (isL c) := by unfold isL; split <;> first | exact ok0 _ | exact er0 (by decide)
theorem isK0 (c : C) : N0 (isK c) := by unfold isK; split <;> first | exact ok0 _ | exact er0 (by decide)
theorem aV0 (c : C) : N0 (aV c) := by
 unfold aV
 split
 ·exact ok0 _
 ·split
  ·exact ok0 _
  ·exact bnd0 (txt0 c) fun _ => ok0 _
theorem atr0 {L : List C} {p : ByteArray} {b : Bool} {x : Ex} (hg : b = true -> gd x) : N0 (atr L p b x) := by
 unfold atr
 split
 ·rename_i h; exact bnd0 (ev0 (hg h)) aV0
 ·exact ok0 _
theorem tpc0 {L : List C} {p : ByteArray} {b : Bool} {x : Ex} (hg : b = true -> gd x) : N0 (tpc L p b x) := by
 unfold tpc
 split
 ·rename_i h; exact bnd0 (ev0 (hg h)) txt0
 ·exact ok0 _
theorem ats0 {L : List C} : ∀ (f : List Fld), (∀ j (h : j < f.length), f[j].b = true -> gd f[j].e) -> N0 (ats L f)
 | [], _ => by rw [ats]; exact ok0 _
 | c :: t, h => by
  rw [ats]
  exact bnd0 (atr0 (h 0 (by simp))) fun a => bnd0 (ats0 t fun j hj => by have := h (j + 1) (by simp; omega); simpa using this) fun _ => ok0 _
theorem tgo0 {L : List C} : ∀ (f : List Pt) (n : Nat), (∀ j (h : j < f.length), f[j].b = true -> gd f[j].e) -> N0 (tgo L f n)
 | [], _, _ => by rw [tgo]; exact ok0 _
 | c :: t, n, h => by
  rw [tgo]
  refine bnd0 (tpc0 (h 0 (by simp))) fun s => ?_
  split
  ·exact er0 (by decide)
  ·exact bnd0 (tgo0 t _ fun j hj => by have := h (j + 1) (by simp; omega); simpa using this) fun _ => ok0 _
theorem kys0 {L : List C} {x : Ex} (hg : gd x) : ∀ (l : List C) (i : Nat) (ks : List (Int × Int × ByteArray)), N0 (kys L x l i ks)
 | [], _, _ => by rw [kys]; exact ok0 _
 | v :: t, i, ks => by
  rw [kys]
  refine bnd0 (bnd0 (ev0 hg) isK0) fun k => ?_
  split
  ·exact er0 (by decide)
  ·exact kys0 hg t _ _
theorem wth0 : ∀ (xs : List Ex) (L : List C), (∀ x ∈ xs, gd x) -> N0 (wth L xs)
 | [], L, _ => by rw [wth]; exact ok0 _
 | x :: t, L, h => by
  rw [wth]
  exact bnd0 (ev0 (h x (by simp))) fun v => wth0 t _ fun y hy => h y (by simp [hy])
theorem rnL0 {f : Co -> Int -> Except Nat (List T × Int)} : ∀ (cs : List Co) (r : Int) (F : List T), (∀ d ∈ cs, ∀ x, N0 (f d x)) -> N0 (rnL f cs r F)
 | [], r, F, _ => by rw [rnL]; exact ok0 _
 | c :: t, r, F, h => by
  rw [rnL]
  exact bnd0 (h c (by simp) r) fun a => rnL0 t _ _ fun d hd => h d (by simp [hd])
theorem lp0 {f : Nat -> C -> Int -> Except Nat (List T × Int)} (h : ∀ i v x, N0 (f i v x)) : ∀ (l : List C) (i : Nat) (r : Int) (F : List T), N0 (lp f l i r F)
 | [], _, _, _ => by rw [lp]; exact ok0 _
 | v :: t, i, r, F => by
  rw [lp]
  exact bnd0 (h i v r) fun a => lp0 h t _ _ _
theorem rn0 : ∀ (n : Nat) (s : Nat) (c : Co), oks n s c -> ∀ (L : List C) (x : Int), N0 (rn n L c x)
 | 0, s, c, h => by rw [oks] at h; exact h.elim
 | n + 1, s, c, h => by
  intro L x
  rw [oks] at h
  obtain ⟨hx, hf, hs, h⟩ := h
  rcases h with k | ⟨k, hfl, hl⟩ | ⟨k, hn, hl, hu⟩ | ⟨k, hn, h2, hl⟩ | ⟨k, h2, hl⟩
  ·rw [rn, if_pos k]
   refine bnd0 ?_ fun _ => ok0 _
   unfold nT
   split
   ·exact er0 (by decide)
   ·exact bnd0 (tgo0 _ _ fun j hj hb => (hx _ (mem_p hj hb)).1) fun _ => ok0 _
  ·rw [rn, if_neg (by omega), if_pos k]
   refine bnd0 ?_ fun _ => ok0 _
   unfold nE
   split
   ·exact er0 (by decide)
   ·exact bnd0 (ats0 _ fun j hj hb => (hx _ (mem_f hj hb)).1) fun _ => bnd0 (rnL0 _ _ _ fun d hd x => rn0 n s d (hl d hd) L x) fun _ => ok0 _
  ·obtain ⟨y, hy⟩ : ∃ y, c.x = [y] := List.length_eq_one_iff.1 hn
   rw [rn, if_neg (by omega), if_neg (by omega), if_pos k]
   have e0 : GRn.x0 c = y := by unfold GRn.x0; rw [hy]; rfl
   rw [e0]
   refine bnd0 (bnd0 (ev0 (hx y (mem_x (by rw [hy]; simp))).1) isT0) fun b => ?_
   cases b
   ·exact rnL0 _ _ _ fun d hd x => rn0 n s d (hu d hd) L x
   ·exact rnL0 _ _ _ fun d hd x => rn0 n s d (hl d hd) L x
  ·obtain ⟨y0, y1, hy⟩ : ∃ y0 y1, c.x = [y0, y1] := by
    match hc : c.x with
    | [] => rw [hc] at hn; simp at hn
    | [a] => rw [hc] at hn; simp at hn
    | [a, b] => exact ⟨a, b, rfl⟩
    | a :: b :: d :: t => rw [hc] at hn; simp at hn
   rw [rn, if_neg (by omega), if_neg (by omega), if_neg (by omega), if_pos k]
   have e0 : GRn.x0 c = y0 := by unfold GRn.x0; rw [hy]; rfl
   have e1 : GRn.x1 c = y1 := by unfold GRn.x1; rw [hy]; rfl
   rw [e0, e1]
   exact bnd0 (bnd0 (ev0 (hx y0 (mem_x (by rw [hy]; simp))).1) isL0) fun l => bnd0 (kys0 (hx y1 (mem_x (by rw [hy]; simp))).1 _ _ _) fun _ => lp0 (fun i v x => rnL0 _ _ _ fun d hd x => rn0 n (s + 2) d (hl d hd) _ x) _ _ _ _
  ·rw [rn, if_neg (by omega), if_neg (by omega), if_neg (by omega), if_neg (by omega)]
   exact bnd0 (wth0 _ _ fun y hy => (hx y (mem_x hy)).1) fun L' => rnL0 _ _ _ fun d hd x => rn0 n _ d (hl d hd) L' x
theorem rnd_er {cs : List Co} {c : C} {e : Nat} (hi : icL cs) (h1 : KNd.chk cs = 0) (h2 : vch c = 0) (h : rnd cs c = .error e) : (1100 <= e /\ e <= 1107) \/ e = 1600 \/ e = 1601 := by
 unfold rnd at h
 rw [if_neg (by omega), if_neg (by omega)] at h
 have hok := chk_oks (cs := cs) h1 hi
 exact bnd0 (rnL0 (f := rn (KVp.szL cs) [c]) cs 4096 [] fun d hd x => rn0 _ 1 d (hok d hd) [c] x) (fun _ => ok0 _) e h
end Go.Proofs.YtiijfmdfccdagaaGreatDoor.GIs
namespace Go.Proofs.YtiijfmdfccdagaaGreatDoor.XSh
open Go.RowKit EPure XBase
open Base (All heap_alloc_new)
def Dp (m : Nat) : Prop := ∀ (v : Value) (x : Ex) (left : Nat) (w : World), left <= 4096 -> In false All w m v x ->
  Calls prog 80 #[v, .int .i64 left] w fun e w' => (∃ b, e = .returned (.bool b)) /\ Below w.heap.size w w'
theorem dp_of (m : Nat) (ih : Dp m) : Dp (m + 1) := by
 intro v x left w hleft h
 obtain ⟨o, i, s, l⟩ := x
 rw [in_iff] at h
 obtain ⟨lv, rfl, ho, hi, hs, a, cap, rfl, hl, hcap, hlen, ha, hL⟩ := h
 have H := Base.hid ih
 obtain ⟨W0, hW0⟩ : ∃ W0, w.alloc (.cells #[.int .i64 o, .int .i64 i, .string s, .slice a l.length cap] 47) = W0 := ⟨_, rfl⟩
 have b0 : Below w.heap.size w W0 := by rw [<- hW0]; exact (Below.refl _ w).alloc (Nat.le_refl _) _
 have s0 : W0.heap.size = w.heap.size + 1 := by rw [<- hW0]; simp
 have hx : W0.heap[w.heap.size]? = some (.cells #[.int .i64 o, .int .i64 i, .string s, .slice a l.length cap] 47 (0, 0)) := by rw [<- hW0]; exact heap_alloc_new w _
 have HX : Hid (W0.heap[w.heap.size]? = some (.cells #[.int .i64 o, .int .i64 i, .string s, .slice a l.length cap] 47 (0, 0)) /\ W0.heap.size = w.heap.size + 1 /\ Below w.heap.size w W0) := ⟨hx, s0, b0⟩
 clear ih hx s0 b0
 by_cases h0 : left = 0
 ·subst h0
  clear hL
  go_enter func80, ntmps80
  go_wp2_with fail
  go_ret
  exact ⟨⟨_, rfl⟩, HX.out.2.2⟩
 ·have h0' : ((left : Int) == 0) = false := by simp; omega
  go_enter func80, ntmps80
  go_wp2_with fail
  clear hW0
  go_loopw [5] (fun i' wr => ∃ q : Nat, q <= l.length /\ i' = .int .i64 q /\ Below W0.heap.size W0 wr) (fun i' _ => l.length - (intOf i').toNat)
  case atStart => exact ⟨0, by omega, rfl, Below.refl _ _⟩
  case round =>
   obtain ⟨q, hq, rfl, hb⟩ := hrel
   have hbx := (hb.block w.heap.size (by have := HX.out.2.1; omega)).trans HX.out.1
   obtain ⟨y0, y1, y2, y3⟩ := four_box hbx
   have hbw : Below w.heap.size w wr := HX.out.2.2.trans (hb.mono (by have := HX.out.2.1; omega))
   have HB : Hid (Below W0.heap.size W0 wr /\ Below w.heap.size w wr) := ⟨hb, hbw⟩
   clear hbx
   by_cases hlt : q < l.length
   ·obtain ⟨g, o', u, rfl, -, hu, hin⟩ := elem_at hL hlt
    have hu := four_below hu hbw
    have c1 := H.out u l[q] (left - 1) wr (by omega) (hin.below hbw)
    obtain ⟨v0, v1, v2, v3, rfl, d0, d1, d2, d3⟩ := hu
    have en : ((left - 1 : Nat) : Int) = (left : Int) - 1 := by omega
    rw [en] at c1
    clear hb hbw hL hin en
    go_wp2_with fail
    refine c1.mono ?_
    rintro e W1 ⟨⟨b, rfl⟩, b1⟩
    have HB1 := Base.hid (HB.out.1.trans (b1.mono HB.out.1.size))
    clear c1 b1 y0 y1 y2 y3 d0 d1 d2 d3
    cases b with
    | true =>
     go_wp2_with fail
     go_roundw
     case rel => exact ⟨q + 1, by omega, by go_num, HB1.out⟩
     case measure => simp only [intOf]; omega
    | false =>
     go_wp2_with fail
     go_ret
     exact ⟨⟨_, rfl⟩, HX.out.2.2.trans (HB1.out.mono (by have := HX.out.2.1; omega))⟩
   ·have d : decide ((q : Int) < (l.length : Int)) = false := by simp; omega
    clear hL hb hbw
    go_wp2_with fail
    go_ret
    exact ⟨⟨_, rfl⟩, HB.out.2⟩
theorem dp : ∀ m, Dp m
 | 0 => by intro v x left w _ h; rw [In] at h; exact h.elim
 | m + 1 => dp_of m (dp m)
end Go.Proofs.YtiijfmdfccdagaaGreatDoor.XSh
namespace Go.Proofs.YtiijfmdfccdagaaGreatDoor.KSw
open Go.RowKit Base EPure KBase
theorem exprs_c {w : World} {fv pv xv : Value} {f : List Fld} {p : List Pt} {x : List Ex} (hF : RF false (fun _ => True) w fv f) (hP : RP false (fun _ => True) w pv p) (hX : RX false (fun _ => True) w xv x) :
  Calls prog 53 #[fv, pv, xv] w fun e w' => (∃ b, e = .returned (.bool b)) /\ Below w.heap.size w w' := by
 obtain ⟨a1, c1, rfl, hc1, hm1, hl1, -, hLF⟩ := hF
 obtain ⟨a2, c2, rfl, hc2, hm2, hl2, -, hLP⟩ := hP
 obtain ⟨mx, a3, c3, rfl, hc3, hm3, hl3, -, hLX⟩ := hX
 have HF := hid hLF
 have HP := hid hLP
 have HX := hid hLX
 clear hLF hLP hLX
 go_enter func53, ntmps53
 go_wp2_with fail
 go_loopw [7] (fun i wr => ∃ q : Nat, q <= f.length /\ i = .int .i64 q /\ Below w.heap.size w wr) (fun i _ => f.length - (intOf i).toNat)
 case atStart => exact ⟨0, by omega, rfl, Below.refl _ _⟩
 case round =>
  obtain ⟨q, hq, rfl, hb⟩ := hrel
  have HB := hid hb
  by_cases hlt : q < f.length
  ·have d0 : decide ((q : Int) < (f.length : Int)) = true := by simp; omega
   obtain ⟨g, o, u, ha, -, hu, hi⟩ := RwAt.elem HF.out hlt
   subst ha
   obtain ⟨v0, v1, v2, e0, e1, e2, e3, v7, rfl, -, -, -, k0, k1, k2, k3, -⟩ := hu
   obtain ⟨-, -, -, -, -, -, -, me, hie⟩ := hi.kinds
   have k0 := below_cell k0 hb
   have k1 := below_cell k1 hb
   have k2 := below_cell k2 hb
   have k3 := below_cell k3 hb
   have cE := XSh.dp _ _ _ 4096 wr (by omega) ((hie.weak (S' := All) (fun _ _ => trivial) false (fun h => h) _ (Nat.le_refl _)).below hb)
   clear hb
   go_wp2_with fail
   refine cE.mono ?_
   rintro e W1 ⟨⟨b, rfl⟩, b1⟩
   have HB1 := hid (nx HB.out b1)
   clear cE b1 k0 k1 k2 k3 hie
   cases b with
   | true =>
    go_wp2_with fail
    go_roundw
    case rel => exact ⟨q + 1, by omega, by go_num, HB1.out⟩
    case measure => simp only [intOf]; omega
   | false =>
    go_wp2_with fail
    go_ret
    exact ⟨⟨_, rfl⟩, HB1.out⟩
  ·have dn1 : decide ((q : Int) < (f.length : Int)) = false := by simp; omega
   have dm1 : decide (q < f.length) = false := by simp; omega
   clear hb
   go_wp2_with fail
   obtain ⟨Wa, hWa⟩ : ∃ Wa, Wa = wr := ⟨_, rfl⟩
   subst hWa
   go_loopw [8] (fun i wr => ∃ q : Nat, q <= p.length /\ i = .int .i64 q /\ Below w.heap.size w wr) (fun i _ => p.length - (intOf i).toNat)
   case atStart => exact ⟨0, by omega, rfl, HB.out⟩
   case round =>
    clear HB
    obtain ⟨q, hq, rfl, hb⟩ := hrel
    have HB := hid hb
    by_cases hlt : q < p.length
    ·have d0 : decide ((q : Int) < (p.length : Int)) = true := by simp; omega
     obtain ⟨g, o, u, ha, -, hu, hi⟩ := RwAt.elem HP.out hlt
     subst ha
     obtain ⟨v0, v1, e0, e1, e2, e3, rfl, -, -, k0, k1, k2, k3⟩ := hu
     obtain ⟨-, -, -, me, hie⟩ := hi.kinds
     have k0 := below_cell k0 hb
     have k1 := below_cell k1 hb
     have k2 := below_cell k2 hb
     have k3 := below_cell k3 hb
     have cE := XSh.dp _ _ _ 4096 wr (by omega) ((hie.weak (S' := All) (fun _ _ => trivial) false (fun h => h) _ (Nat.le_refl _)).below hb)
     clear hb
     go_wp2_with fail
     refine cE.mono ?_
     rintro e W1 ⟨⟨b, rfl⟩, b1⟩
     have HB1 := hid (nx HB.out b1)
     clear cE b1 k0 k1 k2 k3 hie
     cases b with
     | true =>
      go_wp2_with fail
      go_roundw
      case rel => exact ⟨q + 1, by omega, by go_num, HB1.out⟩
      case measure => simp only [intOf]; omega
     | false =>
      go_wp2_with fail
      go_ret
      exact ⟨⟨_, rfl⟩, HB1.out⟩
    ·have dn2 : decide ((q : Int) < (p.length : Int)) = false := by simp; omega
     have dm2 : decide (q < p.length) = false := by simp; omega
     clear hb
     go_wp2_with fail
     obtain ⟨Wa, hWa⟩ : ∃ Wa, Wa = wr := ⟨_, rfl⟩
     subst hWa
     go_loopw [9] (fun i wr => ∃ q : Nat, q <= x.length /\ i = .int .i64 q /\ Below w.heap.size w wr) (fun i _ => x.length - (intOf i).toNat)
     case atStart => exact ⟨0, by omega, rfl, HB.out⟩
     case round =>
      clear HB
      obtain ⟨q, hq, rfl, hb⟩ := hrel
      have HB := hid hb
      by_cases hlt : q < x.length
      ·have d0 : decide ((q : Int) < (x.length : Int)) = true := by simp; omega
       obtain ⟨g, o, u, ha, -, hu, hie⟩ := XBase.elem_at HX.out hlt
       subst ha
       obtain ⟨e0, e1, e2, e3, rfl, k0, k1, k2, k3⟩ := hu
       have k0 := below_cell k0 hb
       have k1 := below_cell k1 hb
       have k2 := below_cell k2 hb
       have k3 := below_cell k3 hb
       have cE := XSh.dp _ _ _ 4096 wr (by omega) ((hie.weak (S' := All) (fun _ _ => trivial) false (fun h => h) _ (Nat.le_refl _)).below hb)
       clear hb
       go_wp2_with fail
       refine cE.mono ?_
       rintro e W1 ⟨⟨b, rfl⟩, b1⟩
       have HB1 := hid (nx HB.out b1)
       clear cE b1 k0 k1 k2 k3 hie
       cases b with
       | true =>
        go_wp2_with fail
        go_roundw
        case rel => exact ⟨q + 1, by omega, by go_num, HB1.out⟩
        case measure => simp only [intOf]; omega
       | false =>
        go_wp2_with fail
        go_ret
        exact ⟨⟨_, rfl⟩, HB1.out⟩
      ·have dn3 : decide ((q : Int) < (x.length : Int)) = false := by simp; omega
       have dm3 : decide (q < x.length) = false := by simp; omega
       clear hb
       go_wp2_with fail
       go_ret
       exact ⟨⟨_, rfl⟩, HB.out⟩
end Go.Proofs.YtiijfmdfccdagaaGreatDoor.KSw
namespace Go.Proofs.YtiijfmdfccdagaaGreatDoor.KSx
open Tak
open Go.RowKit Base KBase KSw
def CS (m : Nat) : Prop := ∀ (w : World) (v : Value) (cs : List Co) (left : Nat), left <= 4096 -> InL false (fun _ => True) w m v cs ->
  Calls prog 31 #[v, .int .i64 left] w fun e w' => (∃ b, e = .returned (.bool b)) /\ Below w.heap.size w w'
theorem cores_of {m : Nat} (ih : ∀ m', m = m' + 1 -> CS m') : CS m := by
 intro w v cs left hleft hin
 have Hih := hid ih
 obtain ⟨a, cap, rfl, hlc, hcm, hlen, hnil, hL⟩ := hin
 have HL := hid hL
 clear hL ih
 by_cases h0 : left = 0
 ·subst h0
  go_enter func31, ntmps31
  go_wp2_with fail
  go_ret
  first | exact ⟨⟨_, rfl⟩, Below.refl _ _⟩ | exact ⟨_, rfl, Below.refl _ _⟩ | (refine ⟨?_, Below.refl _ _⟩; by_cases h : cs = [] <;> simp [h])
 ·have h0' : ((left : Int) == 0) = false := by simp; omega
  have hwl : IntKind.i64.wrap ((left : Int) - 1) = ((left - 1 : Nat) : Int) := by rw [IntKind.wrap_i64]; omega
  go_enter func31, ntmps31
  go_wp2_with fail
  go_loopw [5] (fun i wr => ∃ q : Nat, q <= cs.length /\ i = .int .i64 q /\ Below w.heap.size w wr) (fun i _ => cs.length - (intOf i).toNat)
  case atStart => exact ⟨0, by omega, rfl, Below.refl _ _⟩
  case round =>
   obtain ⟨q, hq, rfl, hb⟩ := hrel
   have HB := hid hb
   by_cases hlt : q < cs.length
   ·have d0 : decide ((q : Int) < (cs.length : Int)) = true := by simp; omega
    have i0 : (0 : Int) <= (q : Int) := by omega
    have i1 : (q : Int) < (cs.length : Int) := by omega
    obtain ⟨g, o, u, ha, -, hu, hi⟩ := HL.out.elem hlt
    subst ha
    obtain ⟨v0, v1, v2, v3, v4, v5, v6, rfl, k0, k1, k2, k3, k4, k5, k6⟩ := hu
    obtain ⟨m', fv, pv, xv, lv, uv, hm, hv, -, -, hF, hP, hX, hLl, hUl⟩ := hi.shape
    simp only [Value.agg.injEq, Array.mk.injEq, List.cons.injEq, and_true] at hv
    obtain ⟨rfl, rfl, rfl, rfl, rfl, rfl, rfl⟩ := hv
    have HF := hid hF
    have HP := hid hP
    have HX := hid hX
    have HLl := hid hLl
    have HUl := hid hUl
    obtain ⟨a1, c1, rfl, -⟩ := hF
    obtain ⟨a2, c2, rfl, -⟩ := hP
    obtain ⟨mx, a3, c3, rfl, -⟩ := hX
    obtain ⟨a4, c4, rfl, -⟩ := hLl
    obtain ⟨a5, c5, rfl, -⟩ := hUl
    have hvi := Hih.out m' hm
    obtain ⟨y, hy⟩ : ∃ y, cs[q] = y := ⟨_, rfl⟩
    rw [hy] at k2 k3 k4 k5 k6 HF HP HX HLl HUl
    have HS : Hid (∀ w', Below w.heap.size w w' -> w'.cell? ⟨g, o + q * 7 + 2, none⟩ = some (.slice a1 y.f.length c1) /\ w'.cell? ⟨g, o + q * 7 + 3, none⟩ = some (.slice a2 y.p.length c2) /\ w'.cell? ⟨g, o + q * 7 + 4, none⟩ = some (.slice a3 y.x.length c3) /\ w'.cell? ⟨g, o + q * 7 + 5, none⟩ = some (.slice a4 y.l.length c4) /\ w'.cell? ⟨g, o + q * 7 + 6, none⟩ = some (.slice a5 y.u.length c5)) := fun w' hB => ⟨below_cell k2 hB, below_cell k3 hB, below_cell k4 hB, below_cell k5 hB, below_cell k6 hB⟩
    have HSa := hid (HS.out wr HB.out)
    obtain ⟨a0_, a1_, a2_, a3_, a4_⟩ := HSa.out
    have cE := fun W (hB : Below w.heap.size w W) => exprs_c (w := W) (RF.keep (Keep.of_below hB) HF.out) (RP.keep (Keep.of_below hB) HP.out) (RX.keep (Keep.of_below hB) HX.out)
    have cL := fun W (hB : Below w.heap.size w W) => hvi W _ y.l (left - 1) (by omega) (InL.keep (Keep.of_below hB) HLl.out)
    have cU := fun W (hB : Below w.heap.size w W) => hvi W _ y.u (left - 1) (by omega) (InL.keep (Keep.of_below hB) HUl.out)
    clear hi hy k0 k1 k2 k3 k4 k5 k6 hb
    go_wp2_with fail
    refine wp_region_held_drew (S := (fun w' => w'.cell? ⟨g, o + q * 7 + 2, none⟩ = some (.slice a1 y.f.length c1) /\ w'.cell? ⟨g, o + q * 7 + 3, none⟩ = some (.slice a2 y.p.length c2) /\ w'.cell? ⟨g, o + q * 7 + 4, none⟩ = some (.slice a3 y.x.length c3) /\ w'.cell? ⟨g, o + q * 7 + 5, none⟩ = some (.slice a4 y.l.length c4) /\ w'.cell? ⟨g, o + q * 7 + 6, none⟩ = some (.slice a5 y.u.length c5))) (by kernel_rfl) (by exact HSa.out) (fun hHeld => ?_)
    refine tkH 0 rfl ?_; try simp only [ptH]
    refine tkH 1 rfl ?_; try simp only [ptH]
    refine tkH 2 rfl ?_; try simp only [ptH]
    refine tkH 3 rfl ?_; try simp only [ptH]
    refine tkH 4 rfl ?_; try simp only [ptH]
    refine tkH 5 rfl ?_; try simp only [ptH]
    refine tkH 6 rfl ?_; try simp only [ptH]
    refine tkH 7 rfl ?_; try simp only [ptH]
    refine tkH 8 rfl ?_; try simp only [ptH]
    refine tkH 9 rfl ?_; try simp only [ptH]
    refine tkH 10 rfl ?_; try simp only [ptH]
    refine tkH 11 rfl ?_; try simp only [ptH]
    refine tkH 12 rfl ?_; try simp only [ptH]
    refine tkH 13 rfl ?_; try simp only [ptH]
    refine tkH 14 rfl ?_; try simp only [ptH]
    refine rdH [15] ?_
    refine AllReadyH.cons rfl (fun K hK => ?_) AllReadyH.nil
    go_simp
    refine (cE _ (HB.out.trans (Below.refl _ wr).drew)).mono ?_
    rintro e W5 ⟨⟨b, rfl⟩, b1⟩
    have HBb := hid ((HB.out.trans (Below.refl _ wr).drew).trans (b1.mono HB.out.size))
    have HSb := hid (HS.out W5 HBb.out)
    clear b1
    cases b with
    | true =>
     go_wp2_with fail
     refine hK.out _ _ (by exact HSb.out) (fun hHeld => ?_)
     clear hK K
     try simp only [ptH]
     refine tkH 16 rfl ?_; try simp only [ptH]
     refine tkH 17 rfl ?_; try simp only [ptH]
     refine tkH 18 rfl ?_; try simp only [ptH]
     refine tkH 19 rfl ?_; try simp only [ptH]
     refine tkH 20 rfl ?_; try simp only [ptH]
     refine tkH 21 rfl ?_; try simp only [ptH]
     refine tkH 22 rfl ?_; try simp only [ptH]
     refine tkH 23 rfl ?_; try simp only [ptH]
     refine tkH 24 rfl ?_; try simp only [ptH]
     refine rdH [25] ?_
     refine AllReadyH.cons rfl (fun K hK => ?_) AllReadyH.nil
     go_simp
     try rw [hwl]
     refine (cL W5 HBb.out).mono ?_
     rintro e W6 ⟨⟨b, rfl⟩, b1⟩
     have HBc := hid (nx HBb.out b1)
     have HSc := hid (HS.out W6 HBc.out)
     clear b1
     cases b with
     | true =>
      go_wp2_with fail
      refine hK.out _ _ (by exact HSc.out) (fun hHeld => ?_)
      clear hK K
      try simp only [ptH]
      refine tkH 26 rfl ?_; try simp only [ptH]
      refine tkH 27 rfl ?_; try simp only [ptH]
      refine tkH 28 rfl ?_; try simp only [ptH]
      refine tkH 29 rfl ?_; try simp only [ptH]
      refine tkH 30 rfl ?_; try simp only [ptH]
      refine tkH 31 rfl ?_; try simp only [ptH]
      refine tkH 32 rfl ?_; try simp only [ptH]
      refine tkH 33 rfl ?_; try simp only [ptH]
      refine tkH 34 rfl ?_; try simp only [ptH]
      refine tkH 35 rfl ?_; try simp only [ptH]
      refine rdH [36] ?_
      refine AllReadyH.cons rfl (fun K hK => ?_) AllReadyH.nil
      go_simp
      try rw [hwl]
      refine (cU W6 HBc.out).mono ?_
      rintro e W7 ⟨⟨b, rfl⟩, b1⟩
      have HBd := hid (nx HBc.out b1)
      have HSd := hid (HS.out W7 HBd.out)
      clear b1
      cases b with
      | true =>
       go_wp2_with fail
       refine hK.out _ _ (by exact HSd.out) (fun hHeld => ?_)
       clear hK K
       try simp only [ptH]
       refine tkH 37 rfl ?_; try simp only [ptH]
       refine tkH 38 rfl ?_; try simp only [ptH]
       refine dnH ?_
       go_wp2_with fail
       go_roundw
       case rel => exact ⟨q + 1, by omega, by go_num, HBd.out⟩
       case measure => simp only [intOf]; omega
      | false =>
       go_wp2_with fail
       refine hK.out _ _ (by exact HSd.out) (fun hHeld => ?_)
       clear hK K
       try simp only [ptH]
       refine tkH 37 rfl ?_; try simp only [ptH]
       refine tkH 38 rfl ?_; try simp only [ptH]
       refine dnH ?_
       go_wp2_with fail
       go_ret
       exact ⟨⟨_, rfl⟩, HBd.out⟩
     | false =>
      go_wp2_with fail
      refine hK.out _ _ (by exact HSc.out) (fun hHeld => ?_)
      clear hK K
      try simp only [ptH]
      refine tkH 26 rfl ?_; try simp only [ptH]
      refine tkH 27 rfl ?_; try simp only [ptH]
      refine tkH 28 rfl ?_; try simp only [ptH]
      refine wpAnyH_take (i := 29) rfl (by kernel_rfl) (by kernel_rfl) (by kernel_rfl) (fun _ _ _ h => h) (Or.inr ⟨by rfl, rfl⟩) (by assumption) ?_
      try simp only [ptH]
      refine wpAnyH_take (i := 30) rfl (by kernel_rfl) (by kernel_rfl) (by kernel_rfl) (fun _ _ _ h => h) (Or.inr ⟨by rfl, rfl⟩) (by assumption) ?_
      try simp only [ptH]
      refine wpAnyH_take (i := 31) rfl (by kernel_rfl) (by kernel_rfl) (by kernel_rfl) (fun _ _ _ h => h) (Or.inr ⟨by rfl, rfl⟩) (by assumption) ?_
      try simp only [ptH]
      refine wpAnyH_take (i := 32) rfl (by kernel_rfl) (by kernel_rfl) (by kernel_rfl) (fun _ _ _ h => h) (Or.inr ⟨by rfl, rfl⟩) (by assumption) ?_
      try simp only [ptH]
      refine wpAnyH_take (i := 33) rfl (by kernel_rfl) (by kernel_rfl) (by kernel_rfl) (fun _ _ _ h => h) (Or.inr ⟨by rfl, rfl⟩) (by assumption) ?_
      try simp only [ptH]
      refine wpAnyH_take (i := 34) rfl (by kernel_rfl) (by kernel_rfl) (by kernel_rfl) (fun _ _ _ h => h) (Or.inr ⟨by rfl, rfl⟩) (by assumption) ?_
      try simp only [ptH]
      refine wpAnyH_take (i := 35) rfl (by kernel_rfl) (by kernel_rfl) (by kernel_rfl) (fun _ _ _ h => h) (Or.inr ⟨by rfl, rfl⟩) (by assumption) ?_
      try simp only [ptH]
      refine wpAnyH_take (i := 36) rfl (by kernel_rfl) (by kernel_rfl) (by kernel_rfl) (fun _ _ _ h => h) (Or.inr ⟨by rfl, rfl⟩) (by assumption) ?_
      try simp only [ptH]
      refine wpAnyH_take (i := 37) rfl (by kernel_rfl) (by kernel_rfl) (by kernel_rfl) (fun _ _ _ h => h) (Or.inr ⟨by rfl, rfl⟩) (by assumption) ?_
      try simp only [ptH]
      refine tkH 38 rfl ?_; try simp only [ptH]
      refine dnH ?_
      go_wp2_with fail
      go_ret
      exact ⟨⟨_, rfl⟩, HBc.out⟩
    | false =>
     go_wp2_with fail
     refine hK.out _ _ (by exact HSb.out) (fun hHeld => ?_)
     clear hK K
     try simp only [ptH]
     refine tkH 16 rfl ?_; try simp only [ptH]
     refine tkH 17 rfl ?_; try simp only [ptH]
     refine wpAnyH_take (i := 18) rfl (by kernel_rfl) (by kernel_rfl) (by kernel_rfl) (fun _ _ _ h => h) (Or.inr ⟨by rfl, rfl⟩) (by assumption) ?_
     try simp only [ptH]
     refine wpAnyH_take (i := 19) rfl (by kernel_rfl) (by kernel_rfl) (by kernel_rfl) (fun _ _ _ h => h) (Or.inr ⟨by rfl, rfl⟩) (by assumption) ?_
     try simp only [ptH]
     refine wpAnyH_take (i := 20) rfl (by kernel_rfl) (by kernel_rfl) (by kernel_rfl) (fun _ _ _ h => h) (Or.inr ⟨by rfl, rfl⟩) (by assumption) ?_
     try simp only [ptH]
     refine wpAnyH_take (i := 21) rfl (by kernel_rfl) (by kernel_rfl) (by kernel_rfl) (fun _ _ _ h => h) (Or.inr ⟨by rfl, rfl⟩) (by assumption) ?_
     try simp only [ptH]
     refine wpAnyH_take (i := 22) rfl (by kernel_rfl) (by kernel_rfl) (by kernel_rfl) (fun _ _ _ h => h) (Or.inr ⟨by rfl, rfl⟩) (by assumption) ?_
     try simp only [ptH]
     refine wpAnyH_take (i := 23) rfl (by kernel_rfl) (by kernel_rfl) (by kernel_rfl) (fun _ _ _ h => h) (Or.inr ⟨by rfl, rfl⟩) (by assumption) ?_
     try simp only [ptH]
     refine wpAnyH_take (i := 24) rfl (by kernel_rfl) (by kernel_rfl) (by kernel_rfl) (fun _ _ _ h => h) (Or.inr ⟨by rfl, rfl⟩) (by assumption) ?_
     try simp only [ptH]
     refine wpAnyH_take (i := 25) rfl (by kernel_rfl) (by kernel_rfl) (by kernel_rfl) (fun _ _ _ h => h) (Or.inr ⟨by rfl, rfl⟩) (by assumption) ?_
     try simp only [ptH]
     refine wpAnyH_take (i := 26) rfl (by kernel_rfl) (by kernel_rfl) (by kernel_rfl) (fun _ _ _ h => h) (Or.inr ⟨by rfl, rfl⟩) (by assumption) ?_
     try simp only [ptH]
     refine tkH 27 rfl ?_; try simp only [ptH]
     refine tkH 28 rfl ?_; try simp only [ptH]
     refine wpAnyH_take (i := 29) rfl (by kernel_rfl) (by kernel_rfl) (by kernel_rfl) (fun _ _ _ h => h) (Or.inr ⟨by rfl, rfl⟩) (by assumption) ?_
     try simp only [ptH]
     refine wpAnyH_take (i := 30) rfl (by kernel_rfl) (by kernel_rfl) (by kernel_rfl) (fun _ _ _ h => h) (Or.inr ⟨by rfl, rfl⟩) (by assumption) ?_
     try simp only [ptH]
     refine wpAnyH_take (i := 31) rfl (by kernel_rfl) (by kernel_rfl) (by kernel_rfl) (fun _ _ _ h => h) (Or.inr ⟨by rfl, rfl⟩) (by assumption) ?_
     try simp only [ptH]
     refine wpAnyH_take (i := 32) rfl (by kernel_rfl) (by kernel_rfl) (by kernel_rfl) (fun _ _ _ h => h) (Or.inr ⟨by rfl, rfl⟩) (by assumption) ?_
     try simp only [ptH]
     refine wpAnyH_take (i := 33) rfl (by kernel_rfl) (by kernel_rfl) (by kernel_rfl) (fun _ _ _ h => h) (Or.inr ⟨by rfl, rfl⟩) (by assumption) ?_
     try simp only [ptH]
     refine wpAnyH_take (i := 34) rfl (by kernel_rfl) (by kernel_rfl) (by kernel_rfl) (fun _ _ _ h => h) (Or.inr ⟨by rfl, rfl⟩) (by assumption) ?_
     try simp only [ptH]
     refine wpAnyH_take (i := 35) rfl (by kernel_rfl) (by kernel_rfl) (by kernel_rfl) (fun _ _ _ h => h) (Or.inr ⟨by rfl, rfl⟩) (by assumption) ?_
     try simp only [ptH]
     refine wpAnyH_take (i := 36) rfl (by kernel_rfl) (by kernel_rfl) (by kernel_rfl) (fun _ _ _ h => h) (Or.inr ⟨by rfl, rfl⟩) (by assumption) ?_
     try simp only [ptH]
     refine wpAnyH_take (i := 37) rfl (by kernel_rfl) (by kernel_rfl) (by kernel_rfl) (fun _ _ _ h => h) (Or.inr ⟨by rfl, rfl⟩) (by assumption) ?_
     try simp only [ptH]
     refine tkH 38 rfl ?_; try simp only [ptH]
     refine dnH ?_
     go_wp2_with fail
     go_ret
     exact ⟨⟨_, rfl⟩, HBb.out⟩
   ·have d0 : decide ((q : Int) < (cs.length : Int)) = false := by simp; omega
    go_wp2_with fail
    go_ret
    exact ⟨⟨_, rfl⟩, HB.out⟩
theorem cores_all : ∀ m, CS m
 | 0 => cores_of (fun m' h => by omega)
 | m + 1 => cores_of (fun m' h => by have e : m = m' := (by omega); subst e; exact cores_all m)
theorem shallow_c {m : Nat} {w : World} {v : Value} {cs : List Co} (hin : InL false (fun _ => True) w m v cs) :
  Calls prog 14 #[v] w fun e w' => (∃ b, e = .returned (.bool b)) /\ Below w.heap.size w w' := by
 have cC := cores_all m w v cs 4096 (by omega) hin
 obtain ⟨a, cap, rfl, -⟩ := hin
 go_enter func14, ntmps14
 go_wp2_with fail
 refine cC.mono ?_
 rintro e W1 ⟨⟨b, rfl⟩, b1⟩
 go_wp2_with fail
 go_ret
 exact ⟨⟨_, rfl⟩, b1⟩
end Go.Proofs.YtiijfmdfccdagaaGreatDoor.KSx

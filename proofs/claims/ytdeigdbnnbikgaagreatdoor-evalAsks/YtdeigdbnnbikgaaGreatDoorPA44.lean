import Derived.Deep.RegionHeld3
import Derived.LoopN
import Derived.LoopTactic
import Derived.Maps.AppendAt
import Derived.Test.YtdeigdbnnbikgaaGreatDoorPA04
import Derived.Test.YtdeigdbnnbikgaaGreatDoorPA32
import Derived.Test.YtdeigdbnnbikgaaGreatDoorPA42
import Derived.Test.YtdeigdbnnbikgaaGreatDoorPA43
set_option linter.unusedVariables false
set_option maxRecDepth 20000
set_option maxHeartbeats 3200000
namespace Go.Proofs.YtdeigdbnnbikgaaGreatDoor.VNa
open Go.RowKit Base EPure VSm VJn VVr VEv VNp VNm
theorem nm_all (K : Nat) : ∀ n, Nm K n := by
 intro n
 induction n with
 | zero => intro w nv v ns x _ h; rw [XBase.In] at h; exact h.elim
 | succ n ih =>
  intro w nv v ns x hown h hK hc
  obtain ⟨o, i, s, l⟩ := x
  rw [XBase.in_iff] at h
  obtain ⟨lv, rfl, hor, hir, hs, a, cap, rfl, hlc, hcm, -, -, hL⟩ := h
  simp only [cntL] at hc
  have e : nmL ns [.mk o i s l] = nmL (add1 ns o s) l := nmL_one ns o i s l
  unfold Nx
  rw [e]
  by_cases ho : o = 6
  ·subst ho
   cases hi : Lib.containsS ns s with
   | true => rw [show add1 ns 6 s = ns by simp [add1, hi]]; exact nm_old ih hown hK hlc hcm hL (by omega) hi
   | false => rw [show add1 ns 6 s = ns ++ [s] by simp [add1, hi]]; exact nm_new ih hown hK hlc hcm hL (by omega) hi
  ·rw [show add1 ns o s = ns by simp [add1, ho]]
   exact nm_zero ih hown hK hlc hcm hL (by omega) ho
def nms (x : Ex) : List ByteArray := if may x = true then nmL [] [x] else []
theorem nms_len (x : Ex) : (nms x).length ≤ 512 := by
 unfold nms
 split
 ·rename_i h
  have h1 := nmL_len [x] []
  have h2 := cnt_of h
  simp at h1
  omega
 ·simp
theorem names_c {n : Nat} {w : World} {o i : Int} {s : ByteArray} {lv : Value} {x : Ex} (hin : XBase.In false (fun b => b < w.heap.size) w n (xv o i s lv) x) (hT : Tb w) :
  Calls Tryz.prog 21 #[xv o i s lv] w fun e w' => ∃ nv, e = .returned nv ∧ OwnT w' w.heap.size nv (nms x) ∧ Below w.heap.size w w' := by
 obtain ⟨W0, hW0⟩ : ∃ W0, w.alloc (.cells #[.int .i64 o, .int .i64 i, .string s, lv] 24) = W0 := ⟨_, rfl⟩
 have hb0 : Below w.heap.size w W0 := by rw [← hW0]; exact (Below.refl _ w).alloc (Nat.le_refl _) _
 have hp : W0.heap[w.heap.size]? = some (.cells #[.int .i64 o, .int .i64 i, .string s, lv] 24 (0, 0)) := by rw [← hW0]; exact heap_alloc_new w _
 obtain ⟨x0, x1, x2, x3⟩ := XBase.four_box hp
 have hs0 : W0.heap.size = w.heap.size + 1 := by rw [← hW0]; simp
 have cM := mayBe_c (w := W0) ((hin.below hb0).weak (fun b hb => Nat.lt_of_lt_of_le hb hb0.size) false (fun h => by cases h) n (Nat.le_refl _)) (hT.below hb0)
 have HC : Hid (∀ W, Below w.heap.size w W → may x = true → Calls Tryz.prog 59 #[.slice none 0 0, xv o i s lv] W fun e w' => Nx w.heap.size W [] [x] e w') := fun W hW hm =>
  nm_all _ n W _ _ [] x (World.ownsRow_nil _ _ _ _) (hin.below hW) hW.size (by have := cnt_of hm; simp; omega)
 have HP : Hid (W0.heap[w.heap.size]? = some (.cells #[.int .i64 o, .int .i64 i, .string s, lv] 24 (0, 0))) := hp
 have HB : Hid (Below w.heap.size w W0) := hb0
 obtain ⟨r, hr⟩ : ∃ r, nms x = r := ⟨_, rfl⟩
 rw [hr]
 have HR : Hid (nms x = r) := hr
 cases hm : may x with
 | false =>
  rw [hm] at cM
  have hr0 : r = [] := by rw [← hr]; unfold nms; rw [hm]; rfl
  have HR0 : Hid (r = []) := hr0
  clear hin hT hb0 hp hr hr0 HC
  go_enter Tryz.func21, Tryz.ntmps21
  go_wp2_with (first | (go_at_call 43; (try rw [hW0]); refine cM.mono ?_; rintro e w2 ⟨rfl, hb2⟩))
  go_ret
  exact ⟨_, rfl, by rw [HR0.out]; exact World.ownsRow_nil _ _ _ _, HB.out.trans (hb2.mono (by omega))⟩
 | true =>
  rw [hm] at cM
  have hr0 : nmL [] [x] = r := by rw [← hr]; unfold nms; rw [hm]; rfl
  have HR0 : Hid (nmL [] [x] = r) := hr0
  have HM : Hid (may x = true) := hm
  clear hin hT hb0 hp hr hr0 hm
  go_enter Tryz.func21, Tryz.ntmps21
  go_wp2_with (first | (go_at_call 43; (try rw [hW0]); refine cM.mono ?_; rintro e w2 ⟨rfl, hb2⟩; have hp2 := (hb2.block _ (by omega)).trans HP.out; obtain ⟨y0, y1, y2, y3⟩ := XBase.four_box hp2; have hB2 : Below w.heap.size w w2 := HB.out.trans (hb2.mono (by omega)); have cN := HC.out w2 hB2 HM.out; have HB2 : Hid (Below w.heap.size w w2) := hB2; clear hp2 hB2) | (go_at_call 59; refine cN.mono ?_; rintro e w3 ⟨nv3, rfl, ho3, hb3⟩))
  go_ret
  exact ⟨_, rfl, by rw [← HR0.out]; exact ho3, HB2.out.trans hb3⟩
end Go.Proofs.YtdeigdbnnbikgaaGreatDoor.VNa
namespace Go.Proofs.YtdeigdbnnbikgaaGreatDoor.VAk
open Go.RowKit Base EPure VPure VSm VMp VNp VNq VNo VVa VEv VEa VGd VGe VNa
open Walk (pl plL)
open Shallow (dep depL)
theorem depL_pl : ∀ (l : List C) (d N : Nat), (∀ p ∈ plL d l, p.1 ≤ N) → l = [] ∨ d + depL l ≤ N + 1
 | [], _, _, _ => .inl rfl
 | .mk k b i s n l :: t, d, N, h => by
  rw [plL] at h
  have h0 : d ≤ N := h (d, .mk k b i s n l) (by simp)
  have h1 := depL_pl l (d + 1) N fun p hp => h p (by simp [hp])
  have h2 := depL_pl t d N fun p hp => h p (by simp [hp])
  refine .inr ?_
  rw [depL]
  have e1 : d + (depL l + 1) ≤ N + 1 := by
   rcases h1 with rfl | h1
   ·rw [depL]; omega
   ·omega
  have e2 : d + depL t ≤ N + 1 := by
   rcases h2 with rfl | h2
   ·rw [depL]; omega
   ·exact h2
  omega
theorem dep_code {c : C} (h : code c = 0) : dep c ≤ 24 := by
 have hp := (code_iff c).1 h
 have ha : ∀ p ∈ pl 1 c, p.1 ≤ 24 := fun p hp' => by
  obtain ⟨j, hj, rfl⟩ := List.mem_iff_getElem.1 hp'
  exact (hp j hj).2.1
 obtain ⟨k, b, i, s, n, l⟩ := c
 rw [pl] at ha
 have h1 := depL_pl l 2 24 fun p hp => ha p (by simp [hp])
 rw [dep]
 rcases h1 with rfl | h1
 ·rw [depL]; omega
 ·omega
theorem in_rg {S : Nat → Prop} {w : World} : ∀ (m : Nat) (v : Value) (c : C) (d : Nat), Base.In false S w m v c → ∀ p ∈ pl d c, rg p.2.i := by
 intro m
 induction m with
 | zero => intro v c d h; rw [Base.In] at h; exact h.elim
 | succ m ih =>
  intro v c d h p hp
  obtain ⟨k, b, i, s, n, l⟩ := c
  obtain ⟨nv, lv, -, -, hi, -, -, a, cap, -, -, -, -, -, hL⟩ := in_iff.1 h
  rw [pl] at hp
  rcases List.mem_cons.1 hp with rfl | hp
  ·exact hi
  ·have hl : ∀ (t : List C), (∀ c ∈ t, c ∈ l) → ∀ p ∈ plL (d + 1) t, rg p.2.i := by
    intro t
    induction t with
    | nil => intro _ p hp; rw [plL] at hp; cases hp
    | cons c t iht =>
     intro ht p hp
     rw [Walk.plL_cons] at hp
     rcases List.mem_append.1 hp with hp | hp
     ·obtain ⟨j, hj, e⟩ := List.mem_iff_getElem.1 (ht c (by simp))
      obtain ⟨g, o, u, -, -, -, hin⟩ := elem_at hL hj
      rw [e] at hin
      exact ih u c (d + 1) hin p hp
     ·exact iht (fun c hc => ht c (by simp [hc])) p hp
   exact hl l (fun _ h => h) p hp
theorem in_xr {S : Nat → Prop} {w : World} : ∀ (m : Nat) (v : Value) (x : Ex), XBase.In false S w m v x → xr x := by
 intro m
 induction m with
 | zero => intro v c h; rw [XBase.In] at h; exact h.elim
 | succ m ih =>
  intro v x h
  obtain ⟨o, i, s, l⟩ := x
  obtain ⟨lv, -, -, hi, -, a, cap, -, -, -, -, -, hL⟩ := XBase.in_iff.1 h
  refine ⟨hi, ?_⟩
  have hl : ∀ (t : List Ex), (∀ c ∈ t, c ∈ l) → xrL t := by
   intro t
   induction t with
   | nil => intro _; rw [xrL]; exact trivial
   | cons c t iht =>
    intro ht
    obtain ⟨j, hj, e⟩ := List.mem_iff_getElem.1 (ht c (by simp))
    obtain ⟨g, o', u, -, -, -, hin⟩ := XBase.elem_at hL hj
    rw [e] at hin
    have := ih u c hin
    obtain ⟨o2, i2, s2, l2⟩ := c
    rw [xrL]
    exact ⟨this, iht fun c hc => ht c (by simp [hc])⟩
  exact hl l fun _ h => h
theorem evA_gd {bs : List Bn} {x : Ex} (hb : ∀ b ∈ bs, ∀ p ∈ pl 1 b.2, rg p.2.i) (hx : xr x) {c : C} (h : evA bs x = .ok c) : Gd c := by
 unfold evA at h
 split at h
 ·rename_i hm
  refine ev_gd (fun s c hs => ?_) (may_gd hm.1) hx h
  rcases VWf.rho_mem bs s none c hs with h1 | ⟨b, hb1, rfl⟩
  ·cases h1
  ·refine ⟨?_, hb b hb1⟩
   have := hm.2
   unfold bad at this
   rw [List.any_eq_false] at this
   simpa using this b hb1
 ·cases h
def oth (c : C) (bs : List Bn) : List Bn := [(⟨#[97]⟩, c), (⟨#[119]⟩, c)] ++ bs
theorem asks {c : C} {bs : List Bn} {x : Ex} (hc : code c = 0) (hk : ∀ s ∈ nms x, (s = ⟨#[97]⟩ ∨ s = ⟨#[119]⟩) → ∃ b ∈ bs, b.1 = s) : evA (oth c bs) x = evA bs x := by
 have hb : bad (oth c bs) = bad bs := by simp [bad, oth, hc]
 unfold evA
 rw [hb]
 by_cases h : may x = true ∧ bad bs = false
 ·rw [if_pos h, if_pos h]
  refine ev_same fun s hs => ?_
  have hn : s ∈ nms x := by unfold nms; rw [if_pos h.1]; exact hs
  unfold oth
  rw [rho_app]
  cases hr : rho bs s with
  | some d => rfl
  | none =>
   have h97 : ¬ (s = ⟨#[97]⟩ ∨ s = ⟨#[119]⟩) := fun e => by
    obtain ⟨b, hb1, e2⟩ := hk s hn e
    exact rho_none hr b hb1 e2
   have e1 : ¬ (⟨#[97]⟩ : ByteArray) = s := fun e => h97 (.inl e.symm)
   have e2 : ¬ (⟨#[119]⟩ : ByteArray) = s := fun e => h97 (.inr e.symm)
   simp [rho, e1, e2]
 ·rw [if_neg h, if_neg h]
end Go.Proofs.YtdeigdbnnbikgaaGreatDoor.VAk
namespace Go.Proofs.YtdeigdbnnbikgaaGreatDoor.VApd
open Go.RowKit Base VPure VSm VMp VCb VCc VAk
abbrev two (c : C) (nv lv : Value) : List Value := [bv ⟨#[97]⟩ c.k c.b c.i c.s nv lv, bv ⟨#[119]⟩ c.k c.b c.i c.s nv lv]
abbrev twoB (c : C) (nv lv : Value) : Obj := .cells #[.string ⟨#[97]⟩, .int .i64 c.k, .bool c.b, .int .i64 c.i, .string c.s, nv, lv, .string ⟨#[119]⟩, .int .i64 c.k, .bool c.b, .int .i64 c.i, .string c.s, nv, lv] 52
theorem two_own {W : World} {G K : Nat} {c : C} {an al : Option Addr} {ln cn ll cl : Nat} (hG : W.heap[G]? = some (twoB c (.slice an ln cn) (.slice al ll cl))) (hK : K ≤ G) : OwnB W K (.slice (some ⟨G, 0, none⟩) 2 2) (two c (.slice an ln cn) (.slice al ll cl)) := by
 refine ⟨⟨by simp [flat, Value.cells], .inr ⟨G, 2, _, rfl, hK, hG, Nat.le_refl _, by unfold maxLen; omega, rfl, by simp [flat, Value.cells]⟩⟩, ?_⟩
 intro u hu
 simp only [List.mem_cons, List.not_mem_nil, or_false] at hu
 rcases hu with rfl | rfl <;> exact bv_seven
theorem run_two {W : World} {G K B m : Nat} {c : C} {bs : List Bn} {us : List Value} {u : Value} {an al : Option Addr} {ln cn ll cl : Nat} (ty : TypeId) (hG : W.heap[G]? = some (twoB c (.slice an ln cn) (.slice al ll cl))) (hK : K ≤ G)
  (hin : Base.In false (fun b => b ≠ G ∧ b < W.heap.size) W m (vl c.k c.b c.i c.s (.slice an ln cn) (.slice al ll cl)) c) (ho : OwnB W B u us) (hl : us.length = bs.length) (hbig : bs.length * 104 ≤ 140737488351232) (hs : ∀ b ∈ bs, b.1.size ≤ 140737488351232)
  (he : ∀ j (h : j < us.length) (h' : j < bs.length), InB (fun b => b ≠ G ∧ b < W.heap.size) W m us[j] bs[j]) :
  ∃ v' W', (Builtin.append_ #[25, 25] ty #[.slice (some ⟨G, 0, none⟩) 2 2, u]).run Tryz.prog W = .ok v' W' ∧ Bl W'.heap.size m W' v' (oth c bs) ∧ Below K W W' := by
 obtain ⟨i0, hi, hz0, hz1, hz2⟩ := info_parts infoB
 have hGl := (Array.getElem?_eq_some_iff.1 hG).1
 have h2 := two_own (K := K) hG hK
 have hoth : ∀ b ∈ oth c bs, b.1.size ≤ 140737488351232 := by
  intro b hb
  unfold oth at hb
  rcases List.mem_append.1 hb with hb | hb
  ·simp only [List.mem_cons, List.not_mem_nil, or_false] at hb
   rcases hb with rfl | rfl
   ·exact (by decide : (⟨#[97]⟩ : ByteArray).size ≤ 140737488351232)
   ·exact (by decide : (⟨#[119]⟩ : ByteArray).size ≤ 140737488351232)
  ·exact hs b hb
 have hlen : (oth c bs).length = bs.length + 2 := by unfold oth; simp
 have fin : ∀ v' W', W'.ownsRow K 52 7 v' (2 + us.length) (flat (two c (.slice an ln cn) (.slice al ll cl)) ++ flat us) → W.heap.size ≤ W'.heap.size → (∀ b, b < W.heap.size → b ≠ G → W'.heap[b]? = W.heap[b]?) → Bl W'.heap.size m W' v' (oth c bs) := by
  intro v' W' hown hsz hbl
  have ho2 : OwnB W' K v' (two c (.slice an ln cn) (.slice al ll cl) ++ us) := by
   refine ⟨?_, sevens_app h2.2 ho.2⟩
   rw [flat_append, List.length_append]
   exact hown
  refine ho2.bl (by rw [hlen]; simp; omega) (by omega) hoth fun j hj hj' => ?_
  have h0 : InB (fun b => b < W'.heap.size) W' m (bv ⟨#[97]⟩ c.k c.b c.i c.s (.slice an ln cn) (.slice al ll cl)) (⟨#[97]⟩, c) := InB.keep (w := W) ⟨an, ln, cn, al, ll, cl, rfl, hin⟩ (fun b hS hb => hbl b hb hS.1) fun b hS => by have := hS.2; omega
  have h1 : InB (fun b => b < W'.heap.size) W' m (bv ⟨#[119]⟩ c.k c.b c.i c.s (.slice an ln cn) (.slice al ll cl)) (⟨#[119]⟩, c) := InB.keep (w := W) ⟨an, ln, cn, al, ll, cl, rfl, hin⟩ (fun b hS hb => hbl b hb hS.1) fun b hS => by have := hS.2; omega
  match j, hj, hj' with
  | 0, _, _ => exact h0
  | 1, _, _ => exact h1
  | j + 2, hj, hj' =>
   have q1 : j < us.length := by simpa using hj
   have q2 : j < bs.length := by omega
   have := InB.keep (he j q1 q2) (w' := W') (S' := fun b => b < W'.heap.size) (fun b hS hb => hbl b hb hS.1) fun b hS => by have := hS.2; omega
   exact this
 rcases ho.1.2 with ⟨rfl, h0⟩ | ⟨g, cap, cur, rfl, hg, hh, hn2, hm2, hr⟩
 ·have hus : us = [] := List.eq_nil_of_length_eq_zero h0
  subst hus
  refine ⟨.slice (some ⟨G, 0, none⟩) 2 2, W, ?_, fin _ W (by simpa [flat] using h2.1) (Nat.le_refl _) (fun _ _ _ => rfl), Below.refl K W⟩
  simp [Builtin.append_, run_underlying Tryz.underlying25, sizeOf, typeInfo, hi, Builtin.lenOf, Builtin.firstCells, loadCells, storeCells]
 ·obtain ⟨v', W', hrun, hown, hgrow, -, -⟩ := run_append_own_at (P := Tryz.prog) W K 25 ty 52 i0 (.agg #[.string ⟨#[]⟩, .int .i64 0, .bool false, .int .i64 0, .string ⟨#[]⟩, .slice none 0 0, .slice none 0 0]) 7 104 Tryz.underlying25 hi hz0 hz1 hz2 rfl (by decide) _ _ _ h2.1 ⟨g, 0, none⟩ us.length cap (flat us) (flat_len7 ho.2) (World.ownsRow.cells (g := g) ho.1 rfl) (flat_one ho.2) (by unfold maxLen; simp; omega) (by simp; omega) (by omega)
  refine ⟨v', W', hrun, fin v' W' hown hgrow.size fun b hb hne => hgrow.block b hb (fun e => hne (by simpa [Value.ownBlock] using e)), ?_⟩
  exact (Below.refl K W).grown hgrow (by omega) fun k hk => by simp [Value.ownBlock] at hk; omega
def Rn (X W : World) (G m : Nat) (c : C) (bs : List Bn) (u : Value) : Prop := ∀ ty : TypeId, ∃ v' W', (Builtin.append_ #[25, 25] ty #[.slice (some ⟨G, 0, none⟩) 2 2, u]).run Tryz.prog W = .ok v' W' ∧ Bl W'.heap.size m W' v' (oth c bs) ∧ Below X.heap.size X W'
section
variable {X W : World} {m : Nat} {c : C} {bs : List Bn} {us : List Value} {u : Value} {an al : Option Addr} {ln cn ll cl : Nat}
theorem runA (hin : Base.In false (fun b => b < X.heap.size) X m (vl c.k c.b c.i c.s (.slice an ln cn) (.slice al ll cl)) c) (hb : Below (X.alloc (twoB c (.slice an ln cn) (.slice al ll cl))).heap.size (X.alloc (twoB c (.slice an ln cn) (.slice al ll cl))) W)
  (hown : OwnB W (X.alloc (twoB c (.slice an ln cn) (.slice al ll cl))).heap.size u us) (hl : us.length = bs.length) (hbig : bs.length * 104 ≤ 140737488351232) (hs : ∀ b ∈ bs, b.1.size ≤ 140737488351232)
  (he : ∀ j (h : j < us.length) (h' : j < bs.length), InB (El (X.alloc (twoB c (.slice an ln cn) (.slice al ll cl))).heap.size W.heap.size u) W m us[j] bs[j]) : Rn X W X.heap.size m c bs u := by
 intro ty
 have hz : (X.alloc (twoB c (.slice an ln cn) (.slice al ll cl))).heap.size = X.heap.size + 1 := by simp
 have hsz := hb.size
 have hX : Below X.heap.size X W := ((Below.refl _ X).alloc (Nat.le_refl _) _).trans (hb.mono (by omega))
 obtain ⟨v', W', h1, h2, h3⟩ := run_two (K := X.heap.size) ty ((hb.block X.heap.size (by omega)).trans (heap_alloc_new X _)) (Nat.le_refl _) ((hin.keep fun b hS hb' => hX.block b hb').weak (S' := fun b => b ≠ X.heap.size ∧ b < W.heap.size) (fun b hS => ⟨by omega, by omega⟩) false id m (Nat.le_refl _)) hown hl hbig hs fun j h h' => InB.keep (he j h h') (fun _ _ _ => rfl) fun b hS => ⟨by have := hS.1; omega, hS.2.1⟩
 exact ⟨v', W', h1, h2, hX.trans h3⟩
theorem runB (hin : Base.In false (fun b => b < X.heap.size) X m (vl c.k c.b c.i c.s (.slice an ln cn) (.slice al ll cl)) c) (hb : Below X.heap.size X W) (hown : OwnB W X.heap.size u us) (hl : us.length = bs.length) (hbig : bs.length * 104 ≤ 140737488351232) (hs : ∀ b ∈ bs, b.1.size ≤ 140737488351232)
  (he : ∀ j (h : j < us.length) (h' : j < bs.length), InB (El X.heap.size W.heap.size u) W m us[j] bs[j]) : Rn X (W.alloc (twoB c (.slice an ln cn) (.slice al ll cl))) W.heap.size m c bs u := by
 intro ty
 have hsz := hb.size
 have ha : Below W.heap.size W (W.alloc (twoB c (.slice an ln cn) (.slice al ll cl))) := (Below.refl _ W).alloc (Nat.le_refl _) _
 have hX : Below X.heap.size X (W.alloc (twoB c (.slice an ln cn) (.slice al ll cl))) := hb.trans (ha.mono hsz)
 have hz : (W.alloc (twoB c (.slice an ln cn) (.slice al ll cl))).heap.size = W.heap.size + 1 := by simp
 obtain ⟨v', W', h1, h2, h3⟩ := run_two (W := W.alloc (twoB c (.slice an ln cn) (.slice al ll cl))) (K := X.heap.size) ty (heap_alloc_new W _) hsz ((hin.keep fun b hS hb' => hX.block b hb').weak (S' := fun b => b ≠ W.heap.size ∧ b < (W.alloc (twoB c (.slice an ln cn) (.slice al ll cl))).heap.size) (fun b hS => ⟨by omega, by omega⟩) false id m (Nat.le_refl _)) ⟨own_below hown.1 ha, hown.2⟩ hl hbig hs fun j h h' => InB.keep (he j h h') (fun b hS hb' => ha.block b hb') fun b hS => ⟨by have := hS.2.1; omega, by have := hS.2.1; omega⟩
 exact ⟨v', W', h1, h2, hX.trans h3⟩
variable {ops : Array Oper} {o : Oper} {y : Act} {K : Act → World → Prop} {Q : Exit → Act → World → Prop} {E : Prop} {G : Nat}
theorem step_two (hgd : o.guard = none) (x z : Operand) (ho : o.op = .call { callee := .builtin .append, args := #[x, z], argTypes := #[25, 25] }) (h : Rn X W G m c bs u) (hx : y.eval x = .slice (some ⟨G, 0, none⟩) 2 2) (hz : y.eval z = u)
  (hk : ∀ v' W', Bl W'.heap.size m W' v' (oth c bs) → Below X.heap.size X W' → K (y.put o.dst v') W') : if Region.wanted o (yielded ops y.tmps) = true then Oper.wp Tryz.prog o y W K Q else E := by
 have hw : Region.wanted o (yielded ops y.tmps) = true := by simp [Region.wanted, hgd]
 rw [if_pos hw]
 obtain ⟨v', W', hrun, h1, h2⟩ := h o.type
 unfold Oper.wp execOp
 simp only [ho, resolve, invoke, builtin, Sem.run_bind, Sem.run_pure, Result.andThen_ok, List.map_toArray, List.map_cons, List.map_nil, hx, hz, hrun]
 exact hk v' W' h1 h2
end
end Go.Proofs.YtdeigdbnnbikgaaGreatDoor.VApd
namespace Go.Proofs.YtdeigdbnnbikgaaGreatDoor.VEr
open Go.RowKit Base EPure VPure VMp VNo VVa VEv VEa
open PPr (gd gdL gdL_cons)
open PPl (kd)
def N0 {α : Type} (x : Except Nat α) : Prop := x ≠ .error 0
theorem ok0 {α : Type} (a : α) : N0 (.ok a) := fun h => by cases h
theorem er0 {α : Type} {e : Nat} (h : e ≠ 0) : N0 (.error e : Except Nat α) := fun q => by injection q with q; exact h q
theorem bnd0 {α β : Type} {x : Except Nat α} {f : α → Except Nat β} (h : N0 x) (hf : ∀ a, N0 (f a)) : N0 (bnd x f) := by
 cases x with
 | error e => exact er0 fun q => h (by rw [q])
 | ok a => exact hf a
theorem isT0 (c : C) : N0 (isT c) := by unfold isT; split <;> first | exact ok0 _ | exact er0 (by decide)
theorem chk0 (x e : Int) : N0 (chkI x e) := by unfold chkI; (repeat' split) <;> first | exact ok0 _ | exact er0 (by decide)
theorem mapI0 {x : Except Nat Int} (h : N0 x) : N0 (mapI x) := by
 cases x with
 | error e => exact er0 fun q => h (by rw [q])
 | ok a => exact ok0 _
theorem mapS0 {x : Except Nat ByteArray} (h : N0 x) : N0 (mapS x) := by
 cases x with
 | error e => exact er0 fun q => h (by rw [q])
 | ok a => exact ok0 _
theorem mapB0 {x : Except Nat Bool} (h : N0 x) : N0 (mapB x) := by
 cases x with
 | error e => exact er0 fun q => h (by rw [q])
 | ok a => exact ok0 _
theorem txt0 (c : C) : N0 (txt c) := by unfold txt; split <;> first | exact ok0 _ | exact er0 (by decide)
theorem ord0 (k1 i1 : Int) (s1 : ByteArray) (k2 i2 : Int) (s2 : ByteArray) : N0 (ord k1 i1 s1 k2 i2 s2) := by unfold ord; (repeat' split) <;> first | exact ok0 _ | exact er0 (by decide)
theorem numb0 (o : Int) (a b : C) : N0 (numb o a b) := by
 refine mapI0 ?_
 unfold twI
 (repeat' split) <;> first | exact chk0 _ _ | exact er0 (by decide)
theorem pr20 (o : Int) (a b : C) : N0 (pr2 o a b) := by
 unfold pr2
 by_cases q : o = 17
 ·rw [if_pos q]
  exact bnd0 (txt0 a) fun x => bnd0 (txt0 b) fun y => by split <;> first | exact er0 (by decide) | exact ok0 _
 rw [if_neg q]
 clear q
 by_cases q : o = 10
 ·rw [if_pos q]; exact numb0 _ _ _
 rw [if_neg q]
 clear q
 by_cases q : o = 23
 ·rw [if_pos q]; exact bnd0 (ord0 _ _ _ _ _ _) fun _ => ok0 _
 rw [if_neg q]
 clear q
 by_cases q : o = 24
 ·rw [if_pos q]; exact bnd0 (ord0 _ _ _ _ _ _) fun _ => ok0 _
 rw [if_neg q]
 clear q
 by_cases q : o = 25
 ·rw [if_pos q]; exact bnd0 (ord0 _ _ _ _ _ _) fun _ => ok0 _
 rw [if_neg q]
 clear q
 by_cases q : o = 26
 ·rw [if_pos q]; exact bnd0 (ord0 _ _ _ _ _ _) fun _ => ok0 _
 rw [if_neg q]
 clear q
 by_cases q : o = 27
 ·rw [if_pos q]; exact ok0 _
 rw [if_neg q]
 clear q
 by_cases q : o = 28
 ·rw [if_pos q]; exact ok0 _
 rw [if_neg q]
 clear q
 by_cases q : o = 7 ∨ o = 8
 ·rw [if_pos q]
  unfold VPure.prt prtR
  by_cases q5 : a.k = 5
  ·rw [if_pos q5]
   (repeat' split) <;> first | exact er0 (by decide) | exact ok0 _
  ·rw [if_neg q5]
   by_cases q6 : a.k = 6 ∧ b.k = 4
   ·rw [if_pos q6]
    cases Part.fi a.n b.s with
    | none => exact er0 (by decide)
    | some q => exact ok0 _
   ·rw [if_neg q6]; exact er0 (by decide)
 rw [if_neg q]
 clear q
 by_cases q : o = 9
 ·rw [if_pos q]
  unfold cal
  by_cases q1 : b.i = 1
  ·rw [if_pos q1]
   refine mapI0 ?_
   unfold lenI
   (repeat' split) <;> first | exact er0 (by decide) | exact ok0 _
  rw [if_neg q1]
  by_cases q2 : b.i = 2
  ·rw [if_pos q2]; exact mapS0 (txt0 a)
  ·rw [if_neg q2]
   refine mapI0 ?_
   unfold tunI
   split <;> first | exact er0 (by decide) | exact ok0 _
 rw [if_neg q]
 clear q
 by_cases q : o = 11
 ·rw [if_pos q]
  refine mapB0 ?_
  unfold notT
  split <;> first | exact er0 (by decide) | exact ok0 _
 rw [if_neg q]
 clear q
 by_cases q : o = 20 ∨ o = 21 ∨ o = 22
 ·rw [if_pos q]
  refine mapI0 ?_
  unfold twX
  (repeat' split) <;> first | exact er0 (by decide) | exact ok0 _
 rw [if_neg q]
 clear q
 exact numb0 _ _ _
theorem kd_pos {o : Int} {n : Nat} (h : (n : Int) = kd o) (h1 : ¬ (1 ≤ o ∧ o ≤ 6)) : 0 < n ∧ (¬ (o = 7 ∨ o = 9 ∨ o = 10 ∨ o = 11) → 1 < n) ∧ (o = 31 → 2 < n) := by
 unfold kd at h
 rw [if_neg h1] at h
 by_cases h2 : o = 7 ∨ o = 9 ∨ o = 10 ∨ o = 11
 ·rw [if_pos h2] at h; exact ⟨by omega, fun q => (q h2).elim, fun q => by omega⟩
 rw [if_neg h2] at h
 by_cases h3 : o = 8 ∨ (12 ≤ o ∧ o ≤ 30)
 ·rw [if_pos h3] at h; exact ⟨by omega, fun _ => by omega, fun q => by omega⟩
 rw [if_neg h3] at h
 by_cases h4 : o = 31
 ·rw [if_pos h4] at h; exact ⟨by omega, fun _ => by omega, fun q => by omega⟩
 rw [if_neg h4] at h
 omega
theorem node0 {ρ : ByteArray → Option C} {o i : Int} {s : ByteArray} {p : List Ans} (hk : (p.length : Int) = kd o) (hp : ∀ q, q < p.length → N0 (p.getD q (.error 0))) : N0 (node ρ o i s p) := by
 unfold node
 by_cases q1 : o = 1
 ·rw [if_pos q1]; exact ok0 _
 rw [if_neg q1]
 by_cases q2 : o = 2 ∨ o = 3
 ·rw [if_pos q2]; exact ok0 _
 rw [if_neg q2]
 by_cases q4 : o = 4
 ·rw [if_pos q4]; exact ok0 _
 rw [if_neg q4]
 by_cases q5 : o = 5
 ·rw [if_pos q5]; exact ok0 _
 rw [if_neg q5]
 by_cases q6 : o = 6
 ·rw [if_pos q6]
  cases ρ s with
  | none => exact er0 (by decide)
  | some c => exact ok0 _
 rw [if_neg q6]
 obtain ⟨k0, k1, k2⟩ := kd_pos hk (by omega)
 have h0 := hp 0 k0
 by_cases q29 : o = 29 ∨ o = 30
 ·rw [if_pos q29]
  have h1 := hp 1 (k1 (by omega))
  exact bnd0 (bnd0 h0 isT0) fun b => by
   split
   ·exact ok0 _
   ·exact bnd0 (bnd0 h1 isT0) fun c => ok0 _
 rw [if_neg q29]
 by_cases q31 : o = 31
 ·rw [if_pos q31]
  have h1 := hp 1 (k1 (by omega))
  have h2 := hp 2 (k2 q31)
  exact bnd0 (bnd0 h0 isT0) fun b => by
   split
   ·exact h1
   ·exact h2
 rw [if_neg q31]
 refine bnd0 h0 fun a => bnd0 ?_ fun b => pr20 o a b
 unfold snd2
 by_cases r7 : o = 7
 ·rw [if_pos r7]; exact ok0 _
 rw [if_neg r7]
 by_cases r9 : o = 9
 ·rw [if_pos r9]; exact ok0 _
 rw [if_neg r9]
 by_cases r10 : o = 10 ∨ o = 11
 ·rw [if_pos r10]; exact ok0 _
 rw [if_neg r10]
 exact hp 1 (k1 (by omega))
theorem evL_len (ρ : ByteArray → Option C) : ∀ l : List Ex, (evL ρ l).length = l.length
 | [] => by rw [evL]; rfl
 | .mk o i s l :: t => by rw [evL, List.length_cons, List.length_cons, evL_len ρ t]
theorem evL0 {ρ : ByteArray → Option C} : ∀ (l : List Ex) (hg : gdL l) (q : Nat), q < l.length → N0 ((evL ρ l).getD q (.error 0))
 | [], _, q, h => by simp at h
 | .mk o i s l :: t, hg, 0, h => by
  rw [evL, List.getD_cons_zero]
  have hg' := gdL_cons.1 hg
  exact node0 (by rw [evL_len]; exact hg'.1.1) fun q hq => evL0 l hg'.1.2.2 q (by rwa [evL_len] at hq)
 | .mk o i s l :: t, hg, q + 1, h => by
  rw [evL, List.getD_cons_succ]
  exact evL0 t (gdL_cons.1 hg).2 q (by simpa using h)
theorem ev0 {ρ : ByteArray → Option C} {x : Ex} (hg : gd x) : N0 (ev ρ x) := node0 (by rw [evL_len]; exact hg.1) fun q hq => evL0 x.l hg.2.2 q (by rwa [evL_len] at hq)
theorem evA_ok {bs : List Bn} {x : Ex} (h : nOf (evA bs x) = 0) : evA bs x = .ok (vOf (evA bs x)) := by
 cases e : evA bs x with
 | ok c => rfl
 | error n =>
  exfalso
  rw [e] at h
  have hn : n = 0 := by simpa [nOf] using h
  subst hn
  unfold evA at e
  split at e
  ·rename_i hm
   exact ev0 (may_gd hm.1) e
  ·cases e
end Go.Proofs.YtdeigdbnnbikgaaGreatDoor.VEr
namespace Go.Proofs.YtdeigdbnnbikgaaGreatDoor.VSh
open Go.RowKit Base EPure VPure VSm VRs VVr VMp
theorem shallow_c {m n : Nat} {w : World} {o i : Int} {s : ByteArray} {lv v : Value} {x : Ex} {bs : List Bn} (hin : XBase.In false All w n (xv o i s lv) x) (hv : Bl w.heap.size (m + 1) w v bs) :
  Calls Tryz.prog 9 #[xv o i s lv, v] w fun e w' => (∃ b, e = .returned (.bool b) ∧ (b = true → ∀ c ∈ bs, Shallow.dep c.2 ≤ 4096)) ∧ Below w.heap.size w w' := by
 obtain ⟨va, vc, rfl, hvl, hvm, -, -, -, hB⟩ := hv
 obtain ⟨W0, hW0⟩ : ∃ W0, w.alloc (.cells #[.int .i64 o, .int .i64 i, .string s, lv] 24) = W0 := ⟨_, rfl⟩
 have b0 : Below w.heap.size w W0 := by rw [← hW0]; exact (Below.refl _ w).alloc (Nat.le_refl _) _
 have hs0 : W0.heap.size = w.heap.size + 1 := by rw [← hW0]; simp
 have q0 : W0.heap[w.heap.size]? = some (.cells #[.int .i64 o, .int .i64 i, .string s, lv] 24 (0, 0)) := by rw [← hW0]; exact heap_alloc_new w _
 have HB0 : Hid (Below w.heap.size w W0) := b0
 have HQ0 : Hid (W0.heap[w.heap.size]? = some (.cells #[.int .i64 o, .int .i64 i, .string s, lv] 24 (0, 0))) := q0
 have HIN : Hid (XBase.In false All w n (xv o i s lv) x) := hin
 have HBB : Hid _ := hB
 have HS0 : Hid (W0.heap.size = w.heap.size + 1) := hs0
 clear hin hB b0 q0 hs0
 go_enter Tryz.func9, Tryz.ntmps9
 go_wp2_with fail
 try rw [hW0]
 clear hW0
 go_loopw [5] (fun i' wr => ∃ q : Nat, q ≤ bs.length ∧ i' = .int .i64 q ∧ Below W0.heap.size W0 wr ∧ ∀ j (h : j < bs.length), j < q → Shallow.dep bs[j].2 ≤ 4096) (fun i' _ => bs.length - (intOf i').toNat)
 case atStart => exact ⟨0, by omega, rfl, Below.refl _ _, fun j h h' => by omega⟩
 case round =>
  obtain ⟨q, hq, rfl, hb, hall⟩ := hrel
  have HA : Hid (∀ j (h : j < bs.length), j < q → Shallow.dep bs[j].2 ≤ 4096) := hall
  have hsb := hb.size
  have hs0 := HS0.out
  have HBW : Hid (Below w.heap.size w wr) := HB0.out.trans (hb.mono HB0.out.size)
  have HBX : Hid (Below W0.heap.size W0 wr) := hb
  have hq0 := (hb.block w.heap.size (by omega)).trans HQ0.out
  obtain ⟨y0, y1, y2, y3⟩ := XBase.four_box hq0
  clear hall hb hq0
  by_cases hlt : q < bs.length
  ·have d0 : decide ((q : Int) < (bs.length : Int)) = true := by simp; omega
   rcases HBB.out with h | ⟨g, oo, rfl, hg, hc⟩
   ·rw [h] at hlt; simp at hlt
   obtain ⟨an, ln, cn, al, ll, cl, c0, c1, c2, c3, c4, c5, c6, hI⟩ := hc q hlt
   obtain ⟨B, hBq⟩ : ∃ B, bs[q] = B := ⟨_, rfl⟩
   rw [hBq] at c1 c2 c3 c4 hI
   have kw : ∀ (z : Nat) (u : Value), w.cell? ⟨g, z, none⟩ = some u → wr.cell? ⟨g, z, none⟩ = some u := fun z u h => (World.cell?_of_block (w := w) (HBW.out.block g hg)).trans h
   have k1 := kw _ _ c1
   have k2 := kw _ _ c2
   have k3 := kw _ _ c3
   have k4 := kw _ _ c4
   have k5 := kw _ _ c5
   have k6 := kw _ _ c6
   have hI2 : In false All wr (m + 1) (vl B.2.k B.2.b B.2.i B.2.s (.slice an ln cn) (.slice al ll cl)) B.2 := (hI.weak (S' := All) (fun _ _ => trivial) false id _ (Nat.le_refl _)).below HBW.out
   have cS := Shallow.shallow_c _ _ _ wr hI2
   have HBq : Hid (bs[q] = B) := hBq
   obtain ⟨D, hD⟩ : ∃ D, Shallow.dep B.2 = D := ⟨_, rfl⟩
   rw [hD] at cS
   have HD : Hid (Shallow.dep B.2 = D) := hD
   have hcap : bs.length ≤ vc := hvl
   generalize B.2.k = bk at *
   generalize B.2.b = bb at *
   generalize B.2.i = bi at *
   generalize B.2.s = bss at *
   clear hI hI2 hBq hD c0 c1 c2 c3 c4 c5 c6 kw hc
   by_cases h4 : D ≤ 4096
   ·have e4 : decide (D ≤ 4096) = true := decide_eq_true h4
    rw [e4] at cS
    go_wp2_with (first | (go_at_call 25; refine cS.mono ?_; rintro e W2 ⟨rfl, hb2⟩))
    have HB2 : Hid (Below W0.heap.size W0 W2) := HBX.out.trans (hb2.mono hsb)
    clear hb2
    go_roundw
    case rel =>
     refine ⟨q + 1, by omega, by go_num, HB2.out, fun j hj hjq => ?_⟩
     by_cases ej : j = q
     ·subst ej; rw [HBq.out, HD.out]; exact h4
     ·exact HA.out j hj (by omega)
    case measure => simp only [intOf]; omega
   ·have e4 : decide (D ≤ 4096) = false := decide_eq_false h4
    rw [e4] at cS
    go_wp2_with (first | (go_at_call 25; refine cS.mono ?_; rintro e W2 ⟨rfl, hb2⟩))
    go_ret
    exact ⟨⟨false, rfl, fun h => by cases h⟩, HBW.out.trans (hb2.mono HBW.out.size)⟩
  ·have d0 : decide ((q : Int) < (bs.length : Int)) = false := by simp; omega
   have cX := XSh.shallow_c (HIN.out.below HBW.out)
   go_wp2_with (first | (go_at_call 20; refine cX.mono ?_; rintro e W2 ⟨⟨b, rfl⟩, hb2⟩))
   go_ret
   refine ⟨⟨b, rfl, fun _ c hc => ?_⟩, HBW.out.trans (hb2.mono HBW.out.size)⟩
   obtain ⟨j, hj, rfl⟩ := List.mem_iff_getElem.1 hc
   exact HA.out j hj (by omega)
end Go.Proofs.YtdeigdbnnbikgaaGreatDoor.VSh

import Derived.BigQuiet
import Derived.Deep.QuietTactic
import Derived.Deep.RegionWith
import Derived.Test.YtiijfmdfccdagaaGreatDoorPM40
open Go.Proofs.Tryz
set_option linter.unusedVariables false
set_option maxRecDepth 20000
set_option maxHeartbeats 3200000
namespace Go.Proofs.YtiijfmdfccdagaaGreatDoor.GTn
open Go.RowKit Base VJn VRs GRe GZp GRn GKl GAn GIr
open VPure hiding evL
open TBase (T)
open KBase (Pt Fld Co RP RF)
open KVp (szL szL_cons szL_nil)
theorem through_no {m mc : Nat} {w : World} {cv v mv : Value} {cs : List Co} {c : C} {z : Int} (hcs : KBase.InL false (fun _ => True) w mc cv cs) (hin : Base.In false (fun _ => True) w (m + 1) v c) (hz : z ≠ 0)
  (hno : KNd.chk cs = z \/ (KNd.chk cs = 0 /\ (Measure.ms 0 0 (Walk.pl 1 c)).2.2 = z)) :
  Calls prog 27 #[cv, v, mv] w fun e w' => e = .returned (.int .i64 z) /\ Below w.heap.size w w' := by
 obtain ⟨an, ln, cn, al, ll, cl, rfl⟩ := in_shape hin
 obtain ⟨W, hW⟩ : ∃ W, (w.alloc (.cells #[.int .i64 c.k, .bool c.b, .int .i64 c.i, .string c.s, .slice an ln cn, .slice al ll cl] 26)).alloc (.cells #[.int .i64 0] 30) = W := ⟨_, rfl⟩
 have bW : Below w.heap.size w W := by rw [<- hW]; exact ((Below.refl _ w).alloc (Nat.le_refl _) _).alloc (by simp) _
 have sW : W.heap.size = w.heap.size + 2 := by rw [<- hW]; simp
 have zV : W.heap[w.heap.size]? = some (.cells #[.int .i64 c.k, .bool c.b, .int .i64 c.i, .string c.s, .slice an ln cn, .slice al ll cl] 26 (0, 0)) := by rw [<- hW, Below.heap_alloc _ _ _ (by simp), heap_alloc_new]
 have zM : W.heap[w.heap.size + 1]? = some (.cells #[.int .i64 0] 30 (0, 0)) := by
  rw [<- hW]
  have := heap_alloc_new (w.alloc (.cells #[.int .i64 c.k, .bool c.b, .int .i64 c.i, .string c.s, .slice an ln cn, .slice al ll cl] 26)) (.cells #[.int .i64 0] 30)
  rwa [World.size_alloc] at this
 have cC := KNd.check_c (m := mc) (w := W) (hcs.keep (Keep.of_below bW))
 have cV : Hid (∀ W1, Below w.heap.size w W1 -> Calls prog 11 #[.agg #[.int .i64 c.k, .bool c.b, .int .i64 c.i, .string c.s, .slice an ln cn, .slice al ll cl]] W1 fun e w' => e = .returned (.int .i64 (Measure.ms 0 0 (Walk.pl 1 c)).2.2) /\ Below W1.heap.size W1 w') := fun W1 h1 => GMw.check_all (hin.keep (w' := W1) (fun b hb hl => h1.block b hl))
 have HBW := hid bW
 have HZV := hid zV
 have HZM := hid zM
 obtain ⟨q0, q1, q2, q3, q4, q5⟩ := six_box zV
 have hz1 : (z == 0) = false := by simp [hz]
 clear hin bW zV zM hcs
 rcases hno with hno | ⟨hno, hno2⟩
 ·rw [hno] at cC
  clear hno cV
  go_enter_defers func27, ntmps27
  go_wp2_with fail
  try rw [hW]
  refine cC.mono ?_
  rintro e W1 ⟨rfl, b1⟩
  have hs1 := b1.size
  have HM1 := hid ((b1.block (w.heap.size + 1) (by omega)).trans HZM.out)
  have HB1 := hid (HBW.out.trans (b1.mono (by omega)))
  have k3 : W1.cell? ⟨w.heap.size + 1, 0, none⟩ = some (.int .i64 0) := by simp [World.cell?, HM1.out]
  have kf := Base.frozen_box HM1.out 0
  obtain ⟨W4, hW4⟩ : ∃ W4, W1.setCell ⟨w.heap.size + 1, 0, none⟩ (.int .i64 z) = W4 := ⟨_, rfl⟩
  have m4 : W4.cell? ⟨w.heap.size + 1, 0, none⟩ = some (.int .i64 z) := by rw [<- hW4]; have := GTr.heap_set W1 (w.heap.size + 1) 0 _ _ (.int .i64 z) HM1.out; simp [World.cell?, this]
  have HB4 : Hid (Below w.heap.size w W4) := by rw [<- hW4]; exact HB1.out.setCell (by show _ <= w.heap.size + 1; omega) _
  clear q0 q1 q2 q3 q4 q5 b1 cC
  go_wp2_with fail
  try rw [hW4]
  unfold bodyPostD
  simp [Leaves, results, results27, go_sem, m4]
  exact HB4.out
 ·rw [hno] at cC
  go_enter_defers func27, ntmps27
  go_wp2_with fail
  try rw [hW]
  refine cC.mono ?_
  rintro e W1 ⟨rfl, b1⟩
  have hs1 := b1.size
  have HB1 := hid (HBW.out.trans (b1.mono (by omega)))
  have HV1 := hid ((b1.block w.heap.size (by omega)).trans HZV.out)
  have HM1 := hid ((b1.block (w.heap.size + 1) (by omega)).trans HZM.out)
  have c2 := cV.out W1 HB1.out
  rw [hno2] at c2
  clear q0 q1 q2 q3 q4 q5 b1 cC hno hno2
  obtain ⟨q0, q1, q2, q3, q4, q5⟩ := six_box HV1.out
  go_wp2_with fail
  refine c2.mono ?_
  rintro e W2 ⟨rfl, b2⟩
  have hs2 := b2.size
  have HB2 := hid (HB1.out.trans (b2.mono (by omega)))
  have HM2 := hid ((b2.block (w.heap.size + 1) (by omega)).trans HM1.out)
  have k3 : W2.cell? ⟨w.heap.size + 1, 0, none⟩ = some (.int .i64 0) := by simp [World.cell?, HM2.out]
  have kf := Base.frozen_box HM2.out 0
  obtain ⟨W4, hW4⟩ : ∃ W4, W2.setCell ⟨w.heap.size + 1, 0, none⟩ (.int .i64 z) = W4 := ⟨_, rfl⟩
  have m4 : W4.cell? ⟨w.heap.size + 1, 0, none⟩ = some (.int .i64 z) := by rw [<- hW4]; have := GTr.heap_set W2 (w.heap.size + 1) 0 _ _ (.int .i64 z) HM2.out; simp [World.cell?, this]
  have HB4 : Hid (Below w.heap.size w W4) := by rw [<- hW4]; exact HB2.out.setCell (by show _ <= w.heap.size + 1; omega) _
  clear q0 q1 q2 q3 q4 q5 b2 c2 cV
  go_wp2_with fail
  try rw [hW4]
  unfold bodyPostD
  simp [Leaves, results, results27, go_sem, m4]
  exact HB4.out
open Walk (pl plL)
open Shallow (dep depL)
open JGd (code code_iff Gd)
theorem depL_pl : ∀ (l : List C) (d N : Nat), (∀ p ∈ plL d l, p.1 <= N) -> l = [] \/ d + depL l <= N + 1
 | [], _, _, _ => .inl rfl
 | .mk k b i s n l :: t, d, N, h => by
  rw [plL] at h
  have h0 : d <= N := h (d, .mk k b i s n l) (by simp)
  have h1 := depL_pl l (d + 1) N fun p hp => h p (by simp [hp])
  have h2 := depL_pl t d N fun p hp => h p (by simp [hp])
  refine .inr ?_
  rw [depL]
  have e1 : d + (depL l + 1) <= N + 1 := by
   rcases h1 with rfl | h1
   ·rw [depL]; omega
   ·omega
  have e2 : d + depL t <= N + 1 := by
   rcases h2 with rfl | h2
   ·rw [depL]; omega
   ·exact h2
  omega
theorem dep_code {c : C} (h : code c = 0) : dep c <= 24 := by
 have hp := (code_iff c).1 h
 have ha : ∀ p ∈ pl 1 c, p.1 <= 24 := fun p hp' => by
  obtain ⟨j, hj, rfl⟩ := List.mem_iff_getElem.1 hp'
  exact (hp j hj).2.1
 obtain ⟨k, b, i, s, n, l⟩ := c
 rw [pl] at ha
 have h1 := depL_pl l 2 24 fun p hp => ha p (by simp [hp])
 rw [dep]
 rcases h1 with rfl | h1
 ·rw [depL]; omega
 ·omega
theorem render_no {m mc : Nat} {w : World} {cv v : Value} {cs : List Co} {c : C} {z : Nat} (hcs : KBase.InL false (fun _ => True) w mc cv cs) (hin : Base.In false (fun _ => True) w (m + 1) v c) (hz : z ≠ 0) (hno : KNd.chk cs = z \/ (KNd.chk cs = 0 /\ (Measure.ms 0 0 (Walk.pl 1 c)).2.2 = z)) :
  Calls prog 9 #[cv, v] w fun e w' => RR w (.error z) e w' := by
 obtain ⟨an, ln, cn, al, ll, cl, rfl⟩ := in_shape hin
 obtain ⟨W0, hW0⟩ : ∃ W0, (w.alloc (.cells #[.int .i64 c.k, .bool c.b, .int .i64 c.i, .string c.s, .slice an ln cn, .slice al ll cl] 26)).alloc (.cells #[.slice none 0 0] 68) = W0 := ⟨_, rfl⟩
 have b0 : Below w.heap.size w W0 := by rw [<- hW0]; exact ((Below.refl _ w).alloc (Nat.le_refl _) _).alloc (by simp) _
 have s0 : W0.heap.size = w.heap.size + 2 := by rw [<- hW0]; simp
 refine render_of hW0 ((through_no (hcs.keep (Keep.of_below b0)) (hin.keep (w' := W0) (fun b _ hl => b0.block b hl)) (z := z) (by omega) hno).mono ?_)
 rintro e w' ⟨he, hb⟩
 exact ⟨hz, he, hb.mono (by omega)⟩
theorem render_good {m mc : Nat} {w : World} {cv v : Value} {cs : List Co} {c : C} (hcs : KBase.InL false (fun b => b < w.heap.size) w mc cv cs) (hin : Base.In false (fun b => b < w.heap.size) w (m + 1) v c) (hpos : 0 < szL cs) (hchk : KNd.chk cs = 0) (hms : (Measure.ms 0 0 (Walk.pl 1 c)).2.2 = 0) (ht : Tb w) :
  Calls prog 9 #[cv, v] w fun e w' => RR w (bnd (rnL (rn (szL cs) [c]) cs 4096 []) fun a => .ok a.1) e w' := by
 have hok := chk_oks hchk (ic_of mc cv cs hcs)
 have hg := in_gd hin hms
 have hsz := sz_ok hchk
 refine GRd.render_c hcs hin hpos hchk (by have := dep_code hms; omega) hms ht (rnL0 _ _ _ fun d hd x => rn0 _ 1 d (hok d hd) [c] x) (fun B Bb sv hz d hd => nds_all (by rw [hz, zs_len]; omega) _ [c] d (hok d hd) (fun e he => ?_) (by simp))
 rw [List.mem_singleton.1 he]
 exact hg
end Go.Proofs.YtiijfmdfccdagaaGreatDoor.GTn
namespace Go.Proofs.YtiijfmdfccdagaaGreatDoor.GRa
open Go.RowKit Base KNp KNd KAr VJn VRs GRe GRn GTh GTn
open VPure hiding evL
open TBase (T)
open KBase (Pt Fld Co RP RF)
open KVp (szL szL_cons szL_nil)
theorem own_ge (c : Co) (r s e l : Int) : 0 <= own c r s e l := by
 unfold own
 repeat' split
 all_goals omega
theorem ndL_ge : ∀ (n : Nat) (cs : List Co) (r s e l : Int), szL cs <= n -> 0 <= (ndL cs r s e l).2 := by
 intro n
 induction n with
 | zero =>
  intro cs r s e l hz
  cases cs with
  | nil => rw [ndL_nil]; exact Int.le_refl _
  | cons d t => rw [szL_cons] at hz; omega
 | succ n ih =>
  intro cs
  induction cs with
  | nil => intro r s e l hz; rw [ndL_nil]; exact Int.le_refl _
  | cons d t iht =>
   intro r s e l hz
   rw [szL_cons] at hz
   have h1 : 0 <= (ndL [d] r s e l).2 := by
    rw [ndL_one]
    split
    ·exact own_ge _ _ _ _ _
    ·split
     ·exact ih _ _ _ _ _ (by omega)
     ·exact ih _ _ _ _ _ (by omega)
   rw [ndL_cons]
   split
   ·exact h1
   ·exact iht _ _ _ _ (by omega)
theorem chk_ge (cs : List Co) : 0 <= chk cs := ndL_ge _ cs _ _ _ _ (Nat.le_refl _)
theorem ft_ge (c : C) (d q : Int) : 0 <= Fault.ft c d q := by
 unfold Fault.ft
 repeat' split
 all_goals decide
theorem ms_ge : ∀ (r : List (Nat × C)) (D k : Nat), 0 <= (Measure.ms D k r).2.2
 | [], _, _ => by rw [Measure.ms]; exact Int.le_refl _
 | (d, c) :: r, D, k => by
  rw [Measure.ms]
  split
  ·exact ms_ge r _ _
  ·exact ft_ge _ _ _
def vch (c : C) : Int := (Measure.ms 0 0 (Walk.pl 1 c)).2.2
def rnd (cs : List Co) (c : C) : Except Nat (List T) := if chk cs ≠ 0 then .error (chk cs).toNat else if vch c ≠ 0 then .error (vch c).toNat else bnd (rnL (rn (szL cs) [c]) cs 4096 []) fun a => .ok a.1
theorem render_nil {m mc : Nat} {w : World} {cv v : Value} {c : C} (hcs : KBase.InL false (fun b => b < w.heap.size) w mc cv []) (hin : Base.In false (fun b => b < w.heap.size) w (m + 1) v c) (hms : vch c = 0) (ht : Tb w) :
  Calls prog 9 #[cv, v] w fun e w' => RR w (.ok []) e w' := by
 obtain ⟨an, ln, cn, al, ll, cl, rfl⟩ := in_shape hin
 obtain ⟨W0, hW0⟩ : ∃ W0, (w.alloc (.cells #[.int .i64 c.k, .bool c.b, .int .i64 c.i, .string c.s, .slice an ln cn, .slice al ll cl] 26)).alloc (.cells #[.slice none 0 0] 68) = W0 := ⟨_, rfl⟩
 have b0 : Below w.heap.size w W0 := by rw [<- hW0]; exact ((Below.refl _ w).alloc (Nat.le_refl _) _).alloc (by simp) _
 have s0 : W0.heap.size = w.heap.size + 2 := by rw [<- hW0]; simp
 have hbb : W0.heap[w.heap.size + 1]? = some (.cells #[.slice none 0 0] 68 (0, 0)) := by
  rw [<- hW0]
  have := heap_alloc_new (w.alloc (.cells #[.int .i64 c.k, .bool c.b, .int .i64 c.i, .string c.s, .slice an ln cn, .slice al ll cl] 26)) (.cells #[.slice none 0 0] 68)
  rwa [World.size_alloc] at this
 exact render_of hW0 (through_nil (K := w.heap.size) (m := m) (mc := mc) (cs := []) ⟨by omega, by omega⟩ (hcs.keep (w' := W0) (fun b hb _ => b0.block b hb)) (hin.keep (w' := W0) (fun b hb _ => b0.block b hb)) hbb rfl (by unfold chk; rw [ndL_nil]) (by have := dep_code hms; omega) hms (GWf.code_wf hms) (fun W hW => ht W (b0.trans hW)))
theorem render_all {m mc : Nat} {w : World} {cv v : Value} {cs : List Co} {c : C} (hcs : KBase.InL false (fun b => b < w.heap.size) w mc cv cs) (hin : Base.In false (fun b => b < w.heap.size) w (m + 1) v c) (ht : Tb w) :
  Calls prog 9 #[cv, v] w fun e w' => RR w (rnd cs c) e w' := by
 have hcs' : KBase.InL false (fun _ => True) w mc cv cs := hcs.weak (fun _ _ => trivial) false id mc (Nat.le_refl _)
 have hin' : Base.In false (fun _ => True) w (m + 1) v c := hin.weak (fun _ _ => trivial) false id _ (Nat.le_refl _)
 have g1 := chk_ge cs
 have g2 : 0 <= vch c := ms_ge _ _ _
 unfold rnd
 by_cases h1 : chk cs ≠ 0
 ·rw [if_pos h1]
  exact render_no hcs' hin' (by omega) (.inl (by omega))
 rw [if_neg h1]
 by_cases h2 : vch c ≠ 0
 ·rw [if_pos h2]
  exact render_no hcs' hin' (by omega) (.inr ⟨by omega, by show vch c = _; omega⟩)
 rw [if_neg h2]
 cases cs with
 | nil => exact render_nil hcs hin (by omega) ht
 | cons d t => exact render_good hcs hin (by rw [szL_cons]; omega) (by omega) (by show vch c = 0; omega) ht
end Go.Proofs.YtiijfmdfccdagaaGreatDoor.GRa
namespace Go.Proofs.YtiijfmdfccdagaaGreatDoor.TAttrs
open Go.RowKit TBase TPure
theorem drewN_below {n : Nat} {w w' : World} (h : Below n w w') (k : Nat) : Below n w (w'.drewN k) := h.trans ⟨rfl, rfl, rfl, by simp, fun _ _ => by simp⟩
theorem aok_no1 {n : List (ByteArray × ByteArray)} {i : Nat} {h : i < n.length} (h1 : UBase.word n[i].1 45 = false) : aok n i h = false := by simp [aok, h1]
theorem aok_no2 {n : List (ByteArray × ByteArray)} {i : Nat} {h : i < n.length} (h1 : tg n[i].2 = false) : aok n i h = false := by simp [aok, h1]
theorem aok_no3 {n : List (ByteArray × ByteArray)} {i : Nat} {h : i + 1 < n.length} (h1 : lt (n[i]'(by omega)).1 n[i + 1].1 = false) : aok n (i + 1) h = false := by simp [aok, h1]
theorem aok_yes0 {n : List (ByteArray × ByteArray)} {h : 0 < n.length} (h1 : UBase.word n[0].1 45 = true) (h2 : tg n[0].2 = true) : aok n 0 h = true := by simp [aok, h1, h2]
theorem aok_yes {n : List (ByteArray × ByteArray)} {i : Nat} {h : i + 1 < n.length} (h1 : UBase.word n[i + 1].1 45 = true) (h2 : tg n[i + 1].2 = true) (h3 : lt (n[i]'(by omega)).1 n[i + 1].1 = true) : aok n (i + 1) h = true := by simp [aok, h1, h2, h3]
theorem attrs_c (v : Value) (n : List (ByteArray × ByteArray)) (w : World) (h : Ax false All w v n) :
  Calls prog 151 #[v] w fun e w' => e = .returned (.bool (attrsOK n)) /\ Below w.heap.size w w' := by
 obtain ⟨a, cap, rfl, hlc, hm, hlen, hsz, hnil, hN⟩ := h
 go_enter func151, ntmps151
 go_wp2_with fail
 go_loopw [7] (fun i wr => ∃ q : Nat, q <= n.length /\ i = .int .i64 q /\ (∀ j (h : j < n.length), j < q -> aok n j h = true) /\ Below w.heap.size w wr) (fun i _ => n.length - (intOf i).toNat)
 case atStart => exact ⟨0, by omega, rfl, fun j _ h => by omega, Below.refl _ _⟩
 case round =>
  obtain ⟨q, hq, rfl, hall, hb⟩ := hrel
  by_cases hlt : q < n.length
  ·have hn := hsz n[q] (List.getElem_mem hlt)
   obtain ⟨g, o, rfl, -, hc, hd⟩ := attr_at hN hlt
   have hc := below_cell hc hb
   have hd := below_cell hd hb
   have HA : Hid (∀ j (h : j < n.length), j < q -> aok n j h = true) := hall
   clear hall
   obtain ⟨x, hx⟩ : ∃ x, n[q].1 = x := ⟨_, rfl⟩
   obtain ⟨y, hy⟩ : ∃ y, n[q].2 = y := ⟨_, rfl⟩
   rw [hx] at hc hn
   rw [hy] at hd hn
   have Hx : Hid (n[q].1 = x) := hx
   have Hy : Hid (n[q].2 = y) := hy
   clear hx hy
   have b0 : Below wr.heap.size wr (wr.alloc (.cells #[.string x, .string y] 63)) := (Below.refl _ _).alloc (Nat.le_refl _) _
   have k0 := (two_box (heap_alloc_new wr (.cells #[.string x, .string y] 63))).1
   have c67 := UWord.tag_c x (by omega) (wr.alloc (.cells #[.string x, .string y] 63))
   have c66 := short_c y (by omega) (wr.alloc (.cells #[.string x, .string y] 63))
   cases e1 : UBase.word x 45 with
   | false =>
    rw [e1] at c67
    go_wp2_with (first | (go_at_call 149; refine c67.mono ?_; rintro e w' ⟨rfl, rfl⟩))
    go_ret
    exact ⟨by rw [attrsOK_false hlt (aok_no1 (by rw [Hx.out]; exact e1))]; rfl, nx hb b0⟩
   | true =>
    rw [e1] at c67
    cases e2 : tg y with
    | false =>
     rw [e2] at c66
     go_wp2_with (first | (go_at_call 149; refine c67.mono ?_; rintro e w' ⟨rfl, rfl⟩) | (go_at_call 63; refine c66.mono ?_; rintro e w1 ⟨rfl, b1⟩))
     go_ret
     exact ⟨by rw [attrsOK_false hlt (aok_no2 (by rw [Hy.out]; exact e2))]; rfl, nx (nx hb b0) b1⟩
    | true =>
     rw [e2] at c66
     cases q with
     | zero =>
      rw [Nat.zero_mul, Nat.add_zero] at hc hd
      go_wp2_with (first | (go_at_call 149; refine c67.mono ?_; rintro e w' ⟨rfl, rfl⟩) | (go_at_call 63; refine c66.mono ?_; rintro e w1 ⟨rfl, b1⟩))
      go_quiet (fail)
      go_wp2_with fail
      go_roundw
      all_goals first
       | (case rel =>
         refine ⟨1, by omega, by go_num, fun j hj hj1 => ?_, drewN_below (nx (nx hb b0) b1) nq⟩
         obtain rfl : j = 0 := by omega
         exact aok_yes0 (by rw [Hx.out]; exact e1) (by rw [Hy.out]; exact e2))
       | (case measure => simp only [intOf]; omega)
     | succ j =>
      obtain ⟨g', o', E, -, hp, -⟩ := attr_at hN (show j < n.length by omega)
      obtain ⟨rfl, rfl⟩ : g = g' /\ o = o' := by cases E; exact ⟨rfl, rfl⟩
      have hp := below_cell hp (nx hb b0)
      obtain ⟨p, hp'⟩ : ∃ p, (n[j]'(by omega)).1 = p := ⟨_, rfl⟩
      rw [hp'] at hp
      have Hp : Hid ((n[j]'(by omega)).1 = p) := hp'
      clear hp' E
      have hge := cmpB_ge p x
      have c59 := fun w => cmp_c p x w
      generalize cmpB p x = cc at *
      cases e3 : lt p x with
      | false =>
       rw [e3] at hge
       have hge := hge
       go_wp2_with (first | (go_at_call 149; refine c67.mono ?_; rintro e w' ⟨rfl, rfl⟩) | (go_at_call 63; refine c66.mono ?_; rintro e w1 ⟨rfl, b1⟩; have hp1 := below_cell hp b1; have k01 := below_cell k0 b1))
       go_quiet ((go_at_call 84; exact Calls.quiet_of_same (c59 _)))
       go_wp2_with fail
       go_ret
       exact ⟨by rw [attrsOK_false hlt (aok_no3 (by rw [Hx.out, Hp.out]; exact e3))]; rfl, drewN_below (nx (nx hb b0) b1) nq⟩
      | true =>
       rw [e3] at hge
       have hge := hge
       go_wp2_with (first | (go_at_call 149; refine c67.mono ?_; rintro e w' ⟨rfl, rfl⟩) | (go_at_call 63; refine c66.mono ?_; rintro e w1 ⟨rfl, b1⟩; have hp1 := below_cell hp b1; have k01 := below_cell k0 b1))
       go_quiet ((go_at_call 84; exact Calls.quiet_of_same (c59 _)))
       go_wp2_with fail
       go_roundw
       all_goals first
        | (case rel =>
          refine ⟨j + 2, by omega, by go_num, fun i hi hi1 => ?_, drewN_below (nx (nx hb b0) b1) nq⟩
          by_cases ei : i = j + 1
          ·subst ei
           exact aok_yes (by rw [Hx.out]; exact e1) (by rw [Hy.out]; exact e2) (by rw [Hx.out, Hp.out]; exact e3)
          ·exact HA.out i hi (by omega))
        | (case measure => simp only [intOf]; omega)
  ·have hlt' : decide ((q : Int) < (n.length : Int)) = false := by simp; omega
   go_wp2_with fail
   go_ret
   exact ⟨by rw [attrsOK_true fun i hi => hall i hi (by omega)]; rfl, hb⟩
end Go.Proofs.YtiijfmdfccdagaaGreatDoor.TAttrs
namespace Go.Proofs.YtiijfmdfccdagaaGreatDoor.TMay
open Go.RowKit TBase TPure TAttrs
theorem bx {w : World} {o : Obj} : Below w.heap.size w (w.alloc o) := (Below.refl _ _).alloc (Nat.le_refl _) _
theorem mayBe_c (m : Nat) (v : Value) (c : T) (w : World) (h : In false All w m v c) :
  Calls prog 112 #[v] w fun e w' => e = .returned (.bool (alone c)) /\ Below w.heap.size w w' := by
 obtain ⟨m', nv, lv, -, rfl, hg, hs, hn, hl⟩ := h.shape
 have hn0 := hn
 have hl0 := hl
 obtain ⟨a1, c1, rfl, hk1, hk2, hk3, -⟩ := hn
 obtain ⟨a2, c2, rfl, hj1, hj2, hj3, -⟩ := hl
 have c66 := short_c c.s (by omega) (w.alloc (.cells #[.string c.g, .string c.s, .slice a1 c.n.length c1, .slice a2 c.l.length c2] 50))
 have c67 := UWord.tag_c c.g (by omega) (w.alloc (.cells #[.string c.g, .string c.s, .slice a1 c.n.length c1, .slice a2 c.l.length c2] 50))
 have c68 := attrs_c _ c.n _ (hn0.below (bx (o := .cells #[.string c.g, .string c.s, .slice a1 c.n.length c1, .slice a2 c.l.length c2] 50)))
 unfold alone
 clear hn0 hl0 h
 generalize c.n.length = n1 at *
 generalize c.l.length = n2 at *
 generalize UBase.word c.g 45 = b1 at *
 generalize attrsOK c.n = b2 at *
 generalize tg c.s = b3 at *
 generalize c.g = g at *
 generalize c.s = s at *
 have b0 := bx (w := w) (o := .cells #[.string g, .string s, .slice a1 n1 c1, .slice a2 n2 c2] 50)
 cases hge : g.toList.isEmpty with
 | true =>
  rw [if_pos rfl]
  by_cases h1 : n1 = 0
  ·subst h1
   by_cases h2 : n2 = 0
   ·subst h2
    go_enter func112, ntmps112
    go_wp2_with (first | (go_at_call 63; refine c66.mono ?_; rintro e w1 ⟨rfl, b1⟩))
    go_ret
    exact ⟨by simp, nx b0 b1⟩
   ·have h2' : ((n2 : Int) == 0) = false := by simp; omega
    go_enter func112, ntmps112
    go_wp2_with fail
    go_ret
    exact ⟨by simp [h2], b0⟩
  ·have h1' : ((n1 : Int) == 0) = false := by simp; omega
   go_enter func112, ntmps112
   go_wp2_with fail
   go_ret
   exact ⟨by simp [h1], b0⟩
 | false =>
  rw [if_neg (by simp)]
  cases b1 with
  | false =>
   go_enter func112, ntmps112
   go_wp2_with (first | (go_at_call 149; refine c67.mono ?_; rintro e w1 ⟨rfl, rfl⟩))
   go_ret
   exact ⟨by simp, b0⟩
  | true =>
   cases hse : s.toList.isEmpty with
   | false =>
    go_enter func112, ntmps112
    go_wp2_with (first | (go_at_call 149; refine c67.mono ?_; rintro e w1 ⟨rfl, rfl⟩))
    go_ret
    exact ⟨by simp, b0⟩
   | true =>
    go_enter func112, ntmps112
    go_wp2_with (first | (go_at_call 149; refine c67.mono ?_; rintro e w1 ⟨rfl, rfl⟩) | (go_at_call 151; refine c68.mono ?_; rintro e w2 ⟨rfl, b2⟩))
    go_ret
    exact ⟨by simp, nx b0 b2⟩
def flt (c : T) (d k : Nat) : Nat := if 4096 < k then 702 else if 64 < d then 701 else if alone c = true then 0 else 700
theorem fault_c (m : Nat) (v : Value) (c : T) (d k : Nat) (hd : d <= 65) (hk : k <= 4097) (w : World) (h : In false All w m v c) :
  Calls prog 79 #[v, .int .i64 d, .int .i64 k] w fun e w' => e = .returned (.int .i64 (flt c d k : Nat)) /\ Below w.heap.size w w' := by
 obtain ⟨v0, v1, v2, v3, rfl, -⟩ := h.four
 have c60 := mayBe_c m _ c _ (h.below (bx (o := .cells #[v0, v1, v2, v3] 50)))
 unfold flt
 generalize alone c = b at *
 clear h
 by_cases h1 : 4096 < k
 ·have h1' : decide ((4096 : Int) < (k : Int)) = true := by simp; omega
  rw [if_pos h1]
  go_enter func79, ntmps79
  go_wp2_with fail
  go_ret
  exact ⟨rfl, bx⟩
 ·have h1' : decide ((4096 : Int) < (k : Int)) = false := by simp; omega
  rw [if_neg h1]
  by_cases h2 : 64 < d
  ·have h2' : decide ((64 : Int) < (d : Int)) = true := by simp; omega
   rw [if_pos h2]
   go_enter func79, ntmps79
   go_wp2_with fail
   go_ret
   exact ⟨rfl, bx⟩
  ·have h2' : decide ((64 : Int) < (d : Int)) = false := by simp; omega
   rw [if_neg h2]
   cases b with
   | true =>
    go_enter func79, ntmps79
    go_wp2_with (first | (go_at_call 112; refine c60.mono ?_; rintro e w1 ⟨rfl, b1⟩))
    go_ret
    exact ⟨rfl, nx bx b1⟩
   | false =>
    go_enter func79, ntmps79
    go_wp2_with (first | (go_at_call 112; refine c60.mono ?_; rintro e w1 ⟨rfl, b1⟩))
    go_ret
    exact ⟨rfl, nx bx b1⟩
end Go.Proofs.YtiijfmdfccdagaaGreatDoor.TMay
namespace Go.Proofs.YtiijfmdfccdagaaGreatDoor.TVisit
open Go.RowKit TBase TPure TMay
def vis : List T -> Nat -> Nat -> Nat -> Nat × Nat × Nat
 | [], _, k, e => (k, e, 0)
 | .mk g s n l :: cs, d, k, e =>
  if flt (.mk g s n l) d (k + 1) = 0 then
   if (vis l (d + 1) (k + 1) (max e d)).2.2 = 0 then vis cs d (vis l (d + 1) (k + 1) (max e d)).1 (vis l (d + 1) (k + 1) (max e d)).2.1 else vis l (d + 1) (k + 1) (max e d)
  else (k + 1, max e d, flt (.mk g s n l) d (k + 1))
theorem vis_cons (c : T) (cs : List T) (d k e : Nat) : vis (c :: cs) d k e =
  if flt c d (k + 1) = 0 then
   if (vis c.l (d + 1) (k + 1) (max e d)).2.2 = 0 then vis cs d (vis c.l (d + 1) (k + 1) (max e d)).1 (vis c.l (d + 1) (k + 1) (max e d)).2.1 else vis c.l (d + 1) (k + 1) (max e d)
  else (k + 1, max e d, flt c d (k + 1)) := by
 obtain ⟨g, s, n, l⟩ := c
 rw [vis]
 rfl
theorem vis_nil (d k e : Nat) : vis [] d k e = (k, e, 0) := by rw [vis]
theorem flt_zero {c : T} {d k : Nat} (h : flt c d k = 0) : k <= 4096 /\ d <= 64 /\ alone c = true := by
 unfold flt at h
 split at h
 ·omega
 ·split at h
  ·omega
  ·split at h
   ·next h3 => exact ⟨by omega, by omega, h3⟩
   ·omega
theorem flt_le (c : T) (d k : Nat) : flt c d k <= 702 := by
 unfold flt
 repeat' split
 all_goals omega
theorem vis_ok : ∀ (m : Nat) (l : List T) (d k e : Nat), SizeOf.sizeOf l <= m -> k <= 4096 -> e <= 64 -> (vis l d k e).2.2 <= 702 /\ ((vis l d k e).2.2 = 0 -> (vis l d k e).1 <= 4096 /\ (vis l d k e).2.1 <= 64) := by
 intro m
 induction m with
 | zero =>
  intro l d k e hm hk he
  cases l with
  | nil => rw [vis_nil]; exact ⟨by simp, fun _ => ⟨hk, he⟩⟩
  | cons c cs => simp at hm
 | succ m ih =>
  intro l d k e hm hk he
  cases l with
  | nil => rw [vis_nil]; exact ⟨by simp, fun _ => ⟨hk, he⟩⟩
  | cons c cs =>
   obtain ⟨g, s, n, l⟩ := c
   simp at hm
   rw [vis_cons]
   by_cases h1 : flt (.mk g s n l) d (k + 1) = 0
   ·rw [if_pos h1]
    obtain ⟨h2, h3, -⟩ := flt_zero h1
    obtain ⟨i0, i1⟩ := ih l (d + 1) (k + 1) (max e d) (by omega) h2 (by omega)
    by_cases h4 : (vis (T.mk g s n l).l (d + 1) (k + 1) (max e d)).2.2 = 0
    ·rw [if_pos h4]
     obtain ⟨j1, j2⟩ := i1 h4
     exact ih cs d _ _ (by omega) j1 j2
    ·rw [if_neg h4]
     exact ⟨i0, fun h => (h4 h).elim⟩
   ·rw [if_neg h1]
    exact ⟨flt_le _ _ _, fun h => (h1 h).elim⟩
def Lo (P : Nat) : Nat -> Prop := fun b => b < P
theorem keep_lo {P : Nat} {w w' : World} (h : Below P w w') : Keep (Lo P) w w' := fun b hb _ => h.block b hb
theorem stepped {wr W0 : World} {P : Nat} {y0 y1 x0 x1 v0 v1 v2 v3 : Value} {t t' : TypeId} (hp : wr.heap[P]? = some (.cells #[y0, y1] t (0, 0)))
  (h : ((wr.setCell ⟨P, 0, none⟩ x0).setCell ⟨P, 1, none⟩ x1).alloc (.cells #[v0, v1, v2, v3] t') = W0) :
  W0.heap[P]? = some (.cells #[x0, x1] t (0, 0)) /\ Below P wr W0 /\ W0.heap[wr.heap.size]? = some (.cells #[v0, v1, v2, v3] t' (0, 0)) := by
 have hlt := (Array.getElem?_eq_some_iff.1 hp).1
 have hs : ((wr.setCell ⟨P, 0, none⟩ x0).setCell ⟨P, 1, none⟩ x1).heap.size = wr.heap.size := by simp [World.setCell]
 subst h
 refine ⟨?_, ?_, ?_⟩
 ·rw [Below.heap_alloc _ _ _ (by rw [hs]; exact hlt), block_set (block_set hp _) _]
  rfl
 ·exact (((Below.refl P wr).setCell (p := ⟨P, 0, none⟩) (Nat.le_refl _) _).setCell (p := ⟨P, 1, none⟩) (Nat.le_refl _) _).alloc (by rw [hs]; omega) _
 ·have := heap_alloc_new ((wr.setCell ⟨P, 0, none⟩ x0).setCell ⟨P, 1, none⟩ x1) (.cells #[v0, v1, v2, v3] t')
  rwa [hs] at this
def Visits (m : Nat) : Prop := ∀ (v : Value) (l : List T) (d k e P : Nat) (w : World), InL false (Lo P) w m v l -> w.heap[P]? = some (.cells #[.int .i64 k, .int .i64 e] 79 (0, 0)) -> k <= 4096 -> e <= 64 -> d <= 65 ->
  Calls prog 52 #[v, .int .i64 d, .pointer (some ⟨P, 0, none⟩)] w fun r w' => r = .returned (.int .i64 ((vis l d k e).2.2 : Nat)) /\ Below P w w' /\
   Hid ((vis l d k e).2.2 = 0 -> w'.heap[P]? = some (.cells #[.int .i64 ((vis l d k e).1 : Nat), .int .i64 ((vis l d k e).2.1 : Nat)] 79 (0, 0)))
theorem visit_of (m : Nat) (ih : ∀ m', m = m' + 1 -> Visits m') : Visits m := by
 intro v l d k e P w h hP hk he hd
 obtain ⟨a, cap, rfl, hlc, hcm, hlen, hnil, hL⟩ := h
 have H : Hid (∀ m', m = m' + 1 -> Visits m') := ih
 clear ih
 obtain ⟨V, hV⟩ : ∃ V, vis l d k e = V := ⟨_, rfl⟩
 rw [hV]
 have HV : Hid (vis l d k e = V) := hV
 clear hV
 have hPw := (Array.getElem?_eq_some_iff.1 hP).1
 go_enter func52, ntmps52
 go_wp2_with fail
 go_loopw [13] (fun i wr => ∃ (q kq eq : Nat), q <= l.length /\ i = .int .i64 q /\ vis (l.drop q) d kq eq = V /\ kq <= 4096 /\ eq <= 64 /\ Below P w wr /\ wr.heap[P]? = some (.cells #[.int .i64 kq, .int .i64 eq] 79 (0, 0))) (fun i _ => l.length - (intOf i).toNat)
 case atStart => exact ⟨0, k, e, by omega, rfl, by rw [List.drop_zero]; exact HV.out, hk, he, Below.refl _ _, hP⟩
 case round =>
  obtain ⟨q, kq, eq, hq, rfl, hv, hkq, heq, hb, hp⟩ := hrel
  have Hv : Hid (vis (l.drop q) d kq eq = V) := hv
  clear hv
  by_cases hlt : q < l.length
  ·obtain ⟨g, o, u, rfl, hgP, hu, hin⟩ := elem_at hL hlt
   have hu := (keep_lo hb).four hgP hu
   have hin := hin.keep (keep_lo hb)
   obtain ⟨v0, v1, v2, v3, rfl, d0, d1, d2, d3⟩ := hu
   obtain ⟨m', a1, c1, a2, c2, hm, rfl, rfl, rfl, rfl, -, -, hn', hl'⟩ := hin.kinds
   have hcons : l.drop q = l[q] :: l.drop (q + 1) := List.drop_eq_getElem_cons hlt
   have HV2 := Hv.out
   rw [hcons, vis_cons] at HV2
   clear Hv hcons
   obtain ⟨k0, k1⟩ := two_box hp
   have f0 := frozen_box hp 0
   have f1 := frozen_box hp 1
   have hPr := (Array.getElem?_eq_some_iff.1 hp).1
   by_cases hde : eq < d
   ·have hmx : max eq d = d := by omega
    have hmi : max (eq : Int) (d : Int) = (d : Int) := by omega
    rw [hmx] at HV2
    have Hv : Hid ((if flt l[q] d (kq + 1) = 0 then if (vis l[q].l (d + 1) (kq + 1) d).2.2 = 0 then vis (l.drop (q + 1)) d (vis l[q].l (d + 1) (kq + 1) d).1 (vis l[q].l (d + 1) (kq + 1) d).2.1 else vis l[q].l (d + 1) (kq + 1) d else (kq + 1, d, flt l[q] d (kq + 1))) = V) := HV2
    clear HV2
    go_wp2_with fail
    obtain ⟨W0, hW0⟩ : ∃ W0, (((wr.setCell ⟨P, 0, none⟩ (.int .i64 ((kq : Int) + 1))).setCell ⟨P, 1, none⟩ (.int .i64 (d : Nat))).alloc (.cells #[.string l[q].g, .string l[q].s, .slice a1 l[q].n.length c1, .slice a2 l[q].l.length c2] 50)) = W0 := ⟨_, rfl⟩
    rw [hW0]
    obtain ⟨p0, b0, x0⟩ := stepped hp hW0
    have hin0 := (hin.keep (keep_lo b0)).below (Below.refl W0.heap.size W0).drew
    have c54 := fault_c m _ l[q] d (kq + 1) hd (by omega) W0.drew hin0.plain
    obtain ⟨F, hF⟩ : ∃ F, flt l[q] d (kq + 1) = F := ⟨_, rfl⟩
    rw [hF] at c54
    have hFl := flt_le l[q] d (kq + 1)
    rw [hF] at hFl
    have HF : Hid (flt l[q] d (kq + 1) = F) := hF
    clear hF
    obtain ⟨t0, t1⟩ := two_box p0
    obtain ⟨y0, y1, y2, y3⟩ := four_box x0
    have hPs := (Array.getElem?_eq_some_iff.1 p0).1
    have hXs := (Array.getElem?_eq_some_iff.1 x0).1
    have HP0 : Hid (W0.heap[P]? = some (.cells #[.int .i64 (kq + 1 : Nat), .int .i64 (d : Nat)] 79 (0, 0))) := p0
    have HX0 : Hid (W0.heap[wr.heap.size]? = some (.cells #[.string l[q].g, .string l[q].s, .slice a1 l[q].n.length c1, .slice a2 l[q].l.length c2] 50 (0, 0))) := x0
    have Hl : Hid (InL false (Lo P) wr m' (.slice a2 l[q].l.length c2) l[q].l) := hl'
    have Hb0 : Hid (Below P wr W0) := b0
    have Hb : Hid (Below P w wr) := hb
    clear hin hin0 hW0 d0 d1 d2 d3 k0 k1 f0 f1 hl' hn' p0 x0 b0 hb hp hL
    by_cases hF0 : F = 0
    ·subst hF0
     obtain ⟨z1, z2, -⟩ := flt_zero HF.out
     go_region_with (go_at_call 79; refine c54.mono ?_; rintro e w1 ⟨rfl, b1⟩)
     all_goals
      have p1 := (b1.block P hPs).trans HP0.out
      have x1 := (b1.block wr.heap.size hXs).trans HX0.out
      have bw1 : Below P wr w1 := (Hb0.out.drew).trans (b1.mono (by show P <= W0.heap.size; omega))
      have c40 := H.out m' hm _ _ (d + 1) (kq + 1) d P w1 (Hl.out.keep (keep_lo bw1)) p1 z1 (by omega) (by omega)
      obtain ⟨g0, g1, g2, g3⟩ := four_box x1
      obtain ⟨R, hR⟩ : ∃ R, vis l[q].l (d + 1) (kq + 1) d = R := ⟨_, rfl⟩
      have hRo := (vis_ok _ l[q].l (d + 1) (kq + 1) d (Nat.le_refl _) z1 (by omega))
      rw [hR] at c40 hRo
      have hV2 := Hv.out
      rw [if_pos HF.out, hR] at hV2
      clear hR p1 x1
      by_cases hR0 : R.2.2 = 0
      ·obtain ⟨r1, r2⟩ := hRo.2 hR0
       rw [if_pos hR0] at hV2
       rw [hR0] at c40
       have HR0 : Hid (R.2.2 = 0) := hR0
       have HV3 : Hid (vis (l.drop (q + 1)) d R.1 R.2.1 = V) := hV2
       clear hV2 hR0 hRo
       go_wp2_with (first | (go_at_call 52; refine c40.mono ?_; rintro e w2 ⟨rfl, b2, p2⟩))
       go_roundw
       case rel => exact ⟨q + 1, R.1, R.2.1, by omega, by go_num, HV3.out, r1, r2, (Hb.out.trans bw1).trans b2, p2.out (by first | rfl | trivial)⟩
       case measure => simp only [intOf]; omega
      ·rw [if_neg hR0] at hV2
       have HV3 : Hid (R = V) := hV2
       obtain ⟨R1, R2, R3⟩ := R
       have hRl : R3 <= 702 := hRo.1
       have hR1 : ((R3 : Int) == 0) = false := by have : ¬ R3 = 0 := hR0; simp; omega
       simp only at c40
       clear hV2 hRo hR0
       go_wp2_with (first | (go_at_call 52; refine c40.mono ?_; rintro e w2 ⟨rfl, b2, p2⟩))
       go_ret
       refine ⟨by rw [<- HV3.out]; rfl, (Hb.out.trans bw1).trans b2, ?_⟩
       rw [<- HV3.out]
       exact p2
    ·have hF1 : ((F : Int) == 0) = false := by simp; omega
     have hV2 := Hv.out
     rw [if_neg (by rw [HF.out]; exact hF0), HF.out] at hV2
     have HV3 : Hid ((kq + 1, d, F) = V) := hV2
     have HF0 : Hid (¬ F = 0) := hF0
     clear hV2 hF0
     go_region_with (go_at_call 79; refine c54.mono ?_; rintro e w1 ⟨rfl, b1⟩)
     all_goals
      have bw1 : Below P wr w1 := (Hb0.out.drew).trans (b1.mono (by show P <= W0.heap.size; omega))
      go_wp2_with fail
      go_ret
      refine ⟨by rw [<- HV3.out]; rfl, Hb.out.trans bw1, ?_⟩
      rw [<- HV3.out]
      exact fun h => (HF0.out h).elim
   ·have hmx : max eq d = eq := by omega
    have hmi : max (eq : Int) (d : Int) = (eq : Int) := by omega
    rw [hmx] at HV2
    have Hv : Hid ((if flt l[q] d (kq + 1) = 0 then if (vis l[q].l (d + 1) (kq + 1) eq).2.2 = 0 then vis (l.drop (q + 1)) d (vis l[q].l (d + 1) (kq + 1) eq).1 (vis l[q].l (d + 1) (kq + 1) eq).2.1 else vis l[q].l (d + 1) (kq + 1) eq else (kq + 1, eq, flt l[q] d (kq + 1))) = V) := HV2
    clear HV2
    go_wp2_with fail
    obtain ⟨W0, hW0⟩ : ∃ W0, (((wr.setCell ⟨P, 0, none⟩ (.int .i64 ((kq : Int) + 1))).setCell ⟨P, 1, none⟩ (.int .i64 (eq : Nat))).alloc (.cells #[.string l[q].g, .string l[q].s, .slice a1 l[q].n.length c1, .slice a2 l[q].l.length c2] 50)) = W0 := ⟨_, rfl⟩
    rw [hW0]
    obtain ⟨p0, b0, x0⟩ := stepped hp hW0
    have hin0 := (hin.keep (keep_lo b0)).below (Below.refl W0.heap.size W0).drew
    have c54 := fault_c m _ l[q] d (kq + 1) hd (by omega) W0.drew hin0.plain
    obtain ⟨F, hF⟩ : ∃ F, flt l[q] d (kq + 1) = F := ⟨_, rfl⟩
    rw [hF] at c54
    have hFl := flt_le l[q] d (kq + 1)
    rw [hF] at hFl
    have HF : Hid (flt l[q] d (kq + 1) = F) := hF
    clear hF
    obtain ⟨t0, t1⟩ := two_box p0
    obtain ⟨y0, y1, y2, y3⟩ := four_box x0
    have hPs := (Array.getElem?_eq_some_iff.1 p0).1
    have hXs := (Array.getElem?_eq_some_iff.1 x0).1
    have HP0 : Hid (W0.heap[P]? = some (.cells #[.int .i64 (kq + 1 : Nat), .int .i64 (eq : Nat)] 79 (0, 0))) := p0
    have HX0 : Hid (W0.heap[wr.heap.size]? = some (.cells #[.string l[q].g, .string l[q].s, .slice a1 l[q].n.length c1, .slice a2 l[q].l.length c2] 50 (0, 0))) := x0
    have Hl : Hid (InL false (Lo P) wr m' (.slice a2 l[q].l.length c2) l[q].l) := hl'
    have Hb0 : Hid (Below P wr W0) := b0
    have Hb : Hid (Below P w wr) := hb
    clear hin hin0 hW0 d0 d1 d2 d3 k0 k1 f0 f1 hl' hn' p0 x0 b0 hb hp hL
    by_cases hF0 : F = 0
    ·subst hF0
     obtain ⟨z1, z2, -⟩ := flt_zero HF.out
     go_region_with (go_at_call 79; refine c54.mono ?_; rintro e w1 ⟨rfl, b1⟩)
     all_goals
      have p1 := (b1.block P hPs).trans HP0.out
      have x1 := (b1.block wr.heap.size hXs).trans HX0.out
      have bw1 : Below P wr w1 := (Hb0.out.drew).trans (b1.mono (by show P <= W0.heap.size; omega))
      have c40 := H.out m' hm _ _ (d + 1) (kq + 1) eq P w1 (Hl.out.keep (keep_lo bw1)) p1 z1 (by omega) (by omega)
      obtain ⟨g0, g1, g2, g3⟩ := four_box x1
      obtain ⟨R, hR⟩ : ∃ R, vis l[q].l (d + 1) (kq + 1) eq = R := ⟨_, rfl⟩
      have hRo := (vis_ok _ l[q].l (d + 1) (kq + 1) eq (Nat.le_refl _) z1 (by omega))
      rw [hR] at c40 hRo
      have hV2 := Hv.out
      rw [if_pos HF.out, hR] at hV2
      clear hR p1 x1
      by_cases hR0 : R.2.2 = 0
      ·obtain ⟨r1, r2⟩ := hRo.2 hR0
       rw [if_pos hR0] at hV2
       rw [hR0] at c40
       have HR0 : Hid (R.2.2 = 0) := hR0
       have HV3 : Hid (vis (l.drop (q + 1)) d R.1 R.2.1 = V) := hV2
       clear hV2 hR0 hRo
       go_wp2_with (first | (go_at_call 52; refine c40.mono ?_; rintro e w2 ⟨rfl, b2, p2⟩))
       go_roundw
       case rel => exact ⟨q + 1, R.1, R.2.1, by omega, by go_num, HV3.out, r1, r2, (Hb.out.trans bw1).trans b2, p2.out (by first | rfl | trivial)⟩
       case measure => simp only [intOf]; omega
      ·rw [if_neg hR0] at hV2
       have HV3 : Hid (R = V) := hV2
       obtain ⟨R1, R2, R3⟩ := R
       have hRl : R3 <= 702 := hRo.1
       have hR1 : ((R3 : Int) == 0) = false := by have : ¬ R3 = 0 := hR0; simp; omega
       simp only at c40
       clear hV2 hRo hR0
       go_wp2_with (first | (go_at_call 52; refine c40.mono ?_; rintro e w2 ⟨rfl, b2, p2⟩))
       go_ret
       refine ⟨by rw [<- HV3.out]; rfl, (Hb.out.trans bw1).trans b2, ?_⟩
       rw [<- HV3.out]
       exact p2
    ·have hF1 : ((F : Int) == 0) = false := by simp; omega
     have hV2 := Hv.out
     rw [if_neg (by rw [HF.out]; exact hF0), HF.out] at hV2
     have HV3 : Hid ((kq + 1, eq, F) = V) := hV2
     have HF0 : Hid (¬ F = 0) := hF0
     clear hV2 hF0
     go_region_with (go_at_call 79; refine c54.mono ?_; rintro e w1 ⟨rfl, b1⟩)
     all_goals
      have bw1 : Below P wr w1 := (Hb0.out.drew).trans (b1.mono (by show P <= W0.heap.size; omega))
      go_wp2_with fail
      go_ret
      refine ⟨by rw [<- HV3.out]; rfl, Hb.out.trans bw1, ?_⟩
      rw [<- HV3.out]
      exact fun h => (HF0.out h).elim
  ·have hlt' : decide ((q : Int) < (l.length : Int)) = false := by simp; omega
   have hv := Hv.out
   rw [List.drop_eq_nil_of_le (by omega), vis_nil] at hv
   have Hv2 : Hid ((kq, eq, 0) = V) := hv
   clear hv Hv
   go_wp2_with fail
   go_ret
   refine ⟨by rw [<- Hv2.out]; rfl, hb, ?_⟩
   rw [<- Hv2.out]
   exact fun _ => hp
theorem visits : ∀ m, Visits m := by
 intro m
 induction m with
 | zero => exact visit_of 0 (fun m' h => by omega)
 | succ m ih => exact visit_of (m + 1) (fun m' h => by have e : m = m' := (by omega); subst e; exact ih)
end Go.Proofs.YtiijfmdfccdagaaGreatDoor.TVisit

import Derived.Deep.RegionHeld3
import Derived.Lib.ItoaLen
import Derived.Test.YtiijfmdfccdagaaGreatDoorPL02
import Derived.Test.YtiijfmdfccdagaaGreatDoorPL03
import Derived.Test.YtiijfmdfccdagaaGreatDoorPL27
import Derived.Test.YtiijfmdfccdagaaGreatDoorPL32
import Derived.Test.YtiijfmdfccdagaaGreatDoorPL33
import Derived.Test.YtiijfmdfccdagaaGreatDoorPL39
open Go.Proofs.Tryz
set_option linter.unusedVariables false
set_option maxRecDepth 20000
set_option maxHeartbeats 3200000
namespace Go.Proofs.YtiijfmdfccdagaaGreatDoor.GRa
open Go.RowKit Base KNp KNd KAr VJn VRs GRe GRn GTh GTn
open VPure hiding evL
open TBase (T)
open KBase (Pt Fld Co RP RF)
open KVp (szL szL_cons szL_nil)
theorem own_ge (c : Co) (r s e l : Int) : 0 <= own c r s e l := by
 unfold own
 repeat' split
 all_goals omega
theorem ndL_ge : ∀ (n : Nat) (cs : List Co) (r s e l : Int), szL cs <= n -> 0 <= (ndL cs r s e l).2 := by
 intro n
 induction n with
 | zero =>
  intro cs r s e l hz
  cases cs with
  | nil => rw [ndL_nil]; exact Int.le_refl _
  | cons d t => rw [szL_cons] at hz; omega
 | succ n ih =>
  intro cs
  induction cs with
  | nil => intro r s e l hz; rw [ndL_nil]; exact Int.le_refl _
  | cons d t iht =>
   intro r s e l hz
   rw [szL_cons] at hz
   have h1 : 0 <= (ndL [d] r s e l).2 := by
    rw [ndL_one]
    split
    ·exact own_ge _ _ _ _ _
    ·split
     ·exact ih _ _ _ _ _ (by omega)
     ·exact ih _ _ _ _ _ (by omega)
   rw [ndL_cons]
   split
   ·exact h1
   ·exact iht _ _ _ _ (by omega)
theorem chk_ge (cs : List Co) : 0 <= chk cs := ndL_ge _ cs _ _ _ _ (Nat.le_refl _)
theorem ft_ge (c : C) (d q : Int) : 0 <= Fault.ft c d q := by
 unfold Fault.ft
 repeat' split
 all_goals decide
theorem ms_ge : ∀ (r : List (Nat × C)) (D k : Nat), 0 <= (Measure.ms D k r).2.2
 | [], _, _ => by rw [Measure.ms]; exact Int.le_refl _
 | (d, c) :: r, D, k => by
  rw [Measure.ms]
  split
  ·exact ms_ge r _ _
  ·exact ft_ge _ _ _
def vch (c : C) : Int := (Measure.ms 0 0 (Walk.pl 1 c)).2.2
def rnd (cs : List Co) (c : C) : Except Nat (List T) := if chk cs ≠ 0 then .error (chk cs).toNat else if vch c ≠ 0 then .error (vch c).toNat else bnd (rnL (rn (szL cs) [c]) cs 4096 []) fun a => .ok a.1
theorem render_nil {m mc : Nat} {w : World} {cv v : Value} {c : C} (hcs : KBase.InL false (fun b => b < w.heap.size) w mc cv []) (hin : Base.In false (fun b => b < w.heap.size) w (m + 1) v c) (hms : vch c = 0) (ht : Tb w) :
  Calls prog 9 #[cv, v] w fun e w' => RR w (.ok []) e w' := by
 obtain ⟨an, ln, cn, al, ll, cl, rfl⟩ := in_shape hin
 obtain ⟨W0, hW0⟩ : ∃ W0, (w.alloc (.cells #[.int .i64 c.k, .bool c.b, .int .i64 c.i, .string c.s, .slice an ln cn, .slice al ll cl] 26)).alloc (.cells #[.slice none 0 0] 68) = W0 := ⟨_, rfl⟩
 have b0 : Below w.heap.size w W0 := by rw [<- hW0]; exact ((Below.refl _ w).alloc (Nat.le_refl _) _).alloc (by simp) _
 have s0 : W0.heap.size = w.heap.size + 2 := by rw [<- hW0]; simp
 have hbb : W0.heap[w.heap.size + 1]? = some (.cells #[.slice none 0 0] 68 (0, 0)) := by
  rw [<- hW0]
  have := heap_alloc_new (w.alloc (.cells #[.int .i64 c.k, .bool c.b, .int .i64 c.i, .string c.s, .slice an ln cn, .slice al ll cl] 26)) (.cells #[.slice none 0 0] 68)
  rwa [World.size_alloc] at this
 exact render_of hW0 (through_nil (K := w.heap.size) (m := m) (mc := mc) (cs := []) ⟨by omega, by omega⟩ (hcs.keep (w' := W0) (fun b hb _ => b0.block b hb)) (hin.keep (w' := W0) (fun b hb _ => b0.block b hb)) hbb rfl (by unfold chk; rw [ndL_nil]) (by have := dep_code hms; omega) hms (GWf.code_wf hms) (fun W hW => ht W (b0.trans hW)))
theorem render_all {m mc : Nat} {w : World} {cv v : Value} {cs : List Co} {c : C} (hcs : KBase.InL false (fun b => b < w.heap.size) w mc cv cs) (hin : Base.In false (fun b => b < w.heap.size) w (m + 1) v c) (ht : Tb w) :
  Calls prog 9 #[cv, v] w fun e w' => RR w (rnd cs c) e w' := by
 have hcs' : KBase.InL false (fun _ => True) w mc cv cs := hcs.weak (fun _ _ => trivial) false id mc (Nat.le_refl _)
 have hin' : Base.In false (fun _ => True) w (m + 1) v c := hin.weak (fun _ _ => trivial) false id _ (Nat.le_refl _)
 have g1 := chk_ge cs
 have g2 : 0 <= vch c := ms_ge _ _ _
 unfold rnd
 by_cases h1 : chk cs ≠ 0
 ·rw [if_pos h1]
  exact render_no hcs' hin' (by omega) (.inl (by omega))
 rw [if_neg h1]
 by_cases h2 : vch c ≠ 0
 ·rw [if_pos h2]
  exact render_no hcs' hin' (by omega) (.inr ⟨by omega, by show vch c = _; omega⟩)
 rw [if_neg h2]
 cases cs with
 | nil => exact render_nil hcs hin (by omega) ht
 | cons d t => exact render_good hcs hin (by rw [szL_cons]; omega) (by omega) (by show vch c = 0; omega) ht
end Go.Proofs.YtiijfmdfccdagaaGreatDoor.GRa
namespace Go.Proofs.YtiijfmdfccdagaaGreatDoor.GLq
open Go.RowKit Base KBase KAr KEx KLe KNp KNd GPl GTr GRn GAp GRa
open VPure hiding evL
open TBase (T)
open KVp (szL szL_cons szL_nil)
open Go.Proofs.YtiijfmdfccdagaaGreatDoor.Eq (same eqB)
def lC (q : Int) : Co := .mk 4 nl [] [] [vE 0, vE q] [eC ⟨#[105]⟩ 2] []
def lV (vs : List C) : C := .mk 5 false 0 nl [] vs
theorem lft_l (q : Int) {r : Int} (hr : 5 <= r) : lft (lC q) r = r - 5 := by
 unfold lft
 have e0 : xsC (lC q) = [vE 0, vE q] := rfl
 have e1 : (lC q).f = [] := rfl
 have e2 : (lC q).p = [] := rfl
 have e3 : (lC q).x.length = 2 := rfl
 have hA : KPi.bq [vE 0] (r - 3) = r - 4 := by unfold vE; rw [KPi.bq_one (by omega), KPi.bq_nil]; omega
 have hB : KPi.bq [vE q] (r - 4) = r - 5 := by unfold vE; rw [KPi.bq_one (by omega), KPi.bq_nil]; omega
 have hz : r - (1 + (([] : List Fld).length : Int) + (([] : List Pt).length : Int) + ((2 : Nat) : Int)) = r - 3 := by simp
 rw [e0, e1, e2, e3, KPi.bq_cons, hz, hA, hB]
theorem ent_l (q s e l : Int) : ent (lC q) s e l = ((s + 2, e, l + 1), true) := rfl
theorem own_l {q r s e l : Int} (hr : 0 <= r) (hs : s <= 62) (he : e <= 63) (hl : l <= 7) (h0 : 0 < s) (hq : 0 <= q /\ q < s + 2) : own (lC q) r s e l = 0 := by
 unfold own
 have e0 : xsC (lC q) = [vE 0, vE q] := rfl
 have h1 : [vE 0, vE q].all KSh.rsv = true := by simp [rs_v]
 have h2 : plc (lC q) s (s + 2) = true := by
  have : plc (lC q) s (s + 2) = (KHs.hs s [vE 0] && KHs.hs (s + 2) [vE q]) := rfl
  rw [this, hs_v, hs_v]
  simp [h0, hq.1, hq.2]
 rw [if_neg (by omega), ent_l, if_neg (by simp [deep]; omega), if_neg (by simp), e0, h1, if_neg (by simp), h2, if_neg (by simp)]
theorem chk_l {q : Int} (hq : 0 <= q /\ q < 3) : chk [lC q] = 0 := by
 unfold chk
 have h1 : (lC q).l = [eC ⟨#[105]⟩ 2] := rfl
 have h2 : (lC q).u = [] := rfl
 rw [ndL_one, lft_l q (by omega), own_l (by omega) (by omega) (by omega) (by omega) (by omega) hq, if_neg (by simp), ent_l, h1, h2]
 dsimp only
 rw [nd_e wd_i (by omega) (by omega) (by omega) (by omega) (by omega), if_neg (by simp), ndL_nil]
theorem sz_l (q : Int) : szL [lC q] = 3 := by
 have h1 : (lC q).l = [eC ⟨#[105]⟩ 2] := rfl
 have h2 : (lC q).u = [] := rfl
 have h3 : (eC ⟨#[105]⟩ 2).l = [tC 2] := rfl
 have h4 : (eC ⟨#[105]⟩ 2).u = [] := rfl
 have h5 : (tC 2).l = [] := rfl
 have h6 : (tC 2).u = [] := rfl
 rw [szL_cons, h1, h2, szL_cons, h3, h4, szL_cons, h5, h6, szL_nil]
def row (i : Nat) : T := T.mk ⟨#[105]⟩ nl [] [T.mk nl ⟨(Lib.itoa (i : Int)).toArray⟩ [] []]
theorem rh2 (V v : C) (i : Nat) : rh ([V] ++ [v, iV i]) 2 = some (iV i) := rfl
theorem rh1 (V v : C) (i : Nat) : rh ([V] ++ [v, iV i]) 1 = some v := rfl
theorem it_size (i : Nat) (hi : i <= 1000) : (⟨(Lib.itoa (i : Int)).toArray⟩ : ByteArray).size <= 21 := by
 have := Lib.itoa_length_le (i : Int) (by omega) (by omega)
 simpa [ByteArray.size] using this
theorem one_r (V v : C) (i : Nat) (hi : i <= 1000) {r : Int} (hr : 2 <= r) : rnL (rn 2 ([V] ++ [v, iV i])) [eC ⟨#[105]⟩ 2] r [] = .ok ([row i], r - 2) := by
 have h := it_size i hi
 have e1 : tT (iV i) (r - 1) = .ok (T.mk nl ⟨(Lib.itoa (i : Int)).toArray⟩ [] [], r - 1 - 1) := by
  unfold tT
  rw [if_neg (by omega)]
  have : txt (iV i) = .ok ⟨(Lib.itoa (i : Int)).toArray⟩ := rfl
  rw [this]
  show (if _ then _ else _) = _
  rw [if_neg (by omega)]
 rw [rnL, rn_e (rh2 V v i) 0 _ r (by omega), e1]
 show rnL (rn 2 ([V] ++ [v, iV i])) [] (r - 1 - 1) ([] ++ [row i]) = _
 rw [rnL, List.nil_append, show r - 1 - 1 = r - 2 by omega]
theorem lp_r (V : C) : ∀ (vs : List C) (i : Nat) (r : Int) (F : List T), i + vs.length <= 1000 -> 2 * (vs.length : Int) <= r -> lp (fun i v x => rnL (rn 2 ([V] ++ [v, iV i])) [eC ⟨#[105]⟩ 2] x []) vs i r F = .ok (F ++ (List.range' i vs.length).map row, r - 2 * vs.length) := by
 intro vs
 induction vs with
 | nil =>
  intro i r F _ _
  rw [lp]
  simp
 | cons v t ih =>
  intro i r F h1 h2
  have h3 : (v :: t).length = t.length + 1 := rfl
  rw [h3] at h1 h2
  rw [lp, one_r V v i (by omega) (by omega)]
  show lp _ t (i + 1) (r - 2) (F ++ [row i]) = _
  rw [ih (i + 1) (r - 2) _ (by omega) (by omega), h3]
  congr 2
  ·rw [List.range'_succ, List.map_cons, List.append_assoc]
   rfl
  ·omega
theorem kys_2 (V : C) : ∀ (vs : List C) (i : Nat) (ks : List (Int × Int × ByteArray)), (∀ k ∈ ks, k.2.1 < i) -> ∃ ks', kys [V] (vE 2) vs i ks = .ok ks' := by
 intro vs
 induction vs with
 | nil =>
  intro i ks _
  exact ⟨ks, by rw [kys]⟩
 | cons v t ih =>
  intro i ks h
  have hk : kin (3, (i : Int), nl) ks = false := by
   unfold kin
   rw [List.any_eq_false]
   intro k hk
   have := h k hk
   simp
   intro _ e
   omega
  obtain ⟨ks', h'⟩ := ih (i + 1) (ks ++ [(3, (i : Int), nl)]) (fun k hk => by
   rcases List.mem_append.1 hk with h1 | h1
   ·have := h k h1
    omega
   ·rw [List.mem_singleton.1 h1]
    show (i : Int) < _
    omega)
  refine ⟨ks', ?_⟩
  rw [kys, ev_v (rh2 V v i)]
  show (if kin (3, (i : Int), nl) ks = true then _ else _) = _
  rw [hk, if_neg (by simp)]
  exact h'
theorem rnd_2 {vs : List C} (hv : vch (lV vs) = 0) (hl : vs.length <= 1000) : rnd [lC 2] (lV vs) = .ok ((List.range' 0 vs.length).map row) := by
 obtain ⟨ks, hk⟩ := kys_2 (lV vs) vs 0 [] (fun k h => by cases h)
 unfold rnd
 rw [if_neg (by rw [chk_l (by omega)]; simp), if_neg (by rw [hv]; simp), sz_l, rnL, rn]
 have e1 : (lC 2).k = 4 := rfl
 have e2 : (lC 2).l = [eC ⟨#[105]⟩ 2] := rfl
 have e3 : x0 (lC 2) = vE 0 := rfl
 have e4 : x1 (lC 2) = vE 2 := rfl
 rw [if_neg (by rw [e1]; decide), if_neg (by rw [e1]; decide), if_neg (by rw [e1]; decide), if_pos e1, e2, e3, e4, ev_v (rh0 _)]
 have e5 : bnd (.ok (lV vs)) isL = .ok vs := rfl
 rw [e5]
 show bnd (bnd (bnd (kys [lV vs] (vE 2) vs 0 []) _) _) _ = _
 rw [hk]
 show bnd (bnd (lp _ vs 0 4096 []) _) _ = _
 rw [lp_r (lV vs) vs 0 4096 [] (by omega) (by omega)]
 show bnd (rnL (rn 3 [lV vs]) [] _ ([] ++ _)) _ = _
 rw [rnL]
 simp [bnd]
def ky (v : C) : Int × Int × ByteArray := (TextKey.kk v, TextKey.ki v, TextKey.ks v)
theorem rnd_1 {vs : List C} (hv : vch (lV vs) = 0) (hl : vs.length <= 1000) : rnd [lC 1] (lV vs) = bnd (kys [lV vs] (vE 1) vs 0 []) fun _ => .ok ((List.range' 0 vs.length).map row) := by
 unfold rnd
 rw [if_neg (by rw [chk_l (by omega)]; simp), if_neg (by rw [hv]; simp), sz_l, rnL, rn]
 have e1 : (lC 1).k = 4 := rfl
 have e2 : (lC 1).l = [eC ⟨#[105]⟩ 2] := rfl
 have e3 : x0 (lC 1) = vE 0 := rfl
 have e4 : x1 (lC 1) = vE 1 := rfl
 rw [if_neg (by rw [e1]; decide), if_neg (by rw [e1]; decide), if_neg (by rw [e1]; decide), if_pos e1, e2, e3, e4, ev_v (rh0 _)]
 have e5 : bnd (.ok (lV vs)) isL = .ok vs := rfl
 rw [e5]
 show bnd (bnd (bnd (kys [lV vs] (vE 1) vs 0 []) _) _) _ = _
 cases kys [lV vs] (vE 1) vs 0 [] with
 | error q => rfl
 | ok ks =>
  show bnd (bnd (lp _ vs 0 4096 []) _) _ = _
  rw [lp_r (lV vs) vs 0 4096 [] (by omega) (by omega)]
  show bnd (rnL (rn 3 [lV vs]) [] _ ([] ++ _)) _ = _
  rw [rnL]
  simp [bnd]
theorem key_same {u v : C} (hu : u.k = 3 \/ u.k = 4) (hv : v.k = 3 \/ v.k = 4) : (decide ((ky u).1 = (ky v).1) && decide ((ky u).2.1 = (ky v).2.1) && decide ((ky u).2.2.data = (ky v).2.2.data)) = same v u := by
 obtain ⟨k, b, i, s, n, l⟩ := u
 obtain ⟨k', b', i', s', n', l'⟩ := v
 have h1 : k = 3 \/ k = 4 := hu
 have h2 : k' = 3 \/ k' = 4 := hv
 unfold same ky TextKey.kk TextKey.ki TextKey.ks
 have hd : eqB s' s = decide (s.data = s'.data) := by
  by_cases h : s.data = s'.data
  ·have : s' = s := by obtain ⟨d⟩ := s; obtain ⟨d'⟩ := s'; cases h; rfl
   rw [Eq.eqB_eq.2 this, decide_eq_true h]
  ·rw [decide_eq_false h]
   by_cases e : eqB s' s = true
   ·exact absurd (by rw [Eq.eqB_eq.1 e]) h
   ·simpa using e
 rcases h1 with rfl | rfl <;> rcases h2 with rfl | rfl
 ·simp
  by_cases e : i = i'
  ·simp [e]
  ·simp [e]
   omega
 ·simp
 ·simp
 ·simp [hd]
theorem kys_bad {V v : C} {t : List C} {i : Nat} {ks : List (Int × Int × ByteArray)} (h : ¬ (v.k = 3 \/ v.k = 4)) : kys [V] (vE 1) (v :: t) i ks = .error 1101 := by
 rw [kys, ev_v (rh1 V v i)]
 have : isK v = .error 1101 := by
  obtain ⟨k, b, j, s, n, l⟩ := v
  unfold isK TextKey.ke
  rw [if_neg]
  have h' : ¬ (k = 3 \/ k = 4) := h
  simp [h']
 show bnd (isK v) _ = _
 rw [this]
 rfl
theorem kys_go {V v : C} {t : List C} {i : Nat} {ks : List (Int × Int × ByteArray)} (h : v.k = 3 \/ v.k = 4) : kys [V] (vE 1) (v :: t) i ks = if kin (ky v) ks = true then .error 1600 else kys [V] (vE 1) t (i + 1) (ks ++ [ky v]) := by
 rw [kys, ev_v (rh1 V v i)]
 have : isK v = .ok (ky v) := by
  obtain ⟨k, b, j, s, n, l⟩ := v
  have h' : k = 3 \/ k = 4 := h
  unfold isK TextKey.ke
  rw [if_pos (by simp [h'])]
  rfl
 show bnd (isK v) _ = _
 rw [this]
 rfl
theorem kin_map {v : C} (hv : v.k = 3 \/ v.k = 4) (us : List C) (hus : ∀ u ∈ us, u.k = 3 \/ u.k = 4) : kin (ky v) (us.map ky) = us.any fun u => same v u := by
 unfold kin
 rw [List.any_map]
 induction us with
 | nil => rfl
 | cons u t ih =>
  rw [List.any_cons, List.any_cons, ih fun x hx => hus x (List.mem_cons_of_mem _ hx)]
  congr 1
  exact key_same (hus u (List.mem_cons_self ..)) hv
end Go.Proofs.YtiijfmdfccdagaaGreatDoor.GLq
namespace Go.Proofs.YtiijfmdfccdagaaGreatDoor.WLa
open Go.RowKit Base KBase VSm GRe GRn GAp
open GAw hiding lC
open GLq
open VPure hiding evL
open TBase (T)
open Shallow (dep depL)
abbrev xV (q : Int) : Array Value := #[.int .i64 6, .int .i64 0, .string nl, ns, .int .i64 6, .int .i64 q, .string nl, ns]
abbrev lA (gx gk : Nat) : Array Value := #[.int .i64 4, .string nl, ns, ns, .slice (some ⟨gx, 0, none⟩) 2 2, row1 gk, ns]
abbrev zA : Array Value := #[.int .i64 0, .string nl, ns, ns, ns, ns, ns]
theorem rx_two {w : World} {S : Nat -> Prop} {gx : Nat} {q : Int} (hS : S gx) (hq : 0 <= q /\ q <= 100) (h : w.heap[gx]? = some (.cells (xV q) 47 (0, 0))) : RX false S w (.slice (some ⟨gx, 0, none⟩) 2 2) [vE 0, vE q] := by
 refine ⟨1, some ⟨gx, 0, none⟩, 2, rfl, by simp, by simp, by simp, (fun h => by cases h), .inr ⟨gx, 0, rfl, hS, fun j hj => ?_, fun h => by cases h⟩⟩
 have hj : j < 2 := hj
 match j, hj with
 | 0, _ => refine ⟨_, ⟨_, _, _, _, rfl, ?_, ?_, ?_, ?_⟩, leaf_in w 0 S 0 (by omega)⟩ <;> simp [World.cell?, h]
 | 1, _ => refine ⟨_, ⟨_, _, _, _, rfl, ?_, ?_, ?_, ?_⟩, leaf_in w 0 S q hq⟩ <;> simp [World.cell?, h]
theorem l_in {w : World} {S : Nat -> Prop} {g g' gx gk : Nat} {q : Int} (hq : 0 <= q /\ q <= 100) (hg : S g) (hg' : S g') (hx : S gx) (hk : S gk) (h : w.heap[g]? = some (.cells (tP 2) 89 (0, 0))) (h' : w.heap[g']? = some (.cells (tV g) 45 (0, 0)))
  (h1 : w.heap[gx]? = some (.cells (xV q) 47 (0, 0))) (h2 : w.heap[gk]? = some (.cells (eV ⟨#[105]⟩ g') 45 (0, 0))) : KBase.In false S w 3 (.agg (lA gx gk)) (lC q) := by
 rw [in_succ]
 exact ⟨_, _, _, _, _, rfl, by simp [lC, Co.k], by show nl.size <= _; decide, Rw.nil, Rw.nil, rx_two hx hq h1, rw_one hk (co_at h2) (e_in (by decide) (by omega) hg hg' h h') (by omega), Rw.nil⟩
theorem v_in {S : Nat -> Prop} {w : World} {m : Nat} {v : Value} {vs : List C} (h : Base.InL false S w m v vs) : Base.In false S w (m + 1) (.agg #[.int .i64 5, .bool false, .int .i64 0, .string nl, ns, v]) (lV vs) := by
 unfold lV
 rw [Base.in_iff]
 exact ⟨_, _, rfl, by omega, by omega, by decide, ⟨none, 0, rfl, by simp, by omega, by simp, by simp, fun _ => rfl, .inl ⟨rfl, rfl⟩⟩, h⟩
theorem al_next {W U U' : World} {o : Obj} (e : U.alloc o = U') (b : Below W.heap.size W U) : Below W.heap.size W U' /\ U'.heap[U.heap.size]? = some o /\ (∀ (j : Nat) (x : Obj), U.heap[j]? = some x -> U'.heap[j]? = some x) /\ U.heap.size < U'.heap.size := by
 subst e
 exact ⟨b.alloc b.size _, heap_alloc_new U o, fun j x h => by rw [Below.heap_alloc _ _ _ (Array.getElem?_eq_some_iff.1 h).1]; exact h, by simp⟩
theorem be_next {W U U' : World} (h : Below U.heap.size U U') (b : Below W.heap.size W U) : Below W.heap.size W U' /\ (∀ (j : Nat) (x : Obj), U.heap[j]? = some x -> U'.heap[j]? = some x) /\ U.heap.size <= U'.heap.size :=
 ⟨b.trans (h.mono b.size), fun j x hx => (h.block j (Array.getElem?_eq_some_iff.1 hx).1).trans hx, h.size⟩
def Made (W : World) (q : Int) (g' B : Nat) (U : World) : Prop := ∃ gx gk, U.heap[B]? = some (.cells (lA gx gk) 45 (0, 0)) /\ U.heap[gx]? = some (.cells (xV q) 47 (0, 0)) /\ U.heap[gk]? = some (.cells (eV ⟨#[105]⟩ g') 45 (0, 0)) /\ Below W.heap.size W U /\ W.heap.size <= B /\ W.heap.size <= gx /\ W.heap.size <= gk /\ gx ≠ B /\ gk ≠ B
theorem set7 {W W9 : World} {R : Nat} {z0 z1 z2 z3 z4 z5 z6 a b c d e f g : Value} {t : TypeId} (h : W.heap[R]? = some (.cells #[z0, z1, z2, z3, z4, z5, z6] t (0, 0))) (he : (((((((W.setCell ⟨R, 0, none⟩ a).setCell ⟨R, 1, none⟩ b).setCell ⟨R, 2, none⟩ c).setCell ⟨R, 3, none⟩ d).setCell ⟨R, 4, none⟩ e).setCell ⟨R, 5, none⟩ f).setCell ⟨R, 6, none⟩ g) = W9) :
  W9.heap[R]? = some (.cells #[a, b, c, d, e, f, g] t (0, 0)) /\ (∀ B, B <= R -> Below B W W9) /\ ∀ k, k ≠ R -> W9.heap[k]? = W.heap[k]? := by
 subst he
 refine ⟨?_, fun B hB => ((((((((Below.refl B W).setCell (p := ⟨R, 0, none⟩) hB a).setCell (p := ⟨R, 1, none⟩) hB b).setCell (p := ⟨R, 2, none⟩) hB c).setCell (p := ⟨R, 3, none⟩) hB d).setCell (p := ⟨R, 4, none⟩) hB e).setCell (p := ⟨R, 5, none⟩) hB f).setCell (p := ⟨R, 6, none⟩) hB g), fun k hk => ?_⟩
 ·rw [TBase.block_set (TBase.block_set (TBase.block_set (TBase.block_set (TBase.block_set (TBase.block_set (TBase.block_set h _) _) _) _) _) _) _]
  rfl
 rw [Below.heap_setCell _ _ _ _ hk, Below.heap_setCell _ _ _ _ hk, Below.heap_setCell _ _ _ _ hk, Below.heap_setCell _ _ _ _ hk, Below.heap_setCell _ _ _ _ hk, Below.heap_setCell _ _ _ _ hk, Below.heap_setCell _ _ _ _ hk]
theorem made_of {W U Uf : World} {q : Int} {g' B gx gk : Nat} (b : Below W.heap.size W U) (e1 : Uf.heap[B]? = some (.cells (lA gx gk) 45 (0, 0))) (e2 : ∀ X, X <= B -> Below X U Uf) (e3 : ∀ k, k ≠ B -> Uf.heap[k]? = U.heap[k]?) (hx : U.heap[gx]? = some (.cells (xV q) 47 (0, 0))) (hk : U.heap[gk]? = some (.cells (eV ⟨#[105]⟩ g') 45 (0, 0)))
  (h1 : W.heap.size <= B) (h2 : W.heap.size <= gx) (h3 : W.heap.size <= gk) (h4 : gx ≠ B) (h5 : gk ≠ B) : Made W q g' B Uf := ⟨gx, gk, e1, (e3 gx h4).trans hx, (e3 gk h5).trans hk, b.trans (e2 _ h1), h1, h2, h3, h4, h5⟩
theorem tree_q {S : Nat -> Prop} {w : World} {m n cap : Nat} {ta : Option Addr} {k : Nat} (h : TBase.LAt false S w m ta cap ((List.range' 0 k).map row)) {q : Nat} (hq : q < k) :
  ∃ g o kg ko kc, ta = some ⟨g, o, none⟩ /\ w.cell? ⟨g, o + q * 4, none⟩ = some (.string ⟨#[105]⟩) /\ w.cell? ⟨g, o + q * 4 + 3, none⟩ = some (.slice (some ⟨kg, ko, none⟩) 1 kc) /\ w.cell? ⟨kg, ko + 1, none⟩ = some (.string ⟨(Lib.decDigits q).toArray⟩) /\ 1 <= kc := by
 obtain ⟨g, o, u, rfl, -, hu, hi⟩ := TBase.elem_at h (q := q) (by simpa using hq)
 have e : ((List.range' 0 k).map row)[q]'(by simpa using hq) = row q := by simp [List.getElem_range']
 rw [e] at hi
 obtain ⟨m', nv, lv, -, rfl, -, -, hA, hK⟩ := hi.shape
 obtain ⟨v0, v1, v2, v3, he, c0, c1, c2, c3⟩ := hu
 simp only [Value.agg.injEq, Array.mk.injEq, List.cons.injEq, and_true] at he
 obtain ⟨rfl, rfl, rfl, rfl⟩ := he
 obtain ⟨kg, ko, kc, av, kv, m2, rfl, h1, h2, d0, d1, d2, d3, -, -⟩ := tree1 (t := nl) (x := ⟨(Lib.itoa (q : Int)).toArray⟩) (n := []) (ks := []) hK
 rw [Lib.itoa_nonneg] at d1
 exact ⟨g, o, kg, ko, kc, rfl, c0, c3, d1, h1⟩
def kc {α : Type} : Except Nat α -> Int
 | .ok _ => 0
 | .error q => q
theorem rr_code {α : Type} {w w' : World} {KA : Except Nat α} {F : List T} {e : Ending} (h : RR w (bnd KA fun _ => .ok F) e w') : Below w.heap.size w w' /\ ∃ tv, e = .returned (.tuple #[tv, .int .i64 (kc KA)]) := by
 obtain ⟨hb, h⟩ := h
 cases KA with
 | error q => exact ⟨hb, _, h⟩
 | ok a =>
  obtain ⟨m, tv, he, _⟩ := h
  exact ⟨hb, tv, he⟩
def Wq (vs : List C) (KA : Except Nat (List (Int × Int × ByteArray))) (cd : Int) (q : Nat) (x : Int) : Prop :=
 (x = 0 /\ kys [lV vs] (vE 1) (vs.drop q) q ((vs.take q).map ky) = KA /\ ∀ u ∈ vs.take q, u.k = 3 \/ u.k = 4) \/ (x = cd /\ x ≠ 0)
theorem wq_start {vs : List C} {KA : Except Nat (List (Int × Int × ByteArray))} {cd : Int} (h : kys [lV vs] (vE 1) vs 0 [] = KA) : Wq vs KA cd 0 0 := .inl ⟨rfl, by simpa using h, fun u hu => by simp at hu⟩
theorem wq_end {vs : List C} {KA : Except Nat (List (Int × Int × ByteArray))} {cd x : Int} (h : Wq vs KA cd vs.length x) (hc : kc KA = cd) : cd = x := by
 rcases h with ⟨rfl, h, -⟩ | ⟨rfl, -⟩
 ·rw [List.drop_length, kys] at h
  rw [<- hc, <- h]
  rfl
 ·rfl
theorem drop_q {vs : List C} {q : Nat} (hq : q < vs.length) : vs.drop q = vs[q] :: vs.drop (q + 1) := List.drop_eq_getElem_cons hq
theorem wq_bad {vs : List C} {KA : Except Nat (List (Int × Int × ByteArray))} {cd : Int} {q : Nat} (h : Wq vs KA cd q 0) (hq : q < vs.length) (hb : ¬ (vs[q].k = 3 \/ vs[q].k = 4)) (hc : kc KA = cd) : cd = 1101 := by
 rcases h with ⟨-, h, -⟩ | ⟨-, h⟩
 ·rw [drop_q hq, kys_bad hb] at h
  rw [<- hc, <- h]
  rfl
 ·exact absurd rfl h
theorem take_q {vs : List C} {q : Nat} (hq : q < vs.length) : vs.take (q + 1) = vs.take q ++ [vs[q]] := by
 rw [List.take_add_one, List.getElem?_eq_getElem hq]
 rfl
theorem wq_same {vs : List C} {KA : Except Nat (List (Int × Int × ByteArray))} {cd : Int} {q j : Nat} (h : Wq vs KA cd q 0) (hq : q < vs.length) (hk : vs[q].k = 3 \/ vs[q].k = 4) (hj : j < q) (hs : Eq.same vs[q] vs[j] = true) (hc : kc KA = cd) : cd = 1600 := by
 rcases h with ⟨-, h, hu⟩ | ⟨-, h⟩
 ·rw [drop_q hq, kys_go hk, kin_map hk _ hu, if_pos] at h
  ·rw [<- hc, <- h]
   rfl
  ·rw [List.any_eq_true]
   exact ⟨vs[j], by rw [List.mem_take_iff_getElem]; exact ⟨j, by omega, rfl⟩, hs⟩
 ·exact absurd rfl h
theorem wq_next {vs : List C} {KA : Except Nat (List (Int × Int × ByteArray))} {cd : Int} {q : Nat} (h : Wq vs KA cd q 0) (hq : q < vs.length) (hk : vs[q].k = 3 \/ vs[q].k = 4) (hs : ∀ j (h : j < vs.length), j < q -> Eq.same vs[q] vs[j] = false) : Wq vs KA cd (q + 1) 0 := by
 rcases h with ⟨-, h, hu⟩ | ⟨-, h⟩
 ·refine .inl ⟨rfl, ?_, ?_⟩
  ·rw [drop_q hq, kys_go hk, kin_map hk _ hu, if_neg] at h
   ·rw [take_q hq, List.map_append]
    exact h
   ·rw [List.any_eq_true]
    rintro ⟨u, hu, he⟩
    obtain ⟨j, hj, rfl⟩ := List.mem_take_iff_getElem.1 hu
    rw [hs j (by omega) (by omega)] at he
    cases he
  ·intro u hm
   rw [take_q hq] at hm
   rcases List.mem_append.1 hm with h1 | h1
   ·exact hu u h1
   ·rw [List.mem_singleton.1 h1]
    exact hk
 ·exact absurd rfl h
def sq (c : C) (vs : List C) (j : Nat) : Bool := Eq.same c (vs.getD j (lV []))
theorem sq_eq {c : C} {vs : List C} {j : Nat} (h : j < vs.length) : sq c vs j = Eq.same c vs[j] := by
 unfold sq
 rw [List.getD_eq_getElem?_getD, List.getElem?_eq_getElem h]
 rfl
def Iq (P : Nat -> Bool) (cd : Int) (k : Nat) (y : Int) : Prop := (y = 0 /\ ∀ j, j < k -> P j = false) \/ (y = cd /\ y ≠ 0)
theorem iq_step {P : Nat -> Bool} {cd : Int} {k : Nat} (h : Iq P cd k 0) (hp : P k = false) : Iq P cd (k + 1) 0 := by
 rcases h with ⟨-, h⟩ | ⟨-, h⟩
 ·refine .inl ⟨rfl, fun j hj => ?_⟩
  by_cases e : j = k
  ·rw [e]
   exact hp
  ·exact h j (by omega)
 ·exact absurd rfl h
end Go.Proofs.YtiijfmdfccdagaaGreatDoor.WLa
namespace Go.Proofs.YtiijfmdfccdagaaGreatDoor.GDe
open Tak
open Go.RowKit Base Shallow
theorem shallows_c {m : Nat} {v : Value} {l : List C} {w : World} (h : InL false All w m v l) :
  Calls prog 18 #[v] w fun r w' => r = .returned (.bool (decide (depL l <= 4096))) /\ Below w.heap.size w w' := by
 obtain ⟨a, cap, rfl, hl, hcap, hlen, ha, hL⟩ := h.out
 clear h
 go_enter func18, ntmps18
 go_wp2_with fail
 go_loopw [3] (fun i' wr => ∃ q : Nat, q <= l.length /\ i' = .int .i64 q /\ (∀ j (h : j < l.length), j < q -> dep l[j] <= 4096) /\ Below w.heap.size w wr) (fun i' _ => l.length - (intOf i').toNat)
 case atStart => exact ⟨0, by omega, rfl, fun j _ h => by omega, Below.refl _ _⟩
 case round =>
  obtain ⟨q, hq, rfl, hall, hb⟩ := hrel
  by_cases hlt : q < l.length
  ·obtain ⟨g, o, u, rfl, -, hu, hin⟩ := elem_at hL hlt
   have hu := six_below hu hb
   have hin := hin.below hb
   obtain ⟨v0, v1, v2, v3, v4, v5, rfl, d0, d1, d2, d3, d4, d5⟩ := hu
   have cV := value_c _ _ _ 4096 wr (by omega) hin
   have HA := hid hall
   clear hin hall
   go_wp2_with fail
   refine cV.mono ?_
   rintro e w2 ⟨rfl, b2⟩
   cases hd : decide (dep l[q] <= 4096) with
   | true =>
    go_wp2_with fail
    go_roundw
    case rel =>
     refine ⟨q + 1, by omega, by go_num, fun j hj hjq => ?_, nx hb b2⟩
     by_cases e : j = q
     ·subst e
      exact of_decide_eq_true hd
     ·exact HA.out j hj (by omega)
    case measure => simp only [intOf]; omega
   | false =>
    go_wp2_with fail
    go_ret
    refine ⟨?_, nx hb b2⟩
    have h1 : ¬ dep l[q] <= 4096 := of_decide_eq_false hd
    have : ¬ depL l <= 4096 := fun h => h1 (depL_le.1 h q hlt)
    simp [this]
  ·have hlt' : decide ((q : Int) < (l.length : Int)) = false := by simp; omega
   go_wp2_with fail
   go_ret
   refine ⟨?_, hb⟩
   have : depL l <= 4096 := depL_le.2 fun j hj => hall j hj (by omega)
   simp [this]
theorem conv1 {W : World} {g : Nat} {D : Int} {x : Nat} (hx : x < 10) (hD : D = 48 + (x : Int)) (h : W.heap[g]? = some (.cells #[.int .u8 D] 5 (0, 0))) :
  (convert 90 9 (.slice (some ⟨g, 0, none⟩) 1 1)).run prog W = .ok (.string ⟨#[UInt8.ofNat (48 + x)]⟩) W := by
 subst hD
 refine run_convert_bytes_back (P := prog) W 90 9 5 ⟨g, 0, none⟩ 1 [UInt8.ofNat (48 + x)] underlying90 underlying5 underlying9 fun j hj => ?_
 obtain rfl : j = 0 := by simpa using hj
 have : (48 + x) % 256 = 48 + x := by omega
 simp [World.cell?, Addr.add, h, UInt8.toNat_ofNat, this]
theorem decimal_c : ∀ (n x : Nat), x < n -> x <= 100000 -> ∀ w : World, Calls prog 21 #[.int .i64 x] w fun e w' => e = .returned (.string ⟨(Lib.decDigits x).toArray⟩) /\ Below w.heap.size w w' := by
 intro n
 induction n with
 | zero =>
  intro x hx
  omega
 | succ n ih =>
  intro x hx hb w
  have hneg : decide ((x : Int) < 0) = false := by simp
  by_cases h10 : x < 10
  ·have hlt : decide ((x : Int) < 10) = true := by simp; omega
   have hc := conv1 (W := w.alloc (.cells #[.int .u8 (48 + (x : Int))] 5)) h10 rfl (heap_alloc_new w _)
   have e : (⟨(Lib.decDigits x).toArray⟩ : ByteArray) = ⟨#[UInt8.ofNat (48 + x)]⟩ := by rw [Lib.decDigits_one h10]
   have ew : IntKind.u8.wrap (48 + (x : Int)) = 48 + (x : Int) := by rw [IntKind.wrap_u8]; omega
   rw [e]
   clear ih
   go_enter func21, ntmps21
   go_wp2_with fail
   go_ret
   exact ⟨by simp, (Below.refl _ w).alloc (Nat.le_refl _) _⟩
  ·have hlt : decide ((x : Int) < 10) = false := by simp; omega
   have cD : ∀ W : World, Calls prog 21 #[.int .i64 ((x : Int) / 10)] W fun e w' => e = .returned (.string ⟨(Lib.decDigits (x / 10)).toArray⟩) /\ Below W.heap.size W w' := fun W => ih (x / 10) (by omega) (by omega) W
   have E1 : IntKind.i64.wrap ((x : Int) / 10) = (x : Int) / 10 := by rw [IntKind.wrap_i64]; omega
   have E2 : (x : Int).tmod 10 = (x : Int) % 10 := by rw [Int.tmod_eq_emod_of_nonneg (by omega)]
   have E3 : IntKind.i64.wrap (48 + (x : Int) % 10) = 48 + (x : Int) % 10 := by rw [IntKind.wrap_i64]; omega
   have E4 : IntKind.u8.wrap (48 + (x : Int) % 10) = 48 + (x : Int) % 10 := by rw [IntKind.wrap_u8]; omega
   have ed : (⟨(Lib.decDigits x).toArray⟩ : ByteArray) = ⟨(Lib.decDigits (x / 10)).toArray⟩ ++ ⟨#[UInt8.ofNat (48 + x % 10)]⟩ := by
    rw [Lib.decDigits, dif_neg h10]
    apply ByteArray.ext
    simp
   have h9 : x % 10 < 10 := by omega
   clear ih
   go_enter func21, ntmps21
   go_wp2_with fail
   have hS : True := trivial
   refine wp_region_held_drew (S := fun _ => True) (by kernel_rfl) trivial (fun hHeld => ?_)
   refine tkH 0 rfl ?_; try simp only [ptH]
   refine tkH 1 rfl ?_; try simp only [ptH]
   refine tkH 3 rfl ?_; try simp only [ptH]
   refine tkH 4 rfl ?_; try simp only [ptH]
   refine tkH 5 rfl ?_; try simp only [ptH]
   refine tkH 6 rfl ?_; try simp only [ptH]
   have ED := hid ed
   have hll : (Lib.decDigits (x / 10)).length <= 21 := by
    have := Lib.itoa_length_le ((x / 10 : Nat) : Int) (by omega) (by omega)
    rwa [Lib.itoa_nonneg] at this
   obtain ⟨D, hD⟩ : ∃ D : Int, 48 + (x : Int) % 10 = D := ⟨_, rfl⟩
   rw [hD] at E3 E4
   have HD : Hid (D = 48 + ((x % 10 : Nat) : Int)) := by rw [<- hD]; rfl
   clear ed hb hx hlt hneg h10
   try simp only [hD]
   refine rdH [2, 7] ?_
   refine AllReadyH.cons rfl (fun K0 hK => ?_) (AllReadyH.cons rfl (fun K0 hK => ?_) AllReadyH.nil)
   ·go_simp
    refine (cD w.drew).mono ?_
    rintro e W1 ⟨rfl, b1⟩
    have c1 : Below w.heap.size w W1 := (Below.refl _ w).drew.trans b1
    have hc := conv1 (W := W1.alloc (.cells #[.int .u8 D] 5)) h9 HD.out (heap_alloc_new W1 _)
    have HB : Hid (Below w.heap.size w (W1.alloc (.cells #[.int .u8 D] 5))) := c1.alloc c1.size _
    refine hK.out _ _ trivial (fun hHeld => ?_)
    clear hK K0 b1 c1
    try simp only [ptH]
    refine rdH [7] ?_
    refine alH rfl fun K0 hK => ?_
    go_simp
    refine hK.out _ _ trivial (fun hHeld => ?_)
    clear hK K0
    try simp only [ptH]
    refine rdH [8] ?_
    refine alH rfl fun K0 hK => ?_
    go_simp
    refine hK.out _ _ trivial (fun hHeld => ?_)
    clear hK K0
    try simp only [ptH]
    refine tkH 9 rfl ?_; try simp only [ptH]
    refine tkH 10 rfl ?_; try simp only [ptH]
    refine dnH ?_
    go_wp2_with fail
    go_ret
    exact ⟨by rw [ED.out]; simp, HB.out⟩
   ·go_simp
    obtain ⟨W1, hW1⟩ : ∃ W, (w.alloc (.cells #[.int .u8 D] 5)).drew = W := ⟨_, rfl⟩
    try rw [hW1]
    have c1 : Below w.heap.size w W1 := by rw [<- hW1]; exact ((Below.refl _ w).alloc (Nat.le_refl _) _).drew
    have g1 : W1.heap[w.heap.size]? = some (.cells #[.int .u8 D] 5 (0, 0)) := by rw [<- hW1]; exact heap_alloc_new w _
    have s1 := (Array.getElem?_eq_some_iff.1 g1).1
    clear hW1
    refine hK.out _ _ trivial (fun hHeld => ?_)
    clear hK K0
    try simp only [ptH]
    refine rdH [2, 8] ?_
    refine AllReadyH.cons rfl (fun K0 hK => ?_) (AllReadyH.cons rfl (fun K0 hK => ?_) AllReadyH.nil)
    ·go_simp
     refine (cD W1).mono ?_
     rintro e W2 ⟨rfl, b2⟩
     have hc := conv1 h9 HD.out ((b2.block w.heap.size s1).trans g1)
     have HB := hid (c1.trans (b2.mono c1.size))
     refine hK.out _ _ trivial (fun hHeld => ?_)
     clear hK K0 b2 c1 g1
     try simp only [ptH]
     refine rdH [8] ?_
     refine alH rfl fun K0 hK => ?_
     go_simp
     refine hK.out _ _ trivial (fun hHeld => ?_)
     clear hK K0
     try simp only [ptH]
     refine tkH 9 rfl ?_; try simp only [ptH]
     refine tkH 10 rfl ?_; try simp only [ptH]
     refine dnH ?_
     go_wp2_with fail
     go_ret
     exact ⟨by rw [ED.out]; simp, HB.out⟩
    ·have hc := conv1 h9 HD.out g1
     go_simp
     refine hK.out _ _ trivial (fun hHeld => ?_)
     clear hK K0 g1 hc
     try simp only [ptH]
     refine rdH [2] ?_
     refine alH rfl fun K0 hK => ?_
     go_simp
     refine (cD W1).mono ?_
     rintro e W2 ⟨rfl, b2⟩
     have HB := hid (c1.trans (b2.mono c1.size))
     refine hK.out _ _ trivial (fun hHeld => ?_)
     clear hK K0 b2 c1
     try simp only [ptH]
     refine tkH 9 rfl ?_; try simp only [ptH]
     refine tkH 10 rfl ?_; try simp only [ptH]
     refine dnH ?_
     go_wp2_with fail
     go_ret
     exact ⟨by rw [ED.out]; simp, HB.out⟩
end Go.Proofs.YtiijfmdfccdagaaGreatDoor.GDe

import Derived.Deep.RegionHeld3
import Derived.Deep.RegionWith
import Derived.Lib.ItoaLen
import Derived.Test.YtghnhkagkngjcaaGreatDoorPN20
import Derived.Test.YtghnhkagkngjcaaGreatDoorPN22
set_option linter.unusedVariables false
set_option maxRecDepth 20000
set_option maxHeartbeats 3200000
namespace Go.Proofs.YtghnhkagkngjcaaGreatDoor.PPr
open Go.RowKit Base EPure ENd PPl PFit PMay PTx
def kl (o : Int) : List Int := if o = 31 then [0, -1, -1] else if o = 10 ∨ o = 11 then [11] else if o = 7 then [12] else if o = 8 then [12, -1] else if o = 9 then [-1] else [lvl o, lvl o + 1]
def bdy (o i : Int) (s : ByteArray) (p : List (List UInt8)) : List UInt8 :=
 if o = 31 then p.getD 0 [] ++ [32, 63, 32] ++ p.getD 1 [] ++ [32, 58, 32] ++ p.getD 2 []
 else if o = 10 then 45 :: p.getD 0 []
 else if o = 11 then 33 :: p.getD 0 []
 else if o = 4 then Lib.itoa i
 else if o = 5 then qt s
 else if o = 6 then s.data.toList
 else if o = 7 then p.getD 0 [] ++ [46] ++ s.data.toList
 else if o = 8 then p.getD 0 [] ++ (91 :: p.getD 1 [] ++ [93])
 else if o = 9 then (cll.getD i.toNat ByteArray.empty).data.toList ++ (40 :: p.getD 0 [] ++ [41])
 else if o ≤ 3 then (wdl.getD o.toNat ByteArray.empty).data.toList
 else p.getD 0 [] ++ [32] ++ sgo o ++ [32] ++ p.getD 1 []
def par (z o : Int) (t : List UInt8) : List UInt8 := if lvl o < z then 40 :: t ++ [41] else t
def prL : List Ex → List Int → List (List UInt8)
 | [], _ => []
 | .mk o i s l :: t, z => par (z.headD 0) o (bdy o i s (prL l (kl o))) :: prL t z.tail
def pr (z : Int) (x : Ex) : List UInt8 := par z x.o (bdy x.o x.i x.s (prL x.l (kl x.o)))
theorem prL_nil (z : List Int) : prL [] z = [] := by rw [prL]
theorem prL_cons (x : Ex) (t : List Ex) (z : List Int) : prL (x :: t) z = pr (z.headD 0) x :: prL t z.tail := by
 obtain ⟨o, i, s, l⟩ := x
 rw [prL]
 rfl
theorem pr1 {x : Ex} {z : Int} : prL [x] [z] = [pr z x] := by rw [prL_cons, prL_nil]; rfl
theorem pr2 {x y : Ex} {z z' : Int} : prL [x, y] [z, z'] = [pr z x, pr z' y] := by rw [prL_cons, List.tail_cons, pr1]; rfl
theorem pr3 {x y u : Ex} {z z' z'' : Int} : prL [x, y, u] [z, z', z''] = [pr z x, pr z' y, pr z'' u] := by rw [prL_cons, List.tail_cons, pr2]; rfl
def gdL : List Ex → Prop
 | [] => True
 | .mk o i s l :: t => ((l.length : Int) = kd o ∧ ft o i s = true ∧ gdL l) ∧ gdL t
theorem gdL_cons {x : Ex} {t : List Ex} : gdL (x :: t) ↔ ((x.l.length : Int) = kd x.o ∧ ft x.o x.i x.s = true ∧ gdL x.l) ∧ gdL t := by
 obtain ⟨o, i, s, l⟩ := x
 rw [gdL]
 exact Iff.rfl
def gd (x : Ex) : Prop := (x.l.length : Int) = kd x.o ∧ ft x.o x.i x.s = true ∧ gdL x.l
theorem gdL_get : ∀ {l : List Ex}, gdL l → ∀ {j : Nat} (h : j < l.length), gd l[j]
 | [], _, _, h => absurd h (by simp)
 | x :: t, hg, 0, _ => (gdL_cons.1 hg).1
 | x :: t, hg, j + 1, h => gdL_get (gdL_cons.1 hg).2 (j := j) (by simpa using h)
theorem gd_of : ∀ (n : Nat) (l : List Ex) (r : Nat), SizeOf.sizeOf l ≤ n → (mayL l r).1 = true → gdL l := by
 intro n
 induction n with
 | zero =>
  intro l r h _
  cases l with
  | nil => rw [gdL]; trivial
  | cons x t => exact absurd h (by simp)
 | succ n ih =>
  intro l r h hm
  cases l with
  | nil => rw [gdL]; trivial
  | cons x t =>
   obtain ⟨o, i, s, k⟩ := x
   rw [mayL] at hm
   by_cases hc : r = 0 ∨ (k.length : Int) ≠ kd o ∨ ft o i s = false
   ·rw [if_pos hc] at hm; cases hm
   ·rw [if_neg hc] at hm
    have h1 := ih k (r - 1) (by simp at h; omega)
    cases e : mayL k (r - 1) with
    | mk b r' =>
     rw [e] at h1 hm
     cases b with
     | false => cases hm
     | true =>
      rw [gdL]
      refine ⟨⟨?_, ?_, h1 rfl⟩, ih t r' (by simp at h; omega) hm⟩
      ·exact Classical.byContradiction fun hh => hc (.inr (.inl hh))
      ·cases hf : ft o i s with
       | true => rfl
       | false => exact (hc (.inr (.inr hf))).elim
theorem gd_range {x : Ex} (h : gd x) : 1 ≤ x.o ∧ x.o ≤ 31 := by
 have h1 := h.1
 unfold kd at h1
 repeat' split at h1
 all_goals omega
end Go.Proofs.YtghnhkagkngjcaaGreatDoor.PPr
namespace Go.Proofs.YtghnhkagkngjcaaGreatDoor.PBt
open Go.RowKit Base EPure PPk PPl PPr
open XBase (four_box two_box frozen_box Rg)
def Ap (m : Nat) (z : Int) (x : Ex) : Prop := ∀ (B : Nat) (W : World) (v u : Value) (L : List UInt8), XBase.In false (fun b => b < B) W m u x → (∀ W', Below B W W' → Digits.Tab W') → Pk B W W v L [] → L.length + (pr z x).length ≤ 100000000000 →
  Calls Tryz.prog 30 #[v, u, .int .i64 z] W fun e w' => ∃ v', e = .returned v' ∧ Pk B W w' v' (L ++ pr z x) []
theorem keepB {B : Nat} {W W' : World} (h : Below B W W') : Keep (fun b => b < B) W W' := fun b hb _ => h.block b hb
theorem Ap.at {m : Nat} {z : Int} {x : Ex} (h : Ap m z x) {B : Nat} {W W1 : World} {u : Value} (hin : XBase.In false (fun b => b < B) W m u x) (hT : ∀ W', Below B W W' → Digits.Tab W') (hb : Below B W W1) {w : World} {v : Value} {M : List UInt8} {lits : List (Nat × List UInt8)} (hq : Pk B W1 w v M lits) (hl : M.length + (pr z x).length ≤ 100000000000) :
  Calls Tryz.prog 30 #[v, u, .int .i64 z] w fun e w' => ∃ v', e = .returned v' ∧ Pk B W1 w' v' (M ++ pr z x) [] :=
 (h B w v u M (hin.keep (keepB (hb.trans hq.bel))) (fun W' hW => hT W' ((hb.trans hq.bel).trans hW)) (Pk.start hq.own hq.le hq.nil) hl).mono fun e w' ⟨v', he, hk⟩ => ⟨v', he, hq.trans hk⟩
theorem between_c {m : Nat} {x : Ex} (hx : Ap m (-1) x) {B : Nat} {W : World} {v u : Value} {L : List UInt8} {c1 c2 : UInt8} {k1 k2 : Int} (h1 : (c1.toNat : Int) = k1) (h2 : (c2.toNat : Int) = k2) (hin : XBase.In false (fun b => b < B) W m u x) (hT : ∀ W', Below B W W' → Digits.Tab W') (hp : Pk B W W v L []) (hl : L.length + (pr (-1) x).length + 2 ≤ 100000000000) :
  Calls Tryz.prog 46 #[v, .int .u8 k1, u, .int .u8 k2] W fun e w' => ∃ v', e = .returned v' ∧ Pk B W w' v' (L ++ (c1 :: pr (-1) x ++ [c2])) [] := by
 obtain ⟨m', lv, rfl, hu, ho, hi, hs, hL⟩ := hin.shape
 obtain ⟨a, cap, rfl, hLr⟩ := hL
 have HIN : Hid (XBase.In false (fun b => b < B) W (m' + 1) u x) := hin
 have HT : Hid (∀ W', Below B W W' → Digits.Tab W') := hT
 have HA : Hid (Ap (m' + 1) (-1) x) := hx
 have HL : Hid (L.length + (pr (-1) x).length + 2 ≤ 100000000000) := hl
 have hll : L.length + 2 ≤ 100000000000 := by omega
 clear hin hT hx hLr hl
 subst hu
 obtain ⟨ap, np, cp, rfl⟩ := hp.shape
 obtain ⟨W1, hW1⟩ : ∃ W1, W.alloc (.cells #[.int .i64 x.o, .int .i64 x.i, .string x.s, .slice a x.l.length cap] 24) = W1 := ⟨_, rfl⟩
 have hb0 : Below W.heap.size W W1 := by rw [← hW1]; exact (Below.refl _ W).alloc (Nat.le_refl _) _
 have hp0 : Hid (Pk B W W1 (.slice ap np cp) L []) := hp.below hb0
 have hbx : W1.heap[W.heap.size]? = some (.cells #[.int .i64 x.o, .int .i64 x.i, .string x.s, .slice a x.l.length cap] 24 (0, 0)) := by rw [← hW1]; exact heap_alloc_new W _
 have HX : Hid (W1.heap[W.heap.size]? = some (.cells #[.int .i64 x.o, .int .i64 x.i, .string x.s, .slice a x.l.length cap] 24 (0, 0))) := hbx
 have hp1 := Pk.start hp0.out.own hp0.out.le hp0.out.nil
 have hq := hp1.drew
 obtain ⟨y0, y1, y2, y3⟩ := four_box hbx
 have hB : Below B W W1 := hb0.mono hp.le
 have cE : ∀ (w : World) (v : Value) (lits : List (Nat × List UInt8)), Pk B W1 w v (L ++ [c1]) lits → Calls Tryz.prog 30 #[v, .agg #[.int .i64 x.o, .int .i64 x.i, .string x.s, .slice a x.l.length cap], .int .i64 (-1)] w fun e w' => ∃ v', e = .returned v' ∧ Pk B W1 w' v' (L ++ [c1] ++ pr (-1) x) [] := fun w v lits hq => HA.out.at HIN.out HT.out hB hq (by have := HL.out; simp only [List.length_append, List.length_cons, List.length_nil]; omega)
 have e1 : (Lib.byteCells [c1]).toArray = #[.int .u8 k1] := by rw [← h1]; rfl
 have e2 : (Lib.byteCells [c2]).toArray = #[.int .u8 k2] := by rw [← h2]; rfl
 have HE2 : Hid ((Lib.byteCells [c2]).toArray = #[.int .u8 k2]) := e2
 have HEQ : Hid (L ++ [c1] ++ pr (-1) x ++ [c2] = L ++ (c1 :: pr (-1) x ++ [c2])) := by show _ = _; simp
 clear hp hbx hp1 e2 h1 h2
 go_enter Tryz.func46, Tryz.ntmps46
 go_wp2_with fail
 clear hW1
 go_region_held3 (fun w' => w'.cell? ⟨W.heap.size, 0, none⟩ = some (.int .i64 x.o) ∧ w'.cell? ⟨W.heap.size, 1, none⟩ = some (.int .i64 x.i) ∧ w'.cell? ⟨W.heap.size, 2, none⟩ = some (.string x.s) ∧ w'.cell? ⟨W.heap.size, 3, none⟩ = some (.slice a x.l.length cap)) (go_keep) (first
  | (refine step_bytes (by rfl) _ _ (by rfl) (hq.lay [c1] #[.int .u8 k1] e1) (by rfl) _ _ [c1] (by rfl) (by simp) (by simp; omega) ?_; clear hq; intro vv WW hq; have hxx := hq.ty _ _ _ _ HX.out (by decide); obtain ⟨y0, y1, y2, y3⟩ := four_box hxx)
  | (go_at_call 30; refine (cE _ _ _ hq).mono ?_; clear hq; rintro e WW ⟨vv, rfl, hq⟩; have hxx := hq.ty _ _ _ _ HX.out (by decide); obtain ⟨y0, y1, y2, y3⟩ := four_box hxx)
  | fail)
 have hq2 := hq.bare.lay [c2] #[.int .u8 k2] HE2.out
 have hlM : (L ++ [c1] ++ pr (-1) x).length + 1 ≤ 100000000000 := by have := HL.out; simp only [List.length_append, List.length_cons, List.length_nil]; omega
 obtain ⟨M, hM⟩ : ∃ M, L ++ [c1] ++ pr (-1) x = M := ⟨_, rfl⟩
 rw [hM] at hq2 hlM HEQ
 obtain ⟨a3, n3, c3, rfl⟩ := hq.shape
 clear hq hM cE e1 y0 y1 y2 y3
 go_wp2_with (first | (at_builtin; refine list_bytes rfl _ _ rfl hq2 rfl _ _ [c2] rfl (by simp) (by simp only [List.length_cons, List.length_nil]; omega) ?_))
 intro v4 W4 hq4
 have HP4 : Hid (Pk B W W4 v4 (L ++ (c1 :: pr (-1) x ++ [c2])) []) := by show Pk B W W4 v4 _ []; rw [← HEQ.out]; exact hp0.out.trans hq4
 obtain ⟨a5, n5, c5, rfl⟩ := hq4.shape
 clear hq4 hq2
 go_wp2_with fail
 go_ret
 exact ⟨_, rfl, HP4.out⟩
end Go.Proofs.YtghnhkagkngjcaaGreatDoor.PBt
namespace Go.Proofs.YtghnhkagkngjcaaGreatDoor.PSg
open Go.RowKit Base EPure PPk PPl PPr PBt
open XBase (four_box two_box frozen_box Rg)
theorem kid {B m : Nat} {W : World} {a : Option Addr} {n cap : Nat} {l : List Ex} (h : XBase.InL false (fun b => b < B) W m (.slice a n cap) l) {j : Nat} (hj : j < l.length) :
  ∃ g o v0 v1 v2 v3, a = some ⟨g, o, none⟩ ∧ g < B ∧ W.cell? ⟨g, o + j * 4, none⟩ = some v0 ∧ W.cell? ⟨g, o + j * 4 + 1, none⟩ = some v1 ∧ W.cell? ⟨g, o + j * 4 + 2, none⟩ = some v2 ∧ W.cell? ⟨g, o + j * 4 + 3, none⟩ = some v3 ∧ XBase.In false (fun b => b < B) W m (.agg #[v0, v1, v2, v3]) l[j] := by
 obtain ⟨a', cap', e, _, _, _, _, hL⟩ := h
 cases e
 obtain ⟨g, o, u, ha, hg, ⟨v0, v1, v2, v3, rfl, d0, d1, d2, d3⟩, hi⟩ := XBase.elem_at hL hj
 exact ⟨g, o, v0, v1, v2, v3, ha, hg, d0, d1, d2, d3, hi⟩
theorem signed_c {m : Nat} {o : Int} {c : UInt8} {k : Int} (ho : (o == 10) = true ∧ c = 45 ∧ k = 45 ∨ (o == 10) = false ∧ c = 33 ∧ k = 33) {i : Int} {s : ByteArray} {y : Ex} (hy : Ap m 11 y) {B : Nat} {W : World} {v u : Value} {L : List UInt8} (hin : XBase.In false (fun b => b < B) W (m + 1) u (.mk o i s [y])) (hT : ∀ W', Below B W W' → Digits.Tab W') (hp : Pk B W W v L []) (hl : L.length + (pr 11 y).length + 1 ≤ 100000000000) :
  Calls Tryz.prog 47 #[v, u] W fun e w' => ∃ v', e = .returned v' ∧ Pk B W w' v' (L ++ (c :: pr 11 y)) [] := by
 obtain ⟨m', lv, hm, hu, hoo, hi, hs, hL⟩ := hin.shape
 obtain rfl : m = m' := by omega
 have hL0 := hL
 obtain ⟨a, cap, rfl, hcap, hcap2, hLr⟩ := hL0
 obtain ⟨g, oo, v0, v1, v2, v3, rfl, hg, d0, d1, d2, d3, hk⟩ := kid hL (j := 0) (by show 0 < 1; omega)
 have hk : XBase.In false (fun b => b < B) W m (.agg #[v0, v1, v2, v3]) y := hk
 have hcap : 1 ≤ cap := hcap
 have hu : u = .agg #[.int .i64 o, .int .i64 i, .string s, .slice (some ⟨g, oo, none⟩) 1 cap] := hu
 have HK : Hid (XBase.In false (fun b => b < B) W m (.agg #[v0, v1, v2, v3]) y) := hk
 have HT : Hid (∀ W', Below B W W' → Digits.Tab W') := hT
 have HA : Hid (Ap m 11 y) := hy
 have HL : Hid (L.length + (pr 11 y).length + 1 ≤ 100000000000) := hl
 have hll : L.length + 1 ≤ 100000000000 := by omega
 clear hin hT hy hLr hl hL hk
 subst hu
 obtain ⟨ap, np, cp, rfl⟩ := hp.shape
 obtain ⟨W1, hW1⟩ : ∃ W1, W.alloc (.cells #[.int .i64 o, .int .i64 i, .string s, .slice (some ⟨g, oo, none⟩) 1 cap] 24) = W1 := ⟨_, rfl⟩
 have hb0 : Below W.heap.size W W1 := by rw [← hW1]; exact (Below.refl _ W).alloc (Nat.le_refl _) _
 have hp0 : Hid (Pk B W W1 (.slice ap np cp) L []) := hp.below hb0
 have hbx : W1.heap[W.heap.size]? = some (.cells #[.int .i64 o, .int .i64 i, .string s, .slice (some ⟨g, oo, none⟩) 1 cap] 24 (0, 0)) := by rw [← hW1]; exact heap_alloc_new W _
 have HX : Hid (W1.heap[W.heap.size]? = some (.cells #[.int .i64 o, .int .i64 i, .string s, .slice (some ⟨g, oo, none⟩) 1 cap] 24 (0, 0))) := hbx
 have hp1 := Pk.start hp0.out.own hp0.out.le hp0.out.nil
 obtain ⟨y0, y1, y2, y3⟩ := four_box hbx
 have hB : Below B W W1 := hb0.mono hp.le
 have HD : Hid (W.cell? ⟨g, oo, none⟩ = some v0 ∧ W.cell? ⟨g, oo + 1, none⟩ = some v1 ∧ W.cell? ⟨g, oo + 2, none⟩ = some v2 ∧ W.cell? ⟨g, oo + 3, none⟩ = some v3) := ⟨by simpa using d0, by simpa using d1, by simpa using d2, by simpa using d3⟩
 clear hp hbx d0 d1 d2 d3
 have cE : ∀ (w : World) (v : Value) (lits : List (Nat × List UInt8)), Pk B W1 w v (L ++ [c]) lits → Calls Tryz.prog 30 #[v, .agg #[v0, v1, v2, v3], .int .i64 11] w fun e w' => ∃ v', e = .returned v' ∧ Pk B W1 w' v' (L ++ [c] ++ pr 11 y) [] := fun w v lits hq => HA.out.at HK.out HT.out hB hq (by have := HL.out; simp only [List.length_append, List.length_cons, List.length_nil]; omega)
 have HEQ : Hid (L ++ [c] ++ pr 11 y = L ++ (c :: pr 11 y)) := by show _ = _; simp
 rcases ho with ⟨e10, rfl, rfl⟩ | ⟨e10, rfl, rfl⟩
 ·have hp2 := hp1.lay [45] #[.int .u8 45] rfl
  clear hp1
  go_enter Tryz.func47, Tryz.ntmps47
  go_wp2_with (first | (at_builtin; refine list_bytes rfl _ _ rfl hp2 rfl _ _ [45] rfl (by simp) (by simp only [List.length_cons, List.length_nil]; omega) ?_))
  intro vv WW hq
  obtain ⟨a5, n5, c5, rfl⟩ := hq.shape
  have hxx := hq.ty _ _ _ _ HX.out (by decide)
  have hkk := keepB (hB.trans hq.bel)
  have d0 := hkk.cell hg HD.out.1
  have d1 := hkk.cell hg HD.out.2.1
  have d2 := hkk.cell hg HD.out.2.2.1
  have d3 := hkk.cell hg HD.out.2.2.2
  clear y0 y1 y2 y3 hp2 hW1 hkk
  obtain ⟨y0, y1, y2, y3⟩ := four_box hxx
  have c2 := cE WW _ _ hq
  clear hq cE hxx
  go_wp2_with fail
  refine c2.mono ?_
  rintro e W5 ⟨v5, rfl, hq5⟩
  have HP5 : Hid (Pk B W W5 v5 (L ++ (45 :: pr 11 y)) []) := by show Pk B W W5 v5 _ []; rw [← HEQ.out]; exact hp0.out.trans hq5
  obtain ⟨a6, n6, c6, rfl⟩ := hq5.shape
  clear hq5 c2
  go_wp2_with fail
  go_ret
  exact ⟨_, rfl, HP5.out⟩
 ·have hp2 := hp1.lay [33] #[.int .u8 33] rfl
  clear hp1
  go_enter Tryz.func47, Tryz.ntmps47
  go_wp2_with (first | (at_builtin; refine list_bytes rfl _ _ rfl hp2 rfl _ _ [33] rfl (by simp) (by simp only [List.length_cons, List.length_nil]; omega) ?_))
  intro vv WW hq
  obtain ⟨a5, n5, c5, rfl⟩ := hq.shape
  have hxx := hq.ty _ _ _ _ HX.out (by decide)
  have hkk := keepB (hB.trans hq.bel)
  have d0 := hkk.cell hg HD.out.1
  have d1 := hkk.cell hg HD.out.2.1
  have d2 := hkk.cell hg HD.out.2.2.1
  have d3 := hkk.cell hg HD.out.2.2.2
  clear y0 y1 y2 y3 hp2 hW1 hkk
  obtain ⟨y0, y1, y2, y3⟩ := four_box hxx
  have c2 := cE WW _ _ hq
  clear hq cE hxx
  go_wp2_with fail
  refine c2.mono ?_
  rintro e W5 ⟨v5, rfl, hq5⟩
  have HP5 : Hid (Pk B W W5 v5 (L ++ (33 :: pr 11 y)) []) := by show Pk B W W5 v5 _ []; rw [← HEQ.out]; exact hp0.out.trans hq5
  obtain ⟨a6, n6, c6, rfl⟩ := hq5.shape
  clear hq5 c2
  go_wp2_with fail
  go_ret
  exact ⟨_, rfl, HP5.out⟩
end Go.Proofs.YtghnhkagkngjcaaGreatDoor.PSg
namespace Go.Proofs.YtghnhkagkngjcaaGreatDoor.PPa
open Go.RowKit Base EPure ENd PPk PPl PPr PBt PSg
open PTx (qt)
open XBase (four_box two_box frozen_box Rg)
theorem part_int {m : Nat} {i : Int} {s : ByteArray}  {B : Nat} {W : World} {v u : Value} {L : List UInt8} (hin : XBase.In false (fun b => b < B) W (m + 1) u (.mk 4 i s [])) (hT : ∀ W', Below B W W' → Digits.Tab W') (hp : Pk B W W v L []) (hl : L.length + (Lib.itoa i).length ≤ 100000000000) :
  Calls Tryz.prog 48 #[v, u] W fun e w' => ∃ v', e = .returned v' ∧ Pk B W w' v' (L ++ (Lib.itoa i)) [] := by
 obtain ⟨m', lv, hm, hu, hoo, hi, hs, hL⟩ := hin.shape
 obtain rfl : m = m' := by omega
 have hL0 := hL
 obtain ⟨a, cap, rfl, hcap, hcap2, hLr⟩ := hL0
 have hcap : 0 ≤ cap := hcap
 have hu : u = .agg #[.int .i64 4, .int .i64 i, .string s, .slice a 0 cap] := hu
 have hi : -9223372036854775808 ≤ i ∧ i ≤ 9223372036854775807 := hi
 have hs : s.size ≤ 140737488351232 := hs
 have HT : Hid (∀ W', Below B W W' → Digits.Tab W') := hT
 have HL : Hid (L.length + (Lib.itoa i).length ≤ 100000000000) := hl
 have hll : L.length ≤ 100000000000 := by omega
 have hsz := hp.le
 clear hin hT hLr hl hL hm
 subst hu
 obtain ⟨ap, np, cp, rfl⟩ := hp.shape
 obtain ⟨W1, hW1⟩ : ∃ W1, W.alloc (.cells #[.int .i64 4, .int .i64 i, .string s, .slice a 0 cap] 24) = W1 := ⟨_, rfl⟩
 have hb0 : Below W.heap.size W W1 := by rw [← hW1]; exact (Below.refl _ W).alloc (Nat.le_refl _) _
 have hp0 : Hid (Pk B W W1 (.slice ap np cp) L []) := hp.below hb0
 have hbx : W1.heap[W.heap.size]? = some (.cells #[.int .i64 4, .int .i64 i, .string s, .slice a 0 cap] 24 (0, 0)) := by rw [← hW1]; exact heap_alloc_new W _
 have HX : Hid (W1.heap[W.heap.size]? = some (.cells #[.int .i64 4, .int .i64 i, .string s, .slice a 0 cap] 24 (0, 0))) := hbx
 have hp1 := Pk.start hp0.out.own hp0.out.le hp0.out.nil
 obtain ⟨y0, y1, y2, y3⟩ := four_box hbx
 have hB : Below B W W1 := hb0.mono hp.le
 clear hp hbx
 have cT := Digits.text i hi.1 hi.2 W1 (HT.out W1 hB)
 have hlen := Lib.itoa_length_le i hi.1 hi.2
 go_enter Tryz.func48, Tryz.ntmps48
 go_wp2_with fail
 refine cT.mono ?_
 rintro e W2 ⟨rfl, b2⟩
 have hq2 := hp1.below b2
 clear cT hp1
 go_wp2_with (first | (at_builtin; refine list_text rfl _ _ rfl hq2 rfl ⟨(Lib.itoa i).toArray⟩ rfl (by show _ + (Lib.itoa i).toArray.size ≤ _; simp only [List.size_toArray]; omega) ?_))
 intro v9 W9 hq9
 have hq9 : Pk B W1 W9 v9 (L ++ Lib.itoa i) [] := by simpa using hq9
 clear hq2
 have HP9 : Hid (Pk B W W9 v9 (L ++ (Lib.itoa i)) []) := by show Pk B W W9 v9 _ []; skip; exact hp0.out.trans hq9
 obtain ⟨a9, n9, c9, rfl⟩ := hq9.shape
 clear hq9
 go_wp2_with fail
 go_ret
 exact ⟨_, rfl, HP9.out⟩
theorem part_str {m : Nat} {i : Int} {s : ByteArray} (hs4 : s.size ≤ 4096)  {B : Nat} {W : World} {v u : Value} {L : List UInt8} (hin : XBase.In false (fun b => b < B) W (m + 1) u (.mk 5 i s [])) (hT : ∀ W', Below B W W' → Digits.Tab W') (hp : Pk B W W v L []) (hl : L.length + (qt s).length ≤ 100000000000) :
  Calls Tryz.prog 48 #[v, u] W fun e w' => ∃ v', e = .returned v' ∧ Pk B W w' v' (L ++ (qt s)) [] := by
 obtain ⟨m', lv, hm, hu, hoo, hi, hs, hL⟩ := hin.shape
 obtain rfl : m = m' := by omega
 have hL0 := hL
 obtain ⟨a, cap, rfl, hcap, hcap2, hLr⟩ := hL0
 have hcap : 0 ≤ cap := hcap
 have hu : u = .agg #[.int .i64 5, .int .i64 i, .string s, .slice a 0 cap] := hu
 have hi : -9223372036854775808 ≤ i ∧ i ≤ 9223372036854775807 := hi
 have hs : s.size ≤ 140737488351232 := hs
 have HT : Hid (∀ W', Below B W W' → Digits.Tab W') := hT
 have HL : Hid (L.length + (qt s).length ≤ 100000000000) := hl
 have hll : L.length ≤ 100000000000 := by omega
 have hsz := hp.le
 clear hin hT hLr hl hL hm
 subst hu
 obtain ⟨ap, np, cp, rfl⟩ := hp.shape
 obtain ⟨W1, hW1⟩ : ∃ W1, W.alloc (.cells #[.int .i64 5, .int .i64 i, .string s, .slice a 0 cap] 24) = W1 := ⟨_, rfl⟩
 have hb0 : Below W.heap.size W W1 := by rw [← hW1]; exact (Below.refl _ W).alloc (Nat.le_refl _) _
 have hp0 : Hid (Pk B W W1 (.slice ap np cp) L []) := hp.below hb0
 have hbx : W1.heap[W.heap.size]? = some (.cells #[.int .i64 5, .int .i64 i, .string s, .slice a 0 cap] 24 (0, 0)) := by rw [← hW1]; exact heap_alloc_new W _
 have HX : Hid (W1.heap[W.heap.size]? = some (.cells #[.int .i64 5, .int .i64 i, .string s, .slice a 0 cap] 24 (0, 0))) := hbx
 have hp1 := Pk.start hp0.out.own hp0.out.le hp0.out.nil
 obtain ⟨y0, y1, y2, y3⟩ := four_box hbx
 have hB : Below B W W1 := hb0.mono hp.le
 clear hp hbx
 have cT := PTx.text_c hp1 hll (s := s) (by omega)
 go_enter Tryz.func48, Tryz.ntmps48
 clear hp1
 go_wp2_with fail
 refine cT.mono ?_
 rintro e W9 ⟨v9, rfl, hq9⟩
 clear cT
 have HP9 : Hid (Pk B W W9 v9 (L ++ (qt s)) []) := by show Pk B W W9 v9 _ []; skip; exact hp0.out.trans hq9
 obtain ⟨a9, n9, c9, rfl⟩ := hq9.shape
 clear hq9
 go_wp2_with fail
 go_ret
 exact ⟨_, rfl, HP9.out⟩
theorem part_var {m : Nat} {i : Int} {s : ByteArray}  {B : Nat} {W : World} {v u : Value} {L : List UInt8} (hin : XBase.In false (fun b => b < B) W (m + 1) u (.mk 6 i s [])) (hT : ∀ W', Below B W W' → Digits.Tab W') (hp : Pk B W W v L []) (hl : L.length + (s.data.toList).length ≤ 100000000000) :
  Calls Tryz.prog 48 #[v, u] W fun e w' => ∃ v', e = .returned v' ∧ Pk B W w' v' (L ++ (s.data.toList)) [] := by
 obtain ⟨m', lv, hm, hu, hoo, hi, hs, hL⟩ := hin.shape
 obtain rfl : m = m' := by omega
 have hL0 := hL
 obtain ⟨a, cap, rfl, hcap, hcap2, hLr⟩ := hL0
 have hcap : 0 ≤ cap := hcap
 have hu : u = .agg #[.int .i64 6, .int .i64 i, .string s, .slice a 0 cap] := hu
 have hi : -9223372036854775808 ≤ i ∧ i ≤ 9223372036854775807 := hi
 have hs : s.size ≤ 140737488351232 := hs
 have HT : Hid (∀ W', Below B W W' → Digits.Tab W') := hT
 have HL : Hid (L.length + (s.data.toList).length ≤ 100000000000) := hl
 have hll : L.length ≤ 100000000000 := by omega
 have hsz := hp.le
 clear hin hT hLr hl hL hm
 subst hu
 obtain ⟨ap, np, cp, rfl⟩ := hp.shape
 obtain ⟨W1, hW1⟩ : ∃ W1, W.alloc (.cells #[.int .i64 6, .int .i64 i, .string s, .slice a 0 cap] 24) = W1 := ⟨_, rfl⟩
 have hb0 : Below W.heap.size W W1 := by rw [← hW1]; exact (Below.refl _ W).alloc (Nat.le_refl _) _
 have hp0 : Hid (Pk B W W1 (.slice ap np cp) L []) := hp.below hb0
 have hbx : W1.heap[W.heap.size]? = some (.cells #[.int .i64 6, .int .i64 i, .string s, .slice a 0 cap] 24 (0, 0)) := by rw [← hW1]; exact heap_alloc_new W _
 have HX : Hid (W1.heap[W.heap.size]? = some (.cells #[.int .i64 6, .int .i64 i, .string s, .slice a 0 cap] 24 (0, 0))) := hbx
 have hp1 := Pk.start hp0.out.own hp0.out.le hp0.out.nil
 obtain ⟨y0, y1, y2, y3⟩ := four_box hbx
 have hB : Below B W W1 := hb0.mono hp.le
 clear hp hbx
 have HL2 : Hid (L.length + s.size ≤ 100000000000) := by have := HL.out; show _ ≤ _; rw [← size_list]; exact this
 go_enter Tryz.func48, Tryz.ntmps48
 go_wp2_with (first | (at_builtin; refine list_text rfl _ _ rfl hp1 rfl s rfl (by have := HL2.out; omega) ?_))
 intro v9 W9 hq9
 clear hp1
 have HP9 : Hid (Pk B W W9 v9 (L ++ (s.data.toList)) []) := by show Pk B W W9 v9 _ []; skip; exact hp0.out.trans hq9
 obtain ⟨a9, n9, c9, rfl⟩ := hq9.shape
 clear hq9
 go_wp2_with fail
 go_ret
 exact ⟨_, rfl, HP9.out⟩
theorem part_word {m : Nat} {o i : Int} {s : ByteArray} (ho1 : 1 ≤ o) (ho3 : o ≤ 3)  {B : Nat} {W : World} {v u : Value} {L : List UInt8} (hin : XBase.In false (fun b => b < B) W (m + 1) u (.mk o i s [])) (hT : ∀ W', Below B W W' → Digits.Tab W') (hp : Pk B W W v L []) (hl : L.length + ((wdl.getD o.toNat ByteArray.empty).data.toList).length ≤ 100000000000) :
  Calls Tryz.prog 48 #[v, u] W fun e w' => ∃ v', e = .returned v' ∧ Pk B W w' v' (L ++ ((wdl.getD o.toNat ByteArray.empty).data.toList)) [] := by
 obtain ⟨m', lv, hm, hu, hoo, hi, hs, hL⟩ := hin.shape
 obtain rfl : m = m' := by omega
 have hL0 := hL
 obtain ⟨a, cap, rfl, hcap, hcap2, hLr⟩ := hL0
 have hcap : 0 ≤ cap := hcap
 have hu : u = .agg #[.int .i64 o, .int .i64 i, .string s, .slice a 0 cap] := hu
 have hoo : -9223372036854775808 ≤ o ∧ o ≤ 9223372036854775807 := hoo
 have hi : -9223372036854775808 ≤ i ∧ i ≤ 9223372036854775807 := hi
 have hs : s.size ≤ 140737488351232 := hs
 have HT : Hid (∀ W', Below B W W' → Digits.Tab W') := hT
 have HL : Hid (L.length + ((wdl.getD o.toNat ByteArray.empty).data.toList).length ≤ 100000000000) := hl
 have hll : L.length ≤ 100000000000 := by omega
 have hsz := hp.le
 clear hin hT hLr hl hL hm
 subst hu
 obtain ⟨ap, np, cp, rfl⟩ := hp.shape
 obtain ⟨W1, hW1⟩ : ∃ W1, W.alloc (.cells #[.int .i64 o, .int .i64 i, .string s, .slice a 0 cap] 24) = W1 := ⟨_, rfl⟩
 have hb0 : Below W.heap.size W W1 := by rw [← hW1]; exact (Below.refl _ W).alloc (Nat.le_refl _) _
 have hp0 : Hid (Pk B W W1 (.slice ap np cp) L []) := hp.below hb0
 have hbx : W1.heap[W.heap.size]? = some (.cells #[.int .i64 o, .int .i64 i, .string s, .slice a 0 cap] 24 (0, 0)) := by rw [← hW1]; exact heap_alloc_new W _
 have HX : Hid (W1.heap[W.heap.size]? = some (.cells #[.int .i64 o, .int .i64 i, .string s, .slice a 0 cap] 24 (0, 0))) := hbx
 have hp1 := Pk.start hp0.out.own hp0.out.le hp0.out.nil
 obtain ⟨y0, y1, y2, y3⟩ := four_box hbx
 have hB : Below B W W1 := hb0.mono hp.le
 clear hp hbx
 have cW := words_c W1
 have e4 : (o == 4) = false := by simp; omega
 have e5 : (o == 5) = false := by simp; omega
 have e6 : (o == 6) = false := by simp; omega
 have e7 : (o == 7) = false := by simp; omega
 have e8 : (o == 8) = false := by simp; omega
 have e9 : (o == 9) = false := by simp; omega
 obtain ⟨n, rfl⟩ : ∃ n : Nat, o = n := ⟨o.toNat, by omega⟩
 have HL2 : Hid (L.length + (wdl.getD n ByteArray.empty).size ≤ 100000000000) := by have := HL.out; show _ ≤ _; rw [← size_list]; exact this
 have HTN : Hid ((n : Int).toNat = n) := Int.toNat_natCast n
 rw [HTN.out]
 obtain ⟨X, hX⟩ : ∃ X, wdl.getD n ByteArray.empty = X := ⟨_, rfl⟩
 have HXX : Hid (wdl.getD n ByteArray.empty = X) := hX
 rw [hX]
 rw [hX] at HL2
 clear hX cW HTN
 have hn0 : (0 : Int) ≤ (n : Int) := by omega
 have hn4 : (n : Int) < 4 := by omega
 go_enter Tryz.func48, Tryz.ntmps48
 have hq := hp1.drew
 go_wp2_with fail
 clear hW1 hp1
 refine wp_region_held_drew (S := fun w' => w'.cell? ⟨W.heap.size, 0, none⟩ = some (.int .i64 (n : Int))) (by kernel_rfl) (by go_keep) (fun hHeld => ?_)
 refine wpAnyH_take (i := 0) (v := ?_) rfl (by kernel_rfl) (by kernel_rfl) (by kernel_rfl) (fun _ _ _ h => h) (Or.inl ⟨by rfl, ?_⟩) (by assumption) ?_
 rotate_left 1
 ·intro w hSw; (try dsimp only at hSw); go_simp; first | done | with_reducible rfl
 try simp only [Act.put, zA, zB, zD, zE, zF]
 refine wpAnyH_take (i := 2) (v := ?_) rfl (by kernel_rfl) (by kernel_rfl) (by kernel_rfl) (fun _ _ _ h => h) (Or.inl ⟨by rfl, ?_⟩) (by assumption) ?_
 rotate_left 1
 ·intro w hSw; (try dsimp only at hSw); go_simp; first | done | with_reducible rfl
 try simp only [Act.put, zA, zB, zC, zD, zE, zF]
 refine wpAnyH_take (i := 3) (v := ?_) rfl (by kernel_rfl) (by kernel_rfl) (by kernel_rfl) (fun _ _ _ h => h) (Or.inl ⟨by rfl, ?_⟩) (by assumption) ?_
 rotate_left 1
 ·intro w hSw; (try dsimp only at hSw); go_simp; first | done | with_reducible rfl
 try simp only [Act.put, zA, zB, zC, zD, zE, zF]
 refine wpAnyH_ready (rs := [1]) (by kernel_rfl) (by simp) ?_
 refine AllReadyH.cons rfl (fun K hK => ?_) AllReadyH.nil
 go_simp
 go_at_call 43
 refine (words_c _).mono ?_
 rintro e W2 ⟨rfl, b2, hc⟩
 have z0 : W2.cell? ⟨W1.heap.size, n, none⟩ = some (.string X) := (by have t := hc n (by show n < 4; omega); rw [Nat.zero_add, HXX.out] at t; exact t)
 have hq := hq.below b2
 have HX2 := hq.ty _ _ _ _ HX.out (by decide)
 clear y0 y1 y2 y3 hc
 obtain ⟨y0, y1, y2, y3⟩ := four_box HX2
 refine hK.out _ _ (by go_keep) (fun hHeld => ?_)
 clear hK K
 try simp only [Act.put, zA, zB, zC, zD, zE, zF]
 refine wpAnyH_ready (rs := [4]) (by kernel_rfl) (by simp) ?_
 refine AllReadyH.cons rfl (fun K hK => ?_) AllReadyH.nil
 go_simp
 refine hK.out _ _ (by go_keep) (fun hHeld => ?_)
 clear hK K
 try simp only [Act.put, zA, zB, zC, zD, zE, zF]
 refine wpAnyH_ready (rs := [5]) (by kernel_rfl) (by simp) ?_
 refine AllReadyH.cons rfl (fun K hK => ?_) AllReadyH.nil
 go_simp
 refine hK.out _ _ (by go_keep) (fun hHeld => ?_)
 clear hK K
 try simp only [Act.put, zA, zB, zC, zD, zE, zF]
 refine wpAnyH_ready (rs := [6]) (by kernel_rfl) (by simp) ?_
 refine AllReadyH.cons rfl (fun K hK => ?_) AllReadyH.nil
 refine step_text (by rfl) _ _ (by rfl) hq (by rfl) X (by rfl) (by have := HL2.out; omega) ?_
 clear hq
 intro v9 W9 hq9
 obtain ⟨a9, n9, c9, rfl⟩ := hq9.shape
 have HX9 := hq9.ty _ _ _ _ HX.out (by decide)
 clear y0 y1 y2 y3 HX2 z0
 obtain ⟨y0, y1, y2, y3⟩ := four_box HX9
 refine hK.out _ _ (by go_keep) (fun hHeld => ?_)
 clear hK K
 try simp only [Act.put, zA, zB, zC, zD, zE, zF]
 refine wpAnyH_take (i := 7) (v := ?_) rfl (by kernel_rfl) (by kernel_rfl) (by kernel_rfl) (fun _ _ _ h => h) (Or.inl ⟨by rfl, ?_⟩) (by assumption) ?_
 rotate_left 1
 ·intro w hSw; (try dsimp only at hSw); go_simp; first | done | with_reducible rfl
 try simp only [Act.put, zA, zB, zC, zD, zE, zF]
 refine wpAnyH_done (by kernel_rfl) ?_ _
 have HP9 : Hid (Pk B W W9 (.slice a9 n9 c9) (L ++ X.data.toList) []) := hp0.out.trans hq9
 clear hq9 HX9 y0 y1 y2 y3 hHeld
 go_wp2_with fail
 go_ret
 exact ⟨_, rfl, HP9.out⟩
end Go.Proofs.YtghnhkagkngjcaaGreatDoor.PPa
namespace Go.Proofs.YtghnhkagkngjcaaGreatDoor.PPb
open Go.RowKit Base EPure ENd PPk PPl PPr PBt PSg PPa
open PTx (qt)
open XBase (four_box two_box frozen_box Rg)
theorem bet {m : Nat} {x : Ex} (h : Ap m (-1) x) {B : Nat} {W W1 : World} {u : Value} (hin : XBase.In false (fun b => b < B) W m u x) (hT : ∀ W', Below B W W' → Digits.Tab W') (hb : Below B W W1) {w : World} {v : Value} {M : List UInt8} {lits : List (Nat × List UInt8)} (hq : Pk B W1 w v M lits) {c1 c2 : UInt8} {k1 k2 : Int} (h1 : (c1.toNat : Int) = k1) (h2 : (c2.toNat : Int) = k2) (hl : M.length + (pr (-1) x).length + 2 ≤ 100000000000) :
  Calls Tryz.prog 46 #[v, .int .u8 k1, u, .int .u8 k2] w fun e w' => ∃ v', e = .returned v' ∧ Pk B W1 w' v' (M ++ (c1 :: pr (-1) x ++ [c2])) [] :=
 (between_c h h1 h2 (hin.keep (keepB (hb.trans hq.bel))) (fun W' hW => hT W' ((hb.trans hq.bel).trans hW)) (Pk.start hq.own hq.le hq.nil) hl).mono fun e w' ⟨v', he, hk⟩ => ⟨v', he, hq.trans hk⟩
theorem part_field {m : Nat} {y : Ex} {i : Int} {s : ByteArray} (hy : Ap m 12 y) {B : Nat} {W : World} {v u : Value} {L : List UInt8} (hin : XBase.In false (fun b => b < B) W (m + 1) u (.mk 7 i s [y])) (hT : ∀ W', Below B W W' → Digits.Tab W') (hp : Pk B W W v L []) (hl : L.length + (pr 12 y ++ [46] ++ s.data.toList).length ≤ 100000000000) :
  Calls Tryz.prog 48 #[v, u] W fun e w' => ∃ v', e = .returned v' ∧ Pk B W w' v' (L ++ (pr 12 y ++ [46] ++ s.data.toList)) [] := by
 obtain ⟨m', lv, hm, hu, hoo, hi, hs, hL⟩ := hin.shape
 obtain rfl : m = m' := by omega
 have hL0 := hL
 obtain ⟨a, cap, rfl, hcap, hcap2, hLr⟩ := hL0
 obtain ⟨g, oo, v0, v1, v2, v3, rfl, hg, d0, d1, d2, d3, hk0⟩ := kid hL (j := 0) (by show 0 < 1; omega)
 have HK0 : Hid (XBase.In false (fun b => b < B) W m (.agg #[v0, v1, v2, v3]) y) := hk0
 have HD0 : Hid (W.cell? ⟨g, oo, none⟩ = some v0 ∧ W.cell? ⟨g, oo + 1, none⟩ = some v1 ∧ W.cell? ⟨g, oo + 2, none⟩ = some v2 ∧ W.cell? ⟨g, oo + 3, none⟩ = some v3) := ⟨by simpa [Nat.add_assoc] using d0, by simpa [Nat.add_assoc] using d1, by simpa [Nat.add_assoc] using d2, by simpa [Nat.add_assoc] using d3⟩
 clear hk0 d0 d1 d2 d3
 have hcap : 1 ≤ cap := hcap
 have hu : u = .agg #[.int .i64 7, .int .i64 i, .string s, .slice (some ⟨g, oo, none⟩) 1 cap] := hu
 have hi : -9223372036854775808 ≤ i ∧ i ≤ 9223372036854775807 := hi
 have hs : s.size ≤ 140737488351232 := hs
 have HT : Hid (∀ W', Below B W W' → Digits.Tab W') := hT
 have HAy : Hid (Ap m 12 y) := hy
 clear hy
 have HL : Hid (L.length + (pr 12 y ++ [46] ++ s.data.toList).length ≤ 100000000000) := hl
 have hll : L.length ≤ 100000000000 := by omega
 have hsz := hp.le
 clear hin hT hLr hl hL hm
 subst hu
 obtain ⟨ap, np, cp, rfl⟩ := hp.shape
 obtain ⟨W1, hW1⟩ : ∃ W1, W.alloc (.cells #[.int .i64 7, .int .i64 i, .string s, .slice (some ⟨g, oo, none⟩) 1 cap] 24) = W1 := ⟨_, rfl⟩
 have hb0 : Below W.heap.size W W1 := by rw [← hW1]; exact (Below.refl _ W).alloc (Nat.le_refl _) _
 have hp0 : Hid (Pk B W W1 (.slice ap np cp) L []) := hp.below hb0
 have hbx : W1.heap[W.heap.size]? = some (.cells #[.int .i64 7, .int .i64 i, .string s, .slice (some ⟨g, oo, none⟩) 1 cap] 24 (0, 0)) := by rw [← hW1]; exact heap_alloc_new W _
 have HX : Hid (W1.heap[W.heap.size]? = some (.cells #[.int .i64 7, .int .i64 i, .string s, .slice (some ⟨g, oo, none⟩) 1 cap] 24 (0, 0))) := hbx
 have hp1 := Pk.start hp0.out.own hp0.out.le hp0.out.nil
 obtain ⟨y0, y1, y2, y3⟩ := four_box hbx
 have hB : Below B W W1 := hb0.mono hp.le
 clear hp hbx
 have hkk := keepB hB
 have d0 := hkk.cell hg HD0.out.1
 have d1 := hkk.cell hg HD0.out.2.1
 have d2 := hkk.cell hg HD0.out.2.2.1
 have d3 := hkk.cell hg HD0.out.2.2.2
 clear hkk
 have hlen : L.length + (pr 12 y).length + 1 + s.size ≤ 100000000000 := by have := HL.out; simp only [List.length_append, List.length_cons, List.length_nil, size_list] at this; omega
 have cE : ∀ (w : World) (v : Value) (lits : List (Nat × List UInt8)), Pk B W1 w v L lits → Calls Tryz.prog 30 #[v, .agg #[v0, v1, v2, v3], .int .i64 12] w fun e w' => ∃ v', e = .returned v' ∧ Pk B W1 w' v' (L ++ pr 12 y) [] := fun w v lits hq => HAy.out.at HK0.out HT.out hB hq (by omega)
 go_enter Tryz.func48, Tryz.ntmps48
 go_wp2_with fail
 refine (cE _ _ _ hp1).mono ?_
 rintro e W2 ⟨v2, rfl, hq2⟩
 obtain ⟨a2, n2, c2, rfl⟩ := hq2.shape
 have HX2 := hq2.ty _ _ _ _ HX.out (by decide)
 clear y0 y1 y2 y3 d0 d1 d2 d3 cE hp1 hW1
 obtain ⟨y0, y1, y2, y3⟩ := four_box HX2
 have hq3 := hq2.lay [46] #[.int .u8 46] rfl
 have hlM : (L ++ pr 12 y).length + 1 + s.size ≤ 100000000000 := by simp only [List.length_append]; omega
 have HEQ : Hid (L ++ pr 12 y ++ [46] ++ s.data.toList = L ++ (pr 12 y ++ [46] ++ s.data.toList)) := by show _ = _; simp
 obtain ⟨M, hM⟩ : ∃ M, L ++ pr 12 y = M := ⟨_, rfl⟩
 rw [hM] at hq3 hlM HEQ
 clear hM hq2 hlen HX2
 go_wp2_with (first | (at_builtin; refine list_bytes rfl _ _ rfl hq3 rfl _ _ [46] rfl (by simp) (by simp only [List.length_cons, List.length_nil]; omega) ?_))
 intro v4 W4 hq4
 have hq5 := hq4.bare
 obtain ⟨a4, n4, c4, rfl⟩ := hq4.shape
 have HX4 := hq4.ty _ _ _ _ HX.out (by decide)
 clear y0 y1 y2 y3 hq4 hq3
 obtain ⟨y0, y1, y2, y3⟩ := four_box HX4
 clear HX4
 go_wp2_with (first | (at_builtin; refine list_text rfl _ _ rfl hq5 rfl s rfl (by simp only [List.length_append, List.length_cons, List.length_nil]; omega) ?_))
 intro v9 W9 hq9
 have hq9 : Pk B W1 W9 v9 (M ++ [46] ++ s.data.toList) [] := by simpa using hq9
 clear hq5
 have HP9 : Hid (Pk B W W9 v9 (L ++ (pr 12 y ++ [46] ++ s.data.toList)) []) := by show Pk B W W9 v9 _ []; rw [← HEQ.out]; exact hp0.out.trans hq9
 obtain ⟨a9, n9, c9, rfl⟩ := hq9.shape
 clear hq9
 go_wp2_with fail
 go_ret
 exact ⟨_, rfl, HP9.out⟩
theorem part_index {m : Nat} {y x : Ex} {i : Int} {s : ByteArray} (hy : Ap m 12 y) (hx : Ap m (-1) x) {B : Nat} {W : World} {v u : Value} {L : List UInt8} (hin : XBase.In false (fun b => b < B) W (m + 1) u (.mk 8 i s [y, x])) (hT : ∀ W', Below B W W' → Digits.Tab W') (hp : Pk B W W v L []) (hl : L.length + (pr 12 y ++ (91 :: pr (-1) x ++ [93])).length ≤ 100000000000) :
  Calls Tryz.prog 48 #[v, u] W fun e w' => ∃ v', e = .returned v' ∧ Pk B W w' v' (L ++ (pr 12 y ++ (91 :: pr (-1) x ++ [93]))) [] := by
 obtain ⟨m', lv, hm, hu, hoo, hi, hs, hL⟩ := hin.shape
 obtain rfl : m = m' := by omega
 have hL0 := hL
 obtain ⟨a, cap, rfl, hcap, hcap2, hLr⟩ := hL0
 obtain ⟨g, oo, v0, v1, v2, v3, rfl, hg, d0, d1, d2, d3, hk0⟩ := kid hL (j := 0) (by show 0 < 2; omega)
 have HK0 : Hid (XBase.In false (fun b => b < B) W m (.agg #[v0, v1, v2, v3]) y) := hk0
 have HD0 : Hid (W.cell? ⟨g, oo, none⟩ = some v0 ∧ W.cell? ⟨g, oo + 1, none⟩ = some v1 ∧ W.cell? ⟨g, oo + 2, none⟩ = some v2 ∧ W.cell? ⟨g, oo + 3, none⟩ = some v3) := ⟨by simpa [Nat.add_assoc] using d0, by simpa [Nat.add_assoc] using d1, by simpa [Nat.add_assoc] using d2, by simpa [Nat.add_assoc] using d3⟩
 clear hk0 d0 d1 d2 d3
 obtain ⟨g1, o1, p10, p11, p12, p13, E1, _, b10, b11, b12, b13, hk1⟩ := kid hL (j := 1) (by show 1 < 2; omega)
 cases E1
 have HK1 : Hid (XBase.In false (fun b => b < B) W m (.agg #[p10, p11, p12, p13]) x) := hk1
 have HD1 : Hid (W.cell? ⟨g, oo + 4, none⟩ = some p10 ∧ W.cell? ⟨g, oo + 5, none⟩ = some p11 ∧ W.cell? ⟨g, oo + 6, none⟩ = some p12 ∧ W.cell? ⟨g, oo + 7, none⟩ = some p13) := ⟨by simpa [Nat.add_assoc] using b10, by simpa [Nat.add_assoc] using b11, by simpa [Nat.add_assoc] using b12, by simpa [Nat.add_assoc] using b13⟩
 clear hk1 b10 b11 b12 b13
 have hcap : 2 ≤ cap := hcap
 have hu : u = .agg #[.int .i64 8, .int .i64 i, .string s, .slice (some ⟨g, oo, none⟩) 2 cap] := hu
 have hi : -9223372036854775808 ≤ i ∧ i ≤ 9223372036854775807 := hi
 have hs : s.size ≤ 140737488351232 := hs
 have HT : Hid (∀ W', Below B W W' → Digits.Tab W') := hT
 have HAy : Hid (Ap m 12 y) := hy
 clear hy
 have HAx : Hid (Ap m (-1) x) := hx
 clear hx
 have HL : Hid (L.length + (pr 12 y ++ (91 :: pr (-1) x ++ [93])).length ≤ 100000000000) := hl
 have hll : L.length ≤ 100000000000 := by omega
 have hsz := hp.le
 clear hin hT hLr hl hL hm
 subst hu
 obtain ⟨ap, np, cp, rfl⟩ := hp.shape
 obtain ⟨W1, hW1⟩ : ∃ W1, W.alloc (.cells #[.int .i64 8, .int .i64 i, .string s, .slice (some ⟨g, oo, none⟩) 2 cap] 24) = W1 := ⟨_, rfl⟩
 have hb0 : Below W.heap.size W W1 := by rw [← hW1]; exact (Below.refl _ W).alloc (Nat.le_refl _) _
 have hp0 : Hid (Pk B W W1 (.slice ap np cp) L []) := hp.below hb0
 have hbx : W1.heap[W.heap.size]? = some (.cells #[.int .i64 8, .int .i64 i, .string s, .slice (some ⟨g, oo, none⟩) 2 cap] 24 (0, 0)) := by rw [← hW1]; exact heap_alloc_new W _
 have HX : Hid (W1.heap[W.heap.size]? = some (.cells #[.int .i64 8, .int .i64 i, .string s, .slice (some ⟨g, oo, none⟩) 2 cap] 24 (0, 0))) := hbx
 have hp1 := Pk.start hp0.out.own hp0.out.le hp0.out.nil
 obtain ⟨y0, y1, y2, y3⟩ := four_box hbx
 have hB : Below B W W1 := hb0.mono hp.le
 clear hp hbx
 have hkk := keepB hB
 have d0 := hkk.cell hg HD0.out.1
 have d1 := hkk.cell hg HD0.out.2.1
 have d2 := hkk.cell hg HD0.out.2.2.1
 have d3 := hkk.cell hg HD0.out.2.2.2
 clear hkk
 have hlen : L.length + (pr 12 y).length + (pr (-1) x).length + 2 ≤ 100000000000 := by have := HL.out; simp only [List.length_append, List.length_cons, List.length_nil] at this; omega
 have cE : ∀ (w : World) (v : Value) (lits : List (Nat × List UInt8)), Pk B W1 w v L lits → Calls Tryz.prog 30 #[v, .agg #[v0, v1, v2, v3], .int .i64 12] w fun e w' => ∃ v', e = .returned v' ∧ Pk B W1 w' v' (L ++ pr 12 y) [] := fun w v lits hq => HAy.out.at HK0.out HT.out hB hq (by omega)
 go_enter Tryz.func48, Tryz.ntmps48
 go_wp2_with fail
 refine (cE _ _ _ hp1).mono ?_
 rintro e W2 ⟨v2, rfl, hq2⟩
 obtain ⟨a2, n2, c2, rfl⟩ := hq2.shape
 have HX2 := hq2.ty _ _ _ _ HX.out (by decide)
 clear y0 y1 y2 y3 d0 d1 d2 d3 cE hp1 hW1
 obtain ⟨y0, y1, y2, y3⟩ := four_box HX2
 have hkk := keepB (hB.trans hq2.bel)
 have b10 := hkk.cell hg HD1.out.1
 have b11 := hkk.cell hg HD1.out.2.1
 have b12 := hkk.cell hg HD1.out.2.2.1
 have b13 := hkk.cell hg HD1.out.2.2.2
 clear hkk
 have cB := bet HAx.out HK1.out HT.out hB hq2 (c1 := 91) (c2 := 93) (k1 := 91) (k2 := 93) rfl rfl (by simp only [List.length_append]; omega)
 have HEQ : Hid (L ++ pr 12 y ++ (91 :: pr (-1) x ++ [93]) = L ++ (pr 12 y ++ (91 :: pr (-1) x ++ [93]))) := by show _ = _; simp
 clear hq2 HX2 hlen
 go_wp2_with fail
 refine cB.mono ?_
 rintro e W9 ⟨v9, rfl, hq9⟩
 clear cB
 have HP9 : Hid (Pk B W W9 v9 (L ++ (pr 12 y ++ (91 :: pr (-1) x ++ [93]))) []) := by show Pk B W W9 v9 _ []; rw [← HEQ.out]; exact hp0.out.trans hq9
 obtain ⟨a9, n9, c9, rfl⟩ := hq9.shape
 clear hq9
 go_wp2_with fail
 go_ret
 exact ⟨_, rfl, HP9.out⟩
theorem part_call {m : Nat} {y : Ex} {i : Int} {s : ByteArray} (hi1 : 1 ≤ i) (hi8 : i ≤ 8) (hy : Ap m (-1) y) {B : Nat} {W : World} {v u : Value} {L : List UInt8} (hin : XBase.In false (fun b => b < B) W (m + 1) u (.mk 9 i s [y])) (hT : ∀ W', Below B W W' → Digits.Tab W') (hp : Pk B W W v L []) (hl : L.length + ((cll.getD i.toNat ByteArray.empty).data.toList ++ (40 :: pr (-1) y ++ [41])).length ≤ 100000000000) :
  Calls Tryz.prog 48 #[v, u] W fun e w' => ∃ v', e = .returned v' ∧ Pk B W w' v' (L ++ ((cll.getD i.toNat ByteArray.empty).data.toList ++ (40 :: pr (-1) y ++ [41]))) [] := by
 obtain ⟨m', lv, hm, hu, hoo, hi, hs, hL⟩ := hin.shape
 obtain rfl : m = m' := by omega
 have hL0 := hL
 obtain ⟨a, cap, rfl, hcap, hcap2, hLr⟩ := hL0
 obtain ⟨g, oo, v0, v1, v2, v3, rfl, hg, d0, d1, d2, d3, hk0⟩ := kid hL (j := 0) (by show 0 < 1; omega)
 have HK0 : Hid (XBase.In false (fun b => b < B) W m (.agg #[v0, v1, v2, v3]) y) := hk0
 have HD0 : Hid (W.cell? ⟨g, oo, none⟩ = some v0 ∧ W.cell? ⟨g, oo + 1, none⟩ = some v1 ∧ W.cell? ⟨g, oo + 2, none⟩ = some v2 ∧ W.cell? ⟨g, oo + 3, none⟩ = some v3) := ⟨by simpa [Nat.add_assoc] using d0, by simpa [Nat.add_assoc] using d1, by simpa [Nat.add_assoc] using d2, by simpa [Nat.add_assoc] using d3⟩
 clear hk0 d0 d1 d2 d3
 have hcap : 1 ≤ cap := hcap
 have hu : u = .agg #[.int .i64 9, .int .i64 i, .string s, .slice (some ⟨g, oo, none⟩) 1 cap] := hu
 have hi : -9223372036854775808 ≤ i ∧ i ≤ 9223372036854775807 := hi
 have hs : s.size ≤ 140737488351232 := hs
 have HT : Hid (∀ W', Below B W W' → Digits.Tab W') := hT
 have HAy : Hid (Ap m (-1) y) := hy
 clear hy
 have HL : Hid (L.length + ((cll.getD i.toNat ByteArray.empty).data.toList ++ (40 :: pr (-1) y ++ [41])).length ≤ 100000000000) := hl
 have hll : L.length ≤ 100000000000 := by omega
 have hsz := hp.le
 clear hin hT hLr hl hL hm
 subst hu
 obtain ⟨ap, np, cp, rfl⟩ := hp.shape
 obtain ⟨W1, hW1⟩ : ∃ W1, W.alloc (.cells #[.int .i64 9, .int .i64 i, .string s, .slice (some ⟨g, oo, none⟩) 1 cap] 24) = W1 := ⟨_, rfl⟩
 have hb0 : Below W.heap.size W W1 := by rw [← hW1]; exact (Below.refl _ W).alloc (Nat.le_refl _) _
 have hp0 : Hid (Pk B W W1 (.slice ap np cp) L []) := hp.below hb0
 have hbx : W1.heap[W.heap.size]? = some (.cells #[.int .i64 9, .int .i64 i, .string s, .slice (some ⟨g, oo, none⟩) 1 cap] 24 (0, 0)) := by rw [← hW1]; exact heap_alloc_new W _
 have HX : Hid (W1.heap[W.heap.size]? = some (.cells #[.int .i64 9, .int .i64 i, .string s, .slice (some ⟨g, oo, none⟩) 1 cap] 24 (0, 0))) := hbx
 have hp1 := Pk.start hp0.out.own hp0.out.le hp0.out.nil
 obtain ⟨y0, y1, y2, y3⟩ := four_box hbx
 have hB : Below B W W1 := hb0.mono hp.le
 clear hp hbx
 have hkk := keepB hB
 have d0 := hkk.cell hg HD0.out.1
 have d1 := hkk.cell hg HD0.out.2.1
 have d2 := hkk.cell hg HD0.out.2.2.1
 have d3 := hkk.cell hg HD0.out.2.2.2
 clear hkk
 obtain ⟨n, rfl⟩ : ∃ n : Nat, i = n := ⟨i.toNat, by omega⟩
 have HTN : Hid ((n : Int).toNat = n) := Int.toNat_natCast n
 rw [HTN.out] at HL ⊢
 have hlen : L.length + (cll.getD n ByteArray.empty).size + (pr (-1) y).length + 2 ≤ 100000000000 := by have := HL.out; simp only [List.length_append, List.length_cons, List.length_nil, size_list] at this; omega
 obtain ⟨X, hX⟩ : ∃ X, cll.getD n ByteArray.empty = X := ⟨_, rfl⟩
 have HXX : Hid (cll.getD n ByteArray.empty = X) := hX
 rw [hX] at hlen HL ⊢
 have HL2 : Hid (L.length + X.size + (pr (-1) y).length + 2 ≤ 100000000000) := hlen
 clear hX HTN hlen
 have hn0 : (0 : Int) ≤ (n : Int) := by omega
 have hn4 : (n : Int) < 9 := by omega
 go_enter Tryz.func48, Tryz.ntmps48
 have hq := hp1.drew
 go_wp2_with fail
 clear hW1 hp1
 refine wp_region_held_drew (S := fun w' => w'.cell? ⟨W.heap.size, 1, none⟩ = some (.int .i64 (n : Int))) (by kernel_rfl) (by go_keep) (fun hHeld => ?_)
 refine wpAnyH_take (i := 0) (v := ?_) rfl (by kernel_rfl) (by kernel_rfl) (by kernel_rfl) (fun _ _ _ h => h) (Or.inl ⟨by rfl, ?_⟩) (by assumption) ?_
 rotate_left 1
 ·intro w hSw; (try dsimp only at hSw); go_simp; first | done | with_reducible rfl
 try simp only [Act.put, zA, zB, zD, zE, zF]
 refine wpAnyH_take (i := 2) (v := ?_) rfl (by kernel_rfl) (by kernel_rfl) (by kernel_rfl) (fun _ _ _ h => h) (Or.inl ⟨by rfl, ?_⟩) (by assumption) ?_
 rotate_left 1
 ·intro w hSw; (try dsimp only at hSw); go_simp; first | done | with_reducible rfl
 try simp only [Act.put, zA, zB, zC, zD, zE, zF]
 refine wpAnyH_take (i := 3) (v := ?_) rfl (by kernel_rfl) (by kernel_rfl) (by kernel_rfl) (fun _ _ _ h => h) (Or.inl ⟨by rfl, ?_⟩) (by assumption) ?_
 rotate_left 1
 ·intro w hSw; (try dsimp only at hSw); go_simp; first | done | with_reducible rfl
 try simp only [Act.put, zA, zB, zC, zD, zE, zF]
 refine wpAnyH_ready (rs := [1]) (by kernel_rfl) (by simp) ?_
 refine AllReadyH.cons rfl (fun K hK => ?_) AllReadyH.nil
 go_simp
 go_at_call 72
 refine (calls_c _).mono ?_
 rintro e W2 ⟨rfl, b2, hc⟩
 have z0 : W2.cell? ⟨W1.heap.size, n, none⟩ = some (.string X) := (by have t := hc n (by show n < 9; omega); rw [Nat.zero_add, HXX.out] at t; exact t)
 have hq := hq.below b2
 have HX2 := hq.ty _ _ _ _ HX.out (by decide)
 clear y0 y1 y2 y3 hc
 obtain ⟨y0, y1, y2, y3⟩ := four_box HX2
 refine hK.out _ _ (by go_keep) (fun hHeld => ?_)
 clear hK K
 try simp only [Act.put, zA, zB, zC, zD, zE, zF]
 refine wpAnyH_ready (rs := [4]) (by kernel_rfl) (by simp) ?_
 refine AllReadyH.cons rfl (fun K hK => ?_) AllReadyH.nil
 go_simp
 refine hK.out _ _ (by go_keep) (fun hHeld => ?_)
 clear hK K
 try simp only [Act.put, zA, zB, zC, zD, zE, zF]
 refine wpAnyH_ready (rs := [5]) (by kernel_rfl) (by simp) ?_
 refine AllReadyH.cons rfl (fun K hK => ?_) AllReadyH.nil
 go_simp
 refine hK.out _ _ (by go_keep) (fun hHeld => ?_)
 clear hK K
 try simp only [Act.put, zA, zB, zC, zD, zE, zF]
 refine wpAnyH_ready (rs := [6]) (by kernel_rfl) (by simp) ?_
 refine AllReadyH.cons rfl (fun K hK => ?_) AllReadyH.nil
 refine step_text (by rfl) _ _ (by rfl) hq (by rfl) X (by rfl) (by have := HL2.out; omega) ?_
 clear hq
 intro v8 W8 hqq
 obtain ⟨a8, n8, c8, rfl⟩ := hqq.shape
 have HX8 := hqq.ty _ _ _ _ HX.out (by decide)
 clear y0 y1 y2 y3 HX2 z0
 obtain ⟨y0, y1, y2, y3⟩ := four_box HX8
 refine hK.out _ _ (by go_keep) (fun hHeld => ?_)
 clear hK K
 try simp only [Act.put, zA, zB, zC, zD, zE, zF]
 refine wpAnyH_take (i := 7) (v := ?_) rfl (by kernel_rfl) (by kernel_rfl) (by kernel_rfl) (fun _ _ _ h => h) (Or.inl ⟨by rfl, ?_⟩) (by assumption) ?_
 rotate_left 1
 ·intro w hSw; (try dsimp only at hSw); go_simp; first | done | with_reducible rfl
 try simp only [Act.put, zA, zB, zC, zD, zE]
 refine wpAnyH_done (by kernel_rfl) ?_ _
 clear hHeld d0 d1 d2 d3 HX8
 have hkk := keepB (hB.trans hqq.bel)
 have d0 := hkk.cell hg HD0.out.1
 have d1 := hkk.cell hg HD0.out.2.1
 have d2 := hkk.cell hg HD0.out.2.2.1
 have d3 := hkk.cell hg HD0.out.2.2.2
 clear hkk
 have cB := bet HAy.out HK0.out HT.out hB hqq (c1 := 40) (c2 := 41) (k1 := 40) (k2 := 41) rfl rfl (by have := HL2.out; simp only [List.length_append, size_list]; omega)
 have HEQ : Hid (L ++ X.data.toList ++ (40 :: pr (-1) y ++ [41]) = L ++ (X.data.toList ++ (40 :: pr (-1) y ++ [41]))) := by show _ = _; simp
 clear hqq
 go_wp2_with fail
 refine cB.mono ?_
 rintro e W9 ⟨v9, rfl, hq9⟩
 clear cB
 have HP9 : Hid (Pk B W W9 v9 (L ++ (X.data.toList ++ (40 :: pr (-1) y ++ [41]))) []) := by show Pk B W W9 v9 _ []; rw [← HEQ.out]; exact hp0.out.trans hq9
 obtain ⟨a9, n9, c9, rfl⟩ := hq9.shape
 clear hq9
 go_wp2_with fail
 go_ret
 exact ⟨_, rfl, HP9.out⟩
end Go.Proofs.YtghnhkagkngjcaaGreatDoor.PPb

import Derived.BigQuiet
import Derived.Deep.CutBlock
import Derived.Deep.CutRange
import Derived.Deep.RegionHeld3
import Derived.Test.YtiijfmdfccdagaaGreatDoorPA01
import Derived.Test.YtiijfmdfccdagaaGreatDoorPA06
import Derived.Test.YtiijfmdfccdagaaGreatDoorPA13
open Go.Proofs.Tryz
set_option linter.unusedVariables false
set_option maxRecDepth 20000
set_option maxHeartbeats 6400000
namespace Go.Proofs.YtiijfmdfccdagaaGreatDoor.JEr
open Go.RowKit Base EPure JPure
open VPure hiding evL
open SFit (kd)
def N0 {α : Type} (x : Except Nat α) : Prop := x ≠ .error 0
theorem ok0 {α : Type} (a : α) : N0 (.ok a) := fun h => by cases h
theorem er0 {α : Type} {e : Nat} (h : e ≠ 0) : N0 (.error e : Except Nat α) := fun q => by injection q with q; exact h q
theorem bnd0 {α β : Type} {x : Except Nat α} {f : α -> Except Nat β} (h : N0 x) (hf : ∀ a, N0 (f a)) : N0 (bnd x f) := by
 cases x with
 | error e => exact er0 fun q => h (by rw [q])
 | ok a => exact hf a
theorem isT0 (c : C) : N0 (isT c) := by unfold isT; split <;> first | exact ok0 _ | exact er0 (by decide)
theorem chk0 (x e : Int) : N0 (chkI x e) := by unfold chkI; (repeat' split) <;> first | exact ok0 _ | exact er0 (by decide)
theorem mapI0 {x : Except Nat Int} (h : N0 x) : N0 (mapI x) := by
 cases x with
 | error e => exact er0 fun q => h (by rw [q])
 | ok a => exact ok0 _
theorem mapS0 {x : Except Nat ByteArray} (h : N0 x) : N0 (mapS x) := by
 cases x with
 | error e => exact er0 fun q => h (by rw [q])
 | ok a => exact ok0 _
theorem mapB0 {x : Except Nat Bool} (h : N0 x) : N0 (mapB x) := by
 cases x with
 | error e => exact er0 fun q => h (by rw [q])
 | ok a => exact ok0 _
theorem txt0 (c : C) : N0 (txt c) := by unfold txt; split <;> first | exact ok0 _ | exact er0 (by decide)
theorem ord0 (k1 i1 : Int) (s1 : ByteArray) (k2 i2 : Int) (s2 : ByteArray) : N0 (ord k1 i1 s1 k2 i2 s2) := by unfold ord; (repeat' split) <;> first | exact ok0 _ | exact er0 (by decide)
theorem numb0 (o : Int) (a b : C) : N0 (numb o a b) := by
 refine mapI0 ?_
 unfold twI
 (repeat' split) <;> first | exact chk0 _ _ | exact er0 (by decide)
theorem pr20 (o : Int) (a b : C) : N0 (pr2 o a b) := by
 unfold pr2
 by_cases q : o = 17
 ·rw [if_pos q]
  exact bnd0 (txt0 a) fun x => bnd0 (txt0 b) fun y => by split <;> first | exact er0 (by decide) | exact ok0 _
 rw [if_neg q]
 clear q
 by_cases q : o = 10
 ·rw [if_pos q]; exact numb0 _ _ _
 rw [if_neg q]
 clear q
 by_cases q : o = 23
 ·rw [if_pos q]; exact bnd0 (ord0 _ _ _ _ _ _) fun _ => ok0 _
 rw [if_neg q]
 clear q
 by_cases q : o = 24
 ·rw [if_pos q]; exact bnd0 (ord0 _ _ _ _ _ _) fun _ => ok0 _
 rw [if_neg q]
 clear q
 by_cases q : o = 25
 ·rw [if_pos q]; exact bnd0 (ord0 _ _ _ _ _ _) fun _ => ok0 _
 rw [if_neg q]
 clear q
 by_cases q : o = 26
 ·rw [if_pos q]; exact bnd0 (ord0 _ _ _ _ _ _) fun _ => ok0 _
 rw [if_neg q]
 clear q
 by_cases q : o = 27
 ·rw [if_pos q]; exact ok0 _
 rw [if_neg q]
 clear q
 by_cases q : o = 28
 ·rw [if_pos q]; exact ok0 _
 rw [if_neg q]
 clear q
 by_cases q : o = 7 \/ o = 8
 ·rw [if_pos q]
  unfold VPure.prt prtR
  by_cases q5 : a.k = 5
  ·rw [if_pos q5]
   (repeat' split) <;> first | exact er0 (by decide) | exact ok0 _
  ·rw [if_neg q5]
   by_cases q6 : a.k = 6 /\ b.k = 4
   ·rw [if_pos q6]
    cases Part.fi a.n b.s with
    | none => exact er0 (by decide)
    | some q => exact ok0 _
   ·rw [if_neg q6]; exact er0 (by decide)
 rw [if_neg q]
 clear q
 by_cases q : o = 9
 ·rw [if_pos q]
  unfold cal
  by_cases q1 : b.i = 1
  ·rw [if_pos q1]
   refine mapI0 ?_
   unfold lenI
   (repeat' split) <;> first | exact er0 (by decide) | exact ok0 _
  rw [if_neg q1]
  by_cases q2 : b.i = 2
  ·rw [if_pos q2]; exact mapS0 (txt0 a)
  ·rw [if_neg q2]
   refine mapI0 ?_
   unfold tunI
   split <;> first | exact er0 (by decide) | exact ok0 _
 rw [if_neg q]
 clear q
 by_cases q : o = 11
 ·rw [if_pos q]
  refine mapB0 ?_
  unfold notT
  split <;> first | exact er0 (by decide) | exact ok0 _
 rw [if_neg q]
 clear q
 by_cases q : o = 20 \/ o = 21 \/ o = 22
 ·rw [if_pos q]
  refine mapI0 ?_
  unfold twX
  (repeat' split) <;> first | exact er0 (by decide) | exact ok0 _
 rw [if_neg q]
 clear q
 exact numb0 _ _ _
theorem kd_pos {o : Int} {n : Nat} (h : (n : Int) = kd o) (h1 : ¬ (1 <= o /\ o <= 6)) : 0 < n /\ (¬ (o = 7 \/ o = 9 \/ o = 10 \/ o = 11) -> 1 < n) /\ (o = 31 -> 2 < n) := by
 unfold kd at h
 rw [if_neg h1] at h
 by_cases h2 : o = 7 \/ o = 9 \/ o = 10 \/ o = 11
 ·rw [if_pos h2] at h; exact ⟨by omega, fun q => (q h2).elim, fun q => by omega⟩
 rw [if_neg h2] at h
 by_cases h3 : o = 8 \/ (12 <= o /\ o <= 30)
 ·rw [if_pos h3] at h; exact ⟨by omega, fun _ => by omega, fun q => by omega⟩
 rw [if_neg h3] at h
 by_cases h4 : o = 31
 ·rw [if_pos h4] at h; exact ⟨by omega, fun _ => by omega, fun q => by omega⟩
 rw [if_neg h4] at h
 omega
theorem node0 {ρ : ByteArray -> Option C} {o i : Int} {s : ByteArray} {p : List Ans} (hk : (p.length : Int) = kd o) (hp : ∀ q, q < p.length -> N0 (p.getD q (.error 0))) : N0 (node ρ o i s p) := by
 unfold node
 by_cases q1 : o = 1
 ·rw [if_pos q1]; exact ok0 _
 rw [if_neg q1]
 by_cases q2 : o = 2 \/ o = 3
 ·rw [if_pos q2]; exact ok0 _
 rw [if_neg q2]
 by_cases q4 : o = 4
 ·rw [if_pos q4]; exact ok0 _
 rw [if_neg q4]
 by_cases q5 : o = 5
 ·rw [if_pos q5]; exact ok0 _
 rw [if_neg q5]
 by_cases q6 : o = 6
 ·rw [if_pos q6]
  cases ρ s with
  | none => exact er0 (by decide)
  | some c => exact ok0 _
 rw [if_neg q6]
 obtain ⟨k0, k1, k2⟩ := kd_pos hk (by omega)
 have h0 := hp 0 k0
 by_cases q29 : o = 29 \/ o = 30
 ·rw [if_pos q29]
  have h1 := hp 1 (k1 (by omega))
  exact bnd0 (bnd0 h0 isT0) fun b => by
   split
   ·exact ok0 _
   ·exact bnd0 (bnd0 h1 isT0) fun c => ok0 _
 rw [if_neg q29]
 by_cases q31 : o = 31
 ·rw [if_pos q31]
  have h1 := hp 1 (k1 (by omega))
  have h2 := hp 2 (k2 q31)
  exact bnd0 (bnd0 h0 isT0) fun b => by
   split
   ·exact h1
   ·exact h2
 rw [if_neg q31]
 refine bnd0 h0 fun a => bnd0 ?_ fun b => pr20 o a b
 unfold snd2
 by_cases r7 : o = 7
 ·rw [if_pos r7]; exact ok0 _
 rw [if_neg r7]
 by_cases r9 : o = 9
 ·rw [if_pos r9]; exact ok0 _
 rw [if_neg r9]
 by_cases r10 : o = 10 \/ o = 11
 ·rw [if_pos r10]; exact ok0 _
 rw [if_neg r10]
 exact hp 1 (k1 (by omega))
theorem evL_len (ρ : Int -> Option C) : ∀ l : List Ex, (evL ρ l).length = l.length
 | [] => by rw [evL]; rfl
 | x :: t => by rw [evL_cons, List.length_cons, List.length_cons, evL_len ρ t]
theorem evL0 {ρ : Int -> Option C} : ∀ (l : List Ex), gdL l -> ∀ q, q < (evL ρ l).length -> N0 ((evL ρ l).getD q (.error 0))
 | [], _, q, h => by rw [evL] at h; simp at h
 | .mk o i s l :: t, hg, 0, h => by
  rw [gdL] at hg
  rw [evL]
  show N0 (node (fun _ => ρ i) o i s (evL ρ l))
  exact node0 (by rw [evL_len]; exact hg.1.1) (evL0 (ρ := ρ) l hg.1.2.2)
 | .mk o i s l :: t, hg, q + 1, h => by
  rw [gdL] at hg
  rw [evL] at h ⊢
  have := evL0 (ρ := ρ) t hg.2 q (by simpa using h)
  simpa using this
theorem ev0 {ρ : Int -> Option C} {x : Ex} (hg : gd x) : ev ρ x ≠ .error 0 := node0 (by rw [evL_len]; exact hg.1) (evL0 x.l hg.2.2)
end Go.Proofs.YtiijfmdfccdagaaGreatDoor.JEr
namespace Go.Proofs.YtiijfmdfccdagaaGreatDoor.GVa
open Go.RowKit Base EPure JPure VJn VRs JVa JRv GPl
open VPure hiding evL
structure Rk (K m n : Nat) (w : World) (Pv : Value) (L : List C) (v : Value) (x : Ex) : Prop where
 ex : XBase.In false (fun b => b < K) w n v x
 low : K <= w.heap.size
 wfs : ∀ (j : Int) c, rh L j = some c -> wf c
 gd : gd x
 ok : ops okOp x
 tb : Tb w
 sk : Sk K (m + 1) w Pv L
theorem Rk.below {K m n : Nat} {w w' : World} {Pv : Value} {L : List C} {v : Value} {x : Ex} (h : Rk K m n w Pv L v x) (hb : Below w.heap.size w w') : Rk K m n w' Pv L v x :=
 ⟨h.ex.below hb, Nat.le_trans h.low hb.size, h.wfs, h.gd, h.ok, h.tb.below hb, h.sk.below hb⟩
theorem value_c {K m n : Nat} {w : World} {Pv : Value} {L : List C} {v : Value} {x : Ex} (h : Rk K m n w Pv L v x) :
  Calls prog 134 #[Pv, v] w fun e w' => VR K (m + 1) w (ev (rh L) x) e w' := by
 have hmf : ∀ (fn : Fn) (first cap : Array Value) (w : World), (Instr.makeFunc fn first cap).run prog w = .ok (.func fn first cap) w := fun _ _ _ _ => rfl
 have hne := JEr.ev0 (ρ := rh L) h.gd
 obtain ⟨n', lv, rfl, rfl, -⟩ := h.ex.shape
 obtain ⟨W0, hW0⟩ : ∃ W0, (w.alloc (.cells #[.int .i64 x.o, .int .i64 x.i, .string x.s, lv] 47)).alloc (.cells #[.int .i64 0, .bool false, .int .i64 0, .string ⟨#[]⟩, .slice none 0 0, .slice none 0 0] 26) = W0 := ⟨_, rfl⟩
 have hb0 : Below w.heap.size w W0 := by rw [<- hW0]; exact ((Below.refl _ w).alloc (Nat.le_refl _) _).alloc (by simp) _
 have hs0 : W0.heap.size = w.heap.size + 2 := by rw [<- hW0]; simp
 have hx0 : W0.heap[w.heap.size]? = some (.cells #[.int .i64 x.o, .int .i64 x.i, .string x.s, lv] 47 (0, 0)) := by rw [<- hW0, Below.heap_alloc _ _ _ (by simp), heap_alloc_new]
 have hx1 : W0.heap[w.heap.size + 1]? = some (.cells #[.int .i64 0, .bool false, .int .i64 0, .string ⟨#[]⟩, .slice none 0 0, .slice none 0 0] 26 (0, 0)) := by
  have := heap_alloc_new (w.alloc (.cells #[.int .i64 x.o, .int .i64 x.i, .string x.s, lv] 47)) (.cells #[.int .i64 0, .bool false, .int .i64 0, .string ⟨#[]⟩, .slice none 0 0, .slice none 0 0] 26)
  rwa [hW0, World.size_alloc] at this
 have h0 := h.below hb0
 have cR := reckon_c (m := m) h0.ex h0.low h0.wfs h0.gd h0.ok h0.tb (at_c h0.sk h0.low)
 obtain ⟨x0, x1, x2, x3⟩ := XBase.four_box hx0
 have HB0 := hid hb0
 have HX1 := hid hx1
 have hlow := h.low
 obtain ⟨ps, pc, rfl, -⟩ := h.sk
 generalize ev (rh L) x = U at *
 clear h h0 hx0 hx1 hb0
 go_enter func134, ntmps134
 go_wp2_with fail
 try rw [hW0]
 refine cR.mono ?_
 rintro e W1 ⟨b1, hA⟩
 have hs1 := b1.size
 have HB1 := hid (nx HB0.out b1)
 have HX1' := hid ((b1.block _ (by omega)).trans HX1.out)
 clear cR b1 HX1 HB0 x0 x1 x2 x3 hW0
 cases U with
 | error q =>
  obtain rfl := hA
  have hq : ((q : Int) != 0) = true := by
   simp only [bne_iff_ne]
   intro hq
   have : q = 0 := by omega
   subst this
   exact hne rfl
  obtain ⟨W2, hW2⟩ : ∃ W2, W1.alloc (.cells #[.int .i64 0, .bool false, .int .i64 0, .string ⟨#[]⟩, .slice none 0 0, .slice none 0 0] 26) = W2 := ⟨_, rfl⟩
  have HB2 : Hid (Below w.heap.size w W2) := by rw [<- hW2]; exact HB1.out.alloc HB1.out.size _
  have HW2 := hid hW2
  clear hne hW2
  go_wp2_with fail
  try rw [HW2.out]
  exact ⟨rfl, HB2.out, rfl⟩
 | ok c =>
  obtain ⟨u, rfl, hin⟩ := hA
  obtain ⟨an, ln, cn, al, ll, cl, rfl⟩ := in_shape hin
  obtain ⟨W2, hW2⟩ : ∃ W2, W1.alloc (.cells #[.int .i64 c.k, .bool c.b, .int .i64 c.i, .string c.s, .slice an ln cn, .slice al ll cl] 26) = W2 := ⟨_, rfl⟩
  have b2 := alB hW2
  have hx2 := alG hW2
  have hx1 : W2.heap[w.heap.size + 1]? = some (.cells #[.int .i64 0, .bool false, .int .i64 0, .string ⟨#[]⟩, .slice none 0 0, .slice none 0 0] 26 (0, 0)) := (b2.block _ (by omega)).trans HX1'.out
  obtain ⟨n0, n1, n2, n3, n4, n5⟩ := six_box hx2
  obtain ⟨r0, r1, r2, r3, r4, r5⟩ := six_box hx1
  obtain ⟨rf0, rf1, rf2, rf3, rf4, rf5⟩ := Base.frz6 hx1
  obtain ⟨W9, hW9⟩ := stc6 W2 (w.heap.size + 1) (.int .i64 c.k) (.bool c.b) (.int .i64 c.i) (.string c.s) (.slice an ln cn) (.slice al ll cl)
  obtain ⟨q1, q2, q3, q4⟩ := set6 _ _ _ _ _ _ hx1 hW9
  have HB9 := hid (q4 _ _ (by omega) (nx HB1.out b2))
  have HI9 := hid ((hin.below b2).keep (fun b hb hb2 => q2 b (by omega)))
  have HQ1 := hid q1
  clear q1 q2 q3 q4 hin b2 hx1 hx2 hne
  go_wp2_with fail
  try rw [hW9]
  refine bodyPost_ret (results_cell_row rfl _ W9 (w.heap.size + 1) 26 _ (0, 0) _ rfl HQ1.out underlying26 rfl (by kernel_rfl)) rfl ?_
  exact ⟨HB9.out, _, rfl, HI9.out⟩
end Go.Proofs.YtiijfmdfccdagaaGreatDoor.GVa
namespace Go.Proofs.YtiijfmdfccdagaaGreatDoor.GTr
open Go.RowKit Base
open VPure hiding evL
def isL (c : C) : Except Nat (List C) := if c.k = 5 then .ok c.l else .error 1101
def isK (c : C) : Except Nat (Int × Int × ByteArray) := if TextKey.ke c = 0 then .ok (TextKey.kk c, TextKey.ki c, TextKey.ks c) else .error 1101
theorem heap_set (w : World) (B j : Nat) (cs : Array Value) (t : TypeId) (v : Value) (h : w.heap[B]? = some (.cells cs t (0, 0))) : (w.setCell ⟨B, j, none⟩ v).heap[B]? = some (.cells (cs.setIfInBounds j v) t (0, 0)) := by
 simp [World.setCell, Array.getElem?_modify, h]
end Go.Proofs.YtiijfmdfccdagaaGreatDoor.GTr
namespace Go.Proofs.YtiijfmdfccdagaaGreatDoor.GEn
open Go.RowKit Base VSm
open VPure hiding evL
abbrev ptr (B : Nat) : Value := .pointer (some ⟨B, 0, none⟩)
abbrev wk (Pv mk sv : Value) (r : Int) : Array Value := #[Pv, mk, sv, .int .i64 r]
theorem wk_box {w : World} {B : Nat} {Pv mk sv : Value} {r : Int} (h : w.heap[B]? = some (.cells (wk Pv mk sv r) 105 (0, 0))) :
  w.cell? ⟨B, 0, none⟩ = some Pv /\ w.cell? ⟨B, 1, none⟩ = some mk /\ w.cell? ⟨B, 2, none⟩ = some sv /\ w.cell? ⟨B, 3, none⟩ = some (.int .i64 r) := XBase.four_box h
theorem enter_no {w : World} {B : Nat} {Pv mk sv : Value} (h : w.heap[B]? = some (.cells (wk Pv mk sv 0) 105 (0, 0))) :
  Calls prog 97 #[ptr B] w fun e w' => e = .panicked (pkE 1601) /\ w = w' := by
 obtain ⟨k0, k1, k2, k3⟩ := wk_box h
 unfold pkE
 clear h
 go_enter func97, ntmps97
 go_wp2_with fail
 exact ⟨rfl, rfl, rfl⟩
theorem enter_ok {w : World} {B : Nat} {Pv mk sv : Value} {r : Int} (h : w.heap[B]? = some (.cells (wk Pv mk sv r) 105 (0, 0))) (hr : 0 < r /\ r <= 100000) :
  Calls prog 97 #[ptr B] w fun e w' => (∃ v, e = .returned v) /\ w.setCell ⟨B, 3, none⟩ (.int .i64 (r - 1)) = w' := by
 obtain ⟨k0, k1, k2, k3⟩ := wk_box h
 have f3 := frozen_box h 3
 have e0 : (r == 0) = false := by simp; omega
 have hw : IntKind.i64.wrap (r - 1) = r - 1 := by rw [IntKind.wrap_i64]; omega
 clear h hr
 go_enter func97, ntmps97
 go_wp2_with fail
 go_end0
 exact ⟨⟨_, rfl⟩, rfl⟩
end Go.Proofs.YtiijfmdfccdagaaGreatDoor.GEn
namespace Go.Proofs.YtiijfmdfccdagaaGreatDoor.GAt
open Tak
open Go.RowKit Base EPure JPure VSm VJn VRs GPl GVa GEn
open VPure hiding evL
theorem eight_b {w : World} {B : Nat} {v0 v1 v2 v3 v4 v5 v6 v7 : Value} {t : TypeId} (h : w.heap[B]? = some (.cells #[v0, v1, v2, v3, v4, v5, v6, v7] t (0, 0))) :
  w.cell? ⟨B, 0, none⟩ = some v0 /\ w.cell? ⟨B, 1, none⟩ = some v1 /\ w.cell? ⟨B, 2, none⟩ = some v2 /\ w.cell? ⟨B, 3, none⟩ = some v3 /\ w.cell? ⟨B, 4, none⟩ = some v4 /\ w.cell? ⟨B, 5, none⟩ = some v5 /\ w.cell? ⟨B, 6, none⟩ = some v6 /\ w.cell? ⟨B, 7, none⟩ = some v7 := by
 refine ⟨?_, ?_, ?_, ?_, ?_, ?_, ?_, ?_⟩ <;> simp [World.cell?, h]
theorem heap_at (w : World) (o : Obj) (k : Nat) (h : k = w.heap.size) : (w.alloc o).heap[k]? = some o := by subst h; exact heap_alloc_new w o
def aV (c : C) : Except Nat (ByteArray × Bool) := if c.k = 1 then .ok (⟨#[]⟩, false) else if c.k = 2 then .ok (⟨#[]⟩, c.b) else bnd (txt c) fun t => .ok (t, true)
def atr (L : List C) (p : ByteArray) (b : Bool) (x : Ex) : Except Nat (ByteArray × Bool) := if b = true then bnd (ev (rh L) x) aV else .ok (p, true)
abbrev tb2 (a : ByteArray × Bool) : Value := .tuple #[.string a.1, .bool a.2]
theorem attr_c {K m n : Nat} {w : World} {B : Nat} {Pv mk sv : Value} {r : Int} {L : List C} {fn fp : ByteArray} {fb : Bool} {fa : Int} {xa : Option Addr} {xc : Nat} {x : Ex}
  (h : w.heap[B]? = some (.cells (wk Pv mk sv r) 105 (0, 0))) (hsk : Sk K (m + 1) w Pv L) (hb : fb = true -> Rk K m n w Pv L (.agg #[.int .i64 x.o, .int .i64 x.i, .string x.s, .slice xa x.l.length xc]) x) :
  Calls prog 138 #[ptr B, .agg #[.string fn, .string fp, .bool fb, .int .i64 x.o, .int .i64 x.i, .string x.s, .slice xa x.l.length xc, .int .i64 fa]] w fun e w' => An w w' e tb2 (atr L fp fb x) := by
 obtain ⟨ps, pc, rfl, -⟩ := hsk
 have hBl := (Array.getElem?_eq_some_iff.1 h).1
 obtain ⟨W0, hW0⟩ : ∃ W0, w.alloc (.cells #[.string fn, .string fp, .bool fb, .int .i64 x.o, .int .i64 x.i, .string x.s, .slice xa x.l.length xc, .int .i64 fa] 59) = W0 := ⟨_, rfl⟩
 have b0 := alB hW0
 have hs0 : W0.heap.size = w.heap.size + 1 := by rw [<- hW0]; simp
 have HB0 := hid b0
 have HF0 := hid (alG hW0)
 have HW0 := hid ((b0.block B hBl).trans h)
 obtain ⟨k0, -, -, -⟩ := wk_box HW0.out
 obtain ⟨f0, f1, f2, f3, f4, f5, f6, f7⟩ := eight_b HF0.out
 have HWW := hid hW0
 clear b0 h hW0
 cases fb with
 | false =>
  have e0 : atr L fp false x = .ok (fp, true) := rfl
  rw [e0]
  clear hb e0
  go_enter func138, ntmps138
  go_wp2_with fail
  try rw [HWW.out]
  go_ret2
  exact ⟨rfl, HB0.out⟩
 | true =>
  have e0 : atr L fp true x = bnd (ev (rh L) x) aV := rfl
  rw [e0]
  obtain ⟨A, hA0⟩ : ∃ A, bnd (ev (rh L) x) aV = A := ⟨_, rfl⟩
  rw [hA0]
  have hrk := hb rfl
  have hlow := hrk.low
  have cV : Hid (∀ W, Below w.heap.size w W -> Calls prog 134 #[.slice ps L.length pc, .agg #[.int .i64 x.o, .int .i64 x.i, .string x.s, .slice xa x.l.length xc]] W fun e w' => VR K (m + 1) W (ev (rh L) x) e w') := fun W hW => value_c (hrk.below hW)
  have cT : Hid (∀ W u c, Below w.heap.size w W -> Base.In false (fun b => b < K) W (m + 1) u c -> Calls prog 133 #[u] W fun e w' => An W w' e Value.string (txt c)) := fun W u c hW hu => GPl.textOf_c hu.plain (hrk.tb.below hW)
  generalize ev (rh L) x = U at *
  have HA := hid hA0
  clear hb e0 hA0 hrk
  cases U with
  | error q =>
   have hA := HA.out
   subst hA
   go_enter func138, ntmps138
   go_wp2_with fail
   try rw [HWW.out]
   refine wp_region_held_drew (S := fun w' => w'.cell? ⟨B, 0, none⟩ = some (.slice ps L.length pc) /\ w'.cell? ⟨w.heap.size, 3, none⟩ = some (.int .i64 x.o) /\ w'.cell? ⟨w.heap.size, 4, none⟩ = some (.int .i64 x.i) /\ w'.cell? ⟨w.heap.size, 5, none⟩ = some (.string x.s) /\ w'.cell? ⟨w.heap.size, 6, none⟩ = some (.slice xa x.l.length xc)) (by kernel_rfl) (by exact ⟨k0, f3, f4, f5, f6⟩) (fun hHeld => ?_)
   refine tkH 0 rfl ?_; try simp only [ptH]
   refine tkH 1 rfl ?_; try simp only [ptH]
   refine tkH 2 rfl ?_; try simp only [ptH]
   refine tkH 3 rfl ?_; try simp only [ptH]
   refine tkH 4 rfl ?_; try simp only [ptH]
   refine tkH 5 rfl ?_; try simp only [ptH]
   refine rdH [6, 7] ?_
   refine AllReadyH.cons rfl (fun K0 hK => ?_) (AllReadyH.cons rfl (fun K0 hK => ?_) (AllReadyH.nil))
   ·go_simp
    refine (cV.out _ HB0.out.drew).mono ?_
    rintro ee Wq ⟨bq, hq⟩
    obtain rfl := hq
    exact ⟨rfl, rfl, HB0.out.drew.trans (bq.mono (by have := HB0.out.size; simp; omega))⟩
   ·obtain ⟨W1, hW1⟩ : ∃ W, (W0.drew).alloc (.cells #[.int .i64 0, .bool false, .int .i64 0, .string ⟨#[]⟩, .slice none 0 0, .slice none 0 0] 26) = W := ⟨_, rfl⟩
    have hs1 : W1.heap.size = W0.heap.size + 1 := by rw [<- hW1]; simp
    have HZ1 : Hid (W1.heap[W0.heap.size]? = some (.cells #[.int .i64 0, .bool false, .int .i64 0, .string ⟨#[]⟩, .slice none 0 0, .slice none 0 0] 26 (0, 0))) := by rw [<- hW1]; exact heap_at _ _ _ (by simp)
    have b1 : Below W0.heap.size W0 W1 := by rw [<- hW1]; exact ((Below.refl _ W0).drew).alloc (by simp) _
    have HB1 := hid (nx HB0.out b1)
    have HW1 := hid ((b1.block B (by omega)).trans HW0.out)
    have HF1 := hid ((b1.block w.heap.size (by omega)).trans HF0.out)
    go_simp
    try rw [hW1]
    obtain ⟨k0, -, -, -⟩ := wk_box HW1.out
    obtain ⟨-, -, -, f3, f4, f5, f6, -⟩ := eight_b HF1.out
    refine hK.out _ _ (by exact ⟨k0, f3, f4, f5, f6⟩) (fun hHeld => ?_)
    clear hK K0
    try simp only [ptH]
    refine rdH [6] ?_
    refine alH rfl fun K0 hK => ?_
    go_simp
    refine (cV.out _ HB1.out).mono ?_
    rintro ee Wq ⟨bq, hq⟩
    obtain rfl := hq
    exact ⟨rfl, rfl, nx HB1.out bq⟩
  | ok c =>
   go_enter func138, ntmps138
   go_upto_region 3 with fail
   try rw [HWW.out]
   go_cut [6] from 12 to 18 (fun p wc => ∃ R, p = ptr R /\ Below w.heap.size w wc /\ ∃ an ln cn al ll cl, wc.heap[R]? = some (.cells #[.int .i64 c.k, .bool c.b, .int .i64 c.i, .string c.s, .slice an ln cn, .slice al ll cl] 26 (0, 0)) /\ Base.In false (fun b => b < K) wc (m + 1) (vl c.k c.b c.i c.s (.slice an ln cn) (.slice al ll cl)) c)
   case first =>
    refine wp_region_held_drew (S := fun w' => w'.cell? ⟨B, 0, none⟩ = some (.slice ps L.length pc) /\ w'.cell? ⟨w.heap.size, 3, none⟩ = some (.int .i64 x.o) /\ w'.cell? ⟨w.heap.size, 4, none⟩ = some (.int .i64 x.i) /\ w'.cell? ⟨w.heap.size, 5, none⟩ = some (.string x.s) /\ w'.cell? ⟨w.heap.size, 6, none⟩ = some (.slice xa x.l.length xc)) (by kernel_rfl) (by exact ⟨k0, f3, f4, f5, f6⟩) (fun hHeld => ?_)
    refine tkH 0 rfl ?_; try simp only [ptH]
    refine tkH 1 rfl ?_; try simp only [ptH]
    refine tkH 2 rfl ?_; try simp only [ptH]
    refine tkH 3 rfl ?_; try simp only [ptH]
    refine tkH 4 rfl ?_; try simp only [ptH]
    refine tkH 5 rfl ?_; try simp only [ptH]
    refine rdH [6, 7] ?_
    refine AllReadyH.cons rfl (fun K0 hK => ?_) (AllReadyH.cons rfl (fun K0 hK => ?_) (AllReadyH.nil))
    ·go_simp
     refine (cV.out _ HB0.out.drew).mono ?_
     rintro ee W1 ⟨b1, u, rfl, hin⟩
     have b1 : Below W0.heap.size W0 W1 := (Below.refl _ W0).drew.trans b1
     obtain ⟨an, ln, cn, al, ll, cl, rfl⟩ := in_shape hin
     have hs1 := b1.size
     have HB1 := hid (nx HB0.out b1)
     have HW1 := hid ((b1.block B (by omega)).trans HW0.out)
     have HF1 := hid ((b1.block w.heap.size (by omega)).trans HF0.out)
     have HI1 := hid hin
     obtain ⟨k0, -, -, -⟩ := wk_box HW1.out
     obtain ⟨-, -, -, f3, f4, f5, f6, -⟩ := eight_b HF1.out
     refine hK.out _ _ (by exact ⟨k0, f3, f4, f5, f6⟩) (fun hHeld => ?_)
     clear hK K0
     try simp only [ptH]
     obtain ⟨W2, hW2⟩ : ∃ W, (W1).alloc (.cells #[.int .i64 0, .bool false, .int .i64 0, .string ⟨#[]⟩, .slice none 0 0, .slice none 0 0] 26) = W := ⟨_, rfl⟩
     have hs2 : W2.heap.size = W1.heap.size + 1 := by rw [<- hW2]; simp
     have HZ2 : Hid (W2.heap[W1.heap.size]? = some (.cells #[.int .i64 0, .bool false, .int .i64 0, .string ⟨#[]⟩, .slice none 0 0, .slice none 0 0] 26 (0, 0))) := by rw [<- hW2]; exact heap_at _ _ _ (by simp)
     have b2 : Below W1.heap.size W1 W2 := by rw [<- hW2]; exact ((Below.refl _ W1)).alloc (by simp) _
     have HB2 := hid (nx HB1.out b2)
     have HI2 := hid (HI1.out.below b2)
     have HW2 := hid ((b2.block B (by omega)).trans HW1.out)
     have HF2 := hid ((b2.block w.heap.size (by omega)).trans HF1.out)
     refine rdH [7] ?_
     refine alH rfl fun K0 hK => ?_
     go_simp
     try rw [hW2]
     obtain ⟨k0, -, -, -⟩ := wk_box HW2.out
     obtain ⟨-, -, -, f3, f4, f5, f6, -⟩ := eight_b HF2.out
     refine hK.out _ _ (by exact ⟨k0, f3, f4, f5, f6⟩) (fun hHeld => ?_)
     clear hK K0
     try simp only [ptH]
     obtain ⟨r0, r1, r2, r3, r4, r5⟩ := six_box HZ2.out
     have rf0 := frozen_box HZ2.out 0
     have rf1 := frozen_box HZ2.out 1
     have rf2 := frozen_box HZ2.out 2
     have rf3 := frozen_box HZ2.out 3
     have rf4 := frozen_box HZ2.out 4
     have rf5 := frozen_box HZ2.out 5
     obtain ⟨W9, hW9⟩ := stc6 W2 W1.heap.size (.int .i64 c.k) (.bool c.b) (.int .i64 c.i) (.string c.s) (.slice an ln cn) (.slice al ll cl)
     obtain ⟨q1, q2, q3, q4⟩ := set6 _ _ _ _ _ _ HZ2.out hW9
     have HW9 := hid ((q2 B (by omega)).trans HW2.out)
     have HF9 := hid ((q2 w.heap.size (by omega)).trans HF2.out)
     have HI9 : Hid (∃ an ln cn al ll cl, W9.heap[W1.heap.size]? = some (.cells #[.int .i64 c.k, .bool c.b, .int .i64 c.i, .string c.s, .slice an ln cn, .slice al ll cl] 26 (0, 0)) /\ Base.In false (fun b => b < K) W9 (m + 1) (vl c.k c.b c.i c.s (.slice an ln cn) (.slice al ll cl)) c) := ⟨an, ln, cn, al, ll, cl, q1, HI2.out.keep (fun b hb hb2 => q2 b (by omega))⟩
     have HB9 := hid (q4 _ _ (by omega) HB2.out)
     refine rdH [8] ?_
     refine alH rfl fun K0 hK => ?_
     go_wp2_with fail
     try rw [hW9]
     obtain ⟨k0, -, -, -⟩ := wk_box HW9.out
     obtain ⟨-, -, -, f3, f4, f5, f6, -⟩ := eight_b HF9.out
     refine hK.out _ _ (by exact ⟨k0, f3, f4, f5, f6⟩) (fun hHeld => ?_)
     clear hK K0
     try simp only [ptH]
     refine dnH ?_
     go_wp2_with fail
     go_meet
     case rel => exact ⟨_, rfl, HB9.out, HI9.out⟩
    ·obtain ⟨W1, hW1⟩ : ∃ W, (W0.drew).alloc (.cells #[.int .i64 0, .bool false, .int .i64 0, .string ⟨#[]⟩, .slice none 0 0, .slice none 0 0] 26) = W := ⟨_, rfl⟩
     have hs1 : W1.heap.size = W0.heap.size + 1 := by rw [<- hW1]; simp
     have HZ1 : Hid (W1.heap[W0.heap.size]? = some (.cells #[.int .i64 0, .bool false, .int .i64 0, .string ⟨#[]⟩, .slice none 0 0, .slice none 0 0] 26 (0, 0))) := by rw [<- hW1]; exact heap_at _ _ _ (by simp)
     have b1 : Below W0.heap.size W0 W1 := by rw [<- hW1]; exact ((Below.refl _ W0).drew).alloc (by simp) _
     have HB1 := hid (nx HB0.out b1)
     have HW1 := hid ((b1.block B (by omega)).trans HW0.out)
     have HF1 := hid ((b1.block w.heap.size (by omega)).trans HF0.out)
     go_simp
     try rw [hW1]
     obtain ⟨k0, -, -, -⟩ := wk_box HW1.out
     obtain ⟨-, -, -, f3, f4, f5, f6, -⟩ := eight_b HF1.out
     refine hK.out _ _ (by exact ⟨k0, f3, f4, f5, f6⟩) (fun hHeld => ?_)
     clear hK K0
     try simp only [ptH]
     refine rdH [6] ?_
     refine alH rfl fun K0 hK => ?_
     go_simp
     refine (cV.out _ HB1.out).mono ?_
     rintro ee W2 ⟨b2, u, rfl, hin⟩
     obtain ⟨an, ln, cn, al, ll, cl, rfl⟩ := in_shape hin
     have hs2 := b2.size
     have HB2 := hid (nx HB1.out b2)
     have HW2 := hid ((b2.block B (by omega)).trans HW1.out)
     have HF2 := hid ((b2.block w.heap.size (by omega)).trans HF1.out)
     have HI2 := hid hin
     have HZ2 : Hid (W2.heap[w.heap.size + 1]? = some (.cells #[.int .i64 0, .bool false, .int .i64 0, .string ⟨#[]⟩, .slice none 0 0, .slice none 0 0] 26 (0, 0))) := by
      have := (b2.block W0.heap.size (by omega)).trans HZ1.out
      rw [hs0] at this
      exact this
     obtain ⟨k0, -, -, -⟩ := wk_box HW2.out
     obtain ⟨-, -, -, f3, f4, f5, f6, -⟩ := eight_b HF2.out
     refine hK.out _ _ (by exact ⟨k0, f3, f4, f5, f6⟩) (fun hHeld => ?_)
     clear hK K0
     try simp only [ptH]
     obtain ⟨r0, r1, r2, r3, r4, r5⟩ := six_box HZ2.out
     have rf0 := frozen_box HZ2.out 0
     have rf1 := frozen_box HZ2.out 1
     have rf2 := frozen_box HZ2.out 2
     have rf3 := frozen_box HZ2.out 3
     have rf4 := frozen_box HZ2.out 4
     have rf5 := frozen_box HZ2.out 5
     obtain ⟨W9, hW9⟩ := stc6 W2 (w.heap.size + 1) (.int .i64 c.k) (.bool c.b) (.int .i64 c.i) (.string c.s) (.slice an ln cn) (.slice al ll cl)
     obtain ⟨q1, q2, q3, q4⟩ := set6 _ _ _ _ _ _ HZ2.out hW9
     have HW9 := hid ((q2 B (by omega)).trans HW2.out)
     have HF9 : Hid _ := (q2 w.heap.size (by omega)).trans HF2.out
     have HI9 : Hid (∃ an ln cn al ll cl, W9.heap[w.heap.size + 1]? = some (.cells #[.int .i64 c.k, .bool c.b, .int .i64 c.i, .string c.s, .slice an ln cn, .slice al ll cl] 26 (0, 0)) /\ Base.In false (fun b => b < K) W9 (m + 1) (vl c.k c.b c.i c.s (.slice an ln cn) (.slice al ll cl)) c) := ⟨an, ln, cn, al, ll, cl, q1, HI2.out.keep (fun b hb hb2 => q2 b (by omega))⟩
     have HB9 : Hid (Below w.heap.size w W9) := q4 _ _ (by omega) HB2.out
     refine rdH [8] ?_
     refine alH rfl fun K0 hK => ?_
     go_wp2_with fail
     try rw [hW9]
     obtain ⟨k0, -, -, -⟩ := wk_box HW9.out
     obtain ⟨-, -, -, f3, f4, f5, f6, -⟩ := eight_b HF9.out
     refine hK.out _ _ (by exact ⟨k0, f3, f4, f5, f6⟩) (fun hHeld => ?_)
     clear hK K0
     try simp only [ptH]
     refine dnH ?_
     go_wp2_with fail
     go_meet
     case rel => exact ⟨_, rfl, HB9.out, HI9.out⟩
   case rest =>
    obtain ⟨R, rfl, hbc, an, ln, cn, al, ll, cl, hx, hin⟩ := hcut
    have HBc : Hid (Below w.heap.size w wc) := hbc
    obtain ⟨n0, n1, n2, n3, n4, n5⟩ := six_box hx
    have HA' : Hid (aV c = A) := HA.out
    have cTx := cT.out wc _ c hbc hin
    clear hbc hin hx k0 f0 f1 f2 f3 f4 f5 f6 f7 HA
    by_cases h1 : c.k = 1
    ·have e1 : (c.k == 1) = true := by simp [h1]
     have hA := HA'.out
     unfold aV at hA
     rw [if_pos h1] at hA
     subst hA
     clear h1
     go_wp2_with fail
     go_ret2
     exact ⟨rfl, HBc.out⟩
    have e1 : (c.k == 1) = false := by simp [h1]
    by_cases h2 : c.k = 2
    ·have e2 : (c.k == 2) = true := by simp [h2]
     have hA := HA'.out
     unfold aV at hA
     rw [if_neg h1, if_pos h2] at hA
     subst hA
     clear h1 h2
     go_wp2_with fail
     go_quiet (fail)
     go_wp2_with fail
     go_ret2
     exact ⟨rfl, HBc.out.trans ⟨rfl, rfl, rfl, by simp, fun _ _ => by simp⟩⟩
    have e2 : (c.k == 2) = false := by simp [h2]
    have hA := HA'.out
    unfold aV at hA
    rw [if_neg h1, if_neg h2] at hA
    clear h1 h2 HA'
    generalize txt c = X at *
    have HA2 := hid hA
    clear hA
    cases X with
    | error q =>
     have hA := HA2.out
     subst hA
     go_wp2_with fail
     refine cTx.mono ?_
     rintro ee W5 ⟨rfl, b5⟩
     exact ⟨rfl, rfl, nx HBc.out b5⟩
    | ok t =>
     have hA := HA2.out
     subst hA
     go_wp2_with fail
     refine cTx.mono ?_
     rintro ee W5 ⟨rfl, b5⟩
     have HB5 := hid (nx HBc.out b5)
     clear cTx b5
     go_wp2_with fail
     go_ret2
     exact ⟨rfl, HB5.out⟩
end Go.Proofs.YtiijfmdfccdagaaGreatDoor.GAt

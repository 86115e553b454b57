import Derived.Below
import Derived.Laws.AppendOwn
import Derived.LoopN
import Derived.LoopTactic
import Derived.Maps.AppendAt
import Derived.ProofKit
import Derived.Test.YtiijfmdfccdagaaGreatDoorProg
import Derived.WalkKit
import Derived.Test.YtiijfmdfccdagaaGreatDoorPL07
import Derived.Test.YtiijfmdfccdagaaGreatDoorPL14
open Go.Proofs.Tryz
set_option linter.unusedVariables false
set_option maxRecDepth 20000
set_option maxHeartbeats 3200000
namespace Go.Proofs.YtiijfmdfccdagaaGreatDoor.JEr
open Go.RowKit Base EPure JPure
open VPure hiding evL
open SFit (kd)
def N0 {α : Type} (x : Except Nat α) : Prop := x ≠ .error 0
theorem ok0 {α : Type} (a : α) : N0 (.ok a) := fun h => by cases h
theorem er0 {α : Type} {e : Nat} (h : e ≠ 0) : N0 (.error e : Except Nat α) := fun q => by injection q with q; exact h q
theorem bnd0 {α β : Type} {x : Except Nat α} {f : α -> Except Nat β} (h : N0 x) (hf : ∀ a, N0 (f a)) : N0 (bnd x f) := by
 cases x with
 | error e => exact er0 fun q => h (by rw [q])
 | ok a => exact hf a
theorem isT0 (c : C) : N0 (isT c) := by unfold isT; split <;> first | exact ok0 _ | exact er0 (by decide)
theorem chk0 (x e : Int) : N0 (chkI x e) := by unfold chkI; (repeat' split) <;> first | exact ok0 _ | exact er0 (by decide)
theorem mapI0 {x : Except Nat Int} (h : N0 x) : N0 (mapI x) := by
 cases x with
 | error e => exact er0 fun q => h (by rw [q])
 | ok a => exact ok0 _
theorem mapS0 {x : Except Nat ByteArray} (h : N0 x) : N0 (mapS x) := by
 cases x with
 | error e => exact er0 fun q => h (by rw [q])
 | ok a => exact ok0 _
theorem mapB0 {x : Except Nat Bool} (h : N0 x) : N0 (mapB x) := by
 cases x with
 | error e => exact er0 fun q => h (by rw [q])
 | ok a => exact ok0 _
theorem txt0 (c : C) : N0 (txt c) := by unfold txt; split <;> first | exact ok0 _ | exact er0 (by decide)
theorem ord0 (k1 i1 : Int) (s1 : ByteArray) (k2 i2 : Int) (s2 : ByteArray) : N0 (ord k1 i1 s1 k2 i2 s2) := by unfold ord; (repeat' split) <;> first | exact ok0 _ | exact er0 (by decide)
theorem numb0 (o : Int) (a b : C) : N0 (numb o a b) := by
 refine mapI0 ?_
 unfold twI
 (repeat' split) <;> first | exact chk0 _ _ | exact er0 (by decide)
theorem pr20 (o : Int) (a b : C) : N0 (pr2 o a b) := by
 unfold pr2
 by_cases q : o = 17
 ·rw [if_pos q]
  exact bnd0 (txt0 a) fun x => bnd0 (txt0 b) fun y => by split <;> first | exact er0 (by decide) | exact ok0 _
 rw [if_neg q]
 clear q
 by_cases q : o = 10
 ·rw [if_pos q]; exact numb0 _ _ _
 rw [if_neg q]
 clear q
 by_cases q : o = 23
 ·rw [if_pos q]; exact bnd0 (ord0 _ _ _ _ _ _) fun _ => ok0 _
 rw [if_neg q]
 clear q
 by_cases q : o = 24
 ·rw [if_pos q]; exact bnd0 (ord0 _ _ _ _ _ _) fun _ => ok0 _
 rw [if_neg q]
 clear q
 by_cases q : o = 25
 ·rw [if_pos q]; exact bnd0 (ord0 _ _ _ _ _ _) fun _ => ok0 _
 rw [if_neg q]
 clear q
 by_cases q : o = 26
 ·rw [if_pos q]; exact bnd0 (ord0 _ _ _ _ _ _) fun _ => ok0 _
 rw [if_neg q]
 clear q
 by_cases q : o = 27
 ·rw [if_pos q]; exact ok0 _
 rw [if_neg q]
 clear q
 by_cases q : o = 28
 ·rw [if_pos q]; exact ok0 _
 rw [if_neg q]
 clear q
 by_cases q : o = 7 \/ o = 8
 ·rw [if_pos q]
  unfold VPure.prt prtR
  by_cases q5 : a.k = 5
  ·rw [if_pos q5]
   (repeat' split) <;> first | exact er0 (by decide) | exact ok0 _
  ·rw [if_neg q5]
   by_cases q6 : a.k = 6 /\ b.k = 4
   ·rw [if_pos q6]
    cases Part.fi a.n b.s with
    | none => exact er0 (by decide)
    | some q => exact ok0 _
   ·rw [if_neg q6]; exact er0 (by decide)
 rw [if_neg q]
 clear q
 by_cases q : o = 9
 ·rw [if_pos q]
  unfold cal
  by_cases q1 : b.i = 1
  ·rw [if_pos q1]
   refine mapI0 ?_
   unfold lenI
   (repeat' split) <;> first | exact er0 (by decide) | exact ok0 _
  rw [if_neg q1]
  by_cases q2 : b.i = 2
  ·rw [if_pos q2]; exact mapS0 (txt0 a)
  ·rw [if_neg q2]
   refine mapI0 ?_
   unfold tunI
   split <;> first | exact er0 (by decide) | exact ok0 _
 rw [if_neg q]
 clear q
 by_cases q : o = 11
 ·rw [if_pos q]
  refine mapB0 ?_
  unfold notT
  split <;> first | exact er0 (by decide) | exact ok0 _
 rw [if_neg q]
 clear q
 by_cases q : o = 20 \/ o = 21 \/ o = 22
 ·rw [if_pos q]
  refine mapI0 ?_
  unfold twX
  (repeat' split) <;> first | exact er0 (by decide) | exact ok0 _
 rw [if_neg q]
 clear q
 exact numb0 _ _ _
theorem kd_pos {o : Int} {n : Nat} (h : (n : Int) = kd o) (h1 : ¬ (1 <= o /\ o <= 6)) : 0 < n /\ (¬ (o = 7 \/ o = 9 \/ o = 10 \/ o = 11) -> 1 < n) /\ (o = 31 -> 2 < n) := by
 unfold kd at h
 rw [if_neg h1] at h
 by_cases h2 : o = 7 \/ o = 9 \/ o = 10 \/ o = 11
 ·rw [if_pos h2] at h; exact ⟨by omega, fun q => (q h2).elim, fun q => by omega⟩
 rw [if_neg h2] at h
 by_cases h3 : o = 8 \/ (12 <= o /\ o <= 30)
 ·rw [if_pos h3] at h; exact ⟨by omega, fun _ => by omega, fun q => by omega⟩
 rw [if_neg h3] at h
 by_cases h4 : o = 31
 ·rw [if_pos h4] at h; exact ⟨by omega, fun _ => by omega, fun q => by omega⟩
 rw [if_neg h4] at h
 omega
theorem node0 {ρ : ByteArray -> Option C} {o i : Int} {s : ByteArray} {p : List Ans} (hk : (p.length : Int) = kd o) (hp : ∀ q, q < p.length -> N0 (p.getD q (.error 0))) : N0 (node ρ o i s p) := by
 unfold node
 by_cases q1 : o = 1
 ·rw [if_pos q1]; exact ok0 _
 rw [if_neg q1]
 by_cases q2 : o = 2 \/ o = 3
 ·rw [if_pos q2]; exact ok0 _
 rw [if_neg q2]
 by_cases q4 : o = 4
 ·rw [if_pos q4]; exact ok0 _
 rw [if_neg q4]
 by_cases q5 : o = 5
 ·rw [if_pos q5]; exact ok0 _
 rw [if_neg q5]
 by_cases q6 : o = 6
 ·rw [if_pos q6]
  cases ρ s with
  | none => exact er0 (by decide)
  | some c => exact ok0 _
 rw [if_neg q6]
 obtain ⟨k0, k1, k2⟩ := kd_pos hk (by omega)
 have h0 := hp 0 k0
 by_cases q29 : o = 29 \/ o = 30
 ·rw [if_pos q29]
  have h1 := hp 1 (k1 (by omega))
  exact bnd0 (bnd0 h0 isT0) fun b => by
   split
   ·exact ok0 _
   ·exact bnd0 (bnd0 h1 isT0) fun c => ok0 _
 rw [if_neg q29]
 by_cases q31 : o = 31
 ·rw [if_pos q31]
  have h1 := hp 1 (k1 (by omega))
  have h2 := hp 2 (k2 q31)
  exact bnd0 (bnd0 h0 isT0) fun b => by
   split
   ·exact h1
   ·exact h2
 rw [if_neg q31]
 refine bnd0 h0 fun a => bnd0 ?_ fun b => pr20 o a b
 unfold snd2
 by_cases r7 : o = 7
 ·rw [if_pos r7]; exact ok0 _
 rw [if_neg r7]
 by_cases r9 : o = 9
 ·rw [if_pos r9]; exact ok0 _
 rw [if_neg r9]
 by_cases r10 : o = 10 \/ o = 11
 ·rw [if_pos r10]; exact ok0 _
 rw [if_neg r10]
 exact hp 1 (k1 (by omega))
theorem evL_len (ρ : Int -> Option C) : ∀ l : List Ex, (evL ρ l).length = l.length
 | [] => by rw [evL]; rfl
 | x :: t => by rw [evL_cons, List.length_cons, List.length_cons, evL_len ρ t]
theorem evL0 {ρ : Int -> Option C} : ∀ (l : List Ex), gdL l -> ∀ q, q < (evL ρ l).length -> N0 ((evL ρ l).getD q (.error 0))
 | [], _, q, h => by rw [evL] at h; simp at h
 | .mk o i s l :: t, hg, 0, h => by
  rw [gdL] at hg
  rw [evL]
  show N0 (node (fun _ => ρ i) o i s (evL ρ l))
  exact node0 (by rw [evL_len]; exact hg.1.1) (evL0 (ρ := ρ) l hg.1.2.2)
 | .mk o i s l :: t, hg, q + 1, h => by
  rw [gdL] at hg
  rw [evL] at h ⊢
  have := evL0 (ρ := ρ) t hg.2 q (by simpa using h)
  simpa using this
theorem ev0 {ρ : Int -> Option C} {x : Ex} (hg : gd x) : ev ρ x ≠ .error 0 := node0 (by rw [evL_len]; exact hg.1) (evL0 x.l hg.2.2)
end Go.Proofs.YtiijfmdfccdagaaGreatDoor.JEr
namespace Go.Proofs.YtiijfmdfccdagaaGreatDoor.GVa
open Go.RowKit Base EPure JPure VJn VRs JVa JRv GPl
open VPure hiding evL
structure Rk (K m n : Nat) (w : World) (Pv : Value) (L : List C) (v : Value) (x : Ex) : Prop where
 ex : XBase.In false (fun b => b < K) w n v x
 low : K <= w.heap.size
 wfs : ∀ (j : Int) c, rh L j = some c -> wf c
 gd : gd x
 ok : ops okOp x
 tb : Tb w
 sk : Sk K (m + 1) w Pv L
theorem Rk.below {K m n : Nat} {w w' : World} {Pv : Value} {L : List C} {v : Value} {x : Ex} (h : Rk K m n w Pv L v x) (hb : Below w.heap.size w w') : Rk K m n w' Pv L v x :=
 ⟨h.ex.below hb, Nat.le_trans h.low hb.size, h.wfs, h.gd, h.ok, h.tb.below hb, h.sk.below hb⟩
theorem value_c {K m n : Nat} {w : World} {Pv : Value} {L : List C} {v : Value} {x : Ex} (h : Rk K m n w Pv L v x) :
  Calls prog 134 #[Pv, v] w fun e w' => VR K (m + 1) w (ev (rh L) x) e w' := by
 have hmf : ∀ (fn : Fn) (first cap : Array Value) (w : World), (Instr.makeFunc fn first cap).run prog w = .ok (.func fn first cap) w := fun _ _ _ _ => rfl
 have hne := JEr.ev0 (ρ := rh L) h.gd
 obtain ⟨n', lv, rfl, rfl, -⟩ := h.ex.shape
 obtain ⟨W0, hW0⟩ : ∃ W0, (w.alloc (.cells #[.int .i64 x.o, .int .i64 x.i, .string x.s, lv] 47)).alloc (.cells #[.int .i64 0, .bool false, .int .i64 0, .string ⟨#[]⟩, .slice none 0 0, .slice none 0 0] 26) = W0 := ⟨_, rfl⟩
 have hb0 : Below w.heap.size w W0 := by rw [<- hW0]; exact ((Below.refl _ w).alloc (Nat.le_refl _) _).alloc (by simp) _
 have hs0 : W0.heap.size = w.heap.size + 2 := by rw [<- hW0]; simp
 have hx0 : W0.heap[w.heap.size]? = some (.cells #[.int .i64 x.o, .int .i64 x.i, .string x.s, lv] 47 (0, 0)) := by rw [<- hW0, Below.heap_alloc _ _ _ (by simp), heap_alloc_new]
 have hx1 : W0.heap[w.heap.size + 1]? = some (.cells #[.int .i64 0, .bool false, .int .i64 0, .string ⟨#[]⟩, .slice none 0 0, .slice none 0 0] 26 (0, 0)) := by
  have := heap_alloc_new (w.alloc (.cells #[.int .i64 x.o, .int .i64 x.i, .string x.s, lv] 47)) (.cells #[.int .i64 0, .bool false, .int .i64 0, .string ⟨#[]⟩, .slice none 0 0, .slice none 0 0] 26)
  rwa [hW0, World.size_alloc] at this
 have h0 := h.below hb0
 have cR := reckon_c (m := m) h0.ex h0.low h0.wfs h0.gd h0.ok h0.tb (at_c h0.sk h0.low)
 obtain ⟨x0, x1, x2, x3⟩ := XBase.four_box hx0
 have HB0 := hid hb0
 have HX1 := hid hx1
 have hlow := h.low
 obtain ⟨ps, pc, rfl, -⟩ := h.sk
 generalize ev (rh L) x = U at *
 clear h h0 hx0 hx1 hb0
 go_enter func134, ntmps134
 go_wp2_with fail
 try rw [hW0]
 refine cR.mono ?_
 rintro e W1 ⟨b1, hA⟩
 have hs1 := b1.size
 have HB1 := hid (nx HB0.out b1)
 have HX1' := hid ((b1.block _ (by omega)).trans HX1.out)
 clear cR b1 HX1 HB0 x0 x1 x2 x3 hW0
 cases U with
 | error q =>
  obtain rfl := hA
  have hq : ((q : Int) != 0) = true := by
   simp only [bne_iff_ne]
   intro hq
   have : q = 0 := by omega
   subst this
   exact hne rfl
  obtain ⟨W2, hW2⟩ : ∃ W2, W1.alloc (.cells #[.int .i64 0, .bool false, .int .i64 0, .string ⟨#[]⟩, .slice none 0 0, .slice none 0 0] 26) = W2 := ⟨_, rfl⟩
  have HB2 : Hid (Below w.heap.size w W2) := by rw [<- hW2]; exact HB1.out.alloc HB1.out.size _
  have HW2 := hid hW2
  clear hne hW2
  go_wp2_with fail
  try rw [HW2.out]
  exact ⟨rfl, HB2.out, rfl⟩
 | ok c =>
  obtain ⟨u, rfl, hin⟩ := hA
  obtain ⟨an, ln, cn, al, ll, cl, rfl⟩ := in_shape hin
  obtain ⟨W2, hW2⟩ : ∃ W2, W1.alloc (.cells #[.int .i64 c.k, .bool c.b, .int .i64 c.i, .string c.s, .slice an ln cn, .slice al ll cl] 26) = W2 := ⟨_, rfl⟩
  have b2 := alB hW2
  have hx2 := alG hW2
  have hx1 : W2.heap[w.heap.size + 1]? = some (.cells #[.int .i64 0, .bool false, .int .i64 0, .string ⟨#[]⟩, .slice none 0 0, .slice none 0 0] 26 (0, 0)) := (b2.block _ (by omega)).trans HX1'.out
  obtain ⟨n0, n1, n2, n3, n4, n5⟩ := six_box hx2
  obtain ⟨r0, r1, r2, r3, r4, r5⟩ := six_box hx1
  obtain ⟨rf0, rf1, rf2, rf3, rf4, rf5⟩ := Base.frz6 hx1
  obtain ⟨W9, hW9⟩ := stc6 W2 (w.heap.size + 1) (.int .i64 c.k) (.bool c.b) (.int .i64 c.i) (.string c.s) (.slice an ln cn) (.slice al ll cl)
  obtain ⟨q1, q2, q3, q4⟩ := set6 _ _ _ _ _ _ hx1 hW9
  have HB9 := hid (q4 _ _ (by omega) (nx HB1.out b2))
  have HI9 := hid ((hin.below b2).keep (fun b hb hb2 => q2 b (by omega)))
  have HQ1 := hid q1
  clear q1 q2 q3 q4 hin b2 hx1 hx2 hne
  go_wp2_with fail
  try rw [hW9]
  refine bodyPost_ret (results_cell_row rfl _ W9 (w.heap.size + 1) 26 _ (0, 0) _ rfl HQ1.out underlying26 rfl (by kernel_rfl)) rfl ?_
  exact ⟨HB9.out, _, rfl, HI9.out⟩
end Go.Proofs.YtiijfmdfccdagaaGreatDoor.GVa
namespace Go.Proofs.YtiijfmdfccdagaaGreatDoor.GTr
open Go.RowKit Base EPure JPure VSm VRs GPl GVa
open VPure hiding evL
def isL (c : C) : Except Nat (List C) := if c.k = 5 then .ok c.l else .error 1101
def isK (c : C) : Except Nat (Int × Int × ByteArray) := if TextKey.ke c = 0 then .ok (TextKey.kk c, TextKey.ki c, TextKey.ks c) else .error 1101
def LR (K m : Nat) (w : World) (a : Except Nat (List C)) (e : Ending) (w' : World) : Prop := Below w.heap.size w w' /\ match a with
 | .ok l => ∃ v, e = .returned v /\ Base.InL false (fun b => b < K) w' m v l
 | .error n => e = .panicked (pkE n)
theorem isT_ok {c : C} (h : c.k = 2) : bnd (.ok c) isT = .ok c.b := by show isT c = _; unfold isT; rw [if_pos h]
theorem isT_no {c : C} (h : c.k ≠ 2) : bnd (.ok c) isT = .error 1101 := by show isT c = _; unfold isT; rw [if_neg h]
theorem isL_ok {c : C} (h : c.k = 5) : bnd (.ok c) isL = .ok c.l := by show isL c = _; unfold isL; rw [if_pos h]
theorem isL_no {c : C} (h : c.k ≠ 5) : bnd (.ok c) isL = .error 1101 := by show isL c = _; unfold isL; rw [if_neg h]
theorem three_b {w : World} {B : Nat} {v0 v1 v2 : Value} {t : TypeId} (h : w.heap[B]? = some (.cells #[v0, v1, v2] t (0, 0))) : w.cell? ⟨B, 0, none⟩ = some v0 /\ w.cell? ⟨B, 1, none⟩ = some v1 /\ w.cell? ⟨B, 2, none⟩ = some v2 := by
 refine ⟨?_, ?_, ?_⟩ <;> simp [World.cell?, h]
theorem heap_set (w : World) (B j : Nat) (cs : Array Value) (t : TypeId) (v : Value) (h : w.heap[B]? = some (.cells cs t (0, 0))) : (w.setCell ⟨B, j, none⟩ v).heap[B]? = some (.cells (cs.setIfInBounds j v) t (0, 0)) := by
 simp [World.setCell, Array.getElem?_modify, h]
theorem set3 {W W9 : World} {R : Nat} {z0 z1 z2 a b c : Value} {t : TypeId} (h : W.heap[R]? = some (.cells #[z0, z1, z2] t (0, 0))) (e : ((W.setCell ⟨R, 0, none⟩ a).setCell ⟨R, 1, none⟩ b).setCell ⟨R, 2, none⟩ c = W9) :
  W9.heap[R]? = some (.cells #[a, b, c] t (0, 0)) /\ ∀ B, B <= R -> Below B W W9 := by
 subst e
 exact ⟨heap_set _ _ _ _ _ _ (heap_set _ _ _ _ _ _ (heap_set _ _ _ _ _ _ h)), fun B hB => ((((Below.refl B W).setCell (p := ⟨R, 0, none⟩) hB a).setCell (p := ⟨R, 1, none⟩) hB b).setCell (p := ⟨R, 2, none⟩) hB c)⟩
theorem truth_c {K m n : Nat} {w : World} {Pv : Value} {L : List C} {v : Value} {x : Ex} (h : Rk K m n w Pv L v x) :
  Calls prog 139 #[Pv, v] w fun e w' => An w w' e Value.bool (bnd (ev (rh L) x) isT) := by
 obtain ⟨n', lv, rfl, rfl, -⟩ := h.ex.shape
 obtain ⟨W0, hW0⟩ : ∃ W0, w.alloc (.cells #[.int .i64 x.o, .int .i64 x.i, .string x.s, lv] 47) = W0 := ⟨_, rfl⟩
 have hb0 := alB hW0
 have hs0 : W0.heap.size = w.heap.size + 1 := by rw [<- hW0]; simp
 have hx0 := alG hW0
 have cV := value_c (h.below hb0)
 obtain ⟨x0, x1, x2, x3⟩ := XBase.four_box hx0
 have HB0 := hid hb0
 obtain ⟨ps, pc, rfl, -⟩ := h.sk
 obtain ⟨A, hA0⟩ : ∃ A, bnd (ev (rh L) x) isT = A := ⟨_, rfl⟩
 rw [hA0]
 generalize ev (rh L) x = U at *
 have HA := hid hA0
 clear h hx0 hb0 hA0
 go_enter func139, ntmps139
 go_wp2_with fail
 try rw [hW0]
 refine cV.mono ?_
 rintro e W1 ⟨b1, hA⟩
 have HB1 := hid (nx HB0.out b1)
 have hs1 := b1.size
 clear cV b1 HB0 x0 x1 x2 x3 hW0
 cases U with
 | error q =>
  obtain rfl := hA
  have hA := HA.out
  subst hA
  exact ⟨rfl, rfl, HB1.out⟩
 | ok c =>
  obtain ⟨u, rfl, hin⟩ := hA
  obtain ⟨an, ln, cn, al, ll, cl, rfl⟩ := in_shape hin
  obtain ⟨W2, hW2⟩ : ∃ W2, W1.alloc (.cells #[.int .i64 c.k, .bool c.b, .int .i64 c.i, .string c.s, .slice an ln cn, .slice al ll cl] 26) = W2 := ⟨_, rfl⟩
  have b2 := alB hW2
  have hx2 := alG hW2
  have hs2 : W2.heap.size = W1.heap.size + 1 := by rw [<- hW2]; simp
  obtain ⟨n0, n1, n2, n3, n4, n5⟩ := six_box hx2
  have HX2 := hid hx2
  have HB2 := hid (nx HB1.out b2)
  have HI2 := hid (hin.below b2)
  have HW2 := hid hW2
  clear hin b2 hx2 hW2
  by_cases hk : c.k = 2
  ·have ek : (c.k == 2) = true := by simp [hk]
   have HK := hid hk
   have c1 := GPl.must_t W2
   have hA := HA.out
   rw [isT_ok HK.out] at hA
   subst hA
   clear hk
   go_wp2_with fail
   try rw [HW2.out]
   refine c1.mono ?_
   rintro e W3 ⟨⟨v2, rfl⟩, h3⟩
   obtain rfl := h3.symm
   go_wp2_with fail
   go_ret
   exact ⟨rfl, HB2.out⟩
  ·have ek : (c.k == 2) = false := by simp [hk]
   have HK := hid hk
   have c1 := GPl.must_f W2
   have hA := HA.out
   rw [isT_no HK.out] at hA
   subst hA
   clear hk
   go_wp2_with fail
   try rw [HW2.out]
   refine c1.mono ?_
   rintro e W3 ⟨rfl, h3⟩
   obtain rfl := h3.symm
   exact ⟨rfl, rfl, HB2.out⟩
theorem list_c {K m n : Nat} {w : World} {Pv : Value} {L : List C} {v : Value} {x : Ex} (h : Rk K m n w Pv L v x) :
  Calls prog 140 #[Pv, v] w fun e w' => LR K m w (bnd (ev (rh L) x) isL) e w' := by
 obtain ⟨n', lv, rfl, rfl, -⟩ := h.ex.shape
 obtain ⟨W0, hW0⟩ : ∃ W0, w.alloc (.cells #[.int .i64 x.o, .int .i64 x.i, .string x.s, lv] 47) = W0 := ⟨_, rfl⟩
 have hb0 := alB hW0
 have hs0 : W0.heap.size = w.heap.size + 1 := by rw [<- hW0]; simp
 have hx0 := alG hW0
 have cV := value_c (h.below hb0)
 obtain ⟨x0, x1, x2, x3⟩ := XBase.four_box hx0
 have HB0 := hid hb0
 obtain ⟨ps, pc, rfl, -⟩ := h.sk
 obtain ⟨A, hA0⟩ : ∃ A, bnd (ev (rh L) x) isL = A := ⟨_, rfl⟩
 rw [hA0]
 generalize ev (rh L) x = U at *
 have HA := hid hA0
 clear h hx0 hb0 hA0
 go_enter func140, ntmps140
 go_wp2_with fail
 try rw [hW0]
 refine cV.mono ?_
 rintro e W1 ⟨b1, hA⟩
 have HB1 := hid (nx HB0.out b1)
 have hs1 := b1.size
 clear cV b1 HB0 x0 x1 x2 x3 hW0
 cases U with
 | error q =>
  obtain rfl := hA
  have hA := HA.out
  subst hA
  exact ⟨rfl, HB1.out, rfl⟩
 | ok c =>
  obtain ⟨u, rfl, hin⟩ := hA
  obtain ⟨an, ln, cn, al, ll, cl, rfl⟩ := in_shape hin
  obtain ⟨W2, hW2⟩ : ∃ W2, W1.alloc (.cells #[.int .i64 c.k, .bool c.b, .int .i64 c.i, .string c.s, .slice an ln cn, .slice al ll cl] 26) = W2 := ⟨_, rfl⟩
  have b2 := alB hW2
  have hx2 := alG hW2
  have hs2 : W2.heap.size = W1.heap.size + 1 := by rw [<- hW2]; simp
  obtain ⟨n0, n1, n2, n3, n4, n5⟩ := six_box hx2
  have HX2 := hid hx2
  have HB2 := hid (nx HB1.out b2)
  have HI2 := hid (hin.below b2)
  have HW2 := hid hW2
  clear hin b2 hx2 hW2
  by_cases hk : c.k = 5
  ·have ek : (c.k == 5) = true := by simp [hk]
   have HK := hid hk
   have c1 := GPl.must_t W2
   have hA := HA.out
   rw [isL_ok HK.out] at hA
   subst hA
   clear hk
   go_wp2_with fail
   try rw [HW2.out]
   refine c1.mono ?_
   rintro e W3 ⟨⟨v2, rfl⟩, h3⟩
   obtain rfl := h3.symm
   go_wp2_with fail
   go_ret
   obtain ⟨m', nv, lv', hm, E, -, -, -, -, hl⟩ := HI2.out.shape
   simp only [Value.agg.injEq, Array.mk.injEq, List.cons.injEq, and_true] at E
   obtain ⟨-, -, -, -, -, rfl⟩ := E
   obtain rfl : m = m' := by omega
   exact ⟨HB2.out, _, rfl, hl⟩
  ·have ek : (c.k == 5) = false := by simp [hk]
   have HK := hid hk
   have c1 := GPl.must_f W2
   have hA := HA.out
   rw [isL_no HK.out] at hA
   subst hA
   clear hk
   go_wp2_with fail
   try rw [HW2.out]
   refine c1.mono ?_
   rintro e W3 ⟨rfl, h3⟩
   obtain rfl := h3.symm
   exact ⟨rfl, HB2.out, rfl⟩
theorem key_c {K m n : Nat} {w : World} {Pv : Value} {L : List C} {v : Value} {x : Ex} (h : Rk K m n w Pv L v x) :
  Calls prog 172 #[Pv, v] w fun e w' => An w w' e (fun k : Int × Int × ByteArray => .agg #[.int .i64 k.1, .int .i64 k.2.1, .string k.2.2]) (bnd (ev (rh L) x) isK) := by
 obtain ⟨n', lv, rfl, rfl, -⟩ := h.ex.shape
 obtain ⟨W0, hW0⟩ : ∃ W0, (w.alloc (.cells #[.int .i64 x.o, .int .i64 x.i, .string x.s, lv] 47)).alloc (.cells #[.int .i64 0, .int .i64 0, .string ⟨#[]⟩] 215) = W0 := ⟨_, rfl⟩
 have hb0 : Below w.heap.size w W0 := by rw [<- hW0]; exact ((Below.refl _ w).alloc (Nat.le_refl _) _).alloc (by simp) _
 have hs0 : W0.heap.size = w.heap.size + 2 := by rw [<- hW0]; simp
 have hx0 : W0.heap[w.heap.size]? = some (.cells #[.int .i64 x.o, .int .i64 x.i, .string x.s, lv] 47 (0, 0)) := by rw [<- hW0, Below.heap_alloc _ _ _ (by simp), heap_alloc_new]
 have hx1 : W0.heap[w.heap.size + 1]? = some (.cells #[.int .i64 0, .int .i64 0, .string ⟨#[]⟩] 215 (0, 0)) := by
  have := heap_alloc_new (w.alloc (.cells #[.int .i64 x.o, .int .i64 x.i, .string x.s, lv] 47)) (.cells #[.int .i64 0, .int .i64 0, .string ⟨#[]⟩] 215)
  rwa [hW0, World.size_alloc] at this
 have cV := value_c (h.below hb0)
 obtain ⟨x0, x1, x2, x3⟩ := XBase.four_box hx0
 have HB0 := hid hb0
 have HX1 := hid hx1
 obtain ⟨ps, pc, rfl, -⟩ := h.sk
 obtain ⟨A, hA0⟩ : ∃ A, bnd (ev (rh L) x) isK = A := ⟨_, rfl⟩
 rw [hA0]
 generalize ev (rh L) x = U at *
 have HA := hid hA0
 clear h hx0 hb0 hx1 hA0
 go_enter func172, ntmps172
 go_wp2_with fail
 try rw [hW0]
 refine cV.mono ?_
 rintro e W1 ⟨b1, hA⟩
 have HB1 : Hid (Below w.heap.size w W1) := nx HB0.out b1
 have hs1 := b1.size
 have HX1' : Hid (W1.heap[w.heap.size + 1]? = some (.cells #[.int .i64 0, .int .i64 0, .string ⟨#[]⟩] 215 (0, 0))) := (b1.block _ (by omega)).trans HX1.out
 clear cV b1 HB0 HX1 x0 x1 x2 x3 hW0
 cases U with
 | error q =>
  obtain rfl := hA
  have hA := HA.out
  subst hA
  exact ⟨rfl, rfl, HB1.out⟩
 | ok c =>
  obtain ⟨u, rfl, hin⟩ := hA
  have cK := TextKey.key_c hin.plain
  have HE : Hid ((if TextKey.ke c = 0 then .ok (TextKey.kk c, TextKey.ki c, TextKey.ks c) else .error 1101) = A) := HA.out
  clear HA
  generalize TextKey.ke c = ke at *
  generalize TextKey.kk c = kk at *
  generalize TextKey.ki c = ki at *
  generalize TextKey.ks c = ks at *
  go_wp2_with fail
  refine cK.mono ?_
  rintro e W2 ⟨rfl, b2⟩
  have HB2 : Hid (Below w.heap.size w W2) := nx HB1.out b2
  have hs2 := b2.size
  have HX2 : Hid (W2.heap[w.heap.size + 1]? = some (.cells #[.int .i64 0, .int .i64 0, .string ⟨#[]⟩] 215 (0, 0))) := (b2.block _ (by omega)).trans HX1'.out
  obtain ⟨W3, hW3⟩ : ∃ W3, W2.alloc (.cells #[.int .i64 kk, .int .i64 ki, .string ks] 215) = W3 := ⟨_, rfl⟩
  have b3 : Below W2.heap.size W2 W3 := by rw [<- hW3]; exact (Below.refl _ W2).alloc (Nat.le_refl _) _
  have hx3 : W3.heap[W2.heap.size]? = some (.cells #[.int .i64 kk, .int .i64 ki, .string ks] 215 (0, 0)) := by rw [<- hW3]; exact heap_alloc_new W2 _
  have hx1 : W3.heap[w.heap.size + 1]? = some (.cells #[.int .i64 0, .int .i64 0, .string ⟨#[]⟩] 215 (0, 0)) := (b3.block _ (by omega)).trans HX2.out
  have HB3 : Hid (Below w.heap.size w W3) := nx HB2.out b3
  have HW3 : Hid (W2.alloc (.cells #[.int .i64 kk, .int .i64 ki, .string ks] 215) = W3) := hW3
  obtain ⟨n0, n1, n2⟩ := three_b hx3
  obtain ⟨r0, r1, r2⟩ := three_b hx1
  have rf0 := frozen_box hx1 0
  have rf1 := frozen_box hx1 1
  have rf2 := frozen_box hx1 2
  clear cK b2 hW3
  by_cases hk : ke = 0
  ·subst hk
   have hA := HE.out
   rw [if_pos rfl] at hA
   subst hA
   have c1 := GPl.must_t W3
   obtain ⟨W9, hW9⟩ := stc3 W3 (w.heap.size + 1) (.int .i64 kk) (.int .i64 ki) (.string ks)
   obtain ⟨q1, q4⟩ := set3 hx1 hW9
   have HB9 := hid (HB3.out.trans (q4 _ (by omega)))
   have HQ1 := hid q1
   clear q1 q4 hx1 hx3 b3
   go_wp2_with fail
   try rw [HW3.out]
   refine c1.mono ?_
   rintro e W4 ⟨⟨v2, rfl⟩, h3⟩
   obtain rfl := h3.symm
   go_wp2_with fail
   try rw [hW9]
   refine bodyPost_ret (results_cell_row rfl _ W9 (w.heap.size + 1) 215 _ (0, 0) _ rfl HQ1.out underlying215 rfl (by kernel_rfl)) rfl ?_
   exact ⟨rfl, HB9.out⟩
  ·have hA := HE.out
   rw [if_neg hk] at hA
   subst hA
   have ek : (ke == 0) = false := by simp [hk]
   have c1 := GPl.must_f W3
   clear hk hx1 hx3 b3 HE
   go_wp2_with fail
   try rw [HW3.out]
   refine c1.mono ?_
   rintro e W4 ⟨rfl, h3⟩
   obtain rfl := h3.symm
   exact ⟨rfl, rfl, HB3.out⟩
end Go.Proofs.YtiijfmdfccdagaaGreatDoor.GTr
namespace Go.Proofs.YtiijfmdfccdagaaGreatDoor.GEn
open Go.RowKit Base VSm
open VPure hiding evL
abbrev ptr (B : Nat) : Value := .pointer (some ⟨B, 0, none⟩)
abbrev wk (Pv mk sv : Value) (r : Int) : Array Value := #[Pv, mk, sv, .int .i64 r]
theorem wk_box {w : World} {B : Nat} {Pv mk sv : Value} {r : Int} (h : w.heap[B]? = some (.cells (wk Pv mk sv r) 105 (0, 0))) :
  w.cell? ⟨B, 0, none⟩ = some Pv /\ w.cell? ⟨B, 1, none⟩ = some mk /\ w.cell? ⟨B, 2, none⟩ = some sv /\ w.cell? ⟨B, 3, none⟩ = some (.int .i64 r) := XBase.four_box h
theorem enter_no {w : World} {B : Nat} {Pv mk sv : Value} (h : w.heap[B]? = some (.cells (wk Pv mk sv 0) 105 (0, 0))) :
  Calls prog 97 #[ptr B] w fun e w' => e = .panicked (pkE 1601) /\ w = w' := by
 obtain ⟨k0, k1, k2, k3⟩ := wk_box h
 unfold pkE
 clear h
 go_enter func97, ntmps97
 go_wp2_with fail
 exact ⟨rfl, rfl, rfl⟩
theorem enter_ok {w : World} {B : Nat} {Pv mk sv : Value} {r : Int} (h : w.heap[B]? = some (.cells (wk Pv mk sv r) 105 (0, 0))) (hr : 0 < r /\ r <= 100000) :
  Calls prog 97 #[ptr B] w fun e w' => (∃ v, e = .returned v) /\ w.setCell ⟨B, 3, none⟩ (.int .i64 (r - 1)) = w' := by
 obtain ⟨k0, k1, k2, k3⟩ := wk_box h
 have f3 := frozen_box h 3
 have e0 : (r == 0) = false := by simp; omega
 have hw : IntKind.i64.wrap (r - 1) = r - 1 := by rw [IntKind.wrap_i64]; omega
 clear h hr
 go_enter func97, ntmps97
 go_wp2_with fail
 go_end0
 exact ⟨⟨_, rfl⟩, rfl⟩
end Go.Proofs.YtiijfmdfccdagaaGreatDoor.GEn
namespace Go.Proofs.YtiijfmdfccdagaaGreatDoor.TBase
open Go.RowKit
structure T where
 mk ::
 (g0 : ByteArray) (s0 : ByteArray) (n0 : List (ByteArray × ByteArray)) (l0 : List T)
def T.g : T -> ByteArray | .mk g _ _ _ => g
def T.s : T -> ByteArray | .mk _ s _ _ => s
def T.n : T -> List (ByteArray × ByteArray) | .mk _ _ n _ => n
def T.l : T -> List T | .mk _ _ _ l => l
def room : ByteArray := ⟨#[126, 114, 111, 111, 109]⟩
def room4 : Value := .agg #[.string room, .string ⟨#[]⟩, .slice none 0 0, .slice none 0 0]
def room2 : ByteArray × ByteArray := (room, ⟨#[]⟩)
def Four (w : World) (g o : Nat) (u : Value) : Prop :=
 ∃ v0 v1 v2 v3, u = .agg #[v0, v1, v2, v3] /\ w.cell? ⟨g, o, none⟩ = some v0 /\ w.cell? ⟨g, o + 1, none⟩ = some v1 /\ w.cell? ⟨g, o + 2, none⟩ = some v2 /\ w.cell? ⟨g, o + 3, none⟩ = some v3
def Two (w : World) (g o : Nat) (t : ByteArray × ByteArray) : Prop := w.cell? ⟨g, o, none⟩ = some (.string t.1) /\ w.cell? ⟨g, o + 1, none⟩ = some (.string t.2)
def NAt (r : Bool) (S : Nat -> Prop) (w : World) (a : Option Addr) (cap : Nat) (n : List (ByteArray × ByteArray)) : Prop := (n = [] /\ r = false) \/ ∃ g o, a = some ⟨g, o, none⟩ /\ S g /\ (∀ j (h : j < n.length), Two w g (o + j * 2) n[j]) /\
   (r = true -> n.length + 2 <= cap /\ Two w g (o + n.length * 2) room2 /\ Two w g (o + n.length * 2 + 2) room2)
def Ax (r : Bool) (S : Nat -> Prop) (w : World) (v : Value) (n : List (ByteArray × ByteArray)) : Prop :=
 ∃ a cap, v = .slice a n.length cap /\ n.length <= cap /\ cap <= 9223372036854775807 /\ n.length * 32 <= 140737488351232 /\ (∀ t ∈ n, t.1.size <= 140737488351232 /\ t.2.size <= 140737488351232) /\ (a = none -> cap = 0) /\ NAt r S w a cap n
def In (r : Bool) (S : Nat -> Prop) (w : World) : Nat -> Value -> T -> Prop
 | 0, _, _ => False
 | m + 1, v, .mk g s n l => ∃ nv a cap, v = .agg #[.string g, .string s, nv, .slice a l.length cap] /\
   g.size <= 140737488351232 /\ s.size <= 140737488351232 /\ Ax r S w nv n /\
   l.length <= cap /\ cap <= 9223372036854775807 /\ l.length * 80 <= 140737488351232 /\ (a = none -> cap = 0) /\
   ((l = [] /\ r = false) \/ ∃ g o, a = some ⟨g, o, none⟩ /\ S g /\ (∀ j (h : j < l.length), ∃ u, Four w g (o + j * 4) u /\ In r S w m u l[j]) /\
    (r = true -> l.length + 2 <= cap /\ Four w g (o + l.length * 4) room4 /\ Four w g (o + l.length * 4 + 4) room4))
def LAt (r : Bool) (S : Nat -> Prop) (w : World) (m : Nat) (a : Option Addr) (cap : Nat) (l : List T) : Prop := (l = [] /\ r = false) \/ ∃ g o, a = some ⟨g, o, none⟩ /\ S g /\ (∀ j (h : j < l.length), ∃ u, Four w g (o + j * 4) u /\ In r S w m u l[j]) /\
    (r = true -> l.length + 2 <= cap /\ Four w g (o + l.length * 4) room4 /\ Four w g (o + l.length * 4 + 4) room4)
def InL (r : Bool) (S : Nat -> Prop) (w : World) (m : Nat) (v : Value) (l : List T) : Prop :=
 ∃ a cap, v = .slice a l.length cap /\ l.length <= cap /\ cap <= 9223372036854775807 /\ l.length * 80 <= 140737488351232 /\ (a = none -> cap = 0) /\ LAt r S w m a cap l
theorem in_iff {r : Bool} {S : Nat -> Prop} {w : World} {m : Nat} {v : Value} {g s : ByteArray} {n : List (ByteArray × ByteArray)} {l : List T} :
  In r S w (m + 1) v (.mk g s n l) ↔ ∃ nv lv, v = .agg #[.string g, .string s, nv, lv] /\
   g.size <= 140737488351232 /\ s.size <= 140737488351232 /\ Ax r S w nv n /\ InL r S w m lv l := by
 constructor
 ·intro h
  rw [In] at h
  obtain ⟨nv, a, cap, h1, h2, h3, h4, h6⟩ := h
  exact ⟨nv, _, h1, h2, h3, h4, a, cap, rfl, h6⟩
 ·rintro ⟨nv, lv, h1, h2, h3, h4, a, cap, rfl, h6⟩
  rw [In]
  exact ⟨nv, a, cap, h1, h2, h3, h4, h6⟩
theorem cell_lt {w : World} {a : Addr} {v : Value} (h : w.cell? a = some v) : a.block < w.heap.size := by
 unfold World.cell? at h
 split at h
 ·next hh => exact (Array.getElem?_eq_some_iff.1 hh).1
 ·cases h
def Keep (S : Nat -> Prop) (w w' : World) : Prop := ∀ b, S b -> b < w.heap.size -> w'.heap[b]? = w.heap[b]?
theorem Keep.cell {S : Nat -> Prop} {w w' : World} (h : Keep S w w') {g o : Nat} {v : Value} (hS : S g) (hc : w.cell? ⟨g, o, none⟩ = some v) : w'.cell? ⟨g, o, none⟩ = some v :=
 (World.cell?_of_block (w := w) (h g hS (cell_lt hc))).trans hc
theorem Keep.four {S : Nat -> Prop} {w w' : World} (h : Keep S w w') {g o : Nat} {v : Value} (hS : S g) (hc : Four w g o v) : Four w' g o v := by
 obtain ⟨v0, v1, v2, v3, rfl, c0, c1, c2, c3⟩ := hc
 exact ⟨v0, v1, v2, v3, rfl, h.cell hS c0, h.cell hS c1, h.cell hS c2, h.cell hS c3⟩
theorem Keep.two {S : Nat -> Prop} {w w' : World} (h : Keep S w w') {g o : Nat} {t : ByteArray × ByteArray} (hS : S g) (hc : Two w g o t) : Two w' g o t := ⟨h.cell hS hc.1, h.cell hS hc.2⟩
theorem Ax.keep {r : Bool} {S : Nat -> Prop} {w w' : World} {v : Value} {n : List (ByteArray × ByteArray)} (h : Ax r S w v n) (hk : Keep S w w') : Ax r S w' v n := by
 obtain ⟨a, cap, h1, h2, h3, h4, h5, h6, h7⟩ := h
 refine ⟨a, cap, h1, h2, h3, h4, h5, h6, ?_⟩
 rcases h7 with h7 | ⟨g, o, ha, hS, hc, hr⟩
 ·exact .inl h7
 ·exact .inr ⟨g, o, ha, hS, fun j hj => hk.two hS (hc j hj), fun hr' => ⟨(hr hr').1, hk.two hS (hr hr').2.1, hk.two hS (hr hr').2.2⟩⟩
theorem InL.keep_of {r : Bool} {S : Nat -> Prop} {w w' : World} {m : Nat} (ih : ∀ (v : Value) (c : T), In r S w m v c -> In r S w' m v c) {v : Value} {l : List T} (h : InL r S w m v l) (hk : Keep S w w') : InL r S w' m v l := by
 obtain ⟨a, cap, h1, h2, h3, h4, h5, h6⟩ := h
 refine ⟨a, cap, h1, h2, h3, h4, h5, ?_⟩
 rcases h6 with h6 | ⟨g, o, ha, hS, hc, hr⟩
 ·exact .inl h6
 ·refine .inr ⟨g, o, ha, hS, fun j hj => ?_, fun hr' => ⟨(hr hr').1, hk.four hS (hr hr').2.1, hk.four hS (hr hr').2.2⟩⟩
  obtain ⟨u, hu, hi⟩ := hc j hj
  exact ⟨u, hk.four hS hu, ih _ _ hi⟩
theorem In.keep {r : Bool} {S : Nat -> Prop} {w w' : World} (hk : Keep S w w') : ∀ {m : Nat} {v : Value} {c : T}, In r S w m v c -> In r S w' m v c := by
 intro m
 induction m with
 | zero => intro v c h; rw [In] at h; exact h.elim
 | succ m ih =>
  intro v c h
  obtain ⟨g, s, n, l⟩ := c
  rw [in_iff] at h ⊢
  obtain ⟨nv, lv, h1, h3, h4, h5, h6⟩ := h
  exact ⟨nv, lv, h1, h3, h4, h5.keep hk, h6.keep_of (fun v c => ih) hk⟩
theorem Ax.weak {r : Bool} {S S' : Nat -> Prop} {w : World} {v : Value} {n : List (ByteArray × ByteArray)} (hS : ∀ b, S b -> S' b) (r' : Bool) (hr : r' = true -> r = true) (h : Ax r S w v n) : Ax r' S' w v n := by
 obtain ⟨a, cap, h1, h2, h3, h4, h5, h6, h7⟩ := h
 refine ⟨a, cap, h1, h2, h3, h4, h5, h6, ?_⟩
 rcases h7 with ⟨h7, h8⟩ | ⟨g, o, ha, hg, hc, hr0⟩
 ·refine .inl ⟨h7, ?_⟩
  cases r' with
  | true => rw [hr rfl] at h8; cases h8
  | false => rfl
 ·exact .inr ⟨g, o, ha, hS _ hg, hc, fun h => hr0 (hr h)⟩
theorem InL.weak_of {r : Bool} {S S' : Nat -> Prop} {w : World} {m m' : Nat} {v : Value} {l : List T} (hS : ∀ b, S b -> S' b) (r' : Bool) (hr : r' = true -> r = true) (ih : ∀ (v : Value) (c : T), In r S w m v c -> In r' S' w m' v c)
  (h : InL r S w m v l) : InL r' S' w m' v l := by
 obtain ⟨a, cap, h1, h2, h3, h4, h5, h6⟩ := h
 refine ⟨a, cap, h1, h2, h3, h4, h5, ?_⟩
 rcases h6 with ⟨h7, h8⟩ | ⟨g, o, ha, hg, hc, hr0⟩
 ·refine .inl ⟨h7, ?_⟩
  cases r' with
  | true => rw [hr rfl] at h8; cases h8
  | false => rfl
 ·refine .inr ⟨g, o, ha, hS _ hg, fun j hj => ?_, fun h => hr0 (hr h)⟩
  obtain ⟨u, hu, hi⟩ := hc j hj
  exact ⟨u, hu, ih _ _ hi⟩
theorem In.weak {r : Bool} {S S' : Nat -> Prop} {w : World} (hS : ∀ b, S b -> S' b) (r' : Bool) (hr : r' = true -> r = true) : ∀ {m : Nat} (m' : Nat) {v : Value} {c : T}, m <= m' -> In r S w m v c -> In r' S' w m' v c := by
 intro m
 induction m with
 | zero => intro m' v c _ h; rw [In] at h; exact h.elim
 | succ m ih =>
  intro m' v c hm h
  obtain ⟨m', rfl⟩ : ∃ q, m' = q + 1 := ⟨m' - 1, by omega⟩
  obtain ⟨g, s, n, l⟩ := c
  rw [in_iff] at h ⊢
  obtain ⟨nv, lv, h1, h3, h4, h5, h6⟩ := h
  exact ⟨nv, lv, h1, h3, h4, h5.weak hS r' hr, h6.weak_of hS r' hr (fun v c h => ih m' (by omega) h)⟩
theorem InL.weak {r : Bool} {S S' : Nat -> Prop} {w : World} (hS : ∀ b, S b -> S' b) (r' : Bool) (hr : r' = true -> r = true) {m : Nat} (m' : Nat) {v : Value} {l : List T} (hm : m <= m') (h : InL r S w m v l) : InL r' S' w m' v l :=
 h.weak_of hS r' hr (fun v c h => h.weak hS r' hr m' hm)
theorem add_none (g o j : Nat) : (⟨g, o, none⟩ : Addr).add j = ⟨g, o + j, none⟩ := by
 unfold Addr.add
 split
 ·simp_all
 ·rfl
theorem heap_alloc_new (w : World) (o : Obj) : (w.alloc o).heap[w.heap.size]? = some o := by
 show (w.heap.push o)[w.heap.size]? = _
 simp
theorem elem_at {r : Bool} {S : Nat -> Prop} {w : World} {m : Nat} {a : Option Addr} {cap : Nat} {l : List T} (hL : LAt r S w m a cap l) {q : Nat} (h : q < l.length) :
  ∃ g o u, a = some ⟨g, o, none⟩ /\ S g /\ Four w g (o + q * 4) u /\ In r S w m u l[q] := by
 rcases hL with ⟨rfl, _⟩ | ⟨g, o, ha, hS, hc, _⟩
 ·simp at h
 ·obtain ⟨u, hu, hi⟩ := hc q h
  exact ⟨g, o, u, ha, hS, hu, hi⟩
theorem In.shape {r : Bool} {S : Nat -> Prop} {w : World} {m : Nat} {v : Value} {c : T} (h : In r S w m v c) :
  ∃ m' nv lv, m = m' + 1 /\ v = .agg #[.string c.g, .string c.s, nv, lv] /\ c.g.size <= 140737488351232 /\ c.s.size <= 140737488351232 /\ Ax r S w nv c.n /\ InL r S w m' lv c.l := by
 cases m with
 | zero => rw [In] at h; exact h.elim
 | succ m =>
  obtain ⟨g, s, n, l⟩ := c
  rw [in_iff] at h
  obtain ⟨nv, lv, h⟩ := h
  exact ⟨m, nv, lv, rfl, h⟩
end Go.Proofs.YtiijfmdfccdagaaGreatDoor.TBase

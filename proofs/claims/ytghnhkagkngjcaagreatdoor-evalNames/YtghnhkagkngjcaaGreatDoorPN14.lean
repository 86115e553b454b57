import Derived.Test.YtghnhkagkngjcaaGreatDoorPN05
import Derived.Test.YtghnhkagkngjcaaGreatDoorPN13
set_option linter.unusedVariables false
set_option maxRecDepth 20000
set_option maxHeartbeats 3200000
namespace Go.Proofs.YtghnhkagkngjcaaGreatDoor.EAdv
open Go.RowKit Base UBase EPure ERd ESk ETk EChr ECh ESc
def AR (w w' : World) (R : Nat) (s : ByteArray) (e : Ending) : Except F Sr → Prop
 | .ok g => Kr R w w' ∧ (∃ z, e = .returned z) ∧ Er w' R s g.a g.r g.tk
 | .error f => Kr R w w' ∧ e = .panicked (pk f)
def advk (r : Nat) : Except F (Tk × Nat) → Except F Sr
 | .error e => .error e
 | .ok (t, j) => if t.k = 0 then .ok ⟨t, j, r⟩ else if r = 512 then .error (1002, t.a) else .ok ⟨t, j, r + 1⟩
theorem adv_eq (s : ByteArray) (a r : Nat) : adv s a r = advk r (scan s (skp isb s a)) := by
 unfold adv advk
 rfl
theorem Er.tok {w : World} {R : Nat} {s : ByteArray} {j r : Nat} {t x : Tk} (h : Er w R s j r t) :
  Er (((((w.setCell ⟨R, 3, none⟩ (.int .i64 x.k)).setCell ⟨R, 4, none⟩ (.string x.t)).setCell ⟨R, 5, none⟩ (.int .i64 x.n)).setCell ⟨R, 6, none⟩ (.int .i64 0)).setCell ⟨R, 6, none⟩ (.int .i64 x.a)) R s j r x := by
 refine ⟨?_, h.la, h.sz⟩
 simp [World.setCell, Array.getElem?_modify, h.box]
theorem Er.read {w : World} {R : Nat} {s : ByteArray} {j r : Nat} {t : Tk} (h : Er w R s j r t) : Er (w.setCell ⟨R, 2, none⟩ (.int .i64 ((r : Int) + 1))) R s j (r + 1) t := by
 refine ⟨?_, h.la, h.sz⟩
 simp [World.setCell, Array.getElem?_modify, h.box]
theorem adv_c {w : World} {R : Nat} {s : ByteArray} {a r : Nat} {t : Tk} (h : Es w R s a r t) (hr : r ≤ 512) :
  Calls Tryz.prog 56 #[ptr R] w fun e w' => AR w w' R s e (adv s a r) := by
 have hRlt := h.er.lt
 have hsz := h.er.sz
 have hla := h.er.la
 have cS := skip_c set_b h.er
 obtain ⟨p, hp⟩ : ∃ p, skp isb s a = p := ⟨_, rfl⟩
 have hps : p ≤ s.size := by rw [← hp]; exact skp_in hla
 obtain ⟨X, hX⟩ : ∃ X, scan s p = X := ⟨_, rfl⟩
 obtain ⟨U, hU⟩ : ∃ U, adv s a r = U := ⟨_, rfl⟩
 rw [hU]
 rw [adv_eq, hp, hX] at hU
 rw [hp] at cS
 have HX : Hid (scan s p = X) := hX
 have HU : Hid (advk r X = U) := hU
 have HB : Hid (Es w R s a r t) := h
 unfold ptr at cS ⊢
 clear h hp hX hU
 go_enter Tryz.func56, Tryz.ntmps56
 go_wp2_with fail
 refine cS.mono ?_
 rintro e W1 ⟨rfl, hE1, hK1⟩
 have S1 := HB.out.step hK1 hE1
 obtain ⟨k0, k1, -⟩ := hE1.cells
 have cC := scan_c S1
 rw [HX.out] at cC
 unfold ptr at cC
 clear cS
 go_wp2_with fail
 refine cC.mono ?_
 rintro e W2 hT
 clear cC k0 k1
 cases X with
 | error f =>
  obtain ⟨k2, rfl⟩ := hT
  have hU : Except.error f = U := HU.out
  subst hU
  exact ⟨rfl, hK1.trans k2, rfl⟩
 | ok q =>
  obtain ⟨x, j⟩ := q
  obtain ⟨k2, rfl, hE2⟩ := hT
  obtain ⟨hxa, hxk, hjs, hx0, hx1⟩ := EDn.scan_in hps HX.out
  have hU := HU.out
  unfold advk at hU
  dsimp only at hU
  obtain ⟨xk, xt, xn, xa⟩ := x
  dsimp only at hxa hU
  subst hxa
  have hkb := hxk.hk
  dsimp only at hkb
  have hE3 := Er.tok (x := ⟨xk, xt, xn, xa⟩) hE2
  have hK3 := (((((hK1.trans k2).set 3 (.int .i64 xk)).set 4 (.string xt)).set 5 (.int .i64 xn)).set 6 (.int .i64 0)).set 6 (.int .i64 xa)
  obtain ⟨k0, k1, k2', k3, k4, k5, k6⟩ := hE2.cells
  have f2 := hE2.free 2
  have f3 := hE2.free 3
  have f4 := hE2.free 4
  have f5 := hE2.free 5
  have f6 := hE2.free 6
  have HE3 : Hid (Er _ R s j r ⟨xk, xt, xn, xa⟩) := hE3
  have HK3 : Hid (Kr R w _) := hK3
  have HU2 : Hid ((if xk = 0 then Except.ok { tk := { k := xk, t := xt, n := xn, a := xa }, a := j, r := r } else if r = 512 then Except.error (1002, xa) else Except.ok { tk := { k := xk, t := xt, n := xn, a := xa }, a := j, r := r + 1 }) = U) := hU
  clear hE1 hE2 S1 HU hU hE3 hK3 hxk hx0 hx1 k2
  by_cases h0 : xk = 0
  ·have hU := HU2.out
   rw [if_pos h0] at hU
   subst hU
   subst h0
   go_wp2_with fail
   refine bodyPost_ret (v := .tuple #[]) (by simp [results, Tryz.results56, go_sem]) rfl ?_
   exact ⟨HK3.out, ⟨_, rfl⟩, HE3.out⟩
  ·have hk0 : ((xk : Int) == 0) = false := by simp; omega
   have hU := HU2.out
   rw [if_neg h0] at hU
   by_cases h5 : r = 512
   ·rw [if_pos h5] at hU
    subst hU
    have e5 : ((r : Int) == 512) = true := by simp; omega
    clear h5 h0
    go_wp2_with fail
    exact ⟨rfl, HK3.out, rfl⟩
   ·rw [if_neg h5] at hU
    subst hU
    have e5 : ((r : Int) == 512) = false := by simp; omega
    clear h0
    go_wp2_with fail
    go_end0
    exact ⟨HK3.out.set 2 _, ⟨_, rfl⟩, Er.read HE3.out⟩
theorem toList_data (x : ByteArray) : x.toList = x.data.toList := ByteArray.toList_eq x
theorem is_b {t : Tk} {x : List UInt8} {b : Bool} (hb : is t x = b) (w : World) :
  Calls Tryz.prog 79 #[.agg #[.int .i64 t.k, .string t.t, .int .i64 t.n, .int .i64 t.a], .string ⟨x.toArray⟩] w fun e w' => e = .returned (.bool b) ∧ Below w.heap.size w w' := by
 refine (is_c t ⟨x.toArray⟩ w).mono ?_
 rintro e w' ⟨rfl, hw⟩
 refine ⟨?_, hw⟩
 rw [← hb, toList_data, toList_data]
 rfl
theorem Es.cells {w : World} {R : Nat} {s : ByteArray} {a r : Nat} {t : Tk} (h : Es w R s a r t) : w.cell? ⟨R, 3, none⟩ = some (.int .i64 t.k) ∧ w.cell? ⟨R, 4, none⟩ = some (.string t.t) ∧ w.cell? ⟨R, 5, none⟩ = some (.int .i64 t.n) ∧ w.cell? ⟨R, 6, none⟩ = some (.int .i64 t.a) := h.er.cells.2.2.2
theorem take_c {w : World} {R : Nat} {s : ByteArray} {g : Sr} (h : Es w R s g.a g.r g.tk) (hr : g.r ≤ 512) (x : List UInt8) :
  Calls Tryz.prog 80 #[ptr R, .string ⟨x.toArray⟩] w fun e w' => AR w w' R s e (tak s x g) := by
 have hRlt := h.er.lt
 obtain ⟨k3, k4, k5, k6⟩ := Es.cells h
 unfold tak
 cases hb : is g.tk x with
 | true =>
  rw [if_pos rfl]
  obtain ⟨X, hX⟩ : ∃ X, adv s g.a g.r = X := ⟨_, rfl⟩
  rw [hX]
  have HX : Hid (adv s g.a g.r = X) := hX
  clear hX
  have cI := is_b hb w
  have HB : Hid (Es w R s g.a g.r g.tk) := h
  unfold ptr
  clear h hb
  go_enter Tryz.func80, Tryz.ntmps80
  go_wp2_with fail
  refine cI.mono ?_
  rintro e W1 ⟨rfl, b1⟩
  have S1 := HB.out.below b1
  have K1 : Kr R w W1 := Kr.of_below b1 (Nat.le_of_lt hRlt)
  have cA := adv_c S1 hr
  unfold ptr at cA
  clear cI k3 k4 k5 k6 S1 b1
  go_wp2_with fail
  refine cA.mono ?_
  intro e W2 hA
  rw [HX.out] at hA
  cases X with
  | error f =>
   obtain ⟨K2, rfl⟩ := hA
   exact ⟨rfl, K1.trans K2, rfl⟩
  | ok g' =>
   obtain ⟨K2, ⟨z, rfl⟩, hE2⟩ := hA
   go_wp2_with fail
   go_end0
   exact ⟨K1.trans K2, ⟨_, rfl⟩, hE2⟩
 | false =>
  rw [if_neg (by simp)]
  have cI := is_b hb w
  have HB : Hid (Es w R s g.a g.r g.tk) := h
  unfold ptr
  clear h hb
  go_enter Tryz.func80, Tryz.ntmps80
  go_wp2_with fail
  refine cI.mono ?_
  rintro e W1 ⟨rfl, b1⟩
  have S1 := HB.out.below b1
  have K1 : Kr R w W1 := Kr.of_below b1 (Nat.le_of_lt hRlt)
  have cM := misplaced_c g.tk W1
  clear k3 k4 k5 k6
  obtain ⟨k3, k4, k5, k6⟩ := Es.cells S1
  clear cI S1 b1
  go_wp2_with fail
  refine cM.mono ?_
  rintro e W2 ⟨rfl, b2⟩
  go_wp2_with fail
  exact ⟨rfl, K1.trans (Kr.of_below b2 (by have := K1.below.size; omega)), rfl⟩
end Go.Proofs.YtghnhkagkngjcaaGreatDoor.EAdv
namespace Go.Proofs.YtghnhkagkngjcaaGreatDoor.EGx
open Go.RowKit Base UBase EPure ERd ESk ETk EChr ECh ESc EAdv EDn
open XBase (four_box frozen_box Rg)
def PR (w w' : World) (R : Nat) (s : ByteArray) (e : Ending) : A Ex → Prop
 | .ok (x, g) => Kr R w w' ∧ (∃ m a c, e = .returned (.agg #[.int .i64 x.o, .int .i64 x.i, .string x.s, .slice a x.l.length c]) ∧ XBase.In false (XBase.Rg w.heap.size w'.heap.size) w' m (.agg #[.int .i64 x.o, .int .i64 x.i, .string x.s, .slice a x.l.length c]) x) ∧ Er w' R s g.a g.r g.tk
 | .error f => Kr R w w' ∧ e = .panicked (pk f)
structure Gx (w W : World) (R : Nat) (s : ByteArray) (g : Sr) : Prop where
 es : Es W R s g.a g.r g.tk
 ok : SrOk s g
 kr : Kr R w W
 box : W.heap[w.heap.size]? = some (.cells #[.int .i64 0, .int .i64 0, .string ⟨#[]⟩, .slice none 0 0] 24 (0, 0))
theorem Gx.start {w : World} {R : Nat} {s : ByteArray} {g : Sr} (h : Es w R s g.a g.r g.tk) (ho : SrOk s g) : Gx w (w.alloc (.cells #[.int .i64 0, .int .i64 0, .string ⟨#[]⟩, .slice none 0 0] 24)) R s g := by
 have b := (Below.refl w.heap.size w).alloc (Nat.le_refl _) (.cells #[.int .i64 0, .int .i64 0, .string ⟨#[]⟩, .slice none 0 0] 24)
 exact ⟨h.below b, ho, Kr.of_below b (Nat.le_of_lt h.er.lt), heap_alloc_new w _⟩
theorem Gx.lt {w W : World} {R : Nat} {s : ByteArray} {g : Sr} (h : Gx w W R s g) : w.heap.size < W.heap.size := (Array.getElem?_eq_some_iff.1 h.box).1
theorem Gx.step {w W W' : World} {R : Nat} {s : ByteArray} {g g' : Sr} (h : Gx w W R s g) (hR : R < w.heap.size) (k : Kr R W W') (e : Er W' R s g'.a g'.r g'.tk) (ho : SrOk s g') : Gx w W' R s g' :=
 ⟨h.es.step k e, ho, h.kr.trans k, (k.other _ (by omega) h.lt).trans h.box⟩
theorem Gx.below {w W W' : World} {R : Nat} {s : ByteArray} {g : Sr} (h : Gx w W R s g) (hR : R < w.heap.size) (b : Below W.heap.size W W') : Gx w W' R s g :=
 h.step hR (Kr.of_below b (Nat.le_of_lt h.es.er.lt)) (h.es.er.keep (b.block R h.es.er.lt)) h.ok
theorem in_kr {R lo hi m : Nat} {W W' : World} {v : Value} {x : Ex} (h : XBase.In false (XBase.Rg lo hi) W m v x) (k : Kr R W W') (hR : R < lo) : XBase.In false (XBase.Rg lo hi) W' m v x :=
 h.keep fun b hb hlt => k.other b (by have := hb.1; omega) hlt
theorem in_rg {lo hi lo' hi' m : Nat} {W : World} {v : Value} {x : Ex} (h : XBase.In false (XBase.Rg lo hi) W m v x) (h1 : lo' ≤ lo) (h2 : hi ≤ hi') : XBase.In false (XBase.Rg lo' hi') W m v x :=
 h.weak (fun b hb => ⟨by have := hb.1; omega, by have := hb.2; omega⟩) false id m (Nat.le_refl _)
theorem Gx.fin {w W : World} {R : Nat} {s : ByteArray} {g : Sr} {x : Ex} {lo m c : Nat} {a : Option Addr} (h : Gx w W R s g) (hR : R < w.heap.size) (hin : XBase.In false (XBase.Rg lo W.heap.size) W m (.agg #[.int .i64 x.o, .int .i64 x.i, .string x.s, .slice a x.l.length c]) x) (hlo : w.heap.size < lo) {W' : World}
  (hW : ((((W.setCell ⟨w.heap.size, 0, none⟩ (.int .i64 x.o)).setCell ⟨w.heap.size, 1, none⟩ (.int .i64 x.i)).setCell ⟨w.heap.size, 2, none⟩ (.string x.s)).setCell ⟨w.heap.size, 3, none⟩ (.slice a x.l.length c)) = W') :
  W'.heap[w.heap.size]? = some (.cells #[.int .i64 x.o, .int .i64 x.i, .string x.s, .slice a x.l.length c] 24 (0, 0)) ∧
  PR w W' R s (.returned (.agg #[.int .i64 x.o, .int .i64 x.i, .string x.s, .slice a x.l.length c])) (.ok (x, g)) := by
 subst hW
 refine ⟨set_box4 h.box, Kr.off (Kr.off (Kr.off (Kr.off h.kr (Nat.le_refl _) hR 0 _) (Nat.le_refl _) hR 1 _) (Nat.le_refl _) hR 2 _) (Nat.le_refl _) hR 3 _, ⟨m, a, c, rfl, ?_⟩, Er.off (Er.off (Er.off (Er.off h.es.er hR 0 _) hR 1 _) hR 2 _) hR 3 _⟩
 refine in_rg (hin.keep fun b hb _ => ?_) (Nat.le_of_lt hlo) (by simp [World.setCell])
 have hne : b ≠ w.heap.size := by have := hb.1; omega
 rw [Below.heap_setCell _ _ _ _ hne, Below.heap_setCell _ _ _ _ hne, Below.heap_setCell _ _ _ _ hne, Below.heap_setCell _ _ _ _ hne]
def ChI (s : ByteArray) (n : Nat) (C : P) : Prop := ∀ (w : World) (R : Nat) (g : Sr), Es w R s g.a g.r g.tk → SrOk s g → Calls Tryz.prog 57 #[ptr R, .int .i64 n] w fun e w' => PR w w' R s e (C g)
def SgI (s : ByteArray) (n : Nat) (C : P) : Prop := ∀ (w : World) (R : Nat) (g : Sr), Es w R s g.a g.r g.tk → SrOk s g → Calls Tryz.prog 103 #[ptr R, .int .i64 n] w fun e w' => PR w w' R s e (C g)
def LvI (s : ByteArray) (k n : Nat) (C : P) : Prop := ∀ (w : World) (R : Nat) (g : Sr), Es w R s g.a g.r g.tk → SrOk s g → Calls Tryz.prog 78 #[ptr R, .int .i64 k, .int .i64 n] w fun e w' => PR w w' R s e (C g)
def PaI (s : ByteArray) (n : Nat) (C : P) : Prop := ∀ (w : World) (R : Nat) (g : Sr), Es w R s g.a g.r g.tk → SrOk s g → Calls Tryz.prog 132 #[ptr R, .int .i64 n] w fun e w' => PR w w' R s e (C g)
def WoI (s : ByteArray) (n : Nat) (C : P) : Prop := ∀ (w : World) (R : Nat) (g : Sr), Es w R s g.a g.r g.tk → SrOk s g → Calls Tryz.prog 157 #[ptr R, .int .i64 n] w fun e w' => PR w w' R s e (C g)
theorem node_c (o : Int) (a : Option Addr) (n c : Nat) (w : World) :
  Calls Tryz.prog 81 #[.int .i64 o, .slice a n c] w fun e w' => e = .returned (.agg #[.int .i64 o, .int .i64 0, .string ⟨#[]⟩, .slice a n c]) ∧ Below w.heap.size w w' := by
 go_enter Tryz.func81, Tryz.ntmps81
 go_wp2_with fail
 refine bodyPost_ret (v := .agg #[.int .i64 o, .int .i64 0, .string ⟨#[]⟩, .slice a n c]) (by simp [results, Tryz.results81, go_sem]) rfl ?_
 exact ⟨rfl, (Below.refl _ w).alloc (Nat.le_refl _) _⟩
theorem begin_ok {w : World} {R : Nat} {s : ByteArray} {a r n : Nat} {t : Tk} (h : Es w R s a r t) (hn : n ≤ 33) (hk : n ≤ 32 ∨ t.k = 0) :
  Calls Tryz.prog 131 #[ptr R, .int .i64 n] w fun e w' => (∃ z, e = .returned z) ∧ Below w.heap.size w w' := by
 obtain ⟨k3, k4, k5, k6⟩ := Es.cells h
 unfold ptr
 clear h
 by_cases h32 : n ≤ 32
 ·have d : decide ((32 : Int) < (n : Int)) = false := by simp; omega
  clear hk h32
  go_enter Tryz.func131, Tryz.ntmps131
  go_wp2_with fail
  go_end0
  exact ⟨⟨_, rfl⟩, Below.refl _ _⟩
 ·have d : decide ((32 : Int) < (n : Int)) = true := by simp; omega
  have hk0 : t.k = 0 := by omega
  rw [hk0] at k3
  clear hk h32 hk0
  go_enter Tryz.func131, Tryz.ntmps131
  go_wp2_with fail
  go_end0
  exact ⟨⟨_, rfl⟩, Below.refl _ _⟩
theorem begin_deep {w : World} {R : Nat} {s : ByteArray} {a r : Nat} {t : Tk} (h : Es w R s a r t) (hk : t.k ≠ 0) :
  Calls Tryz.prog 131 #[ptr R, .int .i64 33] w fun e w' => e = .panicked (pk (1001, t.a)) ∧ Below w.heap.size w w' := by
 obtain ⟨k3, k4, k5, k6⟩ := Es.cells h
 have e0 : (((t.k : Nat) : Int) != 0) = true := by simp; omega
 unfold ptr
 clear h hk
 go_enter Tryz.func131, Tryz.ntmps131
 go_wp2_with fail
 exact ⟨rfl, rfl, Below.refl _ _⟩
end Go.Proofs.YtghnhkagkngjcaaGreatDoor.EGx
namespace Go.Proofs.YtghnhkagkngjcaaGreatDoor.EBt
open Go.RowKit Base UBase EPure ERd ESk ETk EChr ECh ESc EAdv EDn EGx
open XBase (four_box frozen_box Rg)
def btk2 (x : Ex) : Except F Sr → A Ex
 | .error e => .error e
 | .ok g3 => .ok (x, g3)
def btk1 (s : ByteArray) (c : List UInt8) : A Ex → A Ex
 | .error e => .error e
 | .ok (x, g2) => btk2 x (tak s c g2)
def btk0 (s : ByteArray) (C : P) (c : List UInt8) : Except F Sr → A Ex
 | .error e => .error e
 | .ok g1 => btk1 s c (C g1)
theorem btw_eq (s : ByteArray) (C : P) (o c : List UInt8) (g : Sr) : btw s C o c g = btk0 s C c (tak s o g) := by
 unfold btw btk0 btk1 btk2
 rfl
theorem between_c {w : World} {R : Nat} {s : ByteArray} {g : Sr} {n : Nat} {C : P} (hn : n ≤ 100) (hC : ChI s (n + 1) C) (hD : Dn s C) (h : Es w R s g.a g.r g.tk) (ho : SrOk s g) (o c : List UInt8) :
  Calls Tryz.prog 159 #[ptr R, .string ⟨o.toArray⟩, .string ⟨c.toArray⟩, .int .i64 n] w fun e w' => PR w w' R s e (btw s C o c g) := by
 have hRlt := h.er.lt
 have G0 := Gx.start h ho
 obtain ⟨W0, hW0⟩ : ∃ W0, w.alloc (.cells #[.int .i64 0, .int .i64 0, .string ⟨#[]⟩, .slice none 0 0] 24) = W0 := ⟨_, rfl⟩
 rw [hW0] at G0
 have cT := take_c G0.es ho.r o
 obtain ⟨X, hX⟩ : ∃ X, tak s o g = X := ⟨_, rfl⟩
 rw [btw_eq, hX]
 rw [hX] at cT
 have HX : Hid (tak s o g = X) := hX
 obtain ⟨U, hU⟩ : ∃ U, btk0 s C c X = U := ⟨_, rfl⟩
 rw [hU]
 have HU : Hid (btk0 s C c X = U) := hU
 unfold ptr at cT ⊢
 clear h hX hU
 go_enter Tryz.func159, Tryz.ntmps159
 go_wp2_with fail
 refine cT.mono ?_
 intro e W1 hT
 clear cT hW0
 cases X with
 | error f =>
  obtain ⟨K1, rfl⟩ := hT
  have hU : Except.error f = U := HU.out
  subst hU
  exact ⟨rfl, G0.kr.trans K1, rfl⟩
 | ok g1 =>
  obtain ⟨K1, ⟨z, rfl⟩, E1⟩ := hT
  have G1 := G0.step hRlt K1 E1 (tak_mu ho HX.out).1
  have cC := hC W1 R g1 G1.es G1.ok
  obtain ⟨Y, hY⟩ : ∃ Y, C g1 = Y := ⟨_, rfl⟩
  have HY : Hid (C g1 = Y) := hY
  have HU1 : Hid (btk1 s c Y = U) := by
   have := HU.out
   show _ = _
   rw [← this, ← hY]
   rfl
  rw [hY] at cC
  unfold ptr at cC
  clear K1 E1 G0 hY HU
  go_wp2_with fail
  refine cC.mono ?_
  intro e W2 hC2
  clear cC
  cases Y with
  | error f =>
   obtain ⟨K2, rfl⟩ := hC2
   have hU : Except.error f = U := HU1.out
   subst hU
   exact ⟨rfl, G1.kr.trans K2, rfl⟩
  | ok p =>
   obtain ⟨x, g2⟩ := p
   obtain ⟨K2, ⟨m, a, cp, rfl, hin⟩, E2⟩ := hC2
   have G2 := G1.step hRlt K2 E2 (hD _ _ _ G1.ok HY.out).1
   have hl1 := G1.lt
   obtain ⟨W3, hW3⟩ : ∃ W3, W2.alloc (.cells #[.int .i64 x.o, .int .i64 x.i, .string x.s, .slice a x.l.length cp] 24) = W3 := ⟨_, rfl⟩
   have b3 : Below W2.heap.size W2 W3 := by rw [← hW3]; exact (Below.refl _ W2).alloc (Nat.le_refl _) _
   have q3 : W3.heap[W2.heap.size]? = some (.cells #[.int .i64 x.o, .int .i64 x.i, .string x.s, .slice a x.l.length cp] 24 (0, 0)) := by rw [← hW3]; exact heap_alloc_new W2 _
   have G3 := G2.below hRlt b3
   have hin3 := hin.below b3
   have cT2 := take_c G3.es G3.ok.r c
   obtain ⟨Z, hZ⟩ : ∃ Z, tak s c g2 = Z := ⟨_, rfl⟩
   have HZ : Hid (tak s c g2 = Z) := hZ
   have HF : Hid (btk2 x Z = U) := by
    have := HU1.out
    show _ = _
    rw [← this, ← hZ]
    rfl
   rw [hZ] at cT2
   unfold ptr at cT2
   have HG3 : Hid (Gx w W3 R s g2) := G3
   have HIN : Hid (XBase.In false (XBase.Rg W1.heap.size W2.heap.size) W3 m (.agg #[.int .i64 x.o, .int .i64 x.i, .string x.s, .slice a x.l.length cp]) x) := hin3
   have HQ3 : Hid (W3.heap[W2.heap.size]? = some (.cells #[.int .i64 x.o, .int .i64 x.i, .string x.s, .slice a x.l.length cp] 24 (0, 0))) := q3
   have HSZ : Hid (W2.heap.size < W3.heap.size ∧ w.heap.size < W1.heap.size ∧ w.heap.size < W2.heap.size) := ⟨(Array.getElem?_eq_some_iff.1 q3).1, hl1, G2.lt⟩
   clear hin hin3 q3 b3 G3 G2 K2 E2 hZ G1
   go_wp2_with fail
   refine cT2.mono ?_
   intro e W4 hT4
   clear cT2 hW3
   cases Z with
   | error f =>
    obtain ⟨K4, rfl⟩ := hT4
    have hU : Except.error f = U := HF.out
    subst hU
    exact ⟨rfl, HG3.out.kr.trans K4, rfl⟩
   | ok g3 =>
    obtain ⟨K4, ⟨z4, rfl⟩, E4⟩ := hT4
    have hU : Except.ok (x, g3) = U := HF.out
    subst hU
    obtain ⟨z1, z2, z3⟩ := HSZ.out
    have G4 := HG3.out.step hRlt K4 E4 (tak_mu HG3.out.ok HZ.out).1
    have q4 := (K4.other W2.heap.size (by omega) z1).trans HQ3.out
    have hin4 : XBase.In false (XBase.Rg W1.heap.size W4.heap.size) W4 m (.agg #[.int .i64 x.o, .int .i64 x.i, .string x.s, .slice a x.l.length cp]) x := in_rg (in_kr HIN.out K4 (by omega)) (Nat.le_refl _) (by have := K4.below.size; omega)
    obtain ⟨c0, c1, c2, c3⟩ := four_box q4
    obtain ⟨d0, d1, d2, d3⟩ := four_box G4.box
    have f0 := XBase.frozen_box G4.box 0
    have f1 := XBase.frozen_box G4.box 1
    have f2 := XBase.frozen_box G4.box 2
    have f3 := XBase.frozen_box G4.box 3
    obtain ⟨W5, hW5⟩ : ∃ W5, ((((W4.setCell ⟨w.heap.size, 0, none⟩ (.int .i64 x.o)).setCell ⟨w.heap.size, 1, none⟩ (.int .i64 x.i)).setCell ⟨w.heap.size, 2, none⟩ (.string x.s)).setCell ⟨w.heap.size, 3, none⟩ (.slice a x.l.length cp)) = W5 := ⟨_, rfl⟩
    obtain ⟨p1, p2⟩ := G4.fin hRlt hin4 z2 hW5
    obtain ⟨y0, y1, y2, y3⟩ := four_box p1
    have HP2 : Hid (PR w W5 R s (.returned (.agg #[.int .i64 x.o, .int .i64 x.i, .string x.s, .slice a x.l.length cp])) (.ok (x, g3))) := p2
    clear p1 p2 hin4 G4 K4 E4 q4
    go_wp2_with fail
    refine bodyPost_ret (v := .agg #[.int .i64 x.o, .int .i64 x.i, .string x.s, .slice a x.l.length cp]) (by simp [results, Tryz.results159, go_sem, y0, y1, y2, y3]) rfl ?_
    exact HP2.out
end Go.Proofs.YtghnhkagkngjcaaGreatDoor.EBt
namespace Go.Proofs.YtghnhkagkngjcaaGreatDoor.EKd
open Go.RowKit Base UBase EPure ERd ECh ESc EDn EGx
open XBase (four_box frozen_box Rg Four)
theorem in_one {W : World} {B lo hi m c : Nat} {x : Ex} {a : Option Addr} {S : Nat → Prop} (hb : W.heap[B]? = some (.cells #[.int .i64 x.o, .int .i64 x.i, .string x.s, .slice a x.l.length c] 24 (0, 0))) (hB : S B)
  (hx : XBase.In false S W m (.agg #[.int .i64 x.o, .int .i64 x.i, .string x.s, .slice a x.l.length c]) x) (o i : Int) (t : ByteArray) (ho : -9223372036854775808 ≤ o ∧ o ≤ 9223372036854775807) (hi : -9223372036854775808 ≤ i ∧ i ≤ 9223372036854775807) (ht : t.size ≤ 140737488351232) :
  XBase.In false S W (m + 1) (.agg #[.int .i64 o, .int .i64 i, .string t, .slice (some ⟨B, 0, none⟩) 1 1]) (.mk o i t [x]) := by
 rw [XBase.in_iff]
 refine ⟨_, rfl, ho, hi, ht, some ⟨B, 0, none⟩, 1, rfl, by simp, by omega, by simp, (fun h => by cases h), .inr ⟨B, 0, rfl, hB, fun j hj => ?_, fun h => by cases h⟩⟩
 have hj : j < 1 := hj
 obtain rfl : j = 0 := by omega
 refine ⟨_, ⟨_, _, _, _, rfl, ?_, ?_, ?_, ?_⟩, hx⟩ <;> simp [World.cell?, hb]
theorem in_two {W : World} {B m c c' : Nat} {x y : Ex} {a a' : Option Addr} {S : Nat → Prop} (hb : W.heap[B]? = some (.cells #[.int .i64 x.o, .int .i64 x.i, .string x.s, .slice a x.l.length c, .int .i64 y.o, .int .i64 y.i, .string y.s, .slice a' y.l.length c'] 24 (0, 0))) (hB : S B)
  (hx : XBase.In false S W m (.agg #[.int .i64 x.o, .int .i64 x.i, .string x.s, .slice a x.l.length c]) x) (hy : XBase.In false S W m (.agg #[.int .i64 y.o, .int .i64 y.i, .string y.s, .slice a' y.l.length c']) y) (o i : Int) (t : ByteArray) (ho : -9223372036854775808 ≤ o ∧ o ≤ 9223372036854775807) (hi : -9223372036854775808 ≤ i ∧ i ≤ 9223372036854775807) (ht : t.size ≤ 140737488351232) :
  XBase.In false S W (m + 1) (.agg #[.int .i64 o, .int .i64 i, .string t, .slice (some ⟨B, 0, none⟩) 2 2]) (.mk o i t [x, y]) := by
 rw [XBase.in_iff]
 refine ⟨_, rfl, ho, hi, ht, some ⟨B, 0, none⟩, 2, rfl, by simp, by omega, by simp, (fun h => by cases h), .inr ⟨B, 0, rfl, hB, fun j hj => ?_, fun h => by cases h⟩⟩
 have hj : j < 2 := hj
 match j, hj with
 | 0, _ => refine ⟨_, ⟨_, _, _, _, rfl, ?_, ?_, ?_, ?_⟩, hx⟩ <;> simp [World.cell?, hb]
 | 1, _ => refine ⟨_, ⟨_, _, _, _, rfl, ?_, ?_, ?_, ?_⟩, hy⟩ <;> simp [World.cell?, hb]
theorem in_three {W : World} {B m c c' c'' : Nat} {x y z : Ex} {a a' a'' : Option Addr} {S : Nat → Prop} (hb : W.heap[B]? = some (.cells #[.int .i64 x.o, .int .i64 x.i, .string x.s, .slice a x.l.length c, .int .i64 y.o, .int .i64 y.i, .string y.s, .slice a' y.l.length c', .int .i64 z.o, .int .i64 z.i, .string z.s, .slice a'' z.l.length c''] 24 (0, 0))) (hB : S B)
  (hx : XBase.In false S W m (.agg #[.int .i64 x.o, .int .i64 x.i, .string x.s, .slice a x.l.length c]) x) (hy : XBase.In false S W m (.agg #[.int .i64 y.o, .int .i64 y.i, .string y.s, .slice a' y.l.length c']) y) (hz : XBase.In false S W m (.agg #[.int .i64 z.o, .int .i64 z.i, .string z.s, .slice a'' z.l.length c'']) z) (o i : Int) (t : ByteArray) (ho : -9223372036854775808 ≤ o ∧ o ≤ 9223372036854775807) (hi : -9223372036854775808 ≤ i ∧ i ≤ 9223372036854775807) (ht : t.size ≤ 140737488351232) :
  XBase.In false S W (m + 1) (.agg #[.int .i64 o, .int .i64 i, .string t, .slice (some ⟨B, 0, none⟩) 3 3]) (.mk o i t [x, y, z]) := by
 rw [XBase.in_iff]
 refine ⟨_, rfl, ho, hi, ht, some ⟨B, 0, none⟩, 3, rfl, by simp, by omega, by simp, (fun h => by cases h), .inr ⟨B, 0, rfl, hB, fun j hj => ?_, fun h => by cases h⟩⟩
 have hj : j < 3 := hj
 match j, hj with
 | 0, _ => refine ⟨_, ⟨_, _, _, _, rfl, ?_, ?_, ?_, ?_⟩, hx⟩ <;> simp [World.cell?, hb]
 | 1, _ => refine ⟨_, ⟨_, _, _, _, rfl, ?_, ?_, ?_, ?_⟩, hy⟩ <;> simp [World.cell?, hb]
 | 2, _ => refine ⟨_, ⟨_, _, _, _, rfl, ?_, ?_, ?_, ?_⟩, hz⟩ <;> simp [World.cell?, hb]
theorem in_deep {S : Nat → Prop} {W : World} {m m' : Nat} {v : Value} {x : Ex} (h : XBase.In false S W m v x) (hm : m ≤ m') : XBase.In false S W m' v x := h.weak (fun _ h => h) false id m' hm
theorem leaf {w W : World} {R : Nat} {s : ByteArray} {g : Sr} (h : Gx w W R s g) (hR : R < w.heap.size) (o i : Int) (t : ByteArray) (ho : -9223372036854775808 ≤ o ∧ o ≤ 9223372036854775807) (hi : -9223372036854775808 ≤ i ∧ i ≤ 9223372036854775807) (ht : t.size ≤ 140737488351232) {W' : World}
  (hW : ((((W.setCell ⟨w.heap.size, 0, none⟩ (.int .i64 o)).setCell ⟨w.heap.size, 1, none⟩ (.int .i64 i)).setCell ⟨w.heap.size, 2, none⟩ (.string t)).setCell ⟨w.heap.size, 3, none⟩ (.slice none 0 0)) = W') :
  W'.heap[w.heap.size]? = some (.cells #[.int .i64 o, .int .i64 i, .string t, .slice none 0 0] 24 (0, 0)) ∧
  PR w W' R s (.returned (.agg #[.int .i64 o, .int .i64 i, .string t, .slice none 0 0])) (.ok (.mk o i t [], g)) :=
 h.fin (x := .mk o i t []) (lo := W.heap.size) (m := 1) (a := none) (c := 0) hR (XBase.In.leaf W 0 _ o i t ho hi ht) h.lt hW
theorem made {w W : World} {R : Nat} {s : ByteArray} {g : Sr} {o i : Int} {t : ByteArray} {l : List Ex} {B m lo : Nat} (h : Gx w W R s g) (hR : R < w.heap.size) (hin : XBase.In false (XBase.Rg lo W.heap.size) W m (.agg #[.int .i64 o, .int .i64 i, .string t, .slice (some ⟨B, 0, none⟩) l.length l.length]) (.mk o i t l)) (hlo : w.heap.size < lo) {W' : World}
  (hW : ((((W.setCell ⟨w.heap.size, 0, none⟩ (.int .i64 o)).setCell ⟨w.heap.size, 1, none⟩ (.int .i64 i)).setCell ⟨w.heap.size, 2, none⟩ (.string t)).setCell ⟨w.heap.size, 3, none⟩ (.slice (some ⟨B, 0, none⟩) l.length l.length)) = W') :
  W'.heap[w.heap.size]? = some (.cells #[.int .i64 o, .int .i64 i, .string t, .slice (some ⟨B, 0, none⟩) l.length l.length] 24 (0, 0)) ∧
  PR w W' R s (.returned (.agg #[.int .i64 o, .int .i64 i, .string t, .slice (some ⟨B, 0, none⟩) l.length l.length])) (.ok (.mk o i t l, g)) :=
 h.fin (x := .mk o i t l) (lo := lo) (m := m) (a := some ⟨B, 0, none⟩) (c := l.length) hR hin hlo hW
end Go.Proofs.YtghnhkagkngjcaaGreatDoor.EKd
namespace Go.Proofs.YtghnhkagkngjcaaGreatDoor.ENd
open Go.RowKit Base UBase EPure ERd ESk ETk EChr ECh ESc EAdv EDn EGx EBt
open XBase (four_box frozen_box Rg)
def wdl : List ByteArray := [⟨#[]⟩, ⟨#[110, 117, 108, 108]⟩, ⟨#[102, 97, 108, 115, 101]⟩, ⟨#[116, 114, 117, 101]⟩]
def cll : List ByteArray := [⟨#[]⟩, ⟨#[108, 101, 110]⟩, ⟨#[115, 116, 114]⟩, ⟨#[105, 56]⟩, ⟨#[117, 56]⟩, ⟨#[105, 49, 54]⟩, ⟨#[117, 49, 54]⟩, ⟨#[105, 51, 50]⟩, ⟨#[117, 51, 50]⟩]
theorem words_c (w : World) : Calls Tryz.prog 43 #[] w fun e w' => e = .returned (.slice (some ⟨w.heap.size, 0, none⟩) 4 4) ∧ Below w.heap.size w w' ∧ ∀ j, j < wdl.length → w'.cell? ⟨w.heap.size, 0 + j, none⟩ = some (.string (wdl.getD j ByteArray.empty)) := by
 go_enter Tryz.func43, Tryz.ntmps43
 go_wp2_with fail
 go_ret
 refine ⟨rfl, (Below.refl _ w).alloc (Nat.le_refl _) _, fun j hj => ?_⟩
 have hj : j < 4 := hj
 have e := heap_alloc_new w (.cells #[.string ⟨#[]⟩, .string ⟨#[110, 117, 108, 108]⟩, .string ⟨#[102, 97, 108, 115, 101]⟩, .string ⟨#[116, 114, 117, 101]⟩] 9)
 match j, hj with
 | 0, _ | 1, _ | 2, _ | 3, _ => unfold World.cell?; rw [e]; rfl
 | j + 4, h => omega
theorem calls_c (w : World) : Calls Tryz.prog 72 #[] w fun e w' => e = .returned (.slice (some ⟨w.heap.size, 0, none⟩) 9 9) ∧ Below w.heap.size w w' ∧ ∀ j, j < cll.length → w'.cell? ⟨w.heap.size, 0 + j, none⟩ = some (.string (cll.getD j ByteArray.empty)) := by
 go_enter Tryz.func72, Tryz.ntmps72
 go_wp2_with fail
 go_ret
 refine ⟨rfl, (Below.refl _ w).alloc (Nat.le_refl _) _, fun j hj => ?_⟩
 have hj : j < 9 := hj
 have e := heap_alloc_new w (.cells #[.string ⟨#[]⟩, .string ⟨#[108, 101, 110]⟩, .string ⟨#[115, 116, 114]⟩, .string ⟨#[105, 56]⟩, .string ⟨#[117, 56]⟩, .string ⟨#[105, 49, 54]⟩, .string ⟨#[117, 49, 54]⟩, .string ⟨#[105, 51, 50]⟩, .string ⟨#[117, 51, 50]⟩] 9)
 match j, hj with
 | 0, _ | 1, _ | 2, _ | 3, _ | 4, _ | 5, _ | 6, _ | 7, _ | 8, _ => unfold World.cell?; rw [e]; rfl
 | j + 9, h => omega
def wordI (t : ByteArray) : Int := match wordOp t.data.toList with
 | some o => o
 | none => -1
def callI (t : ByteArray) : Int := match callOf t.data.toList with
 | some o => o
 | none => -1
theorem ba_eq {t : ByteArray} {l : List UInt8} : (⟨l.toArray⟩ : ByteArray) = t ↔ t.data.toList = l := by
 constructor
 ·intro h; subst h; simp
 ·intro h; subst h; simp
theorem ne_nil {t : ByteArray} (h : 0 < t.size) : ¬ (⟨#[]⟩ : ByteArray) = t := by
 intro e
 subst e
 exact absurd h (by decide)
theorem word_idx {t : ByteArray} (h : 0 < t.size) : Lib.idxOfS wdl t = wordI t := by
 have h0 := ne_nil h
 have e1 := ba_eq (t := t) (l := [110, 117, 108, 108])
 have e2 := ba_eq (t := t) (l := [102, 97, 108, 115, 101])
 have e3 := ba_eq (t := t) (l := [116, 114, 117, 101])
 unfold Lib.idxOfS wordI wordOp wdl
 simp only [Lib.idxFromS]
 rw [if_neg h0]
 by_cases h1 : t.data.toList = [110, 117, 108, 108]
 ·rw [if_pos (e1.2 h1), if_pos h1]; rfl
 ·rw [if_neg (fun e => h1 (e1.1 e)), if_neg h1]
  by_cases h2 : t.data.toList = [102, 97, 108, 115, 101]
  ·rw [if_pos (e2.2 h2), if_pos h2]; rfl
  ·rw [if_neg (fun e => h2 (e2.1 e)), if_neg h2]
   by_cases h3 : t.data.toList = [116, 114, 117, 101]
   ·rw [if_pos (e3.2 h3), if_pos h3]; rfl
   ·rw [if_neg (fun e => h3 (e3.1 e)), if_neg h3]
theorem call_idx {t : ByteArray} (h : 0 < t.size) : Lib.idxOfS cll t = callI t := by
 have h0 := ne_nil h
 have e1 := ba_eq (t := t) (l := [108, 101, 110])
 have e2 := ba_eq (t := t) (l := [115, 116, 114])
 have e3 := ba_eq (t := t) (l := [105, 56])
 have e4 := ba_eq (t := t) (l := [117, 56])
 have e5 := ba_eq (t := t) (l := [105, 49, 54])
 have e6 := ba_eq (t := t) (l := [117, 49, 54])
 have e7 := ba_eq (t := t) (l := [105, 51, 50])
 have e8 := ba_eq (t := t) (l := [117, 51, 50])
 unfold Lib.idxOfS callI callOf cll
 simp only [Lib.idxFromS]
 rw [if_neg h0]
 by_cases h1 : t.data.toList = [108, 101, 110]
 ·rw [if_pos (e1.2 h1), if_pos h1]; rfl
 ·rw [if_neg (fun e => h1 (e1.1 e)), if_neg h1]
  by_cases h2 : t.data.toList = [115, 116, 114]
  ·rw [if_pos (e2.2 h2), if_pos h2]; rfl
  ·rw [if_neg (fun e => h2 (e2.1 e)), if_neg h2]
   by_cases h3 : t.data.toList = [105, 56]
   ·rw [if_pos (e3.2 h3), if_pos h3]; rfl
   ·rw [if_neg (fun e => h3 (e3.1 e)), if_neg h3]
    by_cases h4 : t.data.toList = [117, 56]
    ·rw [if_pos (e4.2 h4), if_pos h4]; rfl
    ·rw [if_neg (fun e => h4 (e4.1 e)), if_neg h4]
     by_cases h5 : t.data.toList = [105, 49, 54]
     ·rw [if_pos (e5.2 h5), if_pos h5]; rfl
     ·rw [if_neg (fun e => h5 (e5.1 e)), if_neg h5]
      by_cases h6 : t.data.toList = [117, 49, 54]
      ·rw [if_pos (e6.2 h6), if_pos h6]; rfl
      ·rw [if_neg (fun e => h6 (e6.1 e)), if_neg h6]
       by_cases h7 : t.data.toList = [105, 51, 50]
       ·rw [if_pos (e7.2 h7), if_pos h7]; rfl
       ·rw [if_neg (fun e => h7 (e7.1 e)), if_neg h7]
        by_cases h8 : t.data.toList = [117, 51, 50]
        ·rw [if_pos (e8.2 h8), if_pos h8]; rfl
        ·rw [if_neg (fun e => h8 (e8.1 e)), if_neg h8]
theorem wordOp_rg {l : List UInt8} {o : Int} (h : wordOp l = some o) : 1 ≤ o ∧ o ≤ 3 := by
 unfold wordOp at h
 repeat' split at h
 all_goals first | (cases h; omega) | cases h
theorem callOf_rg {l : List UInt8} {o : Int} (h : callOf l = some o) : 1 ≤ o ∧ o ≤ 8 := by
 unfold callOf at h
 repeat' split at h
 all_goals first | (cases h; omega) | cases h
theorem index_w {t : ByteArray} (h : 0 < t.size) {w : World} {B : Nat} (hc : ∀ j, j < wdl.length → w.cell? ⟨B, 0 + j, none⟩ = some (.string (wdl.getD j ByteArray.empty))) :
  Calls Tryz.prog 31 #[.slice (some ⟨B, 0, none⟩) 4 4, .string t] w fun e w' => e = .returned (.int .i64 (wordI t)) ∧ w' = w := by
 have := Tryz.slices_Index_string B 0 4 4 wdl t w (by decide) (by omega) hc
 rw [show wdl.take 4 = wdl from rfl, word_idx h] at this
 exact this
theorem index_c {t : ByteArray} (h : 0 < t.size) {w : World} {B : Nat} (hc : ∀ j, j < cll.length → w.cell? ⟨B, 0 + j, none⟩ = some (.string (cll.getD j ByteArray.empty))) :
  Calls Tryz.prog 31 #[.slice (some ⟨B, 0, none⟩) 9 9, .string t] w fun e w' => e = .returned (.int .i64 (callI t)) ∧ w' = w := by
 have := Tryz.slices_Index_string B 0 9 9 cll t w (by decide) (by omega) hc
 rw [show cll.take 9 = cll from rfl, call_idx h] at this
 exact this
def ndk (c : Int) : A Ex → A Ex
 | .error e => .error e
 | .ok (x, g2) => .ok (.mk 9 c ⟨#[]⟩ [x], g2)
theorem named_word {w : World} {R : Nat} {s : ByteArray} {g : Sr} {n : Nat} {t : ByteArray} {o : Int} (h : Es w R s g.a g.r g.tk) (ho : SrOk s g) (ht0 : 0 < t.size) (hw : wordI t = o) (hor : 0 ≤ o ∧ o ≤ 3) :
  Calls Tryz.prog 168 #[ptr R, .string t, .int .i64 n] w fun e w' => PR w w' R s e (.ok (nd o [], g)) := by
 have hRlt := h.er.lt
 have G0 := Gx.start h ho
 obtain ⟨W0, hW0⟩ : ∃ W0, w.alloc (.cells #[.int .i64 0, .int .i64 0, .string ⟨#[]⟩, .slice none 0 0] 24) = W0 := ⟨_, rfl⟩
 rw [hW0] at G0
 unfold ptr nd
 have d0 : decide ((0 : Int) ≤ o) = true := decide_eq_true hor.1
 clear h
 go_enter Tryz.func168, Tryz.ntmps168
 go_wp2_with fail
 refine (words_c W0).mono ?_
 rintro e W1 ⟨rfl, b1, hc1⟩
 have G1 := G0.below hRlt b1
 have cI := index_w ht0 hc1
 rw [hw] at cI
 clear hW0 G0 b1 hc1
 go_wp2_with fail
 refine cI.mono ?_
 rintro e w1' ⟨rfl, hw1⟩
 subst hw1
 clear cI hw
 obtain ⟨c0, c1, c2, c3⟩ := four_box G1.box
 have f0 := XBase.frozen_box G1.box 0
 have f1 := XBase.frozen_box G1.box 1
 have f2 := XBase.frozen_box G1.box 2
 have f3 := XBase.frozen_box G1.box 3
 obtain ⟨W5, hW5⟩ : ∃ W5, ((((w1'.setCell ⟨w.heap.size, 0, none⟩ (.int .i64 (o))).setCell ⟨w.heap.size, 1, none⟩ (.int .i64 (0))).setCell ⟨w.heap.size, 2, none⟩ (.string ⟨#[]⟩)).setCell ⟨w.heap.size, 3, none⟩ (.slice none 0 0)) = W5 := ⟨_, rfl⟩
 obtain ⟨p1, p2⟩ := EKd.leaf G1 hRlt (o) (0) ⟨#[]⟩ (by omega) (by omega) (by first | omega | decide) hW5
 obtain ⟨y0, y1, y2, y3⟩ := four_box p1
 have HP2 : Hid (PR w W5 R s (.returned (.agg #[.int .i64 (o), .int .i64 (0), .string ⟨#[]⟩, .slice none 0 0])) (.ok (.mk (o) (0) ⟨#[]⟩ [], _))) := p2
 clear p1 p2 G1
 go_wp2_with fail
 refine bodyPost_ret (v := .agg #[.int .i64 (o), .int .i64 (0), .string ⟨#[]⟩, .slice none 0 0]) (by simp [results, Tryz.results168, go_sem, y0, y1, y2, y3]) rfl ?_
 exact HP2.out
theorem named_var {w : World} {R : Nat} {s : ByteArray} {g : Sr} {n : Nat} {t : ByteArray} (h : Es w R s g.a g.r g.tk) (ho : SrOk s g) (ht0 : 0 < t.size) (hts : t.size ≤ 4096) (hw : wordI t = -1) (hj : callI t = -1) :
  Calls Tryz.prog 168 #[ptr R, .string t, .int .i64 n] w fun e w' => PR w w' R s e (.ok (.mk 6 0 t [], g)) := by
 have hRlt := h.er.lt
 have G0 := Gx.start h ho
 obtain ⟨W0, hW0⟩ : ∃ W0, w.alloc (.cells #[.int .i64 0, .int .i64 0, .string ⟨#[]⟩, .slice none 0 0] 24) = W0 := ⟨_, rfl⟩
 rw [hW0] at G0
 unfold ptr
 clear h
 go_enter Tryz.func168, Tryz.ntmps168
 go_wp2_with fail
 refine (words_c W0).mono ?_
 rintro e W1 ⟨rfl, b1, hc1⟩
 have G1 := G0.below hRlt b1
 have cI := index_w ht0 hc1
 rw [hw] at cI
 clear hW0 G0 b1 hc1
 go_wp2_with fail
 refine cI.mono ?_
 rintro e w1' ⟨rfl, hw1⟩
 subst hw1
 clear cI hw
 go_wp2_with fail
 refine (calls_c w1').mono ?_
 rintro e W2 ⟨rfl, b2, hc2⟩
 have G2 := G1.below hRlt b2
 have cJ := index_c ht0 hc2
 rw [hj] at cJ
 clear G1 b2 hc2
 go_wp2_with fail
 refine cJ.mono ?_
 rintro e w2' ⟨rfl, hw2⟩
 subst hw2
 clear cJ hj
 obtain ⟨c0, c1, c2, c3⟩ := four_box G2.box
 have f0 := XBase.frozen_box G2.box 0
 have f1 := XBase.frozen_box G2.box 1
 have f2 := XBase.frozen_box G2.box 2
 have f3 := XBase.frozen_box G2.box 3
 obtain ⟨W5, hW5⟩ : ∃ W5, ((((w2'.setCell ⟨w.heap.size, 0, none⟩ (.int .i64 (6))).setCell ⟨w.heap.size, 1, none⟩ (.int .i64 (0))).setCell ⟨w.heap.size, 2, none⟩ (.string t)).setCell ⟨w.heap.size, 3, none⟩ (.slice none 0 0)) = W5 := ⟨_, rfl⟩
 obtain ⟨p1, p2⟩ := EKd.leaf G2 hRlt (6) (0) t (by omega) (by omega) (by first | omega | decide) hW5
 obtain ⟨y0, y1, y2, y3⟩ := four_box p1
 have HP2 : Hid (PR w W5 R s (.returned (.agg #[.int .i64 (6), .int .i64 (0), .string t, .slice none 0 0])) (.ok (.mk (6) (0) t [], _))) := p2
 clear p1 p2 G2
 go_wp2_with fail
 refine bodyPost_ret (v := .agg #[.int .i64 (6), .int .i64 (0), .string t, .slice none 0 0]) (by simp [results, Tryz.results168, go_sem, y0, y1, y2, y3]) rfl ?_
 exact HP2.out
theorem named_var2 {w : World} {R : Nat} {s : ByteArray} {g : Sr} {n : Nat} {t : ByteArray} {c : Int} (h : Es w R s g.a g.r g.tk) (ho : SrOk s g) (ht0 : 0 < t.size) (hts : t.size ≤ 4096) (hw : wordI t = -1) (hj : callI t = c) (hc : 0 ≤ c ∧ c ≤ 8) (hb : is g.tk [40] = false) :
  Calls Tryz.prog 168 #[ptr R, .string t, .int .i64 n] w fun e w' => PR w w' R s e (.ok (.mk 6 0 t [], g)) := by
 have hRlt := h.er.lt
 have G0 := Gx.start h ho
 obtain ⟨W0, hW0⟩ : ∃ W0, w.alloc (.cells #[.int .i64 0, .int .i64 0, .string ⟨#[]⟩, .slice none 0 0] 24) = W0 := ⟨_, rfl⟩
 rw [hW0] at G0
 unfold ptr
 have d0 : decide ((0 : Int) ≤ c) = true := decide_eq_true hc.1
 clear h
 go_enter Tryz.func168, Tryz.ntmps168
 go_wp2_with fail
 refine (words_c W0).mono ?_
 rintro e W1 ⟨rfl, b1, hc1⟩
 have G1 := G0.below hRlt b1
 have cI := index_w ht0 hc1
 rw [hw] at cI
 clear hW0 G0 b1 hc1
 go_wp2_with fail
 refine cI.mono ?_
 rintro e w1' ⟨rfl, hw1⟩
 subst hw1
 clear cI hw
 go_wp2_with fail
 refine (calls_c w1').mono ?_
 rintro e W2 ⟨rfl, b2, hc2⟩
 have G2 := G1.below hRlt b2
 have cJ := index_c ht0 hc2
 rw [hj] at cJ
 clear G1 b2 hc2
 go_wp2_with fail
 refine cJ.mono ?_
 rintro e w2' ⟨rfl, hw2⟩
 subst hw2
 clear cJ hj
 obtain ⟨k3, k4, k5, k6⟩ := Es.cells G2.es
 have cK := is_b hb w2'
 go_wp2_with fail
 refine cK.mono ?_
 rintro e W3 ⟨rfl, b3⟩
 have G3 := G2.below hRlt b3
 clear G2 b3 cK k3 k4 k5 k6
 obtain ⟨c0, c1, c2, c3⟩ := four_box G3.box
 have f0 := XBase.frozen_box G3.box 0
 have f1 := XBase.frozen_box G3.box 1
 have f2 := XBase.frozen_box G3.box 2
 have f3 := XBase.frozen_box G3.box 3
 obtain ⟨W5, hW5⟩ : ∃ W5, ((((W3.setCell ⟨w.heap.size, 0, none⟩ (.int .i64 (6))).setCell ⟨w.heap.size, 1, none⟩ (.int .i64 (0))).setCell ⟨w.heap.size, 2, none⟩ (.string t)).setCell ⟨w.heap.size, 3, none⟩ (.slice none 0 0)) = W5 := ⟨_, rfl⟩
 obtain ⟨p1, p2⟩ := EKd.leaf G3 hRlt (6) (0) t (by omega) (by omega) (by first | omega | decide) hW5
 obtain ⟨y0, y1, y2, y3⟩ := four_box p1
 have HP2 : Hid (PR w W5 R s (.returned (.agg #[.int .i64 (6), .int .i64 (0), .string t, .slice none 0 0])) (.ok (.mk (6) (0) t [], _))) := p2
 clear p1 p2 G3
 go_wp2_with fail
 refine bodyPost_ret (v := .agg #[.int .i64 (6), .int .i64 (0), .string t, .slice none 0 0]) (by simp [results, Tryz.results168, go_sem, y0, y1, y2, y3]) rfl ?_
 exact HP2.out
theorem named_call {w : World} {R : Nat} {s : ByteArray} {g : Sr} {n : Nat} {C : P} {t : ByteArray} {c : Int} (hn : n ≤ 100) (hC : ChI s (n + 1) C) (hD : Dn s C) (h : Es w R s g.a g.r g.tk) (ho : SrOk s g) (ht0 : 0 < t.size) (hw : wordI t = -1) (hj : callI t = c) (hc : 0 ≤ c ∧ c ≤ 8) (hb : is g.tk [40] = true) {Y : A Ex} (hY : btw s C [40] [41] g = Y) :
  Calls Tryz.prog 168 #[ptr R, .string t, .int .i64 n] w fun e w' => PR w w' R s e (ndk c Y) := by
 have hRlt := h.er.lt
 have G0 := Gx.start h ho
 obtain ⟨W0, hW0⟩ : ∃ W0, w.alloc (.cells #[.int .i64 0, .int .i64 0, .string ⟨#[]⟩, .slice none 0 0] 24) = W0 := ⟨_, rfl⟩
 rw [hW0] at G0
 obtain ⟨U, hU⟩ : ∃ U, ndk c Y = U := ⟨_, rfl⟩
 rw [hU]
 have HU : Hid (ndk c Y = U) := hU
 have HY : Hid (btw s C [40] [41] g = Y) := hY
 unfold ptr
 have d0 : decide ((0 : Int) ≤ c) = true := decide_eq_true hc.1
 clear h hU hY
 go_enter Tryz.func168, Tryz.ntmps168
 go_wp2_with fail
 refine (words_c W0).mono ?_
 rintro e W1 ⟨rfl, b1, hc1⟩
 have G1 := G0.below hRlt b1
 have cI := index_w ht0 hc1
 rw [hw] at cI
 clear hW0 G0 b1 hc1
 go_wp2_with fail
 refine cI.mono ?_
 rintro e w1' ⟨rfl, hw1⟩
 subst hw1
 clear cI hw
 go_wp2_with fail
 refine (calls_c w1').mono ?_
 rintro e W2 ⟨rfl, b2, hc2⟩
 have G2 := G1.below hRlt b2
 have cJ := index_c ht0 hc2
 rw [hj] at cJ
 clear G1 b2 hc2
 go_wp2_with fail
 refine cJ.mono ?_
 rintro e w2' ⟨rfl, hw2⟩
 subst hw2
 clear cJ hj
 obtain ⟨k3, k4, k5, k6⟩ := Es.cells G2.es
 have cK := is_b hb w2'
 go_wp2_with fail
 refine cK.mono ?_
 rintro e W3 ⟨rfl, b3⟩
 have G3 := G2.below hRlt b3
 clear G2 b3 cK k3 k4 k5 k6
 have cB := between_c hn hC hD G3.es G3.ok [40] [41]
 rw [HY.out] at cB
 unfold ptr at cB
 go_wp2_with fail
 refine cB.mono ?_
 intro e W4 hB
 clear cB
 cases Y with
 | error f =>
  obtain ⟨K4, rfl⟩ := hB
  have hU : Except.error f = U := HU.out
  subst hU
  exact ⟨rfl, G3.kr.trans K4, rfl⟩
 | ok p =>
  obtain ⟨x, g2⟩ := p
  obtain ⟨K4, ⟨m, a, cp, rfl, hin⟩, E4⟩ := hB
  have hU : Except.ok (.mk 9 c ⟨#[]⟩ [x], g2) = U := HU.out
  subst hU
  have G4 := G3.step hRlt K4 E4 (btw_dn hD _ _ _ _ _ G3.ok HY.out).1
  have hl3 := G3.lt
  obtain ⟨W6, hW6⟩ : ∃ W6, W4.alloc (.cells #[.int .i64 x.o, .int .i64 x.i, .string x.s, .slice a x.l.length cp] 24) = W6 := ⟨_, rfl⟩
  have b6 : Below W4.heap.size W4 W6 := by rw [← hW6]; exact (Below.refl _ W4).alloc (Nat.le_refl _) _
  have q6 : W6.heap[W4.heap.size]? = some (.cells #[.int .i64 x.o, .int .i64 x.i, .string x.s, .slice a x.l.length cp] 24 (0, 0)) := by rw [← hW6]; exact heap_alloc_new W4 _
  have s6 : W6.heap.size = W4.heap.size + 1 := by rw [← hW6]; simp
  have G6 := G4.below hRlt b6
  have hk4 := K4.below.size
  have hin6 : XBase.In false (XBase.Rg W3.heap.size W6.heap.size) W6 (m + 1) (.agg #[.int .i64 9, .int .i64 c, .string ⟨#[]⟩, .slice (some ⟨W4.heap.size, 0, none⟩) 1 1]) (.mk 9 c ⟨#[]⟩ [x]) :=
   EKd.in_one (lo := 0) (hi := 0) q6 ⟨by omega, by omega⟩ (in_rg (hin.below b6) (Nat.le_refl _) (by omega)) 9 c ⟨#[]⟩ (by omega) (by omega) (by decide)
  obtain ⟨c0, c1, c2, c3⟩ := four_box G6.box
  have f0 := XBase.frozen_box G6.box 0
  have f1 := XBase.frozen_box G6.box 1
  have f2 := XBase.frozen_box G6.box 2
  have f3 := XBase.frozen_box G6.box 3
  obtain ⟨W7, hW7⟩ : ∃ W7, ((((W6.setCell ⟨w.heap.size, 0, none⟩ (.int .i64 9)).setCell ⟨w.heap.size, 1, none⟩ (.int .i64 c)).setCell ⟨w.heap.size, 2, none⟩ (.string ⟨#[]⟩)).setCell ⟨w.heap.size, 3, none⟩ (.slice (some ⟨W4.heap.size, 0, none⟩) 1 1)) = W7 := ⟨_, rfl⟩
  obtain ⟨p1, p2⟩ := EKd.made (l := [x]) G6 hRlt hin6 hl3 hW7
  obtain ⟨y0, y1, y2, y3⟩ := four_box p1
  have HP2 : Hid (PR w W7 R s (.returned (.agg #[.int .i64 9, .int .i64 c, .string ⟨#[]⟩, .slice (some ⟨W4.heap.size, 0, none⟩) 1 1])) (.ok (.mk 9 c ⟨#[]⟩ [x], g2))) := p2
  clear p1 p2 G6 G4 G3 hin hin6 q6 b6 K4 E4 s6 hk4 hl3
  go_wp2_with fail
  refine bodyPost_ret (v := .agg #[.int .i64 9, .int .i64 c, .string ⟨#[]⟩, .slice (some ⟨W4.heap.size, 0, none⟩) 1 1]) (by simp [results, Tryz.results168, go_sem, y0, y1, y2, y3]) rfl ?_
  exact HP2.out
theorem named_c {w : World} {R : Nat} {s : ByteArray} {g : Sr} {n : Nat} {C : P} {t : ByteArray} (hn : n ≤ 100) (hC : ChI s (n + 1) C) (hD : Dn s C) (h : Es w R s g.a g.r g.tk) (ho : SrOk s g) (ht0 : 0 < t.size) (hts : t.size ≤ 4096) :
  Calls Tryz.prog 168 #[ptr R, .string t, .int .i64 n] w fun e w' => PR w w' R s e (nmd s C t g) := by
 unfold nmd
 cases hw : wordOp t.data.toList with
 | some o =>
  have := wordOp_rg hw
  exact named_word h ho ht0 (by unfold wordI; rw [hw]) (by omega)
 | none =>
  have hwi : wordI t = -1 := by unfold wordI; rw [hw]
  dsimp only
  cases hc : callOf t.data.toList with
  | none => exact named_var h ho ht0 hts hwi (by unfold callI; rw [hc])
  | some c =>
   have hci : callI t = c := by unfold callI; rw [hc]
   have := callOf_rg hc
   dsimp only
   cases hb : is g.tk [40] with
   | false =>
    rw [if_neg (by simp)]
    exact named_var2 h ho ht0 hts hwi hci (by omega) hb
   | true =>
    rw [if_pos rfl]
    refine (named_call hn hC hD h ho ht0 hwi hci (by omega) hb rfl).mono ?_
    intro e w'
    generalize btw s C [40] [41] g = Y
    cases Y with
    | error f => exact id
    | ok p => exact id
end Go.Proofs.YtghnhkagkngjcaaGreatDoor.ENd

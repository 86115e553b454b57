/- Static elements: nodes and node of statics (package core). -/
import Derived.Test.YtofjedecjlodmaaGreatKSh
import Derived.Test.YtofjedecjlodmaaGreatKCo
import Derived.Laws.OwnMore
import Derived.Maps.AppendAt
namespace Go.Proofs.YtofjedecjlodmaaGreat.KCf
open Go.RowKit Go.Proofs.YtofjedecjlodmaaGreat.Base Go.Proofs.YtofjedecjlodmaaGreat.EPure Go.Proofs.YtofjedecjlodmaaGreat.KBase
set_option linter.unusedVariables false

theorem oneP_c (p : ByteArray) (b : Bool) (x : Ex) (ea : Option Addr) (ec : Nat) (w : World) :
    Calls Tryz.prog 63 #[.agg #[.string p, .bool b, .int .i64 x.o, .int .i64 x.i, .string x.s, .slice ea x.l.length ec]] w fun e w' => e = .returned (.bool b) ∧ Below w.heap.size w w' := by
  have b0 : Below w.heap.size w (w.alloc (.cells #[.string p, .bool b, .int .i64 x.o, .int .i64 x.i, .string x.s, .slice ea x.l.length ec] 60)) := (Below.refl _ w).alloc (Nat.le_refl _) _
  go_enter Tryz.func63, Tryz.ntmps63
  go_wp2_with fail
  go_ret
  exact ⟨rfl, b0⟩
theorem anyP_cons (l : List Pt) (q : Nat) (h : q < l.length) : (l.drop q).any Pt.b = (l[q].b || (l.drop (q + 1)).any Pt.b) := by
  rw [List.drop_eq_getElem_cons h, List.any_cons]
set_option maxRecDepth 20000 in
set_option maxHeartbeats 1600000 in
theorem indexP_c {w : World} {v : Value} {l : List Pt} {S : Nat → Prop} {r : Bool} (hin : RP r S w v l) :
    Calls Tryz.prog 86 #[v, .func (.func 63) #[] #[]] w fun e w' => ∃ z : Int, e = .returned (.int .i64 z) ∧ decide (0 ≤ z) = l.any Pt.b ∧ Below w.heap.size w w' := by
  obtain ⟨a, cap, rfl, hlc, hcm, hlen, hnil, hL⟩ := hin
  have HL : Hid (RwAt 6 Pt6 rmP r S w (InP r S w) a cap l) := hL
  obtain ⟨T, hT⟩ : ∃ T, l.any Pt.b = T := ⟨_, rfl⟩
  have HT : Hid ((l.drop 0).any Pt.b = T) := hT
  rw [hT]
  clear hT hL
  go_enter Tryz.func86, Tryz.ntmps86
  go_wp2_with fail
  go_loopw [8] (fun i wr => ∃ q : Nat, q ≤ l.length ∧ i = .int .i64 q ∧ (l.drop q).any Pt.b = T ∧ Below w.heap.size w wr) (fun i _ => l.length - (intOf i).toNat)
  case atStart => exact ⟨0, by omega, rfl, HT.out, Below.refl _ _⟩
  case round =>
    clear HT
    obtain ⟨q, hq, rfl, hM, hb⟩ := hrel
    have Hb : Hid (Below w.heap.size w wr) := hb
    by_cases hlt : q < l.length
    · have d0 : decide ((q : Int) < (l.length : Int)) = true := by simp; omega
      obtain ⟨g, o, u, ha, hSg, hu, hi⟩ := HL.out.elem hlt
      subst ha
      obtain ⟨v0, v1, e0, e1, e2, e3, rfl, k0, k1, k2, k3, k4, k5⟩ := hu
      obtain ⟨ea, ec, rfl, rfl, rfl, rfl, rfl, rfl, -, -⟩ := hi.six
      have k0 := below_cell k0 hb; have k1 := below_cell k1 hb; have k2 := below_cell k2 hb; have k3 := below_cell k3 hb; have k4 := below_cell k4 hb; have k5 := below_cell k5 hb
      rw [anyP_cons l q hlt] at hM
      obtain ⟨y, hy⟩ : ∃ y, l[q] = y := ⟨_, rfl⟩
      rw [hy] at k0 k1 k2 k3 k4 k5 hM
      have cO := oneP_c y.p y.b y.e ea ec wr
      obtain ⟨b, hb'⟩ : ∃ b, y.b = b := ⟨_, rfl⟩
      rw [hb'] at k1 cO hM
      have HM : Hid ((b || (l.drop (q + 1)).any Pt.b) = T) := hM
      clear hi hy hb' hM hb
      go_wp2_with fail
      refine cO.mono ?_
      rintro e W1 ⟨rfl, b1⟩
      have HB1 : Hid (Below w.heap.size w W1) := nx Hb.out b1
      clear cO b1 k0 k1 k2 k3 k4 k5
      cases b with
      | true =>
        have hT : true = T := by have := HM.out; rw [Bool.true_or] at this; exact this
        subst hT
        go_wp2_with fail
        go_ret
        exact ⟨_, rfl, by simp, HB1.out⟩
      | false =>
        go_wp2_with fail
        go_roundw
        case rel => exact ⟨q + 1, by omega, by go_num, by have := HM.out; rw [Bool.false_or] at this; exact this, HB1.out⟩
        case measure => simp only [intOf]; omega
    · have d0 : decide ((q : Int) < (l.length : Int)) = false := by simp; omega
      have hT : false = T := by
        rw [List.drop_eq_nil_of_le (by omega)] at hM
        exact hM
      subst hT
      clear hM
      go_wp2_with fail
      go_ret
      exact ⟨_, rfl, by simp, Hb.out⟩
theorem anyP_c {w : World} {v : Value} {l : List Pt} {S : Nat → Prop} {r : Bool} (hin : RP r S w v l) :
    Calls Tryz.prog 62 #[v, .func (.func 63) #[] #[]] w fun e w' => e = .returned (.bool (l.any Pt.b)) ∧ Below w.heap.size w w' := by
  have cI := indexP_c hin
  obtain ⟨a, cap, rfl, -⟩ := hin
  obtain ⟨T, hT⟩ : ∃ T, l.any Pt.b = T := ⟨_, rfl⟩
  rw [hT] at cI ⊢
  clear hT
  go_enter Tryz.func62, Tryz.ntmps62
  go_wp2_with fail
  refine cI.mono ?_
  rintro e W1 ⟨z, rfl, hz, b1⟩
  go_wp2_with fail
  go_ret
  exact ⟨by first | rfl | exact SFit.ret_bool rfl, b1⟩
theorem oneF_c (n p : ByteArray) (b : Bool) (x : Ex) (ea : Option Addr) (ec : Nat) (at' : Int) (w : World) :
    Calls Tryz.prog 65 #[.agg #[.string n, .string p, .bool b, .int .i64 x.o, .int .i64 x.i, .string x.s, .slice ea x.l.length ec, .int .i64 at']] w fun e w' => e = .returned (.bool b) ∧ Below w.heap.size w w' := by
  have b0 : Below w.heap.size w (w.alloc (.cells #[.string n, .string p, .bool b, .int .i64 x.o, .int .i64 x.i, .string x.s, .slice ea x.l.length ec, .int .i64 at'] 79)) := (Below.refl _ w).alloc (Nat.le_refl _) _
  go_enter Tryz.func65, Tryz.ntmps65
  go_wp2_with fail
  go_ret
  exact ⟨rfl, b0⟩
theorem anyF_cons (l : List Fld) (q : Nat) (h : q < l.length) : (l.drop q).any Fld.b = (l[q].b || (l.drop (q + 1)).any Fld.b) := by
  rw [List.drop_eq_getElem_cons h, List.any_cons]
set_option maxRecDepth 20000 in
set_option maxHeartbeats 1600000 in
theorem indexF_c {w : World} {v : Value} {l : List Fld} {S : Nat → Prop} {r : Bool} (hin : RF r S w v l) :
    Calls Tryz.prog 87 #[v, .func (.func 65) #[] #[]] w fun e w' => ∃ z : Int, e = .returned (.int .i64 z) ∧ decide (0 ≤ z) = l.any Fld.b ∧ Below w.heap.size w w' := by
  obtain ⟨a, cap, rfl, hlc, hcm, hlen, hnil, hL⟩ := hin
  have HL : Hid (RwAt 8 Fd8 rmF r S w (InF r S w) a cap l) := hL
  obtain ⟨T, hT⟩ : ∃ T, l.any Fld.b = T := ⟨_, rfl⟩
  have HT : Hid ((l.drop 0).any Fld.b = T) := hT
  rw [hT]
  clear hT hL
  go_enter Tryz.func87, Tryz.ntmps87
  go_wp2_with fail
  go_loopw [8] (fun i wr => ∃ q : Nat, q ≤ l.length ∧ i = .int .i64 q ∧ (l.drop q).any Fld.b = T ∧ Below w.heap.size w wr) (fun i _ => l.length - (intOf i).toNat)
  case atStart => exact ⟨0, by omega, rfl, HT.out, Below.refl _ _⟩
  case round =>
    clear HT
    obtain ⟨q, hq, rfl, hM, hb⟩ := hrel
    have Hb : Hid (Below w.heap.size w wr) := hb
    by_cases hlt : q < l.length
    · have d0 : decide ((q : Int) < (l.length : Int)) = true := by simp; omega
      obtain ⟨g, o, u, ha, hSg, hu, hi⟩ := HL.out.elem hlt
      subst ha
      obtain ⟨v0, v1, v2, e0, e1, e2, e3, v7, rfl, k0, k1, k2, k3, k4, k5, k6, k7⟩ := hu
      obtain ⟨ea, ec, rfl, rfl, rfl, rfl, rfl, rfl, rfl, rfl, -, -, -, -⟩ := hi.eight
      have k0 := below_cell k0 hb; have k1 := below_cell k1 hb; have k2 := below_cell k2 hb; have k3 := below_cell k3 hb; have k4 := below_cell k4 hb; have k5 := below_cell k5 hb; have k6 := below_cell k6 hb; have k7 := below_cell k7 hb
      rw [anyF_cons l q hlt] at hM
      obtain ⟨y, hy⟩ : ∃ y, l[q] = y := ⟨_, rfl⟩
      rw [hy] at k0 k1 k2 k3 k4 k5 k6 k7 hM
      have cO := oneF_c y.n y.p y.b y.e ea ec y.a wr
      obtain ⟨b, hb'⟩ : ∃ b, y.b = b := ⟨_, rfl⟩
      rw [hb'] at k2 cO hM
      have HM : Hid ((b || (l.drop (q + 1)).any Fld.b) = T) := hM
      clear hi hy hb' hM hb
      go_wp2_with fail
      refine cO.mono ?_
      rintro e W1 ⟨rfl, b1⟩
      have HB1 : Hid (Below w.heap.size w W1) := nx Hb.out b1
      clear cO b1 k0 k1 k2 k3 k4 k5 k6 k7
      cases b with
      | true =>
        have hT : true = T := by have := HM.out; rw [Bool.true_or] at this; exact this
        subst hT
        go_wp2_with fail
        go_ret
        exact ⟨_, rfl, by simp, HB1.out⟩
      | false =>
        go_wp2_with fail
        go_roundw
        case rel => exact ⟨q + 1, by omega, by go_num, by have := HM.out; rw [Bool.false_or] at this; exact this, HB1.out⟩
        case measure => simp only [intOf]; omega
    · have d0 : decide ((q : Int) < (l.length : Int)) = false := by simp; omega
      have hT : false = T := by
        rw [List.drop_eq_nil_of_le (by omega)] at hM
        exact hM
      subst hT
      clear hM
      go_wp2_with fail
      go_ret
      exact ⟨_, rfl, by simp, Hb.out⟩
theorem anyF_c {w : World} {v : Value} {l : List Fld} {S : Nat → Prop} {r : Bool} (hin : RF r S w v l) :
    Calls Tryz.prog 64 #[v, .func (.func 65) #[] #[]] w fun e w' => e = .returned (.bool (l.any Fld.b)) ∧ Below w.heap.size w w' := by
  have cI := indexF_c hin
  obtain ⟨a, cap, rfl, -⟩ := hin
  obtain ⟨T, hT⟩ : ∃ T, l.any Fld.b = T := ⟨_, rfl⟩
  rw [hT] at cI ⊢
  clear hT
  go_enter Tryz.func64, Tryz.ntmps64
  go_wp2_with fail
  refine cI.mono ?_
  rintro e W1 ⟨z, rfl, hz, b1⟩
  go_wp2_with fail
  go_ret
  exact ⟨by first | rfl | exact SFit.ret_bool rfl, b1⟩
end Go.Proofs.YtofjedecjlodmaaGreat.KCf

namespace Go.Proofs.YtofjedecjlodmaaGreat.KSt
open Go.RowKit Go.Proofs.YtofjedecjlodmaaGreat.Base Go.Proofs.YtofjedecjlodmaaGreat.EPure Go.Proofs.YtofjedecjlodmaaGreat.KBase Go.Proofs.YtofjedecjlodmaaGreat.KAr Go.Proofs.YtofjedecjlodmaaGreat.KEx Go.Proofs.YtofjedecjlodmaaGreat.KLe Go.Proofs.YtofjedecjlodmaaGreat.KNp Go.Proofs.YtofjedecjlodmaaGreat.KNd Go.Proofs.YtofjedecjlodmaaGreat.KVp
open Go.Proofs.YtofjedecjlodmaaGreat.XBase (frozen_box two_box)
set_option linter.unusedVariables false

theorem infoI : (Tryz.prog.info? 3).map (fun i => (i.zero, i.size, i.bytes)) = some (some (.int .i64 0), 1, 8) := by kernel_rfl
/-- A row of integers of one's own. -/
def Oi (w : World) (B : Nat) (v : Value) (L : List Int) : Prop := w.ownsRow B 3 1 v L.length (L.map (Value.int .i64))
theorem Oi.shape {w : World} {B : Nat} {v : Value} {L : List Int} (h : Oi w B v L) : ∃ a cap, v = .slice a L.length cap ∧ L.length ≤ cap ∧ (cap : Int) ≤ 9223372036854775807 := by
  rcases h.2 with ⟨rfl, e⟩ | ⟨g, cap, cur, rfl, -, -, h3, h4, -⟩
  · exact ⟨none, 0, by rw [e], by omega, by omega⟩
  · exact ⟨_, _, rfl, h3, by unfold maxLen at h4; omega⟩
theorem Oi.same {w w' : World} {B : Nat} {v : Value} {L : List Int} (h : Oi w B v L) (hs : ∀ g, v.ownBlock = some g → w'.heap[g]? = w.heap[g]?) : Oi w' B v L := by
  refine ⟨h.1, ?_⟩
  rcases h.2 with h2 | ⟨g, cap, cur, h1, h2, h3, h4⟩
  · exact .inl h2
  · exact .inr ⟨g, cap, cur, h1, h2, (hs g (by rw [h1]; rfl)).trans h3, h4⟩
theorem Oi.lt {w : World} {B : Nat} {v : Value} {L : List Int} (h : Oi w B v L) {g : Nat} (hg : v.ownBlock = some g) : B ≤ g ∧ g < w.heap.size := World.ownsRow.lt h g hg
theorem Oi.below {w w' : World} {B : Nat} {v : Value} {L : List Int} (h : Oi w B v L) (hb : Below w.heap.size w w') : Oi w' B v L := h.same (fun g hg => hb.block g (h.lt hg).2)
/-- A front part of it. -/
theorem Oi.take {w : World} {B n cap : Nat} {a : Option Addr} {L : List Int} (h : Oi w B (.slice a n cap) L) {q : Nat} (hq : q ≤ L.length) : Oi w B (.slice a q cap) (L.take q) := by
  have hl : (L.take q).length = q := by simp; omega
  refine ⟨by simp, ?_⟩
  rcases h.2 with ⟨e, e0⟩ | ⟨g, cp, cur, e, h2, h3, h4, h5, h6, h7⟩
  · cases e
    exact .inl ⟨by rw [show q = 0 by omega], by omega⟩
  · cases e
    refine .inr ⟨g, cap, cur, by rw [hl], h2, h3, by omega, h5, h6, ?_⟩
    rw [hl, List.map_take, ← h7, List.take_take]
    congr 1
    omega
/-- Only the box R and a row of one's own have changed. -/
structure Kg (R : Nat) (o : Option Nat) (w w' : World) : Prop where
  below : Below R w w'
  other : ∀ k, k ≠ R → some k ≠ o → k < w.heap.size → w'.heap[k]? = w.heap[k]?
def Fresh (w : World) (v u : Value) : Prop := u.ownBlock = v.ownBlock ∨ ∃ b, u.ownBlock = some b ∧ w.heap.size ≤ b
theorem Kg.refl (R : Nat) (o : Option Nat) (w : World) : Kg R o w w := ⟨Below.refl _ _, fun _ _ _ _ => rfl⟩
theorem Kg.of_below {R : Nat} {o : Option Nat} {w w' : World} (h : Below w.heap.size w w') (hR : R < w.heap.size) : Kg R o w w' := ⟨h.mono (Nat.le_of_lt hR), fun k _ _ hk => h.block k hk⟩
theorem Kg.trans {R : Nat} {w w1 w2 : World} {v u : Value} (h : Kg R v.ownBlock w w1) (hf : Fresh w v u) (k : Kg R u.ownBlock w1 w2) : Kg R v.ownBlock w w2 :=
  ⟨h.below.trans k.below, fun b hb hne hl => (k.other b hb (fun e => by
    rcases hf with hf | ⟨x, hf, hx⟩
    · exact hne (e.trans hf)
    · rw [hf] at e
      have := Option.some.inj e
      omega) (Nat.lt_of_lt_of_le hl h.below.size)).trans (h.other b hb hne hl)⟩
theorem Fresh.trans {w w1 : World} {v u x : Value} (h : Fresh w v u) (hs : w.heap.size ≤ w1.heap.size) (h2 : Fresh w1 u x) : Fresh w v x := by
  rcases h2 with h2 | ⟨b, h2, hb⟩
  · rcases h with h | ⟨b, h, hb⟩
    · exact .inl (h2.trans h)
    · exact .inr ⟨b, h2.trans h, hb⟩
  · exact .inr ⟨b, h2, by omega⟩
theorem own_len (a : Option Addr) (n c n' c' : Nat) : (Value.slice a n c).ownBlock = (Value.slice a n' c').ownBlock := by cases a <;> rfl
/-- The box of statics: how many nodes so far, which were found. -/
structure St (W : World) (R : Nat) (k : Nat) (fv : Value) (F : List Int) : Prop where
  box : W.heap[R]? = some (.cells #[.int .i64 k, fv] 50 (0, 0))
  row : Oi W (R + 1) fv F
theorem St.below {W W' : World} {R k : Nat} {fv : Value} {F : List Int} (h : St W R k fv F) (hb : Below W.heap.size W W') : St W' R k fv F :=
  ⟨(hb.block R (Array.getElem?_eq_some_iff.1 h.box).1).trans h.box, h.row.below hb⟩
theorem St.ne {W : World} {R k : Nat} {fv : Value} {F : List Int} (h : St W R k fv F) : fv.ownBlock ≠ some R := fun e => by have := (h.row.lt e).1; omega
/-- The static ones among nodes, the first having number k: may all of them lie in a static element? which are found? -/
def one (c : Co) (k : Nat) (inner : Bool) (F : List Int) : Bool × List Int :=
  if c.k = 1 then (!(c.p.any Pt.b), F)
  else if c.k = 2 ∧ inner = true ∧ c.f.any Fld.b = false then (true, [(k : Int)])
  else (false, F)
def stL : List Co → Nat → Bool × List Int
  | [], _ => (true, [])
  | .mk k t f p x l u :: cs, n =>
    ((one (.mk k t f p x l u) n (stL l (n + 1)).1 ((stL l (n + 1)).2 ++ (stL u (n + 1 + szL l)).2)).1 && (stL cs (n + (1 + szL l + szL u))).1,
     (one (.mk k t f p x l u) n (stL l (n + 1)).1 ((stL l (n + 1)).2 ++ (stL u (n + 1 + szL l)).2)).2 ++ (stL cs (n + (1 + szL l + szL u))).2)
theorem stL_nil (n : Nat) : stL [] n = (true, []) := by rw [stL]
/-- Of one node. -/
def st1 (c : Co) (n : Nat) : Bool × List Int := one c n (stL c.l (n + 1)).1 ((stL c.l (n + 1)).2 ++ (stL c.u (n + 1 + szL c.l)).2)
def s1 (c : Co) : Nat := 1 + szL c.l + szL c.u
theorem stL_cons (c : Co) (t : List Co) (n : Nat) : stL (c :: t) n = ((st1 c n).1 && (stL t (n + s1 c)).1, (st1 c n).2 ++ (stL t (n + s1 c)).2) := by
  obtain ⟨k, tg, f, p, x, l, u⟩ := c
  rw [stL]
  rfl
theorem one_len (c : Co) (k : Nat) (inner : Bool) (F : List Int) (n : Nat) (h : F.length ≤ n) : (one c k inner F).2.length ≤ 1 + n := by
  unfold one
  split
  · dsimp only; omega
  · split
    · simp
    · dsimp only; omega
theorem stL_len : ∀ (m : Nat) (cs : List Co) (n : Nat), SizeOf.sizeOf cs ≤ m → (stL cs n).2.length ≤ szL cs := by
  intro m
  induction m with
  | zero =>
    intro cs n h
    cases cs with
    | nil => rw [stL_nil, szL_nil]; simp
    | cons c t => exact absurd h (by simp)
  | succ m ih =>
    intro cs n h
    cases cs with
    | nil => rw [stL_nil, szL_nil]; simp
    | cons c t =>
      rw [stL_cons, szL_cons]
      dsimp only
      obtain ⟨k, tg, f, p, x, l, u⟩ := c
      have e1 : (Co.mk k tg f p x l u).l = l := rfl
      have e2 : (Co.mk k tg f p x l u).u = u := rfl
      have i1 := ih l (n + 1) (by simp at h; omega)
      have i2 := ih u (n + 1 + szL l) (by simp at h; omega)
      have i3 := ih t (n + s1 (.mk k tg f p x l u)) (by simp at h; omega)
      have j : (st1 (.mk k tg f p x l u) n).2.length ≤ 1 + (szL l + szL u) := one_len _ _ _ _ _ (by rw [List.length_append, e1, e2]; omega)
      rw [List.length_append, e1, e2]
      omega
theorem st1_len (c : Co) (n : Nat) : (st1 c n).2.length ≤ s1 c := by
  have i1 := stL_len _ c.l (n + 1) (Nat.le_refl _)
  have i2 := stL_len _ c.u (n + 1 + szL c.l) (Nat.le_refl _)
  have := one_len c n (stL c.l (n + 1)).1 ((stL c.l (n + 1)).2 ++ (stL c.u (n + 1 + szL c.l)).2) (szL c.l + szL c.u) (by rw [List.length_append]; omega)
  unfold st1 s1
  omega
abbrev ptr (R : Nat) : Value := .pointer (some ⟨R, 0, none⟩)
/-- What nodes does, at nodes nested less than m deep. -/
def SN (m : Nat) : Prop := ∀ (w : World) (v : Value) (cs : List Co) (R k : Nat) (fv : Value) (F : List Int), InL false (fun b => b < R) w m v cs → St w R k fv F → F.length ≤ k → k + szL cs ≤ 1000000 →
    Calls Tryz.prog 26 #[ptr R, v] w fun e w' => e = .returned (.bool (stL cs k).1) ∧ Kg R fv.ownBlock w w' ∧ ∃ fv', Fresh w fv fv' ∧ St w' R (k + szL cs) fv' (F ++ (stL cs k).2)
def SD (m : Nat) : Prop := ∀ (w : World) (v : Value) (c : Co) (R k : Nat) (fv : Value) (F : List Int), KBase.In false (fun b => b < R) w m v c → St w R k fv F → F.length ≤ k → k + s1 c ≤ 1000000 →
    Calls Tryz.prog 38 #[ptr R, v] w fun e w' => e = .returned (.bool (st1 c k).1) ∧ Kg R fv.ownBlock w w' ∧ ∃ fv', Fresh w fv fv' ∧ St w' R (k + s1 c) fv' (F ++ (st1 c k).2)
set_option maxRecDepth 20000 in
set_option maxHeartbeats 3200000 in
theorem nodes_of {m : Nat} (ih : SD m) : SN m := by
  intro w v cs R k fv F hin hS hF hk
  have hR : R < w.heap.size := (Array.getElem?_eq_some_iff.1 hS.box).1
  have Hih : Hid (SD m) := ih
  obtain ⟨a, cap, rfl, hlc, hcm, hlen, hnil, hL⟩ := hin
  have HL : Hid (RwAt 7 Co7 rmC false (fun b => b < R) w (KBase.In false (fun b => b < R) w m) a cap cs) := hL
  have HS0 : Hid (St w R k fv F) := hS
  obtain ⟨X, hX⟩ : ∃ X, stL cs k = X := ⟨_, rfl⟩
  obtain ⟨Z, hZ⟩ : ∃ Z, k + szL cs = Z := ⟨_, rfl⟩
  rw [hX, hZ]
  have HX : Hid (stL (cs.drop 0) k = X ∧ k + szL (cs.drop 0) = Z) := ⟨hX, hZ⟩
  have hZb : Z ≤ 1000000 := by omega
  clear hL ih hX hZ hS hk
  go_enter Tryz.func26, Tryz.ntmps26
  go_wp2_with fail
  go_loopw [10, 5] (fun i al wr => ∃ (q : Nat) (b : Bool) (k' : Nat) (fv' : Value) (F' : List Int), i = .int .i64 q ∧ al = .bool b ∧ q ≤ cs.length ∧ Kg R fv.ownBlock w wr ∧ Fresh w fv fv' ∧ St wr R k' fv' (F ++ F') ∧ (F ++ F').length ≤ k' ∧ (((stL (cs.drop q) k').1 && b, F' ++ (stL (cs.drop q) k').2) = X ∧ k' + szL (cs.drop q) = Z)) (fun i _ _ => cs.length - (intOf i).toNat)
  case atStart => exact ⟨0, true, k, fv, [], rfl, rfl, by omega, Kg.refl _ _ _, .inl rfl, by rw [List.append_nil]; exact HS0.out, by rw [List.append_nil]; exact hF, by rw [HX.out.1]; simp, HX.out.2⟩
  case round =>
    clear HS0 HX
    obtain ⟨q, b, k', fv', F', rfl, rfl, hq, hK, hfr, hS, hF', hM, hZ⟩ := hrel
    have HK : Hid (Kg R fv.ownBlock w wr) := hK
    have HFR : Hid (Fresh w fv fv') := hfr
    have HSr : Hid (St wr R k' fv' (F ++ F')) := hS
    have HM : Hid (((stL (cs.drop q) k').1 && b, F' ++ (stL (cs.drop q) k').2) = X) := hM
    have HF' : Hid ((F ++ F').length ≤ k') := hF'
    have hsz := hK.below.size
    clear hM hS hfr hF'
    by_cases hlt : q < cs.length
    · have d0 : decide ((q : Int) < (cs.length : Int)) = true := by simp; omega
      obtain ⟨g, o, u, ha, hSg, hu, hi⟩ := HL.out.elem hlt
      subst ha
      have hkp : Keep (fun b => b < R) w wr := fun b hb hl => hK.below.block b hb
      have hu := Keep.co hkp hSg hu
      have hi2 := hi.keep hkp
      obtain ⟨v0, v1, v2, v3, v4, v5, v6, rfl, k0, k1, k2, k3, k4, k5, k6⟩ := hu
      obtain ⟨m', fv0, pv, xv, lv, uv, hm, hv, -, -, hFx, hP, ⟨mx, hXx⟩, hLl, hUl⟩ := hi2.shape
      simp only [Value.agg.injEq, Array.mk.injEq, List.cons.injEq, and_true] at hv
      obtain ⟨rfl, rfl, rfl, rfl, rfl, rfl, rfl⟩ := hv
      obtain ⟨a1, c1, rfl, -⟩ := hFx
      obtain ⟨a2, c2, rfl, -⟩ := hP
      obtain ⟨a3, c3, rfl, -⟩ := hXx
      obtain ⟨a4, c4, rfl, -⟩ := hLl
      obtain ⟨a5, c5, rfl, -⟩ := hUl
      obtain ⟨z, hz⟩ : ∃ z, cs[q] = z := ⟨_, rfl⟩
      rw [hz] at k0 k1 k2 k3 k4 k5 k6 hi2
      obtain ⟨W4, hW4⟩ : ∃ W4, wr.alloc (.cells #[.int .i64 z.k, .string z.t, .slice a1 z.f.length c1, .slice a2 z.p.length c2, .slice a3 z.x.length c3, .slice a4 z.l.length c4, .slice a5 z.u.length c5] 40) = W4 := ⟨_, rfl⟩
      have b4 : Below wr.heap.size wr W4 := by rw [← hW4]; exact (Below.refl _ wr).alloc (Nat.le_refl _) _
      have q4 : W4.heap[wr.heap.size]? = some (.cells #[.int .i64 z.k, .string z.t, .slice a1 z.f.length c1, .slice a2 z.p.length c2, .slice a3 z.x.length c3, .slice a4 z.l.length c4, .slice a5 z.u.length c5] 40 (0, 0)) := by rw [← hW4]; exact heap_alloc_new wr _
      obtain ⟨z0, z1, z2, z3, z4, z5, z6⟩ := seven_box q4
      have hdrop : cs.drop q = z :: cs.drop (q + 1) := by rw [← hz]; exact List.drop_eq_getElem_cons hlt
      have hstep := HM.out
      rw [hdrop, stL_cons] at hstep
      rw [hdrop, szL_cons] at hZ
      have hZ2 : k' + s1 z + szL (cs.drop (q + 1)) = Z := by unfold s1; omega
      have hsl := st1_len z k'
      have cN := Hih.out W4 _ z R k' fv' (F ++ F') (hi2.below b4) (HSr.out.below b4) HF'.out (by omega)
      have hK4 : Kg R fv.ownBlock w W4 := HK.out.trans HFR.out (Kg.of_below b4 (by omega))
      have hs4 : wr.heap.size ≤ W4.heap.size := b4.size
      obtain ⟨Y, hY⟩ : ∃ Y, st1 z k' = Y := ⟨_, rfl⟩
      rw [hY] at cN hstep hsl
      obtain ⟨y1, y2⟩ := Y
      dsimp only at cN hstep hsl
      have HST : Hid (((y1 && (stL (cs.drop (q + 1)) (k' + s1 z)).1) && b, F' ++ (y2 ++ (stL (cs.drop (q + 1)) (k' + s1 z)).2)) = X) := hstep
      have HK4 : Hid (Kg R fv.ownBlock w W4) := hK4
      have hlen2 : (F ++ F').length + y2.length ≤ k' + s1 z := by have := HF'.out; omega
      have HLEN : Hid ((F ++ F').length + y2.length ≤ k' + s1 z) := hlen2
      have hcapq : cs.length ≤ cap := hlc
      clear hstep hdrop hi hi2 q4 b4 HM hz hK hK4 hkp hY hZ hsl hlen2 HF'
      go_wp2_with fail
      try rw [hW4]
      refine cN.mono ?_
      rintro e W5 ⟨rfl, k5', fv5, f5', s5'⟩
      have HS5 : Hid (St W5 R (k' + s1 z) fv5 (F ++ (F' ++ y2))) := by rw [← List.append_assoc]; exact s5'
      have HK5 : Hid (Kg R fv.ownBlock w W5) := HK4.out.trans HFR.out k5'
      have HF5 : Hid (Fresh w fv fv5) := HFR.out.trans (Nat.le_trans hsz hs4) f5'
      clear cN k5' f5' s5' hW4 k0 k1 k2 k3 k4 k5 k6 z0 z1 z2 z3 z4 z5 z6
      cases y1 with
      | true =>
        go_wp2_with fail
        go_roundw
        case rel => exact ⟨q + 1, b, k' + s1 z, fv5, F' ++ y2, by go_num, rfl, by omega, HK5.out, HF5.out, HS5.out, by rw [← List.append_assoc, List.length_append]; exact HLEN.out, by rw [← HST.out, List.append_assoc, Bool.true_and], hZ2⟩
        case measure => simp only [intOf]; omega
      | false =>
        go_wp2_with fail
        go_roundw
        case rel => exact ⟨q + 1, false, k' + s1 z, fv5, F' ++ y2, by go_num, rfl, by omega, HK5.out, HF5.out, HS5.out, by rw [← List.append_assoc, List.length_append]; exact HLEN.out, by rw [← HST.out, List.append_assoc, Bool.false_and, Bool.false_and, Bool.and_false], hZ2⟩
        case measure => simp only [intOf]; omega
    · have d0 : decide ((q : Int) < (cs.length : Int)) = false := by simp; omega
      have hx : (b, F') = X ∧ k' = Z := by
        have := HM.out
        rw [List.drop_eq_nil_of_le (by omega), stL_nil] at this
        rw [List.drop_eq_nil_of_le (by omega), szL_nil] at hZ
        rw [← this]
        simp
        omega
      obtain ⟨hx1, hx2⟩ := hx
      subst hx1
      subst hx2
      clear hZ
      go_wp2_with fail
      go_ret
      exact ⟨rfl, HK.out, fv', HFR.out, HSr.out⟩
set_option maxRecDepth 20000 in
set_option maxHeartbeats 6400000 in
theorem node_of {m : Nat} (ih : SN m) : SD (m + 1) := by
  intro w v c R k fv F hin hS hF hk
  have hR : R < w.heap.size := (Array.getElem?_eq_some_iff.1 hS.box).1
  have Hih : Hid (SN m) := ih
  obtain ⟨i0, hi, hz0, hz1, hz2⟩ := info_parts infoI
  have hin2 := hin
  rw [in_succ] at hin2
  obtain ⟨fl, pv, xv, lv, uv, rfl, -, -, hFl, hP, ⟨mx, hX⟩, hL, hU⟩ := hin2
  have HL : Hid (InL false (fun b => b < R) w m lv c.l) := hL
  have HU : Hid (InL false (fun b => b < R) w m uv c.u) := hU
  have HFl : Hid (RF false (fun b => b < R) w fl c.f) := hFl
  have HP : Hid (RP false (fun b => b < R) w pv c.p) := hP
  obtain ⟨W0, hW0⟩ : ∃ W0, w.alloc (.cells #[.int .i64 c.k, .string c.t, fl, pv, xv, lv, uv] 40) = W0 := ⟨_, rfl⟩
  have b0 : Below w.heap.size w W0 := by rw [← hW0]; exact (Below.refl _ w).alloc (Nat.le_refl _) _
  have hs0 : W0.heap.size = w.heap.size + 1 := by rw [← hW0]; simp
  have HC0 : Hid (W0.heap[w.heap.size]? = some (.cells #[.int .i64 c.k, .string c.t, fl, pv, xv, lv, uv] 40 (0, 0))) := by rw [← hW0]; exact heap_alloc_new w _
  have HS0 : Hid (St W0 R k fv F) := hS.below b0
  have HKw : Hid (Kg R fv.ownBlock w W0) := Kg.of_below b0 hR
  obtain ⟨a, cap, hfv, hcap1, hcap2⟩ := hS.row.shape
  subst hfv
  obtain ⟨n0, n1⟩ := two_box HS0.out.box
  have hgl : ∀ g, (Value.slice a F.length cap).ownBlock = some g → R < g ∧ g < w.heap.size := fun g hg => by have := hS.row.lt hg; omega
  have HGL : Hid (∀ g, (Value.slice a F.length cap).ownBlock = some g → R < g ∧ g < w.heap.size) := hgl
  obtain ⟨X, hX'⟩ : ∃ X, st1 c k = X := ⟨_, rfl⟩
  rw [hX']
  have HX : Hid (one c k (stL c.l (k + 1)).1 ((stL c.l (k + 1)).2 ++ (stL c.u (k + 1 + szL c.l)).2) = X) := hX'
  have hk2 : k + (1 + szL c.l + szL c.u) ≤ 1000000 := hk
  have HFl0 : Hid (F.length ≤ k) := hF
  clear hX' hS hL hU hFl hP hX hin ih hk b0 hgl
  go_enter Tryz.func38, Tryz.ntmps38
  go_wp2_with fail
  try rw [hW0]
  go_quiet (fail)
  obtain ⟨W1, hW1⟩ : ∃ W1, W0.drewN nq = W1 := ⟨_, rfl⟩
  rw [hW1]
  have hhp : W1.heap = W0.heap := by rw [← hW1]; simp
  have hh1 : ∀ b : Nat, W1.heap[b]? = W0.heap[b]? := fun b => by rw [hhp]
  have hs1' : W1.heap.size = w.heap.size + 1 := by rw [hhp]; exact hs0
  have HB1 : Hid (W1.heap[R]? = some (.cells #[.int .i64 k, .slice a F.length cap] 50 (0, 0))) := (hh1 R).trans HS0.out.box
  have HC1 : Hid (W1.heap[w.heap.size]? = some (.cells #[.int .i64 c.k, .string c.t, fl, pv, xv, lv, uv] 40 (0, 0))) := (hh1 _).trans HC0.out
  have HO1 : Hid (Oi W1 (R + 1) (.slice a F.length cap) F) := HS0.out.row.same (fun g _ => hh1 g)
  have HK1 : Hid (Kg R (Value.slice a F.length cap).ownBlock w W1) := by
    refine ⟨?_, fun b hb hn hl => (hh1 b).trans (HKw.out.other b hb hn hl)⟩
    have hd := KFd.drewN_below HKw.out.below nq
    rw [hW1] at hd
    exact hd
  obtain ⟨W2, hW2⟩ : ∃ W2, W1.setCell ⟨R, 0, none⟩ (.int .i64 ((k : Int) + 1)) = W2 := ⟨_, rfl⟩
  have hs2 : W2.heap.size = w.heap.size + 1 := by rw [← hW2]; simpa [World.setCell] using hs1'
  have ho2 : ∀ b : Nat, b ≠ R → W2.heap[b]? = W1.heap[b]? := fun b hb => by rw [← hW2, Below.heap_setCell _ _ _ _ hb]
  have HS2 : Hid (St W2 R (k + 1) (.slice a F.length cap) F) := ⟨by
      have := heap_setCell_same W1 R 0 _ _ (.int .i64 ((k : Int) + 1)) HB1.out
      rw [hW2] at this
      exact this, HO1.out.same (fun g hg => ho2 g (by have := (HGL.out g hg).1; omega))⟩
  have HC2 : Hid (W2.heap[w.heap.size]? = some (.cells #[.int .i64 c.k, .string c.t, fl, pv, xv, lv, uv] 40 (0, 0))) := (ho2 _ (by omega)).trans HC1.out
  have HK2 : Hid (Kg R (Value.slice a F.length cap).ownBlock w W2) := by
    refine ⟨?_, fun b hb hn hl => (ho2 b hb).trans (HK1.out.other b hb hn hl)⟩
    rw [← hW2]
    exact HK1.out.below.setCell (p := ⟨R, 0, none⟩) (Nat.le_refl _) _
  obtain ⟨m0, m1⟩ := two_box HB1.out
  have mf := frozen_box HB1.out 0
  obtain ⟨z0, z1, z2, z3, z4, z5, z6⟩ := seven_box HC2.out
  have hkp : ∀ W, Kg R (Value.slice a F.length cap).ownBlock w W → Keep (fun b => b < R) w W := fun W hK b hb _ => hK.below.block b hb
  have cA := Hih.out W2 lv c.l R (k + 1) _ F (InL.keep (hkp _ HK2.out) HL.out) HS2.out (by have := HFl0.out; omega) (by omega)
  have hwk : IntKind.i64.wrap ((k : Int) + 1) = (k : Int) + 1 := by rw [IntKind.wrap_i64]; omega
  have Hkp : Hid (∀ W, Kg R (Value.slice a F.length cap).ownBlock w W → Keep (fun b => b < R) w W) := hkp
  clear n0 n1 hh1 hhp hW1 ho2 hW0 hs0 hs1' hkp HS0 HC0 HKw HC1 HO1 HK1
  obtain ⟨Y, hY⟩ : ∃ Y, stL c.l (k + 1) = Y := ⟨_, rfl⟩
  have HY : Hid (stL c.l (k + 1) = Y) := hY
  rw [hY] at cA
  obtain ⟨y1, y2⟩ := Y
  dsimp only at cA
  go_wp2_with fail
  try rw [hW2]
  refine cA.mono ?_
  rintro e W3 ⟨rfl, k3, fv3, f3, s3⟩
  have HS3 : Hid (St W3 R (k + 1 + szL c.l) fv3 (F ++ y2)) := s3
  have HK3 : Hid (Kg R (Value.slice a F.length cap).ownBlock w W3) := HK2.out.trans (.inl rfl) k3
  have HF3 : Hid (Fresh w (.slice a F.length cap) fv3) := (Fresh.trans (.inl rfl) (by omega) f3 : Fresh w (.slice a F.length cap) fv3)
  have HC3 : Hid (W3.heap[w.heap.size]? = some (.cells #[.int .i64 c.k, .string c.t, fl, pv, xv, lv, uv] 40 (0, 0))) := (k3.other w.heap.size (by omega) (fun e => by have := (HGL.out _ e.symm).2; omega) (by omega)).trans HC2.out
  have hs3 := k3.below.size
  have hd3 : fv3.ownBlock ≠ some w.heap.size := by
    rcases f3 with h | ⟨b, h, hb⟩
    · rw [h]; intro e; have := (HGL.out _ e).2; omega
    · rw [h]; intro e; have := Option.some.inj e; omega
  have hyl := stL_len _ c.l (k + 1) (Nat.le_refl _)
  rw [hY] at hyl
  dsimp only at hyl
  have cU := Hih.out W3 uv c.u R (k + 1 + szL c.l) fv3 (F ++ y2) (InL.keep (Hkp.out _ HK3.out) HU.out) s3 (by rw [List.length_append]; have := HFl0.out; omega) (by omega)
  obtain ⟨x0, x1, x2, x3, x4, x5, x6⟩ := seven_box HC3.out
  clear cA k3 f3 s3 hW2 m0 m1 mf z0 z1 z2 z3 z4 z5 z6 hY
  obtain ⟨V, hV⟩ : ∃ V, stL c.u (k + 1 + szL c.l) = V := ⟨_, rfl⟩
  have HV : Hid (stL c.u (k + 1 + szL c.l) = V) := hV
  rw [hV] at cU
  obtain ⟨v1, v2⟩ := V
  dsimp only at cU
  clear hV
  go_wp2_with fail
  refine cU.mono ?_
  rintro e W4 ⟨rfl, k4, fv4, f4, s4⟩
  have hcnt : k + 1 + szL c.l + szL c.u = k + s1 c := by unfold s1; omega
  rw [hcnt, List.append_assoc] at s4
  have HS4 : Hid (St W4 R (k + s1 c) fv4 (F ++ (y2 ++ v2))) := s4
  have HK4 : Hid (Kg R (Value.slice a F.length cap).ownBlock w W4) := HK3.out.trans HF3.out k4
  have HF4 : Hid (Fresh w (.slice a F.length cap) fv4) := HF3.out.trans (by omega) f4
  have HC4 : Hid (W4.heap[w.heap.size]? = some (.cells #[.int .i64 c.k, .string c.t, fl, pv, xv, lv, uv] 40 (0, 0))) := (k4.other w.heap.size (by omega) (fun e => hd3 e.symm) (by omega)).trans HC3.out
  have hs4 := k4.below.size
  have hX2 := HX.out
  rw [HY.out, HV.out] at hX2
  dsimp only at hX2
  have HX2 : Hid (one c k y1 (y2 ++ v2) = X) := hX2
  obtain ⟨q0, q1, q2, q3, q4, q5, q6⟩ := seven_box HC4.out
  clear cU k4 f4 s4 x0 x1 x2 x3 x4 x5 x6 hX2 HX hcnt hyl
  by_cases hk1 : c.k = 1
  · have e1 : (c.k == 1) = true := by simpa using hk1
    have hx : X = (!(c.p.any Pt.b), y2 ++ v2) := by rw [← HX2.out]; unfold one; rw [if_pos hk1]
    subst hx
    have cP := KCf.anyP_c (RP.keep (Hkp.out _ HK4.out) HP.out)
    obtain ⟨T, hT⟩ : ∃ T, c.p.any Pt.b = T := ⟨_, rfl⟩
    rw [hT] at cP
    have HT : Hid (c.p.any Pt.b = T) := hT
    clear hT hk1
    go_wp2_with fail
    refine cP.mono ?_
    rintro e W5 ⟨rfl, b5⟩
    have HS5 : Hid _ := HS4.out.below b5
    have HK5 : Hid (Kg R (Value.slice a F.length cap).ownBlock w W5) := HK4.out.trans HF4.out (Kg.of_below b5 (by omega))
    clear cP b5
    go_wp2_with fail
    go_ret
    exact ⟨by rw [HT.out]; cases T <;> rfl, HK5.out, _, HF4.out, HS5.out⟩
  · have e1 : (c.k == 1) = false := by simpa using hk1
    by_cases hk2 : c.k = 2
    · have e2 : (c.k == 2) = true := by simpa using hk2
      cases y1 with
      | false =>
        have hx : X = (false, y2 ++ v2) := by rw [← HX2.out]; unfold one; rw [if_neg hk1, if_neg (fun h => by cases h.2.1)]
        subst hx
        clear hk1 hk2
        go_wp2_with fail
        go_ret
        exact ⟨rfl, HK4.out, _, HF4.out, HS4.out⟩
      | true =>
        have cP := KCf.anyF_c (RF.keep (Hkp.out _ HK4.out) HFl.out)
        cases hT : c.f.any Fld.b with
        | true =>
          rw [hT] at cP
          have hx : X = (false, y2 ++ v2) := by rw [← HX2.out]; unfold one; rw [if_neg hk1, if_neg (fun h => by rw [hT] at h; cases h.2.2)]
          subst hx
          clear hk1 hk2 hT
          go_wp2_with fail
          refine cP.mono ?_
          rintro e W5 ⟨rfl, b5⟩
          have HS5 : Hid _ := HS4.out.below b5
          have HK5 : Hid (Kg R (Value.slice a F.length cap).ownBlock w W5) := HK4.out.trans HF4.out (Kg.of_below b5 (by omega))
          clear cP b5
          go_wp2_with fail
          go_ret
          exact ⟨rfl, HK5.out, _, HF4.out, HS5.out⟩
        | false =>
          rw [hT] at cP
          have hx : X = (true, [(k : Int)]) := by rw [← HX2.out]; unfold one; rw [if_neg hk1, if_pos ⟨hk2, rfl, hT⟩]
          subst hx
          clear hk1 hk2 hT
          go_wp2_with fail
          refine cP.mono ?_
          rintro e W5 ⟨rfl, b5⟩
          have hs5 := b5.size
          have HS5 : Hid (St W5 R (k + s1 c) fv4 (F ++ (y2 ++ v2))) := HS4.out.below b5
          have HK5 : Hid (Kg R (Value.slice a F.length cap).ownBlock w W5) := HK4.out.trans HF4.out (Kg.of_below b5 (by omega))
          clear cP b5 q0 q1 q2 q3 q4 q5 q6
          obtain ⟨a4, cap4, hfv4, hc41, hc42⟩ := HS5.out.row.shape
          subst hfv4
          obtain ⟨p0, p1⟩ := two_box HS5.out.box
          have hnF2 : F.length ≤ (F ++ (y2 ++ v2)).length := by rw [List.length_append]; omega
          have hrow0 := HS5.out.row.take (q := F.length) hnF2
          have htk : (F ++ (y2 ++ v2)).take F.length = F := by simp
          rw [htk] at hrow0
          have hrow1 := World.ownsRow.alloc hrow0 (.cells #[.int .i64 (k : Int)] 3)
          obtain ⟨N4, hN4⟩ : ∃ N4, (F ++ (y2 ++ v2)).length = N4 := ⟨_, rfl⟩
          rw [hN4] at p1 hc41 hnF2
          have HN4 : Hid ((F ++ (y2 ++ v2)).length = N4) := hN4
          have hsl1 : (0 : Int) ≤ (F.length : Int) := by omega
          have hsl2 : (F.length : Int) ≤ (cap4 : Int) := by omega
          have hnFk : F.length ≤ 1000000 := by have := HFl0.out; omega
          have HNF2 : Hid (F.length ≤ N4) := hnF2
          clear hN4 htk hrow0
          go_wp2_with (first
            | (at_builtin; refine wpList_append_own_at _ rfl _ _ 28 rfl (R + 1) 3 i0 (.int .i64 0) 1 8 Tryz.underlying28 hi hz0 hz1 hz2 rfl (by decide) _ _ _ rfl hrow1 ⟨W5.heap.size, 0, none⟩ 1 1 [.int .i64 (k : Int)] rfl rfl (cell_one_new _ _ _) (by simp [Value.oneCell']) (by unfold maxLen; omega) (by omega) (by simp; omega) ?_))
          intro v' w6 hown hgrow _ hat
          have hb4 : (Value.slice a4 F.length cap4).ownBlock = (Value.slice a4 (F ++ (y2 ++ v2)).length cap4).ownBlock := own_len _ _ _ _ _
          rw [hb4] at hgrow hat
          have hRn : some R ≠ (Value.slice a4 (F ++ (y2 ++ v2)).length cap4).ownBlock := fun e => HS5.out.ne e.symm
          have HB6 : Hid (w6.heap[R]? = some (.cells #[.int .i64 ((k + s1 c : Nat) : Int), .slice a4 N4 cap4] 50 (0, 0))) := by
            have h1 := HS5.out.box
            rw [HN4.out] at h1
            exact (hgrow.block R (by simp; omega) hRn).trans ((Below.heap_alloc _ _ _ (by omega)).trans h1)
          have HO6 : Hid (Oi w6 (R + 1) v' (F ++ [(k : Int)])) := by
            show World.ownsRow _ _ _ _ _ _ _
            rw [List.map_append, List.length_append]
            exact hown
          obtain ⟨a7, c7, hv7, -, -⟩ := HO6.out.shape
          subst hv7
          have HF6 : Hid (Fresh W5 (.slice a4 (F ++ (y2 ++ v2)).length cap4) (.slice a7 (F ++ [(k : Int)]).length c7)) := by
            rcases hat with h | h
            · exact .inl h
            · exact .inr ⟨_, h, by omega⟩
          obtain ⟨W7, hW7⟩ : ∃ W7, w6.setCell ⟨R, 1, none⟩ (.slice a7 (F ++ [(k : Int)]).length c7) = W7 := ⟨_, rfl⟩
          have ho7 : ∀ b : Nat, b ≠ R → W7.heap[b]? = w6.heap[b]? := fun b hb => by rw [← hW7, Below.heap_setCell _ _ _ _ hb]
          have HS7 : Hid (St W7 R (k + s1 c) (.slice a7 (F ++ [(k : Int)]).length c7) (F ++ [(k : Int)])) := ⟨by
              have := heap_setCell_same w6 R 1 _ _ (.slice a7 (F ++ [(k : Int)]).length c7) HB6.out
              rw [hW7] at this
              exact this, HO6.out.same (fun g hg => ho7 g (by have := (HO6.out.lt hg).1; omega))⟩
          have hbl : Below R W5 w6 := ⟨hgrow.os, hgrow.tape, hgrow.output, Nat.le_trans (by simp) hgrow.size, fun b hb => (hgrow.block b (by simp; omega) (fun e => by have := (HS5.out.row.lt e.symm).1; omega)).trans (Below.heap_alloc _ _ _ (by omega))⟩
          have HK7 : Hid (Kg R (Value.slice a F.length cap).ownBlock w W7) := HK5.out.trans HF4.out ⟨by rw [← hW7]; exact hbl.setCell (p := ⟨R, 1, none⟩) (Nat.le_refl _) _, fun b hb hn hl => (ho7 b hb).trans ((hgrow.block b (by simp; omega) hn).trans (Below.heap_alloc _ _ _ hl))⟩
          have HF7 : Hid (Fresh w (.slice a F.length cap) (.slice a7 (F ++ [(k : Int)]).length c7)) := HF4.out.trans (by omega) HF6.out
          obtain ⟨r0, r1⟩ := two_box HB6.out
          have rf := frozen_box HB6.out 1
          have hW8 : w6.setCell ⟨R, 1, none⟩ (.slice a7 (F.length + 1) c7) = W7 := by rw [← hW7]; simp
          clear hown hgrow hat hbl ho7 p0 p1 hrow1 hb4 hRn hW7
          go_wp2_with fail
          try rw [hW8]
          go_ret
          exact ⟨rfl, HK7.out, _, HF7.out, HS7.out⟩
    · have e2 : (c.k == 2) = false := by simpa using hk2
      have hx : X = (false, y2 ++ v2) := by rw [← HX2.out]; unfold one; rw [if_neg hk1, if_neg (fun h => hk2 h.1)]
      subst hx
      clear hk1 hk2
      go_wp2_with fail
      go_ret
      exact ⟨rfl, HK4.out, _, HF4.out, HS4.out⟩
theorem nodes_all : ∀ m, SN m
  | 0 => nodes_of (fun w v c R k fv F h => (in_zero h).elim)
  | m + 1 => nodes_of (node_of (nodes_all m))
/-- What Statics answers. -/
def sts (cs : List Co) : List Int := (stL (KCo.tk cs) 0).2
set_option maxRecDepth 20000 in
theorem statics_c {m : Nat} {w : World} {v : Value} {cs : List Co} (hin : InL false (fun _ => True) w m v cs) :
    Calls Tryz.prog 9 #[v] w fun x w' => Below w.heap.size w w' ∧ ∃ u, x = .returned u ∧ Oi w' w.heap.size u (sts cs) := by
  obtain ⟨W0, hW0⟩ : ∃ W0, w.alloc (.cells #[.int .i64 0, .slice none 0 0] 50) = W0 := ⟨_, rfl⟩
  have b0 : Below w.heap.size w W0 := by rw [← hW0]; exact (Below.refl _ w).alloc (Nat.le_refl _) _
  have hs0 : W0.heap.size = w.heap.size + 1 := by rw [← hW0]; simp
  have HQ : Hid (W0.heap[w.heap.size]? = some (.cells #[.int .i64 0, .slice none 0 0] 50 (0, 0))) := by rw [← hW0]; exact heap_alloc_new w _
  have cT := KCo.taken_c (InL.below hin b0)
  have HIN : Hid (InL false (fun _ => True) w m v cs) := hin
  obtain ⟨a0, cap0, hv0, -⟩ := hin
  subst hv0
  have HB0 : Hid (Below w.heap.size w W0) := b0
  have hsm := KCo.tk_small cs
  have e0 : sts cs = (stL (KCo.tk cs) 0).2 := rfl
  rw [e0]
  obtain ⟨L, hL⟩ : ∃ L, KCo.tk cs = L := ⟨_, rfl⟩
  have HL : Hid (KCo.tk cs = L) := hL
  rw [hL] at cT hsm ⊢
  have HSZ : Hid ((szL L : Int) ≤ 4096) := hsm.2
  obtain ⟨Y, hY⟩ : ∃ Y, stL L 0 = Y := ⟨_, rfl⟩
  have HY : Hid (stL L 0 = Y) := hY
  rw [hY]
  clear hsm b0 hL e0 hY
  go_enter Tryz.func9, Tryz.ntmps9
  go_wp2_with fail
  try rw [hW0]
  refine cT.mono ?_
  rintro x W1 ⟨u, rfl, hu, b1⟩
  have hs1 := b1.size
  have hu1 : InL false (fun _ => True) w m u L := hu _ _ HIN.out
  have hu2 : InL false (fun b => b < w.heap.size) W1 m u L := InL.weak (fun b hb => hb.2) false (fun h => h) m (Nat.le_refl _) (InL.below hu1.low (nx HB0.out b1))
  have HB1 : Hid (Below w.heap.size w W1) := nx HB0.out b1
  have hSt : St W1 w.heap.size 0 (.slice none 0 0) [] := ⟨(b1.block _ (by omega)).trans HQ.out, World.ownsRow_nil _ _ _ _⟩
  have cV := nodes_all m W1 u L w.heap.size 0 _ [] hu2 hSt (by simp) (by have := HSZ.out; omega)
  rw [HY.out, List.nil_append] at cV
  clear cT hu hu1 hu2 b1 hSt hW0
  go_wp2_with fail
  refine cV.mono ?_
  rintro x W2 ⟨rfl, k2, fv, -, s2⟩
  have HB2 : Hid (Below w.heap.size w W2) := HB1.out.trans k2.below
  obtain ⟨c0, c1⟩ := two_box s2.box
  have HS2 : Hid (St W2 w.heap.size (0 + szL L) fv Y.2) := s2
  clear cV k2 s2
  go_wp2_with fail
  go_ret
  refine ⟨HB2.out, _, rfl, ?_⟩
  have h := HS2.out.row
  refine ⟨h.1, ?_⟩
  rcases h.2 with h2 | ⟨g, cap, cur, h1, h2, h3⟩
  · exact .inl h2
  · exact .inr ⟨g, cap, cur, h1, by omega, h3⟩
end Go.Proofs.YtofjedecjlodmaaGreat.KSt

import Derived.Test.YtiijfmdfccdagaaGreatDoorPL02
import Derived.Test.YtiijfmdfccdagaaGreatDoorPL18
open Go.Proofs.Tryz
set_option linter.unusedVariables false
set_option maxRecDepth 20000
set_option maxHeartbeats 6400000
namespace Go.Proofs.YtiijfmdfccdagaaGreatDoor.GNs
open Go.RowKit Base GPl GEn GAs GTx GBu
open VPure hiding evL
open TBase (T)
open KBase (Pt Fld Co RP RF)
abbrev mkr (Bb : Nat) : Value := .iface 70 (ptr Bb)
abbrev Sz := Nat × List Int × Nat
abbrev szv (z : Sz) : Value := .slice (some ⟨z.1, 0, none⟩) z.2.1.length z.2.2
def So (K m : Nat) (w : World) (Pv : Value) (L : List C) : Prop := ∃ us, Base.OwnV w K Pv us /\ us.length = L.length /\ ∀ j (h : j < us.length) (h' : j < L.length), Base.In false (fun b => b < K) w m us[j] L[j]
theorem so_keep {K m : Nat} {w w' : World} {Pv : Value} {L : List C} (h : So K m w Pv L) (hk : ∀ b, b < w.heap.size -> (b < K \/ Pv.ownBlock = some b) -> w'.heap[b]? = w.heap[b]?) : So K m w' Pv L := by
 obtain ⟨us, h1, h2, h3⟩ := h
 exact ⟨us, ⟨Fresh.own_keep h1.1 (fun g hg => hk g (World.ownsRow.lt h1.1 g hg).2 (.inr hg)), h1.2⟩, h2, fun j a b => (h3 j a b).keep (fun b hb hl => hk b hl (.inl hb))⟩
structure Wr (K m : Nat) (w : World) (B Bb : Nat) (Pv : Value) (sv : Sz) (r : Int) (L : List C) : Prop where
 box : w.heap[B]? = some (.cells (wk Pv (mkr Bb) (szv sv) r) 105 (0, 0))
 lB : K <= B
 lb : K <= Bb
 ne : B ≠ Bb
 wfs : ∀ (j : Int) c, rh L j = some c -> wf c
 tk : ∀ W', Below K w W' -> Digits.Tab W'
 sk : Sk K (m + 1) w Pv L
 xb : ∀ x, Pv.ownBlock = some x -> K <= x /\ x < w.heap.size /\ x ≠ B /\ x ≠ Bb
 zb : sv.1 < w.heap.size /\ sv.1 ≠ B /\ sv.1 ≠ Bb /\ Pv.ownBlock ≠ some sv.1
 zc : ∀ j (h : j < sv.2.1.length), w.cell? ⟨sv.1, j, none⟩ = some (.int .i64 sv.2.1[j])
 so : So K (m + 1) w Pv L
theorem Wr.lt {K m : Nat} {w : World} {B Bb : Nat} {Pv : Value} {sv : Sz} {r : Int} {L : List C} (h : Wr K m w B Bb Pv sv r L) : B < w.heap.size := (Array.getElem?_eq_some_iff.1 h.box).1
theorem Wr.bs {K m : Nat} {w : World} {B Bb : Nat} {Pv : Value} {sv : Sz} {r : Int} {L : List C} (h : Wr K m w B Bb Pv sv r L) : Bs K m w B Pv (mkr Bb) (szv sv) r L :=
 ⟨h.box, by have := h.lt; have := h.lB; omega, h.wfs, fun W hW => h.tk W (hW.mono (by have := h.lt; have := h.lB; omega)), h.sk⟩
theorem sk_keep {K m : Nat} {w w' : World} {Pv : Value} {L : List C} (h : Sk K m w Pv L) (hk : ∀ b, b < w.heap.size -> (b < K \/ Pv.ownBlock = some b) -> w'.heap[b]? = w.heap[b]?) : Sk K m w' Pv L := by
 obtain ⟨a, cap, h1, h2, h3, h4, h5⟩ := h
 refine ⟨a, cap, h1, h2, h3, h4, fun j hj => ?_⟩
 obtain ⟨g, u, e, hu, hi⟩ := h5 j hj
 subst e
 subst h1
 exact ⟨g, u, rfl, Base.Keep.six (S := fun b => b = g) (fun b hb hl => hk b hl (.inr (by rw [hb]; rfl))) rfl hu, hi.keep (fun b hb hl => hk b hl (.inl hb))⟩
theorem Wr.keep {K m : Nat} {w w' : World} {B Bb : Nat} {Pv : Value} {sv : Sz} {r : Int} {L : List C} (h : Wr K m w B Bb Pv sv r L) (hs : w.heap.size <= w'.heap.size) (hb : Below K w w') (hB : w'.heap[B]? = w.heap[B]?) (hX : ∀ b, b < w.heap.size -> Pv.ownBlock = some b -> w'.heap[b]? = w.heap[b]?) (hZ : w'.heap[sv.1]? = w.heap[sv.1]?) : Wr K m w' B Bb Pv sv r L :=
 ⟨hB.trans h.box, h.lB, h.lb, h.ne, h.wfs, fun W hW => h.tk W (hb.trans hW), sk_keep h.sk (fun b hl hc => hc.elim (fun k => hb.block b k) (fun k => hX b hl k)), fun x hx => ⟨(h.xb x hx).1, Nat.lt_of_lt_of_le (h.xb x hx).2.1 hs, (h.xb x hx).2.2⟩, ⟨Nat.lt_of_lt_of_le h.zb.1 hs, h.zb.2⟩, fun j hj => (World.cell?_of_block (w := w) hZ).trans (h.zc j hj), so_keep h.so (fun b hl hc => hc.elim (fun k => hb.block b k) (fun k => hX b hl k))⟩
theorem Wr.below {K m : Nat} {w w' : World} {B Bb : Nat} {Pv : Value} {sv : Sz} {r : Int} {L : List C} (h : Wr K m w B Bb Pv sv r L) (hb : Below w.heap.size w w') : Wr K m w' B Bb Pv sv r L :=
 h.keep hb.size (hb.mono (by have := h.lt; have := h.lB; omega)) (hb.block B h.lt) (fun b hl _ => hb.block b hl) (hb.block _ h.zb.1)
theorem Wr.room {K m : Nat} {w w' : World} {B Bb : Nat} {Pv : Value} {sv : Sz} {r : Int} {L : List C} (h : Wr K m w B Bb Pv sv r L) (r' : Int) (e : w.setCell ⟨B, 3, none⟩ (.int .i64 r') = w') : Wr K m w' B Bb Pv sv r' L := by
 have ho : ∀ b, b ≠ B -> w'.heap[b]? = w.heap[b]? := fun b hb => by rw [<- e, Below.heap_setCell _ _ _ _ (by simpa using hb)]
 have hs : w'.heap.size = w.heap.size := by rw [<- e, World.size_setCell]
 have hb : Below K w w' := by rw [<- e]; exact (Below.refl K w).setCell (by simpa using h.lB) _
 refine ⟨?_, h.lB, h.lb, h.ne, h.wfs, fun W hW => h.tk W (hb.trans hW), sk_keep h.sk (fun b hl hc => hc.elim (fun k => hb.block b k) (fun k => ho b (h.xb b k).2.2.1)), fun x hx => ⟨(h.xb x hx).1, by rw [hs]; exact (h.xb x hx).2.1, (h.xb x hx).2.2⟩, ⟨by rw [hs]; exact h.zb.1, h.zb.2⟩, fun j hj => (World.cell?_of_block (w := w) (ho sv.1 h.zb.2.1)).trans (h.zc j hj), so_keep h.so (fun b hl hc => hc.elim (fun k => hb.block b k) (fun k => ho b (h.xb b k).2.2.1))⟩
 rw [<- e]
 exact TBase.block_set h.box _
def Rs (K m B Bb : Nat) (sv : Sz) (L : List C) (r : Int) (w : World) (X : Option Nat) : Prop := ∃ Pv, X = Pv.ownBlock /\ Wr K m w B Bb Pv sv r L
theorem Rs.keep {K m B Bb lo : Nat} {sv : Sz} {tv : Value} {L : List C} {r : Int} {W W' : World} {X : Option Nat} (h : Rs K m B Bb sv L r W X) (hlo : B < lo) (hzl : sv.1 < lo) (ht : ∀ g, tv.ownBlock = some g -> lo <= g) (hx : ∀ g, tv.ownBlock = some g -> g < W.heap.size /\ some g ≠ X) (hs : W.heap.size <= W'.heap.size) (hb : ∀ n, n <= Bb -> Below n W W') (ho : ∀ b, b < W.heap.size -> b ≠ Bb -> some b ≠ tv.ownBlock -> W'.heap[b]? = W.heap[b]?) : Rs K m B Bb sv L r W' X := by
 obtain ⟨Pv, rfl, h⟩ := h
 refine ⟨Pv, rfl, h.keep hs (hb K h.lb) (ho B h.lt h.ne (fun e => by have := ht B e.symm; omega)) (fun b hl hP => ho b hl (h.xb b hP).2.2.2 (fun e => (hx b e.symm).2 hP.symm)) (ho _ h.zb.1 h.zb.2.2.1 (fun e => by have := ht _ e.symm; omega))⟩
theorem meth_t (n : Nat) (hn : prog.types.size + Made.depth = n) (v : Value) (w : World) : Sem.run prog (method n 70 v "Text") w = .ok (210, v) w := by
 subst hn
 kernel_rfl
theorem meth_e (n : Nat) (hn : prog.types.size + Made.depth = n) (v : Value) (w : World) : Sem.run prog (method n 70 v "Element") w = .ok (208, v) w := by
 subst hn
 kernel_rfl
theorem bt_keep {lo Bb : Nat} {w w' : World} {X : Option Nat} {tv : Value} {F : List T} (h : Bt lo w Bb X tv F) (hs : w.heap.size <= w'.heap.size) (hb : w'.heap[Bb]? = w.heap[Bb]?) (ho : ∀ b, lo <= b -> b < w.heap.size -> some b ≠ X -> w'.heap[b]? = w.heap[b]?) : Bt lo w' Bb X tv F := by
 obtain ⟨us, how, hus, hel⟩ := h.own
 refine ⟨hb.trans h.box, h.lob, Nat.le_trans h.hi hs, h.xne, us, ⟨Fresh.own_keep how.1 (fun g hg => ho g (World.ownsRow.lt how.1 g hg).1 (World.ownsRow.lt how.1 g hg).2 (h.xne g hg)), how.2⟩, hus, fun j h1 h2 => ?_⟩
 obtain ⟨m, hi⟩ := hel j h1 h2
 exact ⟨m, (hi.keep (w' := w') (fun b hb _ => ho b hb.1 hb.2.1 hb.2.2.1)).weak (fun b hb => ⟨hb.1, Nat.lt_of_lt_of_le hb.2.1 hs, hb.2.2⟩) false id m (Nat.le_refl _)⟩
theorem bt_own {lo Bb : Nat} {w : World} {X : Option Nat} {tv : Value} {F : List T} (h : Bt lo w Bb X tv F) : ∀ g, tv.ownBlock = some g -> lo <= g /\ g < w.heap.size /\ some g ≠ X := by
 obtain ⟨us, how, -, -⟩ := h.own
 exact fun g hg => ⟨(World.ownsRow.lt how.1 g hg).1, (World.ownsRow.lt how.1 g hg).2, h.xne g hg⟩
theorem tgo_le {L : List C} : ∀ (ps : List Pt) (n : Nat) (l : List UInt8), n <= 4096 -> tgo L ps n = .ok l -> n + l.length <= 4096
 | [], n, l, hn, h => by
  unfold tgo at h
  injection h with h
  subst h
  simpa using hn
 | f :: t, n, l, hn, h => by
  unfold tgo at h
  cases e1 : tpc L f.p f.b f.e with
  | error q => rw [e1] at h; cases h
  | ok s =>
   rw [e1] at h
   simp only [bnd] at h
   split at h
   ·cases h
   ·next hlt =>
    cases e2 : tgo L t (n + s.size) with
    | error q => rw [e2] at h; cases h
    | ok r =>
     rw [e2] at h
     injection h with h
     have := tgo_le t (n + s.size) r (by omega) e2
     rw [<- h]
     simp only [List.length_append, Array.length_toList]
     have : s.data.size = s.size := rfl
     omega
end Go.Proofs.YtiijfmdfccdagaaGreatDoor.GNs
namespace Go.Proofs.YtiijfmdfccdagaaGreatDoor.GNo
open Tak
open Go.RowKit Base JPure VSm JVr JVa GEn GTx GBu GBt GBe GNs
open VPure hiding evL
open TBase (T)
open KBase (Pt Fld Co RP RF)
theorem boxes3 (w : World) (c1 c2 c3 : Array Value) (T1 T2 T3 : TypeId) : ∃ W0, ((w.alloc (.cells c1 T1)).alloc (.cells c2 T2)).alloc (.cells c3 T3) = W0 /\ W0.heap.size = w.heap.size + 3 /\ Below w.heap.size w W0 /\ W0.heap[w.heap.size]? = some (.cells c1 T1 (0, 0)) /\ W0.heap[w.heap.size + 1]? = some (.cells c2 T2 (0, 0)) /\ W0.heap[w.heap.size + 2]? = some (.cells c3 T3 (0, 0)) := by
 refine ⟨_, rfl, by simp, (((Below.refl _ w).alloc (Nat.le_refl _) _).alloc (by simp) _).alloc (by simp; omega) _, ?_, ?_, ?_⟩
 ·rw [Below.heap_alloc _ _ _ (by simp; omega), Below.heap_alloc _ _ _ (by simp), heap_alloc_new]
 ·have := heap_alloc_new (w.alloc (.cells c1 T1)) (.cells c2 T2)
  rw [World.size_alloc] at this
  rw [Below.heap_alloc _ _ _ (by simp)]
  exact this
 ·have := heap_alloc_new ((w.alloc (.cells c1 T1)).alloc (.cells c2 T2)) (.cells c3 T3)
  simp only [World.size_alloc] at this
  exact this
theorem seven_b {w : World} {B : Nat} {v0 v1 v2 v3 v4 v5 v6 : Value} {t : TypeId} (h : w.heap[B]? = some (.cells #[v0, v1, v2, v3, v4, v5, v6] t (0, 0))) :
  w.cell? ⟨B, 0, none⟩ = some v0 /\ w.cell? ⟨B, 1, none⟩ = some v1 /\ w.cell? ⟨B, 2, none⟩ = some v2 /\ w.cell? ⟨B, 3, none⟩ = some v3 /\ w.cell? ⟨B, 4, none⟩ = some v4 /\ w.cell? ⟨B, 5, none⟩ = some v5 /\ w.cell? ⟨B, 6, none⟩ = some v6 := by
 refine ⟨?_, ?_, ?_, ?_, ?_, ?_, ?_⟩ <;> simp [World.cell?, h]
theorem one_b {w : World} {B : Nat} {v : Value} {t : TypeId} (h : w.heap[B]? = some (.cells #[v] t (0, 0))) : w.cell? ⟨B, 0, none⟩ = some v := by simp [World.cell?, h]
def nT (L : List C) (ps : List Pt) (r : Int) : Except Nat (T × Int) := if r = 0 then .error 1601 else bnd (tgo L ps 0) fun s => .ok (T.mk ⟨#[]⟩ ⟨s.toArray⟩ [] [], r - 1)
theorem text_no {K m lo : Nat} {w : World} {B Bb : Nat} {Pv : Value} {sv : Sz} {L : List C} {tv : Value} {F : List T} {num : Int} {t : ByteArray} {fv pv xv lv uv : Value} {ps : List Pt} (h : Wr K m w B Bb Pv sv 0 L) :
  Calls prog 69 #[ptr B, .agg #[.int .i64 1, .string t, fv, pv, xv, lv, uv], .int .i64 num] w fun e w' => ER (Rs K m B Bb sv L) lo B Bb Pv.ownBlock tv F w (nT L ps 0) e w' := by
 obtain ⟨W0, hW0, s0, b0, g1, g2, g3⟩ := boxes3 w #[ptr B] #[.int .i64 1, .string t, fv, pv, xv, lv, uv] #[.int .i64 num] 130 45 3
 have h0 := h.below b0
 have hlt := h.lt
 have q0 := one_b g1
 obtain ⟨d0, d1, d2, d3, d4, d5, d6⟩ := seven_b g2
 have n0 := one_b g3
 have cE := enter_no h0.box
 have HB0 := hid b0
 clear h0 h b0 g1 g2 g3
 go_enter func69, ntmps69
 go_wp2_with (first
  | (go_at_call 97; refine cE.mono ?_; rintro e W1 ⟨rfl, rfl⟩))
 refine ⟨rfl, rfl, fun n h1 h2 h3 h4 => HB0.out.mono (by omega), HB0.out.size, fun b h1 h2 h3 h4 h5 => HB0.out.block b h1⟩
theorem text_ok {K m lo : Nat} {w : World} {B Bb : Nat} {Pv : Value} {sv : Sz} {r : Int} {L : List C} {tv : Value} {F : List T} {num : Int} {t : ByteArray} {fv pv xv lv uv : Value} {ps : List Pt} (h : Wr K m w B Bb Pv sv r L) (hr : 0 < r /\ r <= 100000) (hb : Bt lo w Bb Pv.ownBlock tv F) (hBlo : B < lo) (hzl : sv.1 < lo) (hF : F.length <= 65536) (hp : RP false (fun b => b < K) w pv ps) (hg : ∀ j (h : j < ps.length), ps[j].b = true -> gd ps[j].e /\ ops okOp ps[j].e) :
  Calls prog 69 #[ptr B, .agg #[.int .i64 1, .string t, fv, pv, xv, lv, uv], .int .i64 num] w fun e w' => ER (Rs K m B Bb sv L) lo B Bb Pv.ownBlock tv F w (nT L ps r) e w' := by
 obtain ⟨pa, pc, rfl, hp2⟩ := hp
 have hp : RP false (fun b => b < K) w (.slice pa ps.length pc) ps := ⟨pa, pc, rfl, hp2⟩
 have e0 : nT L ps r = bnd (tgo L ps 0) fun s => .ok (T.mk ⟨#[]⟩ ⟨s.toArray⟩ [] [], r - 1) := if_neg (by omega)
 rw [e0]
 obtain ⟨W0, hW0, s0, b0, g1, g2, g3⟩ := boxes3 w #[ptr B] #[.int .i64 1, .string t, fv, (.slice pa ps.length pc), xv, lv, uv] #[.int .i64 num] 130 45 3
 have h0 := h.below b0
 have hlt := h.lt
 have q0 := one_b g1
 obtain ⟨d0, d1, d2, d3, d4, d5, d6⟩ := seven_b g2
 have n0 := one_b g3
 obtain ⟨W1, hW1⟩ : ∃ W, W0.setCell ⟨B, 3, none⟩ (.int .i64 (r - 1)) = W := ⟨_, rfl⟩
 have h1 := h0.room (r - 1) hW1
 have s1 : W1.heap.size = w.heap.size + 3 := by rw [<- hW1, World.size_setCell, s0]
 have o1 : ∀ b, b ≠ B -> W1.heap[b]? = W0.heap[b]? := fun b hb => by rw [<- hW1, Below.heap_setCell _ _ _ _ (by simpa using hb)]
 have HO1 : Hid (∀ b, b < w.heap.size -> b ≠ B -> W1.heap[b]? = w.heap[b]?) := fun b hl hb => (o1 b hb).trans (b0.block b hl)
 have HB1 : Hid (∀ n, n <= B -> Below n w W1) := fun n hn => by rw [<- hW1]; exact (b0.mono (by omega)).setCell (by simpa using hn) _
 have cE := enter_ok h0.box hr
 have G1 := hid ((o1 w.heap.size (by omega)).trans g1)
 have G2 := hid ((o1 (w.heap.size + 1) (by omega)).trans g2)
 have G3 := hid ((o1 (w.heap.size + 2) (by omega)).trans g3)
 have H1 := hid h1
 have HB := hid hb
 have hlo := hb.hi
 have p0 := one_b G1.out
 obtain ⟨-, e1, e2, e3, -, e5, -⟩ := seven_b G2.out
 have p1 := one_b G3.out
 obtain ⟨-, m1, -, -⟩ := wk_box h1.box
 have HP := hid hp
 have hpd : RP false (fun b => b < K) W1.drew (.slice pa ps.length pc) ps := KBase.RP.keep (w := w) (w' := W1.drew) (fun b hb hl => HO1.out b hl (by have := h1.lB; omega)) hp
 have ct := GTx.text_c (h1.bs.below ((Below.refl _ W1).drew)) hpd hg
 obtain ⟨U, hU⟩ : ∃ U, tgo L ps 0 = U := ⟨_, rfl⟩
 rw [hU] at ct
 rw [hU]
 have HL : Hid (∀ l, U = .ok l -> l.length <= 4096) := fun l e => by have := tgo_le ps 0 l (by omega) (hU.trans e); omega
 have cT := hid ct
 have hbl := (Array.getElem?_eq_some_iff.1 hb.box).1
 clear hU ct hpd
 clear h0 h b0 g1 g2 g3 hp hp2 hg e0 hb h1 o1 d1 d2 d4 d5 d6
 cases U with
 | error q =>
  go_enter func69, ntmps69
  go_wp2_with (first
   | (go_at_call 97; refine cE.mono ?_; rintro e W9 ⟨⟨v9, rfl⟩, rfl⟩; rw [hW1]))
  refine wp_region_held_drew (S := fun w' => w'.cell? ⟨w.heap.size, 0, none⟩ = some (ptr B) /\ w'.cell? ⟨B, 1, none⟩ = some (mkr Bb) /\ w'.cell? ⟨w.heap.size + 1, 3, none⟩ = some (.slice pa ps.length pc) /\ w'.cell? ⟨w.heap.size + 1 + 1, 0, none⟩ = some (.int .i64 num)) (by kernel_rfl) (by exact ⟨p0, m1, e3, p1⟩) (fun hHeld => ?_)
  refine tkH 0 rfl ?_; try simp only [ptH]
  refine tkH 1 rfl ?_; try simp only [ptH]
  refine tkH 2 rfl ?_; try simp only [ptH]
  refine tkH 3 rfl ?_; try simp only [ptH]
  refine tkH 4 rfl ?_; try simp only [ptH]
  refine tkH 5 rfl ?_; try simp only [ptH]
  refine tkH 6 rfl ?_; try simp only [ptH]
  refine tkH 7 rfl ?_; try simp only [ptH]
  refine tkH 9 rfl ?_; try simp only [ptH]
  refine tkH 10 rfl ?_; try simp only [ptH]
  refine rdH [8] ?_
  refine alH rfl fun K0 hK => ?_
  go_simp
  refine cT.out.mono ?_
  rintro ee W2 ⟨b2, hq⟩
  obtain rfl := hq
  have b2' : Below W1.heap.size W1 W2 := (Below.refl _ W1).drew.trans b2
  have s2 := b2'.size
  refine ⟨rfl, rfl, fun n h1 h2 h3 h4 => (HB1.out n h1).trans (b2'.mono (by omega)), by omega, fun b h1 h2 h3 h4 h5 => ?_⟩
  rw [b2'.block b (by omega), HO1.out b h1 h2]
 | ok sl =>
  have hsl := HL.out sl rfl
  go_enter func69, ntmps69
  go_wp2_with (first
   | (go_at_call 97; refine cE.mono ?_; rintro e W9 ⟨⟨v9, rfl⟩, rfl⟩; rw [hW1]))
  refine wp_region_held_drew (S := fun w' => w'.cell? ⟨w.heap.size, 0, none⟩ = some (ptr B) /\ w'.cell? ⟨B, 1, none⟩ = some (mkr Bb) /\ w'.cell? ⟨w.heap.size + 1, 3, none⟩ = some (.slice pa ps.length pc) /\ w'.cell? ⟨w.heap.size + 1 + 1, 0, none⟩ = some (.int .i64 num)) (by kernel_rfl) (by exact ⟨p0, m1, e3, p1⟩) (fun hHeld => ?_)
  refine tkH 0 rfl ?_; try simp only [ptH]
  refine tkH 1 rfl ?_; try simp only [ptH]
  refine tkH 2 rfl ?_; try simp only [ptH]
  refine tkH 3 rfl ?_; try simp only [ptH]
  refine tkH 4 rfl ?_; try simp only [ptH]
  refine tkH 5 rfl ?_; try simp only [ptH]
  refine tkH 6 rfl ?_; try simp only [ptH]
  refine tkH 7 rfl ?_; try simp only [ptH]
  refine tkH 9 rfl ?_; try simp only [ptH]
  refine tkH 10 rfl ?_; try simp only [ptH]
  refine rdH [8] ?_
  refine alH rfl fun K0 hK => ?_
  go_simp
  refine cT.out.mono ?_
  rintro ee W2 ⟨b2, hq⟩
  obtain rfl := hq
  have b2' : Below W1.heap.size W1 W2 := (Below.refl _ W1).drew.trans b2
  have s2 := b2'.size
  have H2 := hid (H1.out.below b2')
  have hob := bt_own HB.out
  have HT2 : Hid (Bt lo W2 Bb Pv.ownBlock tv F) := bt_keep HB.out (by omega) (by rw [b2'.block Bb (by omega), HO1.out Bb (by omega) (fun e => H1.out.ne e.symm)]) (fun b h1 h2 h3 => by rw [b2'.block b (by omega), HO1.out b h2 (by omega)])
  have D1 := hid ((b2'.block w.heap.size (by omega)).trans G1.out)
  have D2 := hid ((b2'.block (w.heap.size + 1) (by omega)).trans G2.out)
  have D3 := hid ((b2'.block (w.heap.size + 2) (by omega)).trans G3.out)
  have p0 := one_b D1.out
  obtain ⟨-, e1, e2, e3, -, e5, -⟩ := seven_b D2.out
  have p1 := one_b D3.out
  obtain ⟨-, m1, -, -⟩ := wk_box H2.out.box
  refine hK.out _ _ (by exact ⟨p0, m1, e3, p1⟩) (fun hHeld => ?_)
  clear hK K0
  try simp only [ptH]
  refine rdH [11] ?_
  refine alH rfl fun K0 hK => ?_
  go_simp
  rw [meth_t _ (by kernel_rfl)]
  go_simp
  refine (btext_c HT2.out (fun x e => (H2.out.xb x e).2.1) hF (by show sl.toArray.size <= _; simp; omega)).mono ?_
  rintro ee W3 ⟨⟨v8, rfl⟩, tv', hbt, hkb, hat⟩
  have s3 := hkb.size
  have oth : ∀ b, b < W2.heap.size -> b ≠ Bb -> (w.heap.size <= b \/ b = B) -> W3.heap[b]? = W2.heap[b]? := fun b h1 h2 h3 => hkb.other b h1 h2 (fun e => by have := hob b e.symm; omega)
  have D1c := hid ((oth w.heap.size (by omega) (by omega) (by omega)).trans D1.out)
  have D2c := hid ((oth (w.heap.size + 1) (by omega) (by omega) (by omega)).trans D2.out)
  have D3c := hid ((oth (w.heap.size + 2) (by omega) (by omega) (by omega)).trans D3.out)
  have DBc := hid ((oth B (by omega) H1.out.ne (by omega)).trans H2.out.box)
  have p0 := one_b D1c.out
  obtain ⟨-, e1, e2, e3, -, e5, -⟩ := seven_b D2c.out
  have p1 := one_b D3c.out
  obtain ⟨-, m1, -, -⟩ := wk_box DBc.out
  refine hK.out _ _ (by exact ⟨p0, m1, e3, p1⟩) (fun hHeld => ?_)
  clear hK K0
  try simp only [ptH]
  refine dnH ?_
  go_wp2_with fail
  go_end0
  refine ⟨⟨_, rfl⟩, ⟨fun n h1 h2 h3 h4 => ((HB1.out n h1).trans (b2'.mono (by omega))).trans (hkb.below n h2), by omega, fun b h1 h2 h3 h4 h5 => ?_⟩, Pv.ownBlock, tv', .inl rfl, fun x e => Nat.lt_of_lt_of_le (H2.out.xb x e).2.1 s3, Rs.keep (tv := tv) ⟨Pv, rfl, H2.out⟩ hBlo hzl (fun g hg => (hob g hg).1) (fun g hg => ⟨by have := (hob g hg).2.1; omega, (hob g hg).2.2⟩) s3 (fun n hn => hkb.below n hn) (fun b h1 h2 h3 => hkb.other b h1 h2 h3), hbt, hat.imp (fun e => e) (fun ⟨g, e, hg⟩ => ⟨g, e, by omega⟩)⟩
  rw [hkb.other b (by omega) h3 h5, b2'.block b (by omega), HO1.out b h1 h2]
end Go.Proofs.YtiijfmdfccdagaaGreatDoor.GNo
namespace Go.Proofs.YtiijfmdfccdagaaGreatDoor.GNe
open Tak
open Go.RowKit Base JPure JVr JVa GEn GAs GBu GBe GNs GNo
open VPure hiding evL
open TBase (T)
open KBase (Pt Fld Co RP RF)
def nE (L : List C) (t : ByteArray) (fs : List Fld) (kd : Except Nat (List T × Int)) (r : Int) : Except Nat (T × Int) := if r = 0 then .error 1601 else bnd (ats L fs) fun n => bnd kd fun a => .ok (T.mk t ⟨#[]⟩ n a.1, a.2)
theorem kid_c {W : World} {B b0 b1 b2 : Nat} {num k : Int} {t : ByteArray} {fv pv xv lv uv : Value} {R : Int -> World -> Option Nat -> Prop} {lo0 Bb : Nat} {X : Option Nat} {A : Except Nat (List T × Int)} {W' : World} (hn : 0 <= num /\ num <= 100000) (g1 : W.heap[b0]? = some (.cells #[ptr B] 130 (0, 0))) (g2 : W.heap[b1]? = some (.cells #[.int .i64 k, .string t, fv, pv, xv, lv, uv] 45 (0, 0))) (g3 : W.heap[b2]? = some (.cells #[.int .i64 num] 3 (0, 0)))
  (hk : Calls prog 48 #[ptr B, lv, .int .i64 (num + 1)] W fun e w' => KR R lo0 B Bb X W' A e w') : Calls prog 100 #[ptr b0, ptr b1, ptr b2] W fun e w' => KR R lo0 B Bb X W' A e w' := by
 have p0 := one_b g1
 obtain ⟨-, -, -, -, -, e5, -⟩ := seven_b g2
 have p1 := one_b g3
 have hw : IntKind.i64.wrap (num + 1) = num + 1 := by rw [IntKind.wrap_i64]; omega
 clear g1 g2 g3
 cases A with
 | error q =>
  go_enter func100, ntmps100
  go_wp2_with (first
   | (go_at_call 48; refine hk.mono ?_; rintro e w' ⟨rfl, hf⟩))
  exact ⟨rfl, rfl, hf⟩
 | ok a =>
  go_enter func100, ntmps100
  go_wp2_with (first
   | (go_at_call 48; refine hk.mono ?_; rintro e w' ⟨h1, ⟨v, rfl⟩, h2⟩))
  go_end0
  exact ⟨h1, ⟨_, rfl⟩, h2⟩
theorem own_ax {w : World} {B : Nat} {S : Nat -> Prop} {v : Value} {n : List (ByteArray × ByteArray)} (h : TBase.OwnA w B v n) (hS : ∀ g, v.ownBlock = some g -> S g) (hl : n.length <= 4096) (hs : ∀ t ∈ n, t.1.size <= 140737488351232 /\ t.2.size <= 140737488351232) : TBase.Ax false S w v n := by
 have h' := h
 rcases h'.2 with ⟨rfl, e⟩ | ⟨g, cap, cur, rfl, h2, h3, h4, h5, h6⟩
 ·obtain rfl : n = [] := List.eq_nil_of_length_eq_zero (by omega)
  exact ⟨none, 0, rfl, by simp, by omega, by simp, by simp, fun _ => rfl, .inl ⟨rfl, rfl⟩⟩
 ·exact ⟨some ⟨g, 0, none⟩, cap, rfl, h4, by unfold maxLen at h5; omega, by omega, hs, fun e => by simp at e, .inr ⟨g, 0, rfl, hS g rfl, fun j hj => TBase.ownA_cell h j hj, fun e => by cases e⟩⟩
theorem elem_no {K m lo : Nat} {w : World} {B Bb : Nat} {Pv : Value} {sv : Sz} {L : List C} {tv : Value} {F : List T} {num : Int} {t : ByteArray} {fv pv xv lv uv : Value} {fs : List Fld} {kd : Except Nat (List T × Int)} (h : Wr K m w B Bb Pv sv 0 L) :
  Calls prog 69 #[ptr B, .agg #[.int .i64 2, .string t, fv, pv, xv, lv, uv], .int .i64 num] w fun e w' => ER (Rs K m B Bb sv L) lo B Bb Pv.ownBlock tv F w (nE L t fs kd 0) e w' := by
 obtain ⟨W0, hW0, s0, b0, g1, g2, g3⟩ := boxes3 w #[ptr B] #[.int .i64 2, .string t, fv, pv, xv, lv, uv] #[.int .i64 num] 130 45 3
 have h0 := h.below b0
 have hlt := h.lt
 have q0 := one_b g1
 obtain ⟨d0, d1, d2, d3, d4, d5, d6⟩ := seven_b g2
 have n0 := one_b g3
 have cE := enter_no h0.box
 have HB0 := hid b0
 clear h0 h b0 g1 g2 g3
 go_enter func69, ntmps69
 go_wp2_with (first
  | (go_at_call 97; refine cE.mono ?_; rintro e W1 ⟨rfl, rfl⟩))
 refine ⟨rfl, rfl, fun n h1 h2 h3 h4 => HB0.out.mono (by omega), HB0.out.size, fun b h1 h2 h3 h4 h5 => HB0.out.block b h1⟩
theorem ownA_shape {w : World} {B : Nat} {v : Value} {n : List (ByteArray × ByteArray)} (h : TBase.OwnA w B v n) : ∃ a k c, v = .slice a k c := by
 rcases h.2 with ⟨rfl, e⟩ | ⟨g, cap, cur, rfl, h2, h3, h4, h5, h6⟩
 ·exact ⟨_, _, _, rfl⟩
 ·exact ⟨_, _, _, rfl⟩
theorem elem_ok {K m lo : Nat} {w : World} {B Bb : Nat} {Pv : Value} {sv : Sz} {r : Int} {L : List C} {tv : Value} {F : List T} {num : Int} {t : ByteArray} {fv pv xv lv uv : Value} {fs : List Fld} {kd : Except Nat (List T × Int)} (h : Wr K m w B Bb Pv sv r L) (hr : 0 < r /\ r <= 100000) (hb : Bt lo w Bb Pv.ownBlock tv F) (hBlo : B < lo) (hzl : sv.1 < lo) (hF : F.length <= 65536) (hn : 0 <= num /\ num <= 100000) (ht : t.size <= 140737488351232) (hf : RF false (fun b => b < K) w fv fs) (hg : ∀ j (h : j < fs.length), fs[j].b = true -> gd fs[j].e /\ ops okOp fs[j].e) (hfn : fs.length <= 4096)
  (hsz : ∀ n, ats L fs = .ok n -> n.length <= 4096 /\ ∀ t ∈ n, t.1.size <= 140737488351232 /\ t.2.size <= 140737488351232)
  (hN : ∀ W, Wr K m W B Bb Pv sv (r - 1) L -> Bt W.heap.size W Bb Pv.ownBlock (.slice none 0 0) [] -> Below K w W -> Calls prog 48 #[ptr B, lv, .int .i64 (num + 1)] W fun e w' => KR (Rs K m B Bb sv L) W.heap.size B Bb Pv.ownBlock W kd e w') :
  Calls prog 69 #[ptr B, .agg #[.int .i64 2, .string t, fv, pv, xv, lv, uv], .int .i64 num] w fun e w' => ER (Rs K m B Bb sv L) lo B Bb Pv.ownBlock tv F w (nE L t fs kd r) e w' := by
 obtain ⟨fa, fc, rfl, hf2⟩ := hf
 have hf : RF false (fun b => b < K) w (.slice fa fs.length fc) fs := ⟨fa, fc, rfl, hf2⟩
 have e0 : nE L t fs kd r = bnd (ats L fs) fun n => bnd kd fun a => .ok (T.mk t ⟨#[]⟩ n a.1, a.2) := if_neg (by omega)
 rw [e0]
 obtain ⟨W0, hW0, s0, b0, g1, g2, g3⟩ := boxes3 w #[ptr B] #[.int .i64 2, .string t, (.slice fa fs.length fc), pv, xv, lv, uv] #[.int .i64 num] 130 45 3
 have h0 := h.below b0
 have hlt := h.lt
 have q0 := one_b g1
 obtain ⟨d0, d1, d2, d3, d4, d5, d6⟩ := seven_b g2
 have n0 := one_b g3
 obtain ⟨W1, hW1⟩ : ∃ W, W0.setCell ⟨B, 3, none⟩ (.int .i64 (r - 1)) = W := ⟨_, rfl⟩
 have h1 := h0.room (r - 1) hW1
 have s1 : W1.heap.size = w.heap.size + 3 := by rw [<- hW1, World.size_setCell, s0]
 have o1 : ∀ b, b ≠ B -> W1.heap[b]? = W0.heap[b]? := fun b hb => by rw [<- hW1, Below.heap_setCell _ _ _ _ (by simpa using hb)]
 have HO1 : Hid (∀ b, b < w.heap.size -> b ≠ B -> W1.heap[b]? = w.heap[b]?) := fun b hl hb => (o1 b hb).trans (b0.block b hl)
 have HB1 : Hid (∀ n, n <= B -> Below n w W1) := fun n hn => by rw [<- hW1]; exact (b0.mono (by omega)).setCell (by simpa using hn) _
 have cE := enter_ok h0.box hr
 have G1 := hid ((o1 w.heap.size (by omega)).trans g1)
 have G2 := hid ((o1 (w.heap.size + 1) (by omega)).trans g2)
 have G3 := hid ((o1 (w.heap.size + 2) (by omega)).trans g3)
 have H1 := hid h1
 have HB := hid hb
 have hlo := hb.hi
 have p0 := one_b G1.out
 obtain ⟨-, e1, e2, e3, -, e5, -⟩ := seven_b G2.out
 have p1 := one_b G3.out
 obtain ⟨-, m1, -, -⟩ := wk_box h1.box
 have hfd : RF false (fun b => b < K) W1.drew (.slice fa fs.length fc) fs := KBase.RF.keep (w := w) (w' := W1.drew) (fun b hb hl => HO1.out b hl (by have := h1.lB; omega)) hf
 have ct := GAs.attrs_c (h1.bs.below ((Below.refl _ W1).drew)) hfd hg hfn
 obtain ⟨U, hU⟩ : ∃ U, ats L fs = U := ⟨_, rfl⟩
 rw [hU] at ct hsz
 rw [hU]
 have HSZ := hid hsz
 have HXL : Hid (∀ x, Pv.ownBlock = some x -> x < w.heap.size) := fun x e => (h.xb x e).2.1
 have HNN := hid hN
 have cT := hid ct
 have hbl := (Array.getElem?_eq_some_iff.1 hb.box).1
 clear hU ct hfd
 clear h0 h b0 g1 g2 g3 hf hf2 hg e0 hb h1 o1 d1 d2 d3 d4 d5 d6 hsz hN e3 e5
 cases U with
 | error q =>
  go_enter func69, ntmps69
  go_wp2_with (first
   | (go_at_call 97; refine cE.mono ?_; rintro e W9 ⟨⟨v9, rfl⟩, rfl⟩; rw [hW1]))
  refine wp_region_held_drew (S := fun w' => w'.cell? ⟨w.heap.size, 0, none⟩ = some (ptr B) /\ w'.cell? ⟨B, 1, none⟩ = some (mkr Bb) /\ w'.cell? ⟨w.heap.size + 1, 1, none⟩ = some (.string t) /\ w'.cell? ⟨w.heap.size + 1, 2, none⟩ = some (.slice fa fs.length fc) /\ w'.cell? ⟨w.heap.size + 1 + 1, 0, none⟩ = some (.int .i64 num)) (by kernel_rfl) (by exact ⟨p0, m1, e1, e2, p1⟩) (fun hHeld => ?_)
  refine tkH 0 rfl ?_; try simp only [ptH]
  refine tkH 1 rfl ?_; try simp only [ptH]
  refine tkH 2 rfl ?_; try simp only [ptH]
  refine tkH 3 rfl ?_; try simp only [ptH]
  refine tkH 4 rfl ?_; try simp only [ptH]
  refine tkH 5 rfl ?_; try simp only [ptH]
  refine tkH 6 rfl ?_; try simp only [ptH]
  refine tkH 7 rfl ?_; try simp only [ptH]
  refine tkH 8 rfl ?_; try simp only [ptH]
  refine tkH 9 rfl ?_; try simp only [ptH]
  refine tkH 11 rfl ?_; try simp only [ptH]
  refine tkH 12 rfl ?_; try simp only [ptH]
  refine tkH 13 rfl ?_; try simp only [ptH]
  refine rdH [10] ?_
  refine alH rfl fun K0 hK => ?_
  go_simp
  refine cT.out.mono ?_
  rintro ee W2 ⟨b2, hq⟩
  obtain rfl := hq
  have b2' : Below W1.heap.size W1 W2 := (Below.refl _ W1).drew.trans b2
  have s2 := b2'.size
  refine ⟨rfl, rfl, fun n h1 h2 h3 h4 => (HB1.out n h1).trans (b2'.mono (by omega)), by omega, fun b h1 h2 h3 h4 h5 => ?_⟩
  rw [b2'.block b (by omega), HO1.out b h1 h2]
 | ok n =>
  have HN := hid (HSZ.out n rfl)
  go_enter func69, ntmps69
  go_wp2_with (first
   | (go_at_call 97; refine cE.mono ?_; rintro e W9 ⟨⟨v9, rfl⟩, rfl⟩; rw [hW1]))
  refine wp_region_held_drew (S := fun w' => w'.cell? ⟨w.heap.size, 0, none⟩ = some (ptr B) /\ w'.cell? ⟨B, 1, none⟩ = some (mkr Bb) /\ w'.cell? ⟨w.heap.size + 1, 1, none⟩ = some (.string t) /\ w'.cell? ⟨w.heap.size + 1, 2, none⟩ = some (.slice fa fs.length fc) /\ w'.cell? ⟨w.heap.size + 1 + 1, 0, none⟩ = some (.int .i64 num)) (by kernel_rfl) (by exact ⟨p0, m1, e1, e2, p1⟩) (fun hHeld => ?_)
  refine tkH 0 rfl ?_; try simp only [ptH]
  refine tkH 1 rfl ?_; try simp only [ptH]
  refine tkH 2 rfl ?_; try simp only [ptH]
  refine tkH 3 rfl ?_; try simp only [ptH]
  refine tkH 4 rfl ?_; try simp only [ptH]
  refine tkH 5 rfl ?_; try simp only [ptH]
  refine tkH 6 rfl ?_; try simp only [ptH]
  refine tkH 7 rfl ?_; try simp only [ptH]
  refine tkH 8 rfl ?_; try simp only [ptH]
  refine tkH 9 rfl ?_; try simp only [ptH]
  refine tkH 11 rfl ?_; try simp only [ptH]
  refine tkH 12 rfl ?_; try simp only [ptH]
  refine tkH 13 rfl ?_; try simp only [ptH]
  refine rdH [10] ?_
  refine alH rfl fun K0 hK => ?_
  go_simp
  refine cT.out.mono ?_
  rintro ee W2 ⟨b2, av, rfl, hav⟩
  obtain ⟨aa, an, ac, rfl⟩ := ownA_shape hav
  have b2' : Below W1.heap.size W1 W2 := (Below.refl _ W1).drew.trans b2
  have s2 := b2'.size
  have H2 := hid (H1.out.below b2')
  have hob := bt_own HB.out
  have HT2 : Hid (Bt lo W2 Bb Pv.ownBlock tv F) := bt_keep HB.out (by omega) (by rw [b2'.block Bb (by omega), HO1.out Bb (by omega) (fun e => H1.out.ne e.symm)]) (fun b h1 h2 h3 => by rw [b2'.block b (by omega), HO1.out b h2 (by omega)])
  have D1 := hid ((b2'.block w.heap.size (by omega)).trans G1.out)
  have D2 := hid ((b2'.block (w.heap.size + 1) (by omega)).trans G2.out)
  have D3 := hid ((b2'.block (w.heap.size + 2) (by omega)).trans G3.out)
  have HAX : Hid (TBase.Ax false (Es lo W2.heap.size Pv.ownBlock tv) W2 (.slice aa an ac) n) := own_ax hav (fun g hg => by have := World.ownsRow.lt hav g hg; exact ⟨by simp at this; omega, this.2, fun e => by have := (H1.out.xb g e.symm).2.1; simp at *; omega, fun e => by have := (hob g e).2.1; simp at *; omega⟩) HN.out.1 HN.out.2
  clear hav
  have p0 := one_b D1.out
  obtain ⟨-, e1, e2, e3, -, e5, -⟩ := seven_b D2.out
  have p1 := one_b D3.out
  obtain ⟨-, m1, -, -⟩ := wk_box H2.out.box
  refine hK.out _ _ (by exact ⟨p0, m1, e1, e2, p1⟩) (fun hHeld => ?_)
  clear hK K0
  try simp only [ptH]
  refine rdH [14] ?_
  refine alH rfl fun K0 hK => ?_
  go_simp
  rw [meth_e _ (by kernel_rfl)]
  go_simp
  obtain ⟨V, hV⟩ : ∃ V, W2.setCell ⟨Bb, 0, none⟩ (.slice none 0 0) = V := ⟨_, rfl⟩
  have sV : V.heap.size = W2.heap.size := by rw [<- hV, World.size_setCell]
  have oV : ∀ b, b ≠ Bb -> V.heap[b]? = W2.heap[b]? := fun b hb => by rw [<- hV, Below.heap_setCell _ _ _ _ (by simpa using hb)]
  have bV : ∀ n, n <= Bb -> Below n W2 V := fun n hn => by rw [<- hV]; exact (Below.refl n W2).setCell (by simpa using hn) _
  have hKB := H2.out.lb
  have hKW := H2.out.lB
  have hWV : Wr K m V B Bb Pv sv (r - 1) L := H2.out.keep (by omega) (bV K hKB) (oV B H2.out.ne) (fun b hl e => oV b (H2.out.xb b e).2.2.2) (oV _ H2.out.zb.2.2.1)
  have hBV : Bt V.heap.size V Bb Pv.ownBlock (.slice none 0 0) [] := ⟨by rw [<- hV]; exact TBase.block_set HT2.out.box _, by omega, Nat.le_refl _, (fun g e => by cases e), [], ⟨World.ownsRow_nil _ _ _ _, (fun u hu => by cases hu)⟩, rfl, (fun j h => by cases h)⟩
  have hNV := HNN.out V hWV hBV (((HB1.out K hKW).trans (b2'.mono (by omega))).trans (bV K hKB))
  rw [sV] at hNV
  have hkv := kid_c hn ((oV w.heap.size (by omega)).trans D1.out) ((oV (w.heap.size + 1) (by omega)).trans D2.out) ((oV (w.heap.size + 2) (by omega)).trans D3.out) hNV
  have hR : ∀ q W W' X', Rs K m B Bb sv L q W X' -> (∀ g, tv.ownBlock = some g -> g < W.heap.size /\ some g ≠ X') -> W.heap.size <= W'.heap.size -> (∀ n, n <= Bb -> Below n W W') -> (∀ b, b < W.heap.size -> b ≠ Bb -> some b ≠ tv.ownBlock -> W'.heap[b]? = W.heap[b]?) -> Rs K m B Bb sv L q W' X' := fun q W W' X' h1 h2 h3 h4 h5 => Rs.keep (tv := tv) h1 hBlo hzl (fun g hg => (hob g hg).1) h2 h3 h4 h5
  rw [<- hV] at hkv
  have ce := elem_c (num := num) hR HT2.out (fun x e => (H2.out.xb x e).2.1) hBlo hF ht HAX.out hkv
  refine ce.mono ?_
  clear ce hkv hNV hBV hWV
  cases kd with
  | error q =>
   rintro ee W3 ⟨rfl, hfm⟩
   refine ⟨rfl, rfl, fun n h1 h2 h3 h4 => ((HB1.out n h1).trans (b2'.mono (by omega))).trans (hfm.below n h1 h2 h3 h4), by have := hfm.size; omega, fun b h1 h2 h3 h4 h5 => ?_⟩
   rw [hfm.other b (by omega) h2 h3 h4 h5, b2'.block b (by omega), HO1.out b h1 h2]
  | ok ak =>
   rintro ee W3 ⟨⟨v8, rfl⟩, hfm, X', tv', hx1, hx2, hrs, hbt, hat⟩
   have s3 := hfm.size
   have oth : ∀ b, b < W2.heap.size -> b ≠ Bb -> b ≠ B -> w.heap.size <= b -> W3.heap[b]? = W2.heap[b]? := fun b h1 h2 h3 h4 => hfm.other b h1 h3 h2 (fun e => by have := (H1.out.xb b e.symm).2.1; have := HXL.out b e.symm; omega) (fun e => by have := hob b e.symm; omega)
   have D1c := hid ((oth w.heap.size (by omega) (by omega) (by omega) (by omega)).trans D1.out)
   have D2c := hid ((oth (w.heap.size + 1) (by omega) (by omega) (by omega) (by omega)).trans D2.out)
   have D3c := hid ((oth (w.heap.size + 2) (by omega) (by omega) (by omega) (by omega)).trans D3.out)
   obtain ⟨Pv', hPX, hwr⟩ := hrs
   have p0 := one_b D1c.out
   obtain ⟨-, e1, e2, e3, -, e5, -⟩ := seven_b D2c.out
   have p1 := one_b D3c.out
   obtain ⟨-, m1, -, -⟩ := wk_box hwr.box
   refine hK.out _ _ (by exact ⟨p0, m1, e1, e2, p1⟩) (fun hHeld => ?_)
   clear hK K0
   try simp only [ptH]
   refine dnH ?_
   go_wp2_with fail
   go_end0
   refine ⟨⟨_, rfl⟩, ⟨fun n h1 h2 h3 h4 => ((HB1.out n h1).trans (b2'.mono (by omega))).trans (hfm.below n h1 h2 h3 h4), by omega, fun b h1 h2 h3 h4 h5 => ?_⟩, X', tv', hx1.imp (fun e => e) (fun ⟨x, e, hx⟩ => ⟨x, e, by omega⟩), hx2, ⟨Pv', hPX, hwr⟩, hbt, hat.imp (fun e => e) (fun ⟨g, e, hg⟩ => ⟨g, e, by omega⟩)⟩
   rw [hfm.other b (by omega) h2 h3 h4 h5, b2'.block b (by omega), HO1.out b h1 h2]
end Go.Proofs.YtiijfmdfccdagaaGreatDoor.GNe

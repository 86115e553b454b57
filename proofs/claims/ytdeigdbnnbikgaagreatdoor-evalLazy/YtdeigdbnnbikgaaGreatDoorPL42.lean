import Derived.LoopN
import Derived.LoopTactic
import Derived.Test.YtdeigdbnnbikgaaGreatDoorPL04
import Derived.Test.YtdeigdbnnbikgaaGreatDoorPL39
import Derived.Test.YtdeigdbnnbikgaaGreatDoorPL41
set_option linter.unusedVariables false
namespace Go.Proofs.YtdeigdbnnbikgaaGreatDoor.VLz
open Go.RowKit Base EPure VPure VMp VNo VVa VEv VEa
open PMay (mayL mayL_nil mayL_one mayL_no mayL_cons mayL_le)
open PFit (ft)
open PPl (kd)
def nE : Ex := .mk 2 0 ⟨#[]⟩ []
def yE : Ex := .mk 3 0 ⟨#[]⟩ []
def bothE (x : Ex) : Ex := .mk 29 0 ⟨#[]⟩ [nE, x]
def anyE (x : Ex) : Ex := .mk 30 0 ⟨#[]⟩ [yE, x]
def fstE (x : Ex) : Ex := .mk 31 0 ⟨#[]⟩ [yE, yE, x]
def sndE (x : Ex) : Ex := .mk 31 0 ⟨#[]⟩ [nE, x, yE]
def samE (x : Ex) : Ex := .mk 31 0 ⟨#[]⟩ [yE, x, nE]
theorem mayL_go {o i : Int} {s : ByteArray} {kk t : List Ex} {R R1 : Nat} (hc : ¬ (R = 0 ∨ (kk.length : Int) ≠ kd o ∨ ft o i s = false)) (h : mayL kk (R - 1) = (true, R1)) : mayL (.mk o i s kk :: t) R = mayL t R1 := by rw [mayL, if_neg hc, h]
theorem mayL_stop {o i : Int} {s : ByteArray} {kk t : List Ex} {R R1 : Nat} (hc : ¬ (R = 0 ∨ (kk.length : Int) ≠ kd o ∨ ft o i s = false)) (h : mayL kk (R - 1) = (false, R1)) : mayL (.mk o i s kk :: t) R = (false, R1) := by rw [mayL, if_neg hc, h]
theorem mayL_less : ∀ (n : Nat) (l : List Ex) (R R2 : Nat), SizeOf.sizeOf l ≤ n → mayL l R = (true, R2) → ∀ k, k ≤ R → (k ≤ R2 → mayL l (R - k) = (true, R2 - k)) ∧ (R2 < k → (mayL l (R - k)).1 = false) := by
 intro n
 induction n with
 | zero =>
  intro l R R2 h
  cases l with
  | nil => intro e k hk; rw [mayL_nil] at e ⊢; injection e with _ e; subst e; exact ⟨fun _ => rfl, fun h => by omega⟩
  | cons x t => exact absurd h (by simp)
 | succ n ih =>
  intro l R R2 h ht k hk
  cases l with
  | nil => rw [mayL_nil] at ht ⊢; injection ht with _ e; subst e; exact ⟨fun _ => rfl, fun h => by omega⟩
  | cons x t =>
   obtain ⟨o, i, s, kk⟩ := x
   by_cases hc : R = 0 ∨ (kk.length : Int) ≠ kd o ∨ ft o i s = false
   ·rw [mayL, if_pos hc] at ht; injection ht with ht _; cases ht
   ·have hR0 : R ≠ 0 := fun h => hc (.inl h)
    have hl1 := mayL_le _ kk (R - 1) (Nat.le_refl _)
    cases hk1 : mayL kk (R - 1) with
    | mk b R1 =>
     rw [hk1] at hl1
     have hl1 : R1 ≤ R - 1 := hl1
     cases b with
     | false => rw [mayL_stop hc hk1] at ht; injection ht with ht _; cases ht
     | true =>
      rw [mayL_go hc hk1] at ht
      have hl2 := mayL_le _ t R1 (Nat.le_refl _)
      rw [ht] at hl2
      have hl2 : R2 ≤ R1 := hl2
      have ihk := ih kk (R - 1) R1 (by simp at h; omega) hk1
      have iht := ih t R1 R2 (by simp at h; omega) ht
      by_cases hRk : R - k = 0
      ·have e2 : mayL (.mk o i s kk :: t) (R - k) = (false, R - k) := by rw [mayL, if_pos (.inl hRk)]
       rw [e2]
       exact ⟨fun h => by omega, fun _ => rfl⟩
      ·have hc2 : ¬ (R - k = 0 ∨ (kk.length : Int) ≠ kd o ∨ ft o i s = false) := fun h => h.elim hRk fun h => hc (.inr h)
       obtain ⟨ik1, ik2⟩ := ihk k (by omega)
       rw [show R - 1 - k = R - k - 1 from by omega] at ik1 ik2
       by_cases hkR : k ≤ R1
       ·rw [mayL_go hc2 (ik1 hkR)]
        exact iht k hkR
       ·have hf := ik2 (by omega)
        cases hk2 : mayL kk (R - k - 1) with
        | mk b2 R3 =>
         rw [hk2] at hf
         have hf : b2 = false := hf
         subst hf
         rw [mayL_stop hc2 hk2]
         exact ⟨fun h => by omega, fun _ => rfl⟩
theorem f2 : ft 2 0 ⟨#[]⟩ = true := by decide
theorem f3 : ft 3 0 ⟨#[]⟩ = true := by decide
theorem f29 : ft 29 0 ⟨#[]⟩ = true := by decide
theorem f30 : ft 30 0 ⟨#[]⟩ = true := by decide
theorem f31 : ft 31 0 ⟨#[]⟩ = true := by decide
theorem k2 : kd 2 = 0 := by decide
theorem k3 : kd 3 = 0 := by decide
theorem k29 : kd 29 = 2 := by decide
theorem k30 : kd 30 = 2 := by decide
theorem k31 : kd 31 = 3 := by decide
theorem leaf2 {r : Nat} (t : List Ex) (h : r ≠ 0) : mayL (nE :: t) r = mayL t (r - 1) := by
 rw [nE, mayL, if_neg (by simp [h, k2, f2]), mayL_nil]
theorem leaf3 {r : Nat} (t : List Ex) (h : r ≠ 0) : mayL (yE :: t) r = mayL t (r - 1) := by
 rw [yE, mayL, if_neg (by simp [h, k3, f3]), mayL_nil]
theorem may_both (x : Ex) : may (bothE x) = (mayL [x] 510).1 := by
 unfold may bothE
 rw [mayL_one (by simp [k29, f29]), leaf2 _ (by omega)]
theorem may_any (x : Ex) : may (anyE x) = (mayL [x] 510).1 := by
 unfold may anyE
 rw [mayL_one (by simp [k30, f30]), leaf3 _ (by omega)]
theorem may_fst (x : Ex) : may (fstE x) = (mayL [x] 509).1 := by
 unfold may fstE
 rw [mayL_one (by simp [k31, f31]), leaf3 _ (by omega), leaf3 _ (by omega)]
theorem may_snd (x : Ex) : may (sndE x) = (mayL [x, yE] 510).1 := by
 unfold may sndE
 rw [mayL_one (by simp [k31, f31]), leaf2 _ (by omega)]
theorem may_sam (x : Ex) : may (samE x) = (mayL [x, nE] 510).1 := by
 unfold may samE
 rw [mayL_one (by simp [k31, f31]), leaf3 _ (by omega)]
theorem ev_no (ρ : ByteArray → Option C) : ev ρ nE = .ok (booC false) := by simp [ev, nE, Ex.o, node]
theorem ev_yes (ρ : ByteArray → Option C) : ev ρ yE = .ok (booC true) := by simp [ev, yE, Ex.o, node]
theorem ev_both (ρ : ByteArray → Option C) (x : Ex) : ev ρ (bothE x) = .ok (booC false) := by
 show node ρ 29 0 ⟨#[]⟩ (evL ρ [nE, x]) = _
 rw [evL_cons, ev_no]
 simp [node, bnd, isT, booC, C.k, C.b]
theorem ev_any (ρ : ByteArray → Option C) (x : Ex) : ev ρ (anyE x) = .ok (booC true) := by
 show node ρ 30 0 ⟨#[]⟩ (evL ρ [yE, x]) = _
 rw [evL_cons, ev_yes]
 simp [node, bnd, isT, booC, C.k, C.b]
theorem ev_fst (ρ : ByteArray → Option C) (x : Ex) : ev ρ (fstE x) = .ok (booC true) := by
 show node ρ 31 0 ⟨#[]⟩ (evL ρ [yE, yE, x]) = _
 rw [evL_cons, evL_cons, ev_yes]
 simp [node, bnd, isT, booC, C.k, C.b]
theorem ev_snd (ρ : ByteArray → Option C) (x : Ex) : ev ρ (sndE x) = .ok (booC true) := by
 show node ρ 31 0 ⟨#[]⟩ (evL ρ [nE, x, yE]) = _
 rw [evL_cons, evL_cons, evL_cons, ev_yes, ev_no]
 simp [node, bnd, isT, booC, C.k, C.b]
theorem ev_sam (ρ : ByteArray → Option C) (x : Ex) : ev ρ (samE x) = ev ρ x := by
 show node ρ 31 0 ⟨#[]⟩ (evL ρ [yE, x, nE]) = _
 rw [evL_cons, evL_cons, ev_yes]
 simp [node, bnd, isT, booC, C.k, C.b]
/-- With room for three more, for two, for fewer. -/
theorem ways {bs : List Bn} {x : Ex} (hm : may x = true) (hb : bad bs = false) :
  (evA bs (bothE x) = .ok (booC false) ∧ evA bs (anyE x) = .ok (booC true) ∧ evA bs (fstE x) = .ok (booC true) ∧ evA bs (sndE x) = .ok (booC true) ∧ evA bs (samE x) = evA bs x) ∨
  (evA bs (bothE x) = .ok (booC false) ∧ evA bs (anyE x) = .ok (booC true) ∧ evA bs (fstE x) = .error 1108) ∨
  (evA bs (bothE x) = .error 1108 ∧ evA bs (anyE x) = .error 1108) := by
 have hx : evA bs x = ev (rho bs) x := if_pos ⟨hm, hb⟩
 have yes : ∀ {y : Ex}, may y = true → evA bs y = ev (rho bs) y := fun h => if_pos ⟨h, hb⟩
 have no : ∀ {y : Ex}, may y = false → evA bs y = .error 1108 := fun h => if_neg (by simp [h])
 obtain ⟨r, hr⟩ : ∃ r, mayL [x] 512 = (true, r) := ⟨(mayL [x] 512).2, by
  have : (mayL [x] 512).1 = true := hm
  rw [← this]⟩
 have h2 := mayL_less _ [x] 512 r (Nat.le_refl _) hr 2 (by omega)
 have h3 := mayL_less _ [x] 512 r (Nat.le_refl _) hr 3 (by omega)
 simp only [show 512 - 2 = 510 from rfl, show 512 - 3 = 509 from rfl] at h2 h3
 by_cases c3 : 3 ≤ r
 ·left
  have e2 := h2.1 (by omega)
  have e3 := h3.1 c3
  have s1 : may (sndE x) = true := by rw [may_snd, mayL_cons, e2, if_pos rfl, leaf3 _ (by simp; omega), mayL_nil]
  have s2 : may (samE x) = true := by rw [may_sam, mayL_cons, e2, if_pos rfl, leaf2 _ (by simp; omega), mayL_nil]
  refine ⟨(yes (by rw [may_both, e2])).trans (ev_both _ _), (yes (by rw [may_any, e2])).trans (ev_any _ _), (yes (by rw [may_fst, e3])).trans (ev_fst _ _), (yes s1).trans (ev_snd _ _), ?_⟩
  rw [yes s2, hx, ev_sam]
 ·right
  by_cases c2 : 2 ≤ r
  ·left
   have e2 := h2.1 c2
   exact ⟨(yes (by rw [may_both, e2])).trans (ev_both _ _), (yes (by rw [may_any, e2])).trans (ev_any _ _), no (by rw [may_fst]; exact h3.2 (by omega))⟩
  ·right
   have e2 := h2.2 (by omega)
   exact ⟨no (by rw [may_both, e2]), no (by rw [may_any, e2])⟩
/-- A node of two, of three kids in a row of its own. -/
theorem in2 {S : Nat → Prop} {W : World} {G n : Nat} {o : Int} {T : TypeId} {u0 u1 u2 u3 y0 y1 y2 y3 : Value} {x y : Ex} (hG : S G) (ho : -9223372036854775808 ≤ o ∧ o ≤ 9223372036854775807) (h : W.heap[G]? = some (.cells #[u0, u1, u2, u3, y0, y1, y2, y3] T (0, 0)))
  (hx : XBase.In false S W n (.agg #[u0, u1, u2, u3]) x) (hy : XBase.In false S W n (.agg #[y0, y1, y2, y3]) y) : XBase.In false S W (n + 1) (.agg #[.int .i64 o, .int .i64 0, .string ⟨#[]⟩, .slice (some ⟨G, 0, none⟩) 2 2]) (.mk o 0 ⟨#[]⟩ [x, y]) := by
 rw [XBase.in_iff]
 refine ⟨_, rfl, ho, by omega, by decide, some ⟨G, 0, none⟩, 2, rfl, by simp, by omega, by simp, (fun h => by cases h), .inr ⟨G, 0, rfl, hG, fun j hj => ?_, fun h => by cases h⟩⟩
 have hc : ∀ q, q < 8 → W.cell? ⟨G, q, none⟩ = (#[u0, u1, u2, u3, y0, y1, y2, y3] : Array Value)[q]? := fun q hq => by simp [World.cell?, h]
 have : j = 0 ∨ j = 1 := by simp at hj; omega
 rcases this with rfl | rfl
 ·exact ⟨_, ⟨u0, u1, u2, u3, rfl, hc 0 (by decide), hc 1 (by decide), hc 2 (by decide), hc 3 (by decide)⟩, hx⟩
 ·exact ⟨_, ⟨y0, y1, y2, y3, rfl, hc 4 (by decide), hc 5 (by decide), hc 6 (by decide), hc 7 (by decide)⟩, hy⟩
theorem in3 {S : Nat → Prop} {W : World} {G n : Nat} {o : Int} {T : TypeId} {u0 u1 u2 u3 y0 y1 y2 y3 z0 z1 z2 z3 : Value} {x y z : Ex} (hG : S G) (ho : -9223372036854775808 ≤ o ∧ o ≤ 9223372036854775807) (h : W.heap[G]? = some (.cells #[u0, u1, u2, u3, y0, y1, y2, y3, z0, z1, z2, z3] T (0, 0)))
  (hx : XBase.In false S W n (.agg #[u0, u1, u2, u3]) x) (hy : XBase.In false S W n (.agg #[y0, y1, y2, y3]) y) (hz : XBase.In false S W n (.agg #[z0, z1, z2, z3]) z) : XBase.In false S W (n + 1) (.agg #[.int .i64 o, .int .i64 0, .string ⟨#[]⟩, .slice (some ⟨G, 0, none⟩) 3 3]) (.mk o 0 ⟨#[]⟩ [x, y, z]) := by
 rw [XBase.in_iff]
 refine ⟨_, rfl, ho, by omega, by decide, some ⟨G, 0, none⟩, 3, rfl, by simp, by omega, by simp, (fun h => by cases h), .inr ⟨G, 0, rfl, hG, fun j hj => ?_, fun h => by cases h⟩⟩
 have hc : ∀ q, q < 12 → W.cell? ⟨G, q, none⟩ = (#[u0, u1, u2, u3, y0, y1, y2, y3, z0, z1, z2, z3] : Array Value)[q]? := fun q hq => by simp [World.cell?, h]
 have : j = 0 ∨ j = 1 ∨ j = 2 := by simp at hj; omega
 rcases this with rfl | rfl | rfl
 ·exact ⟨_, ⟨u0, u1, u2, u3, rfl, hc 0 (by decide), hc 1 (by decide), hc 2 (by decide), hc 3 (by decide)⟩, hx⟩
 ·exact ⟨_, ⟨y0, y1, y2, y3, rfl, hc 4 (by decide), hc 5 (by decide), hc 6 (by decide), hc 7 (by decide)⟩, hy⟩
 ·exact ⟨_, ⟨z0, z1, z2, z3, rfl, hc 8 (by decide), hc 9 (by decide), hc 10 (by decide), hc 11 (by decide)⟩, hz⟩
end Go.Proofs.YtdeigdbnnbikgaaGreatDoor.VLz
namespace Go.Proofs.YtdeigdbnnbikgaaGreatDoor.VSh
open Go.RowKit Base EPure VPure VSm VRs VVr VMp
set_option maxRecDepth 20000 in
set_option maxHeartbeats 3200000 in
theorem shallow_c {m n : Nat} {w : World} {o i : Int} {s : ByteArray} {lv v : Value} {x : Ex} {bs : List Bn} (hin : XBase.In false All w n (xv o i s lv) x) (hv : Bl w.heap.size (m + 1) w v bs) :
  Calls Tryz.prog 9 #[xv o i s lv, v] w fun e w' => (∃ b, e = .returned (.bool b) ∧ (b = true → ∀ c ∈ bs, Shallow.dep c.2 ≤ 4096)) ∧ Below w.heap.size w w' := by
 obtain ⟨va, vc, rfl, hvl, hvm, -, -, -, hB⟩ := hv
 obtain ⟨W0, hW0⟩ : ∃ W0, w.alloc (.cells #[.int .i64 o, .int .i64 i, .string s, lv] 24) = W0 := ⟨_, rfl⟩
 have b0 : Below w.heap.size w W0 := by rw [← hW0]; exact (Below.refl _ w).alloc (Nat.le_refl _) _
 have hs0 : W0.heap.size = w.heap.size + 1 := by rw [← hW0]; simp
 have q0 : W0.heap[w.heap.size]? = some (.cells #[.int .i64 o, .int .i64 i, .string s, lv] 24 (0, 0)) := by rw [← hW0]; exact heap_alloc_new w _
 have HB0 : Hid (Below w.heap.size w W0) := b0
 have HQ0 : Hid (W0.heap[w.heap.size]? = some (.cells #[.int .i64 o, .int .i64 i, .string s, lv] 24 (0, 0))) := q0
 have HIN : Hid (XBase.In false All w n (xv o i s lv) x) := hin
 have HBB : Hid _ := hB
 have HS0 : Hid (W0.heap.size = w.heap.size + 1) := hs0
 clear hin hB b0 q0 hs0
 go_enter Tryz.func9, Tryz.ntmps9
 go_wp2_with fail
 try rw [hW0]
 clear hW0
 go_loopw [5] (fun i' wr => ∃ q : Nat, q ≤ bs.length ∧ i' = .int .i64 q ∧ Below W0.heap.size W0 wr ∧ ∀ j (h : j < bs.length), j < q → Shallow.dep bs[j].2 ≤ 4096) (fun i' _ => bs.length - (intOf i').toNat)
 case atStart => exact ⟨0, by omega, rfl, Below.refl _ _, fun j h h' => by omega⟩
 case round =>
  obtain ⟨q, hq, rfl, hb, hall⟩ := hrel
  have HA : Hid (∀ j (h : j < bs.length), j < q → Shallow.dep bs[j].2 ≤ 4096) := hall
  have hsb := hb.size
  have hs0 := HS0.out
  have HBW : Hid (Below w.heap.size w wr) := HB0.out.trans (hb.mono HB0.out.size)
  have HBX : Hid (Below W0.heap.size W0 wr) := hb
  have hq0 := (hb.block w.heap.size (by omega)).trans HQ0.out
  obtain ⟨y0, y1, y2, y3⟩ := XBase.four_box hq0
  clear hall hb hq0
  by_cases hlt : q < bs.length
  ·have d0 : decide ((q : Int) < (bs.length : Int)) = true := by simp; omega
   rcases HBB.out with h | ⟨g, oo, rfl, hg, hc⟩
   ·rw [h] at hlt; simp at hlt
   obtain ⟨an, ln, cn, al, ll, cl, c0, c1, c2, c3, c4, c5, c6, hI⟩ := hc q hlt
   obtain ⟨B, hBq⟩ : ∃ B, bs[q] = B := ⟨_, rfl⟩
   rw [hBq] at c1 c2 c3 c4 hI
   have kw : ∀ (z : Nat) (u : Value), w.cell? ⟨g, z, none⟩ = some u → wr.cell? ⟨g, z, none⟩ = some u := fun z u h => (World.cell?_of_block (w := w) (HBW.out.block g hg)).trans h
   have k1 := kw _ _ c1
   have k2 := kw _ _ c2
   have k3 := kw _ _ c3
   have k4 := kw _ _ c4
   have k5 := kw _ _ c5
   have k6 := kw _ _ c6
   have hI2 : In false All wr (m + 1) (vl B.2.k B.2.b B.2.i B.2.s (.slice an ln cn) (.slice al ll cl)) B.2 := (hI.weak (S' := All) (fun _ _ => trivial) false id _ (Nat.le_refl _)).below HBW.out
   have cS := Shallow.shallow_c _ _ _ wr hI2
   have HBq : Hid (bs[q] = B) := hBq
   obtain ⟨D, hD⟩ : ∃ D, Shallow.dep B.2 = D := ⟨_, rfl⟩
   rw [hD] at cS
   have HD : Hid (Shallow.dep B.2 = D) := hD
   have hcap : bs.length ≤ vc := hvl
   generalize B.2.k = bk at *
   generalize B.2.b = bb at *
   generalize B.2.i = bi at *
   generalize B.2.s = bss at *
   clear hI hI2 hBq hD c0 c1 c2 c3 c4 c5 c6 kw hc
   by_cases h4 : D ≤ 4096
   ·have e4 : decide (D ≤ 4096) = true := decide_eq_true h4
    rw [e4] at cS
    go_wp2_with (first | (go_at_call 25; refine cS.mono ?_; rintro e W2 ⟨rfl, hb2⟩))
    have HB2 : Hid (Below W0.heap.size W0 W2) := HBX.out.trans (hb2.mono hsb)
    clear hb2
    go_roundw
    case rel =>
     refine ⟨q + 1, by omega, by go_num, HB2.out, fun j hj hjq => ?_⟩
     by_cases ej : j = q
     ·subst ej; rw [HBq.out, HD.out]; exact h4
     ·exact HA.out j hj (by omega)
    case measure => simp only [intOf]; omega
   ·have e4 : decide (D ≤ 4096) = false := decide_eq_false h4
    rw [e4] at cS
    go_wp2_with (first | (go_at_call 25; refine cS.mono ?_; rintro e W2 ⟨rfl, hb2⟩))
    go_ret
    exact ⟨⟨false, rfl, fun h => by cases h⟩, HBW.out.trans (hb2.mono HBW.out.size)⟩
  ·have d0 : decide ((q : Int) < (bs.length : Int)) = false := by simp; omega
   have cX := XSh.shallow_c (HIN.out.below HBW.out)
   go_wp2_with (first | (go_at_call 20; refine cX.mono ?_; rintro e W2 ⟨⟨b, rfl⟩, hb2⟩))
   go_ret
   refine ⟨⟨b, rfl, fun _ c hc => ?_⟩, HBW.out.trans (hb2.mono HBW.out.size)⟩
   obtain ⟨j, hj, rfl⟩ := List.mem_iff_getElem.1 hc
   exact HA.out j hj (by omega)
end Go.Proofs.YtdeigdbnnbikgaaGreatDoor.VSh
namespace Go.Proofs.YtdeigdbnnbikgaaGreatDoor.VOf
open Go.RowKit Base EPure VPure VSm VIn VJn VRs VVr VVa VRv VMp VBd VNo VEv Fresh
theorem Bl.mono {K K' m : Nat} {w : World} {v : Value} {bs : List Bn} (h : Bl K m w v bs) (hK : K ≤ K') : Bl K' m w v bs := by
 obtain ⟨a, cap, h1, h2, h3, h4, h5, h6, h7⟩ := h
 refine ⟨a, cap, h1, h2, h3, h4, h5, h6, ?_⟩
 rcases h7 with h7 | ⟨g, o, e, hg, hc⟩
 ·exact .inl h7
 ·refine .inr ⟨g, o, e, Nat.lt_of_lt_of_le hg hK, fun j hj => ?_⟩
  obtain ⟨an, ln, cn, al, ll, cl, c0, c1, c2, c3, c4, c5, c6, hin⟩ := hc j hj
  exact ⟨an, ln, cn, al, ll, cl, c0, c1, c2, c3, c4, c5, c6, hin.weak (fun b hb => Nat.lt_of_lt_of_le hb hK) false (fun h => by cases h) m (Nat.le_refl _)⟩
/-- The tables of the library hold what they are laid with. -/
structure TX (w : World) : Prop where
 tab : Digits.Tab w
 utf : EChr.Tabs w
 lt1 : 2 < w.heap.size
 lt2 : 3 < w.heap.size
theorem TX.later {w w' : World} (h : TX w) (hb : Below w.heap.size w w') : TX w' :=
 ⟨h.tab.later hb, ECh.tab_keep h.utf (hb.block _ h.lt1) (hb.block _ h.lt2), Nat.lt_of_lt_of_le h.lt1 hb.size, Nat.lt_of_lt_of_le h.lt2 hb.size⟩
theorem TX.tb {w : World} (h : TX w) : Tb w := fun W' hb => h.tab.later hb
theorem num_c (x : Int) (w : World) : Calls Tryz.prog 14 #[.int .i64 x] w fun e w' => e = .returned (.int .i64 x) ∧ w' = w := by
 go_enter Tryz.func14, Tryz.ntmps14
 go_wp2_with fail
 go_ret
 exact ⟨rfl, rfl⟩
set_option maxRecDepth 20000 in
set_option maxHeartbeats 3200000 in
theorem of_c {K m : Nat} {w : World} {s : ByteArray} {v : Value} {x : Ex} {bs : List Bn} (hs : s.size ≤ 140737488351300) (hp : prs s = .ok x) (hv : Bl K (m + 1) w v bs) (hK : K ≤ w.heap.size) (hd : ∀ b ∈ bs, Shallow.dep b.2 ≤ 4097) (hT : TX w) (hm : may x = true) (hb : bad bs = false) (ho : ops okOp x) :
  Calls Tryz.prog 38 #[.string s, v] w fun e w' => EV (m + 1) w (vOf (ev (rho bs) x)) (nOf (ev (rho bs) x)) e w' := by
 have hvv := hv
 obtain ⟨va, vc, rfl⟩ : ∃ a cap, v = .slice a bs.length cap := by obtain ⟨a, cap, h, -⟩ := hv; exact ⟨a, cap, h⟩
 obtain ⟨W0, hW0⟩ : ∃ W0, w.alloc (.cells #[.int .i64 0, .bool false, .int .i64 0, .string ⟨#[]⟩, .slice none 0 0, .slice none 0 0] 32) = W0 := ⟨_, rfl⟩
 have hb0 : Below w.heap.size w W0 := by rw [← hW0]; exact (Below.refl _ w).alloc (Nat.le_refl _) _
 have hs0 : W0.heap.size = w.heap.size + 1 := by rw [← hW0]; simp
 have hr : W0.heap[w.heap.size]? = some (.cells #[.int .i64 0, .bool false, .int .i64 0, .string ⟨#[]⟩, .slice none 0 0, .slice none 0 0] 32 (0, 0)) := by rw [← hW0]; exact heap_alloc_new _ _
 have hT0 := hT.later hb0
 have cP := EPs.parse_c (w := W0) hs hT0.utf ⟨hT0.lt1, hT0.lt2⟩
 rw [hp] at cP
 have HR0 : Hid (W0.heap[w.heap.size]? = some (.cells #[.int .i64 0, .bool false, .int .i64 0, .string ⟨#[]⟩, .slice none 0 0, .slice none 0 0] 32 (0, 0))) := hr
 have HB0 : Hid (Below w.heap.size w W0) := hb0
 have HVi : Hid (∀ W, Below w.heap.size w W → Bl W.heap.size (m + 1) W (.slice va bs.length vc) bs) := fun W h => Bl.mono (hvv.low (h.mono hK)) (Nat.le_trans hK h.size)
 have HT : Hid (TX w) := hT
 have HD : Hid (∀ b ∈ bs, Shallow.dep b.2 ≤ 4097) := hd
 have HM : Hid (may x = true ∧ bad bs = false ∧ ops okOp x) := ⟨hm, hb, ho⟩
 obtain ⟨A, hA⟩ : ∃ A, ev (rho bs) x = A := ⟨_, rfl⟩
 rw [hA]
 have HA : Hid (ev (rho bs) x = A) := hA
 clear hv hvv hd hT hm hb ho hr hb0 hT0 hA hp hs
 go_enter Tryz.func38, Tryz.ntmps38
 go_wp2_with fail
 try rw [hW0]
 refine cP.mono ?_
 rintro e W1 ⟨hb1, mm, xa, xc, rfl, hin⟩
 have hs1 := hb1.size
 have HR1 : Hid (W1.heap[w.heap.size]? = some (.cells #[.int .i64 0, .bool false, .int .i64 0, .string ⟨#[]⟩, .slice none 0 0, .slice none 0 0] 32 (0, 0))) := (hb1.block _ (by omega)).trans HR0.out
 have HB1 : Hid (Below w.heap.size w W1) := HB0.out.trans (hb1.mono HB0.out.size)
 clear cP hb1 hW0
 obtain ⟨W2, hW2⟩ : ∃ W2, W1.alloc (.cells #[.int .i64 0, .int .i64 0, .string ⟨#[]⟩, .slice none 0 0] 24) = W2 := ⟨_, rfl⟩
 have hz : W2.heap[W1.heap.size]? = some (.cells #[.int .i64 0, .int .i64 0, .string ⟨#[]⟩, .slice none 0 0] 24 (0, 0)) := by rw [← hW2]; exact heap_alloc_new _ _
 have hb2 : Below W1.heap.size W1 W2 := by rw [← hW2]; exact (Below.refl _ _).alloc (Nat.le_refl _) _
 have hs2 : W2.heap.size = W1.heap.size + 1 := by rw [← hW2]; simp
 obtain ⟨z0, z1, z2, z3⟩ := XBase.four_box hz
 have zf0 := frozen_box hz 0
 have zf1 := frozen_box hz 1
 have zf2 := frozen_box hz 2
 have zf3 := frozen_box hz 3
 obtain ⟨W3, hW3⟩ : ∃ W3, (((W2.setCell ⟨W1.heap.size, 0, none⟩ (.int .i64 x.o)).setCell ⟨W1.heap.size, 1, none⟩ (.int .i64 x.i)).setCell ⟨W1.heap.size, 2, none⟩ (.string x.s)).setCell ⟨W1.heap.size, 3, none⟩ (.slice xa x.l.length xc) = W3 := ⟨_, rfl⟩
 have h3 : W3.heap[W1.heap.size]? = some (.cells #[.int .i64 x.o, .int .i64 x.i, .string x.s, .slice xa x.l.length xc] 24 (0, 0)) := by rw [← hW3]; simp [World.setCell, Array.getElem?_modify, hz]
 have hb3 : Below W1.heap.size W1 W3 := by rw [← hW3]; exact (((hb2.setCell (p := ⟨W1.heap.size, 0, none⟩) (Nat.le_refl _) _).setCell (p := ⟨W1.heap.size, 1, none⟩) (Nat.le_refl _) _).setCell (p := ⟨W1.heap.size, 2, none⟩) (Nat.le_refl _) _).setCell (p := ⟨W1.heap.size, 3, none⟩) (Nat.le_refl _) _
 have hs3 : W3.heap.size = W1.heap.size + 1 := by rw [← hW3]; simp [World.setCell, hs2]
 obtain ⟨x0, x1, x2, x3⟩ := XBase.four_box h3
 have HB3 : Hid (Below w.heap.size w W3) := HB1.out.trans (hb3.mono HB1.out.size)
 have HR3 : Hid (W3.heap[w.heap.size]? = some (.cells #[.int .i64 0, .bool false, .int .i64 0, .string ⟨#[]⟩, .slice none 0 0, .slice none 0 0] 32 (0, 0))) := (hb3.block _ (by omega)).trans HR1.out
 have hin3 : XBase.In false (fun b => b < W3.heap.size) W3 mm (xv x.o x.i x.s (.slice xa x.l.length xc)) x := (hin.keep (w' := W3) (fun b _ hb => hb3.block b hb)).weak (fun b hb => by have := hb.2; omega) false (fun h => by cases h) mm (Nat.le_refl _)
 have cE := eval_c (m := m) hin3 (HVi.out W3 HB3.out) HD.out (HT.out.later HB3.out).tb HM.out.1 HM.out.2.1 HM.out.2.2
 rw [HA.out] at cE
 have c9 : ∀ (y : Int) (W : World), Calls Tryz.prog 14 #[.int .i64 y] W fun e w' => e = .returned (.int .i64 y) ∧ W = w' := fun y W => (num_c y W).mono fun e w' h => ⟨h.1, h.2.symm⟩
 clear hin hin3 hb2 hb3 hz h3
 go_wp2_with (first | (go_at_call 14; refine (c9 _ _).mono ?_; rintro e w' ⟨rfl, rfl⟩))
 refine cE.mono ?_
 rintro e W4 ⟨hb4, u, rfl, hfr⟩
 have hs4 := hb4.size
 obtain ⟨un, uln, ucn, ul, ull, ucl, rfl⟩ := in_shape hfr.in
 have HB4 : Hid (Below w.heap.size w W4) := HB3.out.trans (hb4.mono HB3.out.size)
 have HR4 : Hid (W4.heap[w.heap.size]? = some (.cells #[.int .i64 0, .bool false, .int .i64 0, .string ⟨#[]⟩, .slice none 0 0, .slice none 0 0] 32 (0, 0))) := (hb4.block _ (by omega)).trans HR3.out
 clear cE hb4 x0 x1 x2 x3 z0 z1 z2 z3 zf0 zf1 zf2 zf3 hW2 hW3
 obtain ⟨W5, hW5⟩ : ∃ W5, W4.alloc (.cells #[.int .i64 0, .bool false, .int .i64 0, .string ⟨#[]⟩, .slice none 0 0, .slice none 0 0] 32) = W5 := ⟨_, rfl⟩
 have hz5 : W5.heap[W4.heap.size]? = some (.cells #[.int .i64 0, .bool false, .int .i64 0, .string ⟨#[]⟩, .slice none 0 0, .slice none 0 0] 32 (0, 0)) := by rw [← hW5]; exact heap_alloc_new _ _
 have hb5 : Below W4.heap.size W4 W5 := by rw [← hW5]; exact (Below.refl _ _).alloc (Nat.le_refl _) _
 obtain ⟨n0, n1, n2, n3, n4, n5⟩ := six_box hz5
 have nf0 := frozen_box hz5 0
 have nf1 := frozen_box hz5 1
 have nf2 := frozen_box hz5 2
 have nf3 := frozen_box hz5 3
 have nf4 := frozen_box hz5 4
 have nf5 := frozen_box hz5 5
 obtain ⟨W6, hW6⟩ : ∃ W6, ((((((W5.setCell ⟨W4.heap.size, 0, none⟩ (.int .i64 (vOf A).k)).setCell ⟨W4.heap.size, 1, none⟩ (.bool (vOf A).b)).setCell ⟨W4.heap.size, 2, none⟩ (.int .i64 (vOf A).i)).setCell ⟨W4.heap.size, 3, none⟩ (.string (vOf A).s)).setCell ⟨W4.heap.size, 4, none⟩ (.slice un uln ucn)).setCell ⟨W4.heap.size, 5, none⟩ (.slice ul ull ucl)) = W6 := ⟨_, rfl⟩
 obtain ⟨a1, a2, a3, a4⟩ := set6 _ _ _ _ _ _ hz5 hW6
 have hb6 : Below W4.heap.size W4 W6 := a4 _ _ (Nat.le_refl _) hb5
 obtain ⟨g0, g1, g2, g3, g4, g5⟩ := six_box a1
 have hr6 := (hb6.block w.heap.size (by omega)).trans HR4.out
 obtain ⟨r0, r1, r2, r3, r4, r5⟩ := six_box hr6
 have rf0 := frozen_box hr6 0
 have rf1 := frozen_box hr6 1
 have rf2 := frozen_box hr6 2
 have rf3 := frozen_box hr6 3
 have rf4 := frozen_box hr6 4
 have rf5 := frozen_box hr6 5
 have HB6 : Hid (Below w.heap.size w W6) := HB4.out.trans (hb6.mono HB4.out.size)
 have HR6 : Hid (W6.heap[w.heap.size]? = some (.cells #[.int .i64 0, .bool false, .int .i64 0, .string ⟨#[]⟩, .slice none 0 0, .slice none 0 0] 32 (0, 0))) := hr6
 have HG6 : Hid _ := a1
 have HF6 : Hid (Fr W6 (m + 1) W3.heap.size W4.heap.size (vl (vOf A).k (vOf A).b (vOf A).i (vOf A).s (.slice un uln ucn) (.slice ul ull ucl)) (vOf A)) := hfr.keep (fun b hb hb' => hb6.block b hb')
 have h6s := (Array.getElem?_eq_some_iff.1 a1).1
 obtain ⟨W9, hW9⟩ : ∃ W9, ((((((W6.setCell ⟨w.heap.size, 0, none⟩ (.int .i64 (vOf A).k)).setCell ⟨w.heap.size, 1, none⟩ (.bool (vOf A).b)).setCell ⟨w.heap.size, 2, none⟩ (.int .i64 (vOf A).i)).setCell ⟨w.heap.size, 3, none⟩ (.string (vOf A).s)).setCell ⟨w.heap.size, 4, none⟩ (.slice un uln ucn)).setCell ⟨w.heap.size, 5, none⟩ (.slice ul ull ucl)) = W9 := ⟨_, rfl⟩
 obtain ⟨q1, q2, q3, q4⟩ := set6 _ _ _ _ _ _ hr6 hW9
 have k9 : ∀ (B j : Nat) (u : Value), B ≠ w.heap.size → W6.cell? ⟨B, j, none⟩ = some u → W9.cell? ⟨B, j, none⟩ = some u := fun B j u hne h => (World.cell?_of_block (q2 _ hne)).trans h
 have h90 := k9 _ _ _ (by omega) g0
 have h91 := k9 _ _ _ (by omega) g1
 have h92 := k9 _ _ _ (by omega) g2
 have h93 := k9 _ _ _ (by omega) g3
 have h94 := k9 _ _ _ (by omega) g4
 have h95 := k9 _ _ _ (by omega) g5
 have e9 : W9.heap.size = W6.heap.size := q3
 obtain ⟨y0, y1, y2, y3, y4, y5⟩ := six_box q1
 have HQ : Hid (Below w.heap.size w W9) := q4 _ _ (Nat.le_refl _) HB6.out
 have HF : Hid (Fr W9 (m + 1) w.heap.size W9.heap.size (vl (vOf A).k (vOf A).b (vOf A).i (vOf A).s (.slice un uln ucn) (.slice ul ull ucl)) (vOf A)) := Copied.Fr.weak (HF6.out.keep (w' := W9) (fun b hb _ => q2 b (by have := hb.1; omega))) (by omega) (by omega)
 clear hfr hb5 hb6 hz5 a1 a2 a3 a4 hr6 k9 q1 q2 q4
 go_wp2_with fail
 go_region_held3 (fun w' => w'.cell? ⟨W4.heap.size, 0, none⟩ = some (.int .i64 (vOf A).k) ∧ w'.cell? ⟨W4.heap.size, 1, none⟩ = some (.bool (vOf A).b) ∧ w'.cell? ⟨W4.heap.size, 2, none⟩ = some (.int .i64 (vOf A).i) ∧ w'.cell? ⟨W4.heap.size, 3, none⟩ = some (.string (vOf A).s) ∧ w'.cell? ⟨W4.heap.size, 4, none⟩ = some (.slice un uln ucn) ∧ w'.cell? ⟨W4.heap.size, 5, none⟩ = some (.slice ul ull ucl)) (go_keep) (first | (go_at_call 14; refine (c9 _ _).mono ?_; rintro e w' ⟨rfl, rfl⟩))
 all_goals
  go_wp2_with fail
  refine bodyPost_ret (v := .tuple #[vl (vOf A).k (vOf A).b (vOf A).i (vOf A).s (.slice un uln ucn) (.slice ul ull ucl), .int .i64 (nOf A)]) (by simp [results, Tryz.results38, go_sem, y0, y1, y2, y3, y4, y5]) rfl ?_
  exact ⟨bel_d HQ.out (Below.refl _ _), _, rfl, HF.out.keep (fun _ _ _ => rfl)⟩
end Go.Proofs.YtdeigdbnnbikgaaGreatDoor.VOf
namespace Go.Proofs.YtdeigdbnnbikgaaGreatDoor.VAp
open Go.RowKit Base EPure VPure VMp VNo VVa VEv ELn VOf
open PMay (mayL)
def it (i : Int) : Ex := .mk 4 i ⟨#[]⟩ []
def vw : Ex := .mk 6 0 ⟨#[119]⟩ []
def sa : Ex := .mk 5 0 ⟨#[97]⟩ []
def fa : Ex := .mk 2 0 ⟨#[]⟩ []
def nu : Ex := .mk 1 0 ⟨#[]⟩ []
def t1 : List UInt8 := [97, 32, 43, 32, 49]
def t2 : List UInt8 := [49, 32, 47, 32, 48]
def t3 : List UInt8 := [102, 97, 108, 115, 101, 32, 38, 38, 32, 49]
def t4 : List UInt8 := [119]
def t5 : List UInt8 := [39, 97, 39, 32, 126, 32, 49, 32, 126, 32, 110, 117, 108, 108]
def x1 : Ex := nd 15 [va, it 1]
def x2 : Ex := nd 13 [it 1, it 0]
def x3 : Ex := nd 29 [fa, it 1]
def x4 : Ex := vw
def x5 : Ex := nd 17 [nd 17 [sa, it 1], nu]
theorem isx_eq {t : List UInt8} {x : Ex} (h : isx t x = true) : prs ⟨t.toArray⟩ = .ok x := by
 unfold isx at h
 cases hp : prs ⟨t.toArray⟩ with
 | error e => rw [hp] at h; cases h
 | ok y => rw [hp] at h; rw [eqx_eq _ _ _ h]
theorem p1 : prs ⟨t1.toArray⟩ = .ok x1 := isx_eq (by decide +kernel)
theorem p2 : prs ⟨t2.toArray⟩ = .ok x2 := isx_eq (by decide +kernel)
theorem p3 : prs ⟨t3.toArray⟩ = .ok x3 := isx_eq (by decide +kernel)
theorem p4 : prs ⟨t4.toArray⟩ = .ok x4 := isx_eq (by decide +kernel)
theorem p5 : prs ⟨t5.toArray⟩ = .ok x5 := isx_eq (by decide +kernel)
/-- What is bound: a name twice. -/
def bs2 : List Bn := [(⟨#[97]⟩, intC 1), (⟨#[97]⟩, intC 2)]
theorem tg0 : Pure.tg ⟨#[]⟩ = true := by
 have h : UBase.verr ⟨#[]⟩ = 0 := by
  unfold UBase.verr
  rw [UBase.bad_end (by decide)]
  rfl
 simp [Pure.tg, h]
 decide
theorem code_int (i : Int) : code (intC i) = 0 := by
 have h : Fault.fm (intC i) = true := by simp [Fault.fm, intC, Pure.pu, tg0, C.k, C.b, C.i, C.s, C.n, C.l]
 have hk : (intC i).k = 3 := rfl
 have hp : Walk.pl 1 (intC i) = [(1, intC i)] := by simp [intC, Walk.pl, Walk.plL]
 have hf : Fault.ft (intC i) 1 1 = 0 := by simp [Fault.ft, h, hk]
 unfold code
 rw [hp]
 simp [Measure.ms, hf]
theorem bad2 : bad bs2 = false := by simp [bad, bs2, code_int]
theorem dep2 : ∀ b ∈ bs2, Shallow.dep b.2 ≤ 4097 := by
 intro b hb
 simp only [bs2, List.mem_cons, List.not_mem_nil, or_false] at hb
 rcases hb with rfl | rfl <;> simp [Shallow.dep, Shallow.depL, intC]
theorem rho_a : rho bs2 ⟨#[97]⟩ = some (intC 2) := by simp [rho, bs2]
theorem rho_w : rho bs2 ⟨#[119]⟩ = none := by simp [rho, bs2]
theorem e1 : ev (rho bs2) x1 = .ok (intC 3) := by
 have h1 : Sums.inR 3 = true := by decide
 simp [ev, Ex.o, Ex.l, x1, nd, va, it, evL, node, rho_a, bnd, snd2, pr2, numb, wh, intC, C.k, C.i, twI, chkI, mapI, Sums.num, Sums.err, h1]
theorem e2 : ev (rho bs2) x2 = .error 1103 := by
 simp [ev, Ex.o, Ex.l, x2, nd, it, evL, node, bnd, snd2, pr2, numb, wh, intC, C.k, C.i, twI, chkI, mapI, WhA.dnum, WhA.derr]
theorem e3 : ev (rho bs2) x3 = .ok (booC false) := by
 simp [ev, Ex.o, Ex.l, x3, nd, fa, it, evL, node, bnd, isT, booC, C.k, C.b]
theorem e4 : ev (rho bs2) x4 = .error 1100 := by
 simp [ev, Ex.o, Ex.s, x4, vw, node, rho_w]
theorem e5 : ev (rho bs2) x5 = .ok (strC ⟨#[97, 49]⟩) := by
 have h1 : (Lib.itoa 1) = [49] := by decide +kernel
 have h2 : ¬ 4096 < (⟨#[97]⟩ : ByteArray).size + (⟨#[49]⟩ : ByteArray).size := by decide
 have h3 : (⟨#[97]⟩ : ByteArray) ++ (⟨#[49]⟩ : ByteArray) = ⟨#[97, 49]⟩ := by decide
 have h4 : ¬ 4096 < (⟨#[97, 49]⟩ : ByteArray).size + (⟨#[]⟩ : ByteArray).size := by decide
 have h5 : (⟨#[97, 49]⟩ : ByteArray) ++ (⟨#[]⟩ : ByteArray) = ⟨#[97, 49]⟩ := by decide
 simp [ev, Ex.o, Ex.l, x5, nd, sa, it, nu, evL, node, bnd, snd2, pr2, cat, txt, strC, intC, nulC, TextKey.te, TextKey.tx, h1, h2, h3, h4, h5]
theorem o1 : ops okOp x1 := by simp [ops, Ex.o, Ex.l, opsL, okOp, x1, nd, va, it]
theorem o2 : ops okOp x2 := by simp [ops, Ex.o, Ex.l, opsL, okOp, x2, nd, it]
theorem o3 : ops okOp x3 := by simp [ops, Ex.o, Ex.l, opsL, okOp, x3, nd, fa, it]
theorem o4 : ops okOp x4 := by simp [ops, Ex.o, Ex.l, opsL, okOp, x4, vw]
theorem o5 : ops okOp x5 := by simp [ops, Ex.o, Ex.l, opsL, okOp, x5, nd, sa, it, nu]
theorem hx97 : PFit.ft 5 0 ⟨#[97]⟩ = true := by
 have hv : UBase.verr ⟨#[97]⟩ = 0 := by
  have h1 : UBase.len ⟨#[97]⟩ 0 = 1 := by decide
  unfold UBase.verr
  rw [UBase.bad_step (by decide) (by rw [h1]; decide), h1, UBase.bad_end (by decide)]
  rfl
 have htx : PFit.tx ⟨#[97]⟩ = true := by
  unfold PFit.tx PFit.tg
  rw [hv]
  decide
 show ((0 : Int) == 0 && PFit.tx ⟨#[97]⟩) = true
 rw [htx]; rfl
theorem fa6 : PFit.ft 6 0 ⟨#[97]⟩ = true := by decide +kernel
theorem fw6 : PFit.ft 6 0 ⟨#[119]⟩ = true := by decide +kernel
theorem f41 : PFit.ft 4 1 ⟨#[]⟩ = true := by decide +kernel
theorem f40 : PFit.ft 4 0 ⟨#[]⟩ = true := by decide +kernel
theorem f1 : PFit.ft 1 0 ⟨#[]⟩ = true := by decide
theorem f2 : PFit.ft 2 0 ⟨#[]⟩ = true := by decide
theorem f15 : PFit.ft 15 0 ⟨#[]⟩ = true := by decide
theorem f13 : PFit.ft 13 0 ⟨#[]⟩ = true := by decide
theorem f17 : PFit.ft 17 0 ⟨#[]⟩ = true := by decide
theorem f29 : PFit.ft 29 0 ⟨#[]⟩ = true := by decide
theorem k15 : PPl.kd 15 = 2 := by decide
theorem k13 : PPl.kd 13 = 2 := by decide
theorem k17 : PPl.kd 17 = 2 := by decide
theorem k29 : PPl.kd 29 = 2 := by decide
theorem k6 : PPl.kd 6 = 0 := by decide
theorem k5 : PPl.kd 5 = 0 := by decide
theorem k4 : PPl.kd 4 = 0 := by decide
theorem k2 : PPl.kd 2 = 0 := by decide
theorem k1 : PPl.kd 1 = 0 := by decide
theorem m1 : may x1 = true := by simp [may, x1, nd, va, it, mayL, f15, fa6, f41, k15, k6, k4]
theorem m2 : may x2 = true := by simp [may, x2, nd, it, mayL, f13, f40, f41, k13, k4]
theorem m3 : may x3 = true := by simp [may, x3, nd, fa, it, mayL, f29, f2, f41, k29, k2, k4]
theorem m4 : may x4 = true := by simp [may, x4, vw, mayL, fw6, k6]
theorem m5 : may x5 = true := by simp [may, x5, nd, sa, it, nu, mayL, f17, hx97, f41, f1, k17, k5, k4, k1]
end Go.Proofs.YtdeigdbnnbikgaaGreatDoor.VAp
namespace Go.Proofs.YtdeigdbnnbikgaaGreatDoor.VAw
open Go.RowKit Base EPure VPure VSm VMp VNo VVa VEv VOf VAp Fresh
set_option maxRecDepth 20000 in
set_option maxHeartbeats 1600000 in
/-- An integer's value. -/
theorem int_c (i : Int) (w : World) : Calls Tryz.prog 29 #[.int .i64 i] w fun e w' => e = .returned (vl 3 false i ⟨#[]⟩ (.slice none 0 0) (.slice none 0 0)) ∧ Below w.heap.size w w' := by
 obtain ⟨W0, hW0⟩ : ∃ W0, w.alloc (.cells #[.int .i64 0, .bool false, .int .i64 0, .string ⟨#[]⟩, .slice none 0 0, .slice none 0 0] 32) = W0 := ⟨_, rfl⟩
 have hz : W0.heap[w.heap.size]? = some (.cells #[.int .i64 0, .bool false, .int .i64 0, .string ⟨#[]⟩, .slice none 0 0, .slice none 0 0] 32 (0, 0)) := by rw [← hW0]; exact heap_alloc_new _ _
 have hb0 : Below w.heap.size w W0 := by rw [← hW0]; exact (Below.refl _ w).alloc (Nat.le_refl _) _
 obtain ⟨n0, n1, n2, n3, n4, n5⟩ := six_box hz
 have f0 := frozen_box hz 0
 have f1 := frozen_box hz 1
 have f2 := frozen_box hz 2
 have f3 := frozen_box hz 3
 have f4 := frozen_box hz 4
 have f5 := frozen_box hz 5
 obtain ⟨W1, hW1⟩ : ∃ W1, (((((W0.setCell ⟨w.heap.size, 0, none⟩ (.int .i64 3)).setCell ⟨w.heap.size, 1, none⟩ (.bool false)).setCell ⟨w.heap.size, 2, none⟩ (.int .i64 i)).setCell ⟨w.heap.size, 3, none⟩ (.string ⟨#[]⟩)).setCell ⟨w.heap.size, 4, none⟩ (.slice none 0 0)).setCell ⟨w.heap.size, 5, none⟩ (.slice none 0 0) = W1 := ⟨_, rfl⟩
 obtain ⟨a1, a2, a3, a4⟩ := set6 _ _ _ _ _ _ hz hW1
 obtain ⟨g0, g1, g2, g3, g4, g5⟩ := six_box a1
 have HB : Hid (Below w.heap.size w W1) := a4 _ _ (Nat.le_refl _) hb0
 clear hz hb0 a1 a2 a3 a4
 go_enter Tryz.func29, Tryz.ntmps29
 go_wp2_with fail
 refine bodyPost_ret (v := vl 3 false i ⟨#[]⟩ (.slice none 0 0) (.slice none 0 0)) (by simp [results, Tryz.results29, go_sem, g0, g1, g2, g3, g4, g5]) rfl ?_
 exact ⟨rfl, HB.out⟩
/-- Two names bound to integers, in a block of their own. -/
theorem env2 {w : World} {G m : Nat} {s t : ByteArray} {i j : Int} (hs : s.size ≤ 140737488351232) (ht : t.size ≤ 140737488351232) (hi : -9223372036854775808 ≤ i ∧ i ≤ 9223372036854775807) (hj : -9223372036854775808 ≤ j ∧ j ≤ 9223372036854775807) {T : TypeId}
  (h : w.heap[G]? = some (.cells #[.string s, .int .i64 3, .bool false, .int .i64 i, .string ⟨#[]⟩, .slice none 0 0, .slice none 0 0, .string t, .int .i64 3, .bool false, .int .i64 j, .string ⟨#[]⟩, .slice none 0 0, .slice none 0 0] T (0, 0))) :
  Bl (G + 1) (m + 1) w (.slice (some ⟨G, 0, none⟩) 2 2) [(s, intC i), (t, intC j)] := by
 have hc : ∀ q, q < 14 → w.cell? ⟨G, q, none⟩ = (#[.string s, .int .i64 3, .bool false, .int .i64 i, .string ⟨#[]⟩, .slice none 0 0, .slice none 0 0, .string t, .int .i64 3, .bool false, .int .i64 j, .string ⟨#[]⟩, .slice none 0 0, .slice none 0 0] : Array Value)[q]? := fun q hq => by
  simp [World.cell?, h]
 refine ⟨some ⟨G, 0, none⟩, 2, rfl, by simp, by decide, (fun e => by cases e), by simp, fun b hb => ?_, .inr ⟨G, 0, rfl, Nat.lt_succ_self _, fun q hq => ?_⟩⟩
 ·simp only [List.mem_cons, List.not_mem_nil, or_false] at hb
  rcases hb with rfl | rfl
  ·exact hs
  ·exact ht
 ·have : q = 0 ∨ q = 1 := by simp at hq; omega
  rcases this with rfl | rfl
  ·exact ⟨none, 0, 0, none, 0, 0, hc 0 (by decide), hc 1 (by decide), hc 2 (by decide), hc 3 (by decide), hc 4 (by decide), hc 5 (by decide), hc 6 (by decide), VRs.in_int _ _ _ hi⟩
  ·exact ⟨none, 0, 0, none, 0, 0, hc 7 (by decide), hc 8 (by decide), hc 9 (by decide), hc 10 (by decide), hc 11 (by decide), hc 12 (by decide), hc 13 (by decide), VRs.in_int _ _ _ hj⟩
set_option maxRecDepth 20000 in
set_option maxHeartbeats 6400000 in
theorem awake_c {w : World} (hT : TX w) : Calls Tryz.prog 19 #[] w fun e w' => e = .returned (.bool true) ∧ Below w.heap.size w w' := by
 have HT : Hid (TX w) := hT
 have c1 := int_c 1
 have c2 := int_c 2
 clear hT
 go_enter Tryz.func19, Tryz.ntmps19
 go_wp2_with (first | (go_at_call 29; first | (refine (c1 _).mono ?_; rintro e W1 ⟨rfl, hb1⟩) | (refine (c2 _).mono ?_; rintro e W2 ⟨rfl, hb2⟩)))
 have hB2 : Below w.heap.size w W2 := hb1.trans (hb2.mono hb1.size)
 obtain ⟨V0, hV0⟩ : ∃ V0, W2.alloc (.cells #[.string ⟨#[97]⟩, .int .i64 3, .bool false, .int .i64 1, .string ⟨#[]⟩, .slice none 0 0, .slice none 0 0, .string ⟨#[97]⟩, .int .i64 3, .bool false, .int .i64 2, .string ⟨#[]⟩, .slice none 0 0, .slice none 0 0] 52) = V0 := ⟨_, rfl⟩
 have hz : V0.heap[W2.heap.size]? = some (.cells #[.string ⟨#[97]⟩, .int .i64 3, .bool false, .int .i64 1, .string ⟨#[]⟩, .slice none 0 0, .slice none 0 0, .string ⟨#[97]⟩, .int .i64 3, .bool false, .int .i64 2, .string ⟨#[]⟩, .slice none 0 0, .slice none 0 0] 52 (0, 0)) := by rw [← hV0]; exact heap_alloc_new _ _
 have hv0 : Below W2.heap.size W2 V0 := by rw [← hV0]; exact (Below.refl _ _).alloc (Nat.le_refl _) _
 have s0 : V0.heap.size = W2.heap.size + 1 := by rw [← hV0]; simp
 have HB0 : Hid (Below w.heap.size w V0) := hB2.trans (hv0.mono hB2.size)
 have HE0 : Hid (Bl (W2.heap.size + 1) 1 V0 (.slice (some ⟨W2.heap.size, 0, none⟩) 2 2) bs2) := env2 (by decide) (by decide) (by decide) (by decide) hz
 rw [hV0]
 clear hz hv0 hB2 hb1 hb2 hV0 c1 c2
 have cE : Calls Tryz.prog 38 #[.string ⟨t1.toArray⟩, .slice (some ⟨W2.heap.size, 0, none⟩) 2 2] V0 fun e w' => EV 1 V0 (intC 3) 0 e w' := by
  have h := of_c (m := 0) (s := ⟨t1.toArray⟩) (by decide) p1 HE0.out (by omega) dep2 (HT.out.later HB0.out) m1 bad2 o1
  rw [e1] at h
  exact h
 refine cE.mono ?_
 rintro e X1 ⟨hx, u1, rfl, hfr⟩
 have sx1 := hx.size
 obtain ⟨un1, ul1, uc1, ua1, ub1, ud1, hu⟩ := VRs.in_shape hfr.in
 have hu' : u1 = vl 3 false 3 ⟨#[]⟩ (.slice un1 ul1 uc1) (.slice ua1 ub1 ud1) := hu
 subst hu'
 have HX : Hid (Below V0.heap.size V0 X1) := hx
 clear hu hfr cE hx
 obtain ⟨Y, hY⟩ : ∃ Y, X1.alloc (.cells #[.int .i64 0, .bool false, .int .i64 0, .string ⟨#[]⟩, .slice none 0 0, .slice none 0 0] 32) = Y := ⟨_, rfl⟩
 have hz : Y.heap[X1.heap.size]? = some (.cells #[.int .i64 0, .bool false, .int .i64 0, .string ⟨#[]⟩, .slice none 0 0, .slice none 0 0] 32 (0, 0)) := by rw [← hY]; exact heap_alloc_new _ _
 have hby : Below X1.heap.size X1 Y := by rw [← hY]; exact (Below.refl _ _).alloc (Nat.le_refl _) _
 obtain ⟨n0, n1, n2, n3, n4, n5⟩ := six_box hz
 have nf0 := frozen_box hz 0
 have nf1 := frozen_box hz 1
 have nf2 := frozen_box hz 2
 have nf3 := frozen_box hz 3
 have nf4 := frozen_box hz 4
 have nf5 := frozen_box hz 5
 obtain ⟨V1, hV1⟩ : ∃ V1, ((((((Y.setCell ⟨X1.heap.size, 0, none⟩ (.int .i64 3)).setCell ⟨X1.heap.size, 1, none⟩ (.bool false)).setCell ⟨X1.heap.size, 2, none⟩ (.int .i64 3)).setCell ⟨X1.heap.size, 3, none⟩ (.string ⟨#[]⟩)).setCell ⟨X1.heap.size, 4, none⟩ (.slice un1 ul1 uc1)).setCell ⟨X1.heap.size, 5, none⟩ (.slice ua1 ub1 ud1)) = V1 := ⟨_, rfl⟩
 obtain ⟨a1, a2, a3, a4⟩ := set6 _ _ _ _ _ _ hz hV1
 have hbv : Below X1.heap.size X1 V1 := a4 _ _ (Nat.le_refl _) hby
 have s1 := hbv.size
 have HA1_1 : Hid (V1.heap[X1.heap.size]? = some _) := a1
 have l1 := (Array.getElem?_eq_some_iff.1 a1).1
 have HV : Hid (Below V0.heap.size V0 V1) := HX.out.trans (hbv.mono HX.out.size)
 have HB1 : Hid (Below w.heap.size w V1) := HB0.out.trans (HV.out.mono HB0.out.size)
 have HE1 : Hid (Bl (W2.heap.size + 1) 1 V1 (.slice (some ⟨W2.heap.size, 0, none⟩) 2 2) bs2) := HE0.out.low (HV.out.mono (by omega))
 clear hz hby a1 a2 a3 a4 hbv HX HV HB0 HE0
 go_wp2_with fail
 clear n0 n1 n2 n3 n4 n5 nf0 nf1 nf2 nf3 nf4 nf5 hY hV1
 have cE : Calls Tryz.prog 38 #[.string ⟨t2.toArray⟩, .slice (some ⟨W2.heap.size, 0, none⟩) 2 2] V1 fun e w' => EV 1 V1 (zerC) 1103 e w' := by
  have h := of_c (m := 0) (s := ⟨t2.toArray⟩) (by decide) p2 HE1.out (by omega) dep2 (HT.out.later HB1.out) m2 bad2 o2
  rw [e2] at h
  exact h
 refine cE.mono ?_
 rintro e X2 ⟨hx, u2, rfl, hfr⟩
 have sx2 := hx.size
 obtain ⟨un2, ul2, uc2, ua2, ub2, ud2, hu⟩ := VRs.in_shape hfr.in
 have hu' : u2 = vl 0 false 0 ⟨#[]⟩ (.slice un2 ul2 uc2) (.slice ua2 ub2 ud2) := hu
 subst hu'
 have HX : Hid (Below V1.heap.size V1 X2) := hx
 clear hu hfr cE hx
 obtain ⟨Y, hY⟩ : ∃ Y, X2.alloc (.cells #[.int .i64 0, .bool false, .int .i64 0, .string ⟨#[]⟩, .slice none 0 0, .slice none 0 0] 32) = Y := ⟨_, rfl⟩
 have hz : Y.heap[X2.heap.size]? = some (.cells #[.int .i64 0, .bool false, .int .i64 0, .string ⟨#[]⟩, .slice none 0 0, .slice none 0 0] 32 (0, 0)) := by rw [← hY]; exact heap_alloc_new _ _
 have hby : Below X2.heap.size X2 Y := by rw [← hY]; exact (Below.refl _ _).alloc (Nat.le_refl _) _
 obtain ⟨n0, n1, n2, n3, n4, n5⟩ := six_box hz
 have nf0 := frozen_box hz 0
 have nf1 := frozen_box hz 1
 have nf2 := frozen_box hz 2
 have nf3 := frozen_box hz 3
 have nf4 := frozen_box hz 4
 have nf5 := frozen_box hz 5
 obtain ⟨V2, hV2⟩ : ∃ V2, ((((((Y.setCell ⟨X2.heap.size, 0, none⟩ (.int .i64 0)).setCell ⟨X2.heap.size, 1, none⟩ (.bool false)).setCell ⟨X2.heap.size, 2, none⟩ (.int .i64 0)).setCell ⟨X2.heap.size, 3, none⟩ (.string ⟨#[]⟩)).setCell ⟨X2.heap.size, 4, none⟩ (.slice un2 ul2 uc2)).setCell ⟨X2.heap.size, 5, none⟩ (.slice ua2 ub2 ud2)) = V2 := ⟨_, rfl⟩
 obtain ⟨a1, a2, a3, a4⟩ := set6 _ _ _ _ _ _ hz hV2
 have hbv : Below X2.heap.size X2 V2 := a4 _ _ (Nat.le_refl _) hby
 have s2 := hbv.size
 have HA2_2 : Hid (V2.heap[X2.heap.size]? = some _) := a1
 have l2 := (Array.getElem?_eq_some_iff.1 a1).1
 have HV : Hid (Below V1.heap.size V1 V2) := HX.out.trans (hbv.mono HX.out.size)
 have HB2 : Hid (Below w.heap.size w V2) := HB1.out.trans (HV.out.mono HB1.out.size)
 have HE2 : Hid (Bl (W2.heap.size + 1) 1 V2 (.slice (some ⟨W2.heap.size, 0, none⟩) 2 2) bs2) := HE1.out.low (HV.out.mono (by omega))
 have HA1_2 : Hid (V2.heap[X1.heap.size]? = some _) := (HV.out.block _ (by omega)).trans HA1_1.out
 clear hz hby a1 a2 a3 a4 hbv HX HV HB1 HE1
 go_wp2_with fail
 clear n0 n1 n2 n3 n4 n5 nf0 nf1 nf2 nf3 nf4 nf5 hY hV2
 have cE : Calls Tryz.prog 38 #[.string ⟨t3.toArray⟩, .slice (some ⟨W2.heap.size, 0, none⟩) 2 2] V2 fun e w' => EV 1 V2 (booC false) 0 e w' := by
  have h := of_c (m := 0) (s := ⟨t3.toArray⟩) (by decide) p3 HE2.out (by omega) dep2 (HT.out.later HB2.out) m3 bad2 o3
  rw [e3] at h
  exact h
 refine cE.mono ?_
 rintro e X3 ⟨hx, u3, rfl, hfr⟩
 have sx3 := hx.size
 obtain ⟨un3, ul3, uc3, ua3, ub3, ud3, hu⟩ := VRs.in_shape hfr.in
 have hu' : u3 = vl 2 false 0 ⟨#[]⟩ (.slice un3 ul3 uc3) (.slice ua3 ub3 ud3) := hu
 subst hu'
 have HX : Hid (Below V2.heap.size V2 X3) := hx
 clear hu hfr cE hx
 obtain ⟨Y, hY⟩ : ∃ Y, X3.alloc (.cells #[.int .i64 0, .bool false, .int .i64 0, .string ⟨#[]⟩, .slice none 0 0, .slice none 0 0] 32) = Y := ⟨_, rfl⟩
 have hz : Y.heap[X3.heap.size]? = some (.cells #[.int .i64 0, .bool false, .int .i64 0, .string ⟨#[]⟩, .slice none 0 0, .slice none 0 0] 32 (0, 0)) := by rw [← hY]; exact heap_alloc_new _ _
 have hby : Below X3.heap.size X3 Y := by rw [← hY]; exact (Below.refl _ _).alloc (Nat.le_refl _) _
 obtain ⟨n0, n1, n2, n3, n4, n5⟩ := six_box hz
 have nf0 := frozen_box hz 0
 have nf1 := frozen_box hz 1
 have nf2 := frozen_box hz 2
 have nf3 := frozen_box hz 3
 have nf4 := frozen_box hz 4
 have nf5 := frozen_box hz 5
 obtain ⟨V3, hV3⟩ : ∃ V3, ((((((Y.setCell ⟨X3.heap.size, 0, none⟩ (.int .i64 2)).setCell ⟨X3.heap.size, 1, none⟩ (.bool false)).setCell ⟨X3.heap.size, 2, none⟩ (.int .i64 0)).setCell ⟨X3.heap.size, 3, none⟩ (.string ⟨#[]⟩)).setCell ⟨X3.heap.size, 4, none⟩ (.slice un3 ul3 uc3)).setCell ⟨X3.heap.size, 5, none⟩ (.slice ua3 ub3 ud3)) = V3 := ⟨_, rfl⟩
 obtain ⟨a1, a2, a3, a4⟩ := set6 _ _ _ _ _ _ hz hV3
 have hbv : Below X3.heap.size X3 V3 := a4 _ _ (Nat.le_refl _) hby
 have s3 := hbv.size
 have HA3_3 : Hid (V3.heap[X3.heap.size]? = some _) := a1
 have l3 := (Array.getElem?_eq_some_iff.1 a1).1
 have HV : Hid (Below V2.heap.size V2 V3) := HX.out.trans (hbv.mono HX.out.size)
 have HB3 : Hid (Below w.heap.size w V3) := HB2.out.trans (HV.out.mono HB2.out.size)
 have HE3 : Hid (Bl (W2.heap.size + 1) 1 V3 (.slice (some ⟨W2.heap.size, 0, none⟩) 2 2) bs2) := HE2.out.low (HV.out.mono (by omega))
 have HA1_3 : Hid (V3.heap[X1.heap.size]? = some _) := (HV.out.block _ (by omega)).trans HA1_2.out
 clear hz hby a1 a2 a3 a4 hbv HX HV HB2 HE2
 go_wp2_with fail
 clear n0 n1 n2 n3 n4 n5 nf0 nf1 nf2 nf3 nf4 nf5 hY hV3
 have cE : Calls Tryz.prog 38 #[.string ⟨t4.toArray⟩, .slice (some ⟨W2.heap.size, 0, none⟩) 2 2] V3 fun e w' => EV 1 V3 (zerC) 1100 e w' := by
  have h := of_c (m := 0) (s := ⟨t4.toArray⟩) (by decide) p4 HE3.out (by omega) dep2 (HT.out.later HB3.out) m4 bad2 o4
  rw [e4] at h
  exact h
 refine cE.mono ?_
 rintro e X4 ⟨hx, u4, rfl, hfr⟩
 have sx4 := hx.size
 obtain ⟨un4, ul4, uc4, ua4, ub4, ud4, hu⟩ := VRs.in_shape hfr.in
 have hu' : u4 = vl 0 false 0 ⟨#[]⟩ (.slice un4 ul4 uc4) (.slice ua4 ub4 ud4) := hu
 subst hu'
 have HX : Hid (Below V3.heap.size V3 X4) := hx
 clear hu hfr cE hx
 obtain ⟨Y, hY⟩ : ∃ Y, X4.alloc (.cells #[.int .i64 0, .bool false, .int .i64 0, .string ⟨#[]⟩, .slice none 0 0, .slice none 0 0] 32) = Y := ⟨_, rfl⟩
 have hz : Y.heap[X4.heap.size]? = some (.cells #[.int .i64 0, .bool false, .int .i64 0, .string ⟨#[]⟩, .slice none 0 0, .slice none 0 0] 32 (0, 0)) := by rw [← hY]; exact heap_alloc_new _ _
 have hby : Below X4.heap.size X4 Y := by rw [← hY]; exact (Below.refl _ _).alloc (Nat.le_refl _) _
 obtain ⟨n0, n1, n2, n3, n4, n5⟩ := six_box hz
 have nf0 := frozen_box hz 0
 have nf1 := frozen_box hz 1
 have nf2 := frozen_box hz 2
 have nf3 := frozen_box hz 3
 have nf4 := frozen_box hz 4
 have nf5 := frozen_box hz 5
 obtain ⟨V4, hV4⟩ : ∃ V4, ((((((Y.setCell ⟨X4.heap.size, 0, none⟩ (.int .i64 0)).setCell ⟨X4.heap.size, 1, none⟩ (.bool false)).setCell ⟨X4.heap.size, 2, none⟩ (.int .i64 0)).setCell ⟨X4.heap.size, 3, none⟩ (.string ⟨#[]⟩)).setCell ⟨X4.heap.size, 4, none⟩ (.slice un4 ul4 uc4)).setCell ⟨X4.heap.size, 5, none⟩ (.slice ua4 ub4 ud4)) = V4 := ⟨_, rfl⟩
 obtain ⟨a1, a2, a3, a4⟩ := set6 _ _ _ _ _ _ hz hV4
 have hbv : Below X4.heap.size X4 V4 := a4 _ _ (Nat.le_refl _) hby
 have s4 := hbv.size
 have HA4_4 : Hid (V4.heap[X4.heap.size]? = some _) := a1
 have l4 := (Array.getElem?_eq_some_iff.1 a1).1
 have HV : Hid (Below V3.heap.size V3 V4) := HX.out.trans (hbv.mono HX.out.size)
 have HB4 : Hid (Below w.heap.size w V4) := HB3.out.trans (HV.out.mono HB3.out.size)
 have HE4 : Hid (Bl (W2.heap.size + 1) 1 V4 (.slice (some ⟨W2.heap.size, 0, none⟩) 2 2) bs2) := HE3.out.low (HV.out.mono (by omega))
 have HA1_4 : Hid (V4.heap[X1.heap.size]? = some _) := (HV.out.block _ (by omega)).trans HA1_3.out
 have HA3_4 : Hid (V4.heap[X3.heap.size]? = some _) := (HV.out.block _ (by omega)).trans HA3_3.out
 clear hz hby a1 a2 a3 a4 hbv HX HV HB3 HE3
 go_wp2_with fail
 clear n0 n1 n2 n3 n4 n5 nf0 nf1 nf2 nf3 nf4 nf5 hY hV4
 have cE : Calls Tryz.prog 38 #[.string ⟨t5.toArray⟩, .slice (some ⟨W2.heap.size, 0, none⟩) 2 2] V4 fun e w' => EV 1 V4 (strC ⟨#[97, 49]⟩) 0 e w' := by
  have h := of_c (m := 0) (s := ⟨t5.toArray⟩) (by decide) p5 HE4.out (by omega) dep2 (HT.out.later HB4.out) m5 bad2 o5
  rw [e5] at h
  exact h
 refine cE.mono ?_
 rintro e X5 ⟨hx, u5, rfl, hfr⟩
 have sx5 := hx.size
 obtain ⟨un5, ul5, uc5, ua5, ub5, ud5, hu⟩ := VRs.in_shape hfr.in
 have hu' : u5 = vl 4 false 0 ⟨#[97, 49]⟩ (.slice un5 ul5 uc5) (.slice ua5 ub5 ud5) := hu
 subst hu'
 have HX : Hid (Below V4.heap.size V4 X5) := hx
 clear hu hfr cE hx
 obtain ⟨Y, hY⟩ : ∃ Y, X5.alloc (.cells #[.int .i64 0, .bool false, .int .i64 0, .string ⟨#[]⟩, .slice none 0 0, .slice none 0 0] 32) = Y := ⟨_, rfl⟩
 have hz : Y.heap[X5.heap.size]? = some (.cells #[.int .i64 0, .bool false, .int .i64 0, .string ⟨#[]⟩, .slice none 0 0, .slice none 0 0] 32 (0, 0)) := by rw [← hY]; exact heap_alloc_new _ _
 have hby : Below X5.heap.size X5 Y := by rw [← hY]; exact (Below.refl _ _).alloc (Nat.le_refl _) _
 obtain ⟨n0, n1, n2, n3, n4, n5⟩ := six_box hz
 have nf0 := frozen_box hz 0
 have nf1 := frozen_box hz 1
 have nf2 := frozen_box hz 2
 have nf3 := frozen_box hz 3
 have nf4 := frozen_box hz 4
 have nf5 := frozen_box hz 5
 obtain ⟨V5, hV5⟩ : ∃ V5, ((((((Y.setCell ⟨X5.heap.size, 0, none⟩ (.int .i64 4)).setCell ⟨X5.heap.size, 1, none⟩ (.bool false)).setCell ⟨X5.heap.size, 2, none⟩ (.int .i64 0)).setCell ⟨X5.heap.size, 3, none⟩ (.string ⟨#[97, 49]⟩)).setCell ⟨X5.heap.size, 4, none⟩ (.slice un5 ul5 uc5)).setCell ⟨X5.heap.size, 5, none⟩ (.slice ua5 ub5 ud5)) = V5 := ⟨_, rfl⟩
 obtain ⟨a1, a2, a3, a4⟩ := set6 _ _ _ _ _ _ hz hV5
 have hbv : Below X5.heap.size X5 V5 := a4 _ _ (Nat.le_refl _) hby
 have s5 := hbv.size
 have HA5_5 : Hid (V5.heap[X5.heap.size]? = some _) := a1
 have l5 := (Array.getElem?_eq_some_iff.1 a1).1
 have HV : Hid (Below V4.heap.size V4 V5) := HX.out.trans (hbv.mono HX.out.size)
 have HB5 : Hid (Below w.heap.size w V5) := HB4.out.trans (HV.out.mono HB4.out.size)
 have HE5 : Hid (Bl (W2.heap.size + 1) 1 V5 (.slice (some ⟨W2.heap.size, 0, none⟩) 2 2) bs2) := HE4.out.low (HV.out.mono (by omega))
 have HA1_5 : Hid (V5.heap[X1.heap.size]? = some _) := (HV.out.block _ (by omega)).trans HA1_4.out
 have HA3_5 : Hid (V5.heap[X3.heap.size]? = some _) := (HV.out.block _ (by omega)).trans HA3_4.out
 clear hz hby a1 a2 a3 a4 hbv HX HV HB4 HE4
 obtain ⟨-, -, y0, -⟩ := six_box HA1_5.out
 obtain ⟨y1, -⟩ := six_box HA3_5.out
 obtain ⟨-, -, -, y2, -⟩ := six_box HA5_5.out
 go_wp2_with fail
 go_ret
 exact ⟨rfl, HB5.out⟩
end Go.Proofs.YtdeigdbnnbikgaaGreatDoor.VAw

import Derived.BigQuiet
import Derived.Test.YtaiackmmmlhgbaaGreatPV10
open Go.Proofs.Tryz
set_option linter.unusedVariables false
set_option maxRecDepth 20000
set_option maxHeartbeats 3200000
namespace Go.Proofs.YtaiackmmmlhgbaaGreat.BSm
open Go.RowKit BPl YRr YRs BBx
open YPl (Oq Bk Pg)
open TBase (T Keep)
open IBase (heap_alloc_new)
open CBx (w64)
abbrev opv (o : Oq) (v : Value) : Value := .agg #[.int .i64 o.k, .int .i64 o.a, .int .i64 o.b, .int .i64 o.c, v]
theorem box5 (w : World) (x0 x1 x2 x3 x4 : Value) (t : TypeId) : ∃ W, w.alloc (.cells #[x0, x1, x2, x3, x4] t) = W /\ Below w.heap.size w W /\ W.heap.size = w.heap.size + 1 /\ W.heap[w.heap.size]? = some (.cells #[x0, x1, x2, x3, x4] t (0, 0)) :=
 ⟨_, rfl, (Below.refl _ w).alloc (Nat.le_refl _) _, by simp, heap_alloc_new w _⟩
theorem grows_c (o : Oq) (a : Option Addr) (cap : Nat) (w : World) :
  Calls prog 145 #[opv o (.slice a o.l.length cap)] w fun e w' => e = .returned (.int .i64 (grows o)) /\ Below w.heap.size w w' := by
 obtain ⟨k, x, y, z, l⟩ := o
 obtain ⟨W, hW, hb, hs, hx⟩ := box5 w (.int .i64 k) (.int .i64 x) (.int .i64 y) (.int .i64 z) (.slice a l.length cap) 127
 have c0 := cell_of hx 0 _ rfl
 have c4 := cell_of hx 4 _ rfl
 unfold grows
 dsimp only at *
 clear hx
 have hB : Hid (Below w.heap.size w W) := hb
 clear hb
 by_cases h9 : k = 9
 ·have d9 : (k == 9) = true := by simp [h9]
  rw [if_pos h9]
  clear h9
  go_enter func145, ntmps145
  go_wp2_with fail
  go_ret
  exact ⟨rfl, hB.out⟩
 have d9 : (k == 9) = false := by simp [h9]
 rw [if_neg h9]
 by_cases h10 : k = 10
 ·have d10 : (k == 10) = true := by simp [h10]
  rw [if_pos h10]
  clear h9 h10
  go_enter func145, ntmps145
  go_wp2_with fail
  go_ret
  exact ⟨rfl, hB.out⟩
 have d10 : (k == 10) = false := by simp [h10]
 rw [if_neg h10]
 by_cases h11 : k = 11
 ·have d11 : (k == 11) = true := by simp [h11]
  rw [if_pos h11]
  clear h9 h10 h11
  go_enter func145, ntmps145
  go_wp2_with fail
  go_ret
  exact ⟨rfl, hB.out⟩
 have d11 : (k == 11) = false := by simp [h11]
 rw [if_neg h11]
 clear h9 h10 h11
 go_enter func145, ntmps145
 go_wp2_with fail
 go_ret
 exact ⟨rfl, hB.out⟩
theorem keep_of {R : Nat -> Prop} {w w' : World} (hb : Below w.heap.size w w') : Keep R w w' := fun b _ hl => hb.block b hl
theorem isValue_c {R : Nat -> Prop} {w : World} {B P : Nat} {S : Sh} {hv : Value} {A : Ar} {nb : Nat} {ov : Value} {lt : Int} {uv : Value} {cl : Int} (h : Pw R w P S hv) (hB : Bw w B P A nb ov lt uv cl) (o : Oq) (a : Option Addr) (cap : Nat) :
  Calls prog 188 #[.pointer (some ⟨B, 0, none⟩), opv o (.slice a o.l.length cap)] w fun e w' => e = .returned (.bool (isV S o)) /\ Below w.heap.size w w' := by
 obtain ⟨k, x, y, z, l⟩ := o
 obtain ⟨W, hW, hb, hs, hx⟩ := box5 w (.int .i64 k) (.int .i64 x) (.int .i64 y) (.int .i64 z) (.slice a l.length cap) 127
 have c0 := cell_of hx 0 _ rfl
 have c2 := cell_of hx 2 _ rfl
 have h' := h.keep (keep_of hb)
 have b0 := cell_of (hB.keep hb) 0 _ rfl
 have cT := fun m => isText_c (h'.drewN m) y
 have cC := fun m => isCode_c (h'.drewN m) y
 unfold isV
 dsimp only at *
 clear hx h h' hB
 have HB : Hid (Below w.heap.size w W) := hb
 clear hb
 generalize isN y S.t.length = p at *
 generalize isN y S.n.length = q at *
 cases d4 : (k == 4) <;> (
  go_enter func188, ntmps188
  go_wp2_with fail
  go_quiet (first | (go_at_call 187; exact Calls.quiet_of_same (cT _)) | (go_at_call 190; exact Calls.quiet_of_same (cC _)))
  go_wp2_with fail
  go_ret
  exact ⟨rfl, IBase.below_drewN HB.out⟩)
theorem upd_cons (n : Nat) (m : Int) {u : List Int} {q : Nat} (h : q < u.length) : BPl.upd n m q (u.drop q) = if u[q] < m \/ (n : Int) <= u[q] then ((q : Int), 2207) else BPl.upd n (u[q] + 1) (q + 1) (u.drop (q + 1)) := by
 rw [List.drop_eq_getElem_cons h, BPl.upd]
theorem update_c {R : Nat -> Prop} {w : World} {v : Value} {u : List Int} (hin : RrS 1 LyI R w v u) (n : Nat) (hn : n <= 140737488351232) :
  Calls prog 94 #[v, .int .i64 n] w fun e w' => e = .returned (.tuple #[.int .i64 (BPl.upd n 0 0 u).1, .int .i64 (BPl.upd n 0 0 u).2]) /\ w' = w := by
 have HIN : Hid (RrS 1 LyI R w v u) := hin
 obtain ⟨a, cap, rfl, hlc, hcm, h47, hnil, hL⟩ := hin
 obtain ⟨T, hT⟩ : ∃ T, BPl.upd n 0 0 u = T := ⟨_, rfl⟩
 have HT : Hid (BPl.upd n 0 0 (u.drop 0) = T) := hT
 rw [hT]
 clear hT hL hnil
 go_enter func94, ntmps94
 go_wp2_with fail
 go_loopw [6, 11] (fun m i wr => ∃ (q : Nat) (x : Int), q <= u.length /\ i = .int .i64 q /\ m = .int .i64 x /\ -9223372036854775808 <= x /\ x <= 140737488351233 /\ BPl.upd n x q (u.drop q) = T /\ wr = w) (fun _ i _ => u.length - (intOf i).toNat)
 case atStart => exact ⟨0, 0, by omega, rfl, rfl, by omega, by omega, HT.out, rfl⟩
 case round =>
  clear HT
  obtain ⟨q, x, hq, rfl, rfl, x1, x2, hM, rfl⟩ := hrel
  by_cases hlt : q < u.length
  ·have d0 : decide ((q : Int) < (u.length : Int)) = true := by simp; omega
   have i0 : (0 : Int) <= (q : Int) := by omega
   have i1 : (q : Int) < (u.length : Int) := by omega
   obtain ⟨g, o, cap', hsl, hl, hm, hg, k0⟩ := RrS.at HIN.out hlt
   cases hsl
   have hr := k0.2
   have k0 := k0.1
   rw [Nat.mul_one] at k0
   rw [upd_cons n x hlt] at hM
   generalize u[q] = s at *
   by_cases hbad : s < x \/ (n : Int) <= s
   ·rw [if_pos hbad] at hM
    subst hM
    have hd : (decide (s < x) = true) \/ (decide (s < x) = false /\ decide ((n : Int) <= s) = true) := by
     by_cases h1 : s < x
     ·exact .inl (by simp [h1])
     ·exact .inr ⟨by simp [h1], by simpa using hbad.resolve_left h1⟩
    clear hbad HIN
    rcases hd with d1 | ⟨d1, d2⟩ <;> (
     go_wp2_with fail
     go_ret2
     exact ⟨rfl, rfl⟩)
   ·rw [if_neg hbad] at hM
    have d1 : decide (s < x) = false := by simp; omega
    have d2 : decide ((n : Int) <= s) = false := by simp; omega
    have HM : Hid (BPl.upd n (s + 1) (q + 1) (u.drop (q + 1)) = T) := hM
    have HS : Hid (-9223372036854775808 <= s + 1 /\ s + 1 <= 140737488351233) := ⟨by have := hr.1; omega, by omega⟩
    have hw : IntKind.i64.wrap (s + 1) = s + 1 := w64 (by have := hr.1; omega) (by omega)
    clear hM hbad
    go_wp2_with fail
    go_roundw
    case rel => exact ⟨q + 1, s + 1, by omega, by go_num, rfl, HS.out.1, HS.out.2, HM.out, trivial⟩
    case measure => simp only [intOf]; omega
  ·have d0 : decide ((q : Int) < (u.length : Int)) = false := by simp; omega
   have hT : ((0 : Int), (0 : Int)) = T := by
    rw [List.drop_eq_nil_of_le (by omega)] at hM
    exact hM
   subst hT
   clear hM
   go_wp2_with fail
   go_ret2
   exact ⟨rfl, rfl⟩
end Go.Proofs.YtaiackmmmlhgbaaGreat.BSm
namespace Go.Proofs.YtaiackmmmlhgbaaGreat.BOp
open Go.RowKit BPl YRr YRs BBx
open YPl (Oq Bk Pg)
open TBase (T Keep)
open CBx (w64)
theorem kind_at {R : Nat -> Prop} {w : World} {v : Value} {l : List Oq} (h : RrS 5 (LyOs R) R w v l) {q : Nat} (hq : q < l.length) : ∃ g o cap lv, v = .slice (some ⟨g, o, none⟩) l.length cap /\ l.length <= cap /\ cap <= 9223372036854775807 /\ R g /\ w.cell? ⟨g, o + q * 5, none⟩ = some (.int .i64 l[q].k) /\ w.cell? ⟨g, o + q * 5 + 1, none⟩ = some (.int .i64 l[q].a) /\ w.cell? ⟨g, o + q * 5 + 2, none⟩ = some (.int .i64 l[q].b) /\ w.cell? ⟨g, o + q * 5 + 3, none⟩ = some (.int .i64 l[q].c) /\ w.cell? ⟨g, o + q * 5 + 4, none⟩ = some lv /\ (i64 l[q].k /\ i64 l[q].a /\ i64 l[q].b /\ i64 l[q].c) /\ RrS 1 LyI R w lv l[q].l := by
 obtain ⟨g, o, cap, h1, h2, h3, h4, lv, h5, h6, h7, h8, h9, h10, h11⟩ := RrS.at h hq
 exact ⟨g, o, cap, lv, h1, h2, h3, h4, h5, h6, h7, h8, h9, h10, h11⟩
theorem item_c {R : Nat -> Prop} {w : World} {B P : Nat} {A : Ar} {nb : Nat} {ov : Value} {lt : Int} {uv : Value} {cl : Int} (hB : Bw w B P A nb ov lt uv cl) {ops : List Oq} (hO : RrS 5 (LyOs R) R w ov ops) :
  Calls prog 93 #[.pointer (some ⟨B, 0, none⟩)] w fun e w' => e = .returned (.bool (item ops cl)) /\ Below w.heap.size w w' := by
 have h47 : ops.length <= 140737488351232 := by obtain ⟨a, cap, -, -, -, h, -⟩ := hO; exact h
 cases ops with
 | nil =>
  obtain ⟨a, cap, rfl, hl, hm, -, hnil, -⟩ := hO
  have c7 := cell_of hB 7 _ rfl
  have c10 := cell_of hB 10 _ rfl
  clear hB
  go_enter func93, ntmps93
  go_wp2_with fail
  go_ret
  exact ⟨rfl, Below.refl _ _⟩
 | cons o r =>
  obtain ⟨g, p, cap, lv, rfl, hl, hm, hg, k0, -, -, -, -, -, -⟩ := kind_at hO (q := 0) (by simp)
  have c7 := cell_of hB 7 _ rfl
  have c10 := cell_of hB 10 _ rfl
  have e0 : item (o :: r) cl = if o.k = 7 then (((o :: r).length : Nat) : Int) == 1 else if o.k = 3 then cl == (((o :: r).length : Nat) : Int) - 1 else false := rfl
  rw [e0]
  simp only [Nat.zero_mul, Nat.add_zero, List.getElem_cons_zero] at k0
  have dn : ((((o :: r).length : Nat) : Int) == 0) = false := by simp; omega
  have hn : 0 < (o :: r).length := by simp
  clear e0 hO
  generalize (o :: r).length = n at *
  have hw : IntKind.i64.wrap ((n : Int) - 1) = (n : Int) - 1 := w64 (by omega) (by omega)
  have i0 : (0 : Int) < (n : Int) := by omega
  clear hB hn
  generalize o.k = k at *
  by_cases h7 : k = 7
  ·have d7 : (k == 7) = true := by simp [h7]
   rw [if_pos h7]
   clear h7
   go_enter func93, ntmps93
   go_wp2_with fail
   go_ret
   exact ⟨rfl, Below.refl _ _⟩
  have d7 : (k == 7) = false := by simp [h7]
  rw [if_neg h7]
  by_cases h3 : k = 3
  ·have d3 : (k == 3) = true := by simp [h3]
   rw [if_pos h3]
   clear h7 h3
   go_enter func93, ntmps93
   go_wp2_with fail
   first
    | (go_ret; exact ⟨rfl, Below.refl _ _⟩)
    | (go_quiet (fail); go_wp2_with fail; go_ret; exact ⟨rfl, IBase.below_drewN (Below.refl _ _)⟩)
  have d3 : (k == 3) = false := by simp [h3]
  rw [if_neg h3]
  clear h7 h3
  go_enter func93, ntmps93
  go_wp2_with fail
  go_ret
  exact ⟨rfl, Below.refl _ _⟩
end Go.Proofs.YtaiackmmmlhgbaaGreat.BOp
namespace Go.Proofs.YtaiackmmmlhgbaaGreat.BSn
open Go.RowKit BPl YRr YRs BBx BIx BSm BOp
open YPl (Oq Bk Pg)
open TBase (T Keep)
open CBx (w64)
open IBase (heap_alloc_new)
theorem txa_at {R : Nat -> Prop} {w : World} {P : Nat} {S : Sh} {hv : Value} (h : Pw R w P S hv) {i : Int} (hi : isN i S.t.length = true) : ∃ (q g o cap : Nat) (nv dv : Value), i = (q : Int) /\ (0 : Int) <= (q : Int) /\ (q : Int) < (S.t.length : Int) /\ S.t.length <= cap /\ R g /\ w.heap[P]? = some (.cells #[.slice (some ⟨g, o, none⟩) S.t.length cap, nv, dv, hv] 99 (0, 0)) /\ w.cell? ⟨g, o + q, none⟩ = some (.string (txa S i)) /\ (∀ j : Nat, isN j S.t.length = true -> w.cell? ⟨g, o + j, none⟩ = some (.string (txa S j))) := by
 obtain ⟨q, rfl, hq⟩ := isN_of hi
 obtain ⟨tv, nv, dv, h1, -, h3, -, -⟩ := h
 obtain ⟨a, cap, rfl, h2, h4, h5, h6, h7⟩ := h3
 rcases h7 with h7 | ⟨g, o, rfl, hg, hc⟩
 ·rw [h7] at hq; simp at hq
 have key : ∀ j : Nat, isN j S.t.length = true -> w.cell? ⟨g, o + j, none⟩ = some (.string (txa S j)) := by
  intro j hj
  obtain ⟨q', e, hq'⟩ := isN_of hj
  obtain rfl : j = q' := by omega
  have := (hc j hq').1
  rw [Nat.mul_one] at this
  rw [this, show txa S (j : Int) = S.t[j] from getD_at hq' _]
 exact ⟨q, g, o, cap, nv, dv, rfl, by omega, by omega, h2, hg, h1, key q hi, key⟩
theorem rises_c {R : Nat -> Prop} {w : World} {B P : Nat} {S : Sh} {hv : Value} {A : Ar} {nb : Nat} {ov : Value} {lt : Int} {uv : Value} {cl : Int} (h : Pw R w P S hv) (hR : ∀ g, R g -> g < w.heap.size) (hB : Bw w B P A nb ov lt uv cl) {ops : List Oq} (hO : RrS 5 (LyOs R) R w ov ops) {p : Nat} (hp : p < ops.length) (o : Oq) (a : Option Addr) (cap : Nat) (ho : isN o.a S.t.length = true)
  (ha : p ≠ 0 -> ((ahd ops p).k = 4 \/ (ahd ops p).k = 5) -> isN (ahd ops p).a S.t.length = true) :
  Calls prog 195 #[.pointer (some ⟨B, 0, none⟩), .int .i64 p, opv o (.slice a o.l.length cap)] w fun e w' => e = .returned (.bool (rises S ops p o)) /\ Below w.heap.size w w' := by
 obtain ⟨k, x, y, z, l⟩ := o
 obtain ⟨W, hW, hb, hs, hx⟩ := box5 w (.int .i64 k) (.int .i64 x) (.int .i64 y) (.int .i64 z) (.slice a l.length cap) 127
 dsimp only at ho
 unfold rises
 dsimp only
 by_cases hp0 : p = 0
 ·subst hp0
  rw [if_pos rfl]
  clear hx
  have HB : Hid (Below w.heap.size w W) := hb
  clear hb h hR hB hO ho ha
  go_enter func195, ntmps195
  go_wp2_with fail
  go_ret
  exact ⟨rfl, HB.out⟩
 rw [if_neg hp0]
 have h47 : ops.length <= 140737488351232 := by obtain ⟨a, cap, -, -, -, h, -⟩ := hO; exact h
 obtain ⟨j, rfl⟩ : ∃ j, p = j + 1 := ⟨p - 1, by omega⟩
 have hj : j < ops.length := by omega
 have eA : ahd ops (j + 1) = ops[j] := by
  unfold ahd
  rw [Nat.add_sub_cancel, List.getD_eq_getElem?_getD, List.getElem?_eq_getElem hj, Option.getD_some]
 rw [eA] at ha ⊢
 have ha := ha hp0
 obtain ⟨g, oo, cp, lv, rfl, hl, hm, hg, k0, k1, k2, k3, k4, kr, hlv⟩ := kind_at hO hj
 obtain ⟨la, lcap, rfl, -⟩ := hlv
 have hgw := hR g hg
 have k0 := below_cell hgw k0 hb
 have k1 := below_cell hgw k1 hb
 have k2 := below_cell hgw k2 hb
 have k3 := below_cell hgw k3 hb
 have k4 := below_cell hgw k4 hb
 have hB1 := hB.keep hb
 have b7 := cell_of hB1 7 _ rfl
 have p1 : (((j + 1 : Nat) : Int) == 0) = false := by simp; omega
 have hw1 : IntKind.i64.wrap (((j + 1 : Nat) : Int) - 1) = (j : Int) := by rw [IntKind.wrap_i64]; omega
 have i0 : (0 : Int) <= (j : Int) := by omega
 have i1 : (j : Int) < (ops.length : Int) := by omega
 obtain ⟨W2, hW2, hb2, hs2, hx2⟩ := box5 W (.int .i64 ops[j].k) (.int .i64 ops[j].a) (.int .i64 ops[j].b) (.int .i64 ops[j].c) (.slice la ops[j].l.length lcap) 127
 have hPw2 := (h.keep (keep_of hb)).keep (keep_of hb2)
 have hB2 := hB1.keep hb2
 have hx1 := (hb2.block w.heap.size (by omega)).trans hx
 have n0 := cell_of hx2 0 _ rfl
 have n1 := cell_of hx2 1 _ rfl
 have m1 := cell_of hx1 1 _ rfl
 have q0 := cell_of hB2 0 _ rfl
 have HB : Hid (Below w.heap.size w W2) := hb.trans (hb2.mono hb.size)
 obtain ⟨n, hn⟩ : ∃ n, ops.length = n := ⟨_, rfl⟩
 rw [hn] at hl i1 b7
 generalize ops[j].k = kk at *
 generalize ops[j].a = aa at *
 generalize ops[j].b = bb at *
 generalize ops[j].c = cc at *
 generalize ops[j].l.length = ll at *
 clear hB hB1 hB2 hO hx hx1 hx2 hb hb2 h eA hn hR
 rw [hs] at n0 n1
 have dd : ∀ (b3 b4 b5 : Bool), (kk == 3) = b3 -> (kk == 4) = b4 -> (kk == 5) = b5 -> (b3 || (b4 || b5)) = false -> (if kk = 3 then true else if kk = 4 \/ kk = 5 then TPure.lt (txa S aa) (txa S x) else false) = false := by
  intro b3 b4 b5 h3 h4 h5 hh
  have : ¬ kk = 3 := by rintro rfl; subst h3; simp at hh
  have : ¬ (kk = 4 \/ kk = 5) := by rintro (rfl | rfl) <;> (subst h4; subst h5; simp at hh)
  simp [*]
 by_cases h3 : kk = 3
 ·have d3 : (kk == 3) = true := by simp [h3]
  rw [if_pos h3]
  clear h3 dd ha hPw2
  go_enter func195, ntmps195
  go_wp2_with fail
  go_ret
  exact ⟨rfl, HB.out⟩
 have d3 : (kk == 3) = false := by simp [h3]
 by_cases h45 : kk = 4 \/ kk = 5
 ·rw [if_neg h3, if_pos h45]
  obtain ⟨q, g1, o1, cp1, nv, dv, rfl, u0, u1, u2, -, hP1, t1, key⟩ := txa_at hPw2 ho
  obtain ⟨q', rfl, hq'⟩ := isN_of (ha h45)
  have t2 := key q' (ha h45)
  have v0 : (0 : Int) <= (q' : Int) := by omega
  have v1 : (q' : Int) < (S.t.length : Int) := by omega
  have r0 := cell_of hP1 0 _ rfl
  unfold TPure.lt
  generalize txa S (q : Int) = s1 at *
  generalize txa S (q' : Int) = s2 at *
  generalize S.t.length = tn at *
  have d45 : (kk == 4) = true \/ ((kk == 4) = false /\ (kk == 5) = true) := by
   rcases h45 with rfl | rfl
   ·exact .inl rfl
   ·exact .inr ⟨rfl, rfl⟩
  clear h3 dd ha hPw2 h45 hP1 key
  rcases d45 with d4 | ⟨d4, d5⟩ <;> (
   go_enter func195, ntmps195
   go_wp2_with fail
   go_quiet (fail)
   go_wp2_with fail
   go_ret
   exact ⟨rfl, IBase.below_drewN HB.out⟩)
 rw [if_neg h3, if_neg h45]
 have d4 : (kk == 4) = false := by simp; exact fun e => h45 (.inl e)
 have d5 : (kk == 5) = false := by simp; exact fun e => h45 (.inr e)
 clear h3 dd ha hPw2 h45
 go_enter func195, ntmps195
 go_wp2_with fail
 go_ret
 exact ⟨rfl, HB.out⟩
end Go.Proofs.YtaiackmmmlhgbaaGreat.BSn
namespace Go.Proofs.YtaiackmmmlhgbaaGreat.BSt
open Go.RowKit BPl YRr YRs BBx BSm BSn
open YPl (Oq Bk Pg)
open TBase (T Keep)
open CBx (w64)
theorem zr_true {n : Bool} {a b c : Int} {l : Nat} (h : zr n a b c l = true) : n = true := by
 unfold zr at h
 cases n
 ·exact h
 ·rfl
theorem band {a b : Bool} (h : (bif a then b else false) = true) : a = true /\ b = true := by
 cases a <;> cases b <;> simp at h ⊢
theorem tg_n {S : Sh} {i : Int} (h : isTg S i = true) : isN i S.t.length = true := by
 unfold isTg at h
 exact (band h).1
theorem fits_tag {S : Sh} {o : Oq} (h : fits S o = true) (hk : o.k = 4 \/ o.k = 5) : isN o.a S.t.length = true := by
 unfold fits at h
 rw [if_neg (by omega), if_pos hk] at h
 exact tg_n (band (zr_true h)).2
theorem fits_static {S : Sh} {o : Oq} (h : fits S o = true) (hk : o.k = 7) : isN o.a S.d.length = true := by
 unfold fits at h
 rw [if_neg (by omega), if_neg (by omega), if_neg (by omega), if_neg (by omega), if_neg (by omega), if_neg (by omega), if_neg (by omega), if_pos hk] at h
 exact zr_true h
theorem fits_code {S : Sh} {o : Oq} (h : fits S o = true) (hk : o.k = 2 \/ o.k = 8 \/ o.k = 9 \/ o.k = 11) : isN o.a S.n.length = true := by
 unfold fits at h
 rcases hk with hk | hk | hk | hk <;> simp only [hk] at h
 ·exact zr_true h
 ·exact zr_true h
 ·exact (band (zr_true h)).2
 ·exact zr_true h
theorem fits_codeB {S : Sh} {o : Oq} (h : fits S o = true) (hk : o.k = 5 \/ o.k = 9) : isN o.b S.n.length = true := by
 unfold fits at h
 rcases hk with hk | hk
 ·rw [if_neg (by omega), if_pos (.inr hk)] at h
  have := (band (zr_true h)).1
  unfold isV at this
  rw [hk] at this
  exact this
 ·simp only [hk] at h
  exact (band (zr_true h)).1
theorem fits_list {S : Sh} {o : Oq} (h : fits S o = true) (hk : o.k = 10) : o.l.length <= 64 /\ ∀ x ∈ o.l, isN x S.n.length = true := by
 unfold fits at h
 simp only [hk] at h
 obtain ⟨h1, h2⟩ := band (zr_true h)
 refine ⟨by simp at h1; omega, fun x hx => ?_⟩
 cases hN : isN x S.n.length with
 | true => rfl
 | false =>
  have : (o.l.any fun i => !isN i S.n.length) = true := List.any_eq_true.2 ⟨x, hx, by rw [hN]; rfl⟩
  rw [this] at h2
  cases h2
theorem int_at {R : Nat -> Prop} {w : World} {v : Value} {l : List Int} (h : RrS 1 LyI R w v l) {i : Int} (hi : isN i l.length = true) : ∃ (q g o cap : Nat), i = (q : Int) /\ (0 : Int) <= (q : Int) /\ (q : Int) < (l.length : Int) /\ l.length <= cap /\ R g /\ v = .slice (some ⟨g, o, none⟩) l.length cap /\ w.cell? ⟨g, o + q, none⟩ = some (.int .i64 (l.getD i.toNat 0)) := by
 obtain ⟨q, rfl, hq⟩ := isN_of hi
 obtain ⟨g, o, cap, rfl, hl, hm, hg, hc⟩ := RrS.at h hq
 have := hc.1
 rw [Nat.mul_one] at this
 exact ⟨q, g, o, cap, rfl, by omega, by omega, hl, hg, rfl, by rw [this, getD_at hq]⟩
theorem stands_c {R : Nat -> Prop} {w : World} {B P : Nat} {S : Sh} {hv : Value} {b : Bd} {nb : Nat} {ov : Value} {ua : Option Addr} {uc : Nat} (h : Pw R w P S hv) (hR : ∀ g, R g -> g < w.heap.size) (hB : Bw w B P b.ar nb ov b.lt (.slice ua b.ou.length uc) b.cl) {ops : List Oq} (hO : RrS 5 (LyOs R) R w ov ops) {p : Nat} (hp : p < ops.length) (o : Oq) (a : Option Addr) (cap : Nat) (hf : fits S o = true)
  (ha : p ≠ 0 -> ((ahd ops p).k = 4 \/ (ahd ops p).k = 5) -> isN (ahd ops p).a S.t.length = true) (hd : ∀ i, 0 <= dpa S i /\ dpa S i <= 140737488351232) (he : 0 <= b.ar.el /\ b.ar.el <= 64) :
  Calls prog 143 #[.pointer (some ⟨B, 0, none⟩), .int .i64 p, opv o (.slice a o.l.length cap)] w fun e w' => e = .returned (.bool (stands S ops b p o)) /\ Below w.heap.size w w' := by
 obtain ⟨W, hW, hb, hs, hx⟩ := box5 w (.int .i64 o.k) (.int .i64 o.a) (.int .i64 o.b) (.int .i64 o.c) (.slice a o.l.length cap) 127
 have hPw := h.keep (keep_of hb)
 have hBw := hB.keep hb
 have HB : Hid (Below w.heap.size w W) := hb
 unfold stands
 by_cases h45 : o.k = 4 \/ o.k = 5
 ·rw [if_pos h45]
  have cR := rises_c hPw (fun g hg => Nat.lt_of_lt_of_le (hR g hg) hb.size) hBw (hO.keep (fun _ h => h) fun g o x _ hg h => kO (keep_of hb) (fun _ h => h) hg h) hp o a cap (fits_tag hf h45) ha
  obtain ⟨k, x, y, z, l⟩ := o
  dsimp only at *
  generalize rises S ops p ⟨k, x, y, z, l⟩ = Z at *
  have c0 := cell_of hx 0 _ rfl
  have c1 := cell_of hx 1 _ rfl
  have c2 := cell_of hx 2 _ rfl
  have c3 := cell_of hx 3 _ rfl
  have c4 := cell_of hx 4 _ rfl
  clear hx hb hPw hBw hB h hO hf ha hR hd
  generalize l.length = n at *
  rcases h45 with rfl | rfl <;> (
   go_enter func143, ntmps143
   go_wp2_with fail
   refine cR.mono ?_
   rintro e W1 ⟨rfl, b1⟩
   have HB1 : Hid (Below w.heap.size w W1) := HB.out.trans (b1.mono HB.out.size)
   clear cR b1
   go_wp2_with fail
   go_ret
   exact ⟨rfl, HB1.out⟩)
 rw [if_neg h45]
 have d4 : (o.k == 4) = false := by simp; exact fun e => h45 (.inl e)
 have d5 : (o.k == 5) = false := by simp; exact fun e => h45 (.inr e)
 have c0 := cell_of hx 0 _ rfl
 have c1 := cell_of hx 1 _ rfl
 have e0 := cell_of hBw 4 _ rfl
 have b0 := cell_of hBw 0 _ rfl
 have b8 := cell_of hBw 8 _ rfl
 have b9 := cell_of hBw 9 _ rfl
 clear ha hO
 by_cases h3 : o.k = 3
 ·rw [if_pos h3]
  clear hx hBw hB h hR hPw hb hf hd
  obtain ⟨k, x, y, z, l⟩ := o
  dsimp only at *
  subst h3
  generalize b.ar.el = u at *
  have hw : IntKind.i64.wrap (u + 1) = u + 1 := w64 (by omega) (by omega)
  go_enter func143, ntmps143
  go_wp2_with fail
  go_ret
  exact ⟨rfl, HB.out⟩
 rw [if_neg h3]
 have d3 : (o.k == 3) = false := by simp [h3]
 by_cases h7 : o.k = 7
 ·rw [if_pos h7]
  obtain ⟨tv, nv, dv, hP, -, -, -, hD⟩ := hPw
  obtain ⟨q, g, oo, cp, e1, i0, i1, hl, -, rfl, t0⟩ := int_at hD (fits_static hf h7)
  have dd := hd o.a
  have p2 := cell_of hP 2 _ rfl
  clear hx hBw hB h hR hb hf hd hP hD
  obtain ⟨k, x, y, z, l⟩ := o
  dsimp only at *
  subst h7
  unfold dpa at dd ⊢
  generalize S.d.getD x.toNat 0 = u at *
  subst e1
  generalize b.ar.el = u' at *
  generalize S.d.length = n at *
  have hw : IntKind.i64.wrap (u' + u) = u' + u := w64 (by omega) (by omega)
  clear dd he
  go_enter func143, ntmps143
  go_wp2_with fail
  go_quiet (fail)
  go_wp2_with fail
  go_ret
  exact ⟨rfl, IBase.below_drewN HB.out⟩
 rw [if_neg h7]
 have d7 : (o.k == 7) = false := by simp [h7]
 clear hx hBw hB h hR hb hf hd hPw
 by_cases h6 : o.k = 6
 ·rw [if_pos h6]
  obtain ⟨k, x, y, z, l⟩ := o
  dsimp only at *
  subst h6
  generalize b.lt = u at *
  generalize b.ou.length = n at *
  obtain ⟨m, hm⟩ : ∃ m : Int, (n : Int) = m := ⟨_, rfl⟩
  rw [hm]
  cases d : decide ((0 : Int) < m) <;> (
   go_enter func143, ntmps143
   go_wp2_with fail
   go_ret
   exact ⟨rfl, HB.out⟩)
 rw [if_neg h6]
 have d6 : (o.k == 6) = false := by simp [h6]
 by_cases h12 : o.k = 12
 ·rw [if_pos h12]
  obtain ⟨k, x, y, z, l⟩ := o
  dsimp only at *
  subst h12
  generalize b.lt = u at *
  go_enter func143, ntmps143
  go_wp2_with fail
  go_quiet (fail)
  go_wp2_with fail
  go_ret
  exact ⟨rfl, IBase.below_drewN HB.out⟩
 rw [if_neg h12]
 have d12 : (o.k == 12) = false := by simp [h12]
 obtain ⟨k, x, y, z, l⟩ := o
 dsimp only at *
 clear h45 h3 h7 h6 h12
 go_enter func143, ntmps143
 go_wp2_with fail
 go_ret
 exact ⟨rfl, HB.out⟩
end Go.Proofs.YtaiackmmmlhgbaaGreat.BSt
namespace Go.Proofs.YtaiackmmmlhgbaaGreat.BRe
open Go.RowKit BPl YRr YRs BBx BIx BSm BSt
open YPl (Oq Bk Pg)
open TBase (T Keep)
open CBx (w64)
theorem reaches_c {R : Nat -> Prop} {w : World} {B P : Nat} {S : Sh} {hv : Value} {A : Ar} {nb : Nat} {ov : Value} {lt : Int} {uv : Value} {cl : Int} (h : Pw R w P S hv) (hR : ∀ g, R g -> g < w.heap.size) (hB : Bw w B P A nb ov lt uv cl) (o : Oq) {lv : Value} (hl : RrS 1 LyI R w lv o.l) (hf : fits S o = true) (hst : 0 <= A.st /\ A.st <= 64) :
  Calls prog 142 #[.pointer (some ⟨B, 0, none⟩), opv o lv] w fun e w' => e = .returned (.bool (reaches S A.st o)) /\ Below w.heap.size w w' := by
 have HL : Hid (RrS 1 LyI R w lv o.l) := hl
 obtain ⟨a, cap, rfl, -⟩ := hl
 obtain ⟨W, hW, hb, hs, hx⟩ := box5 w (.int .i64 o.k) (.int .i64 o.a) (.int .i64 o.b) (.int .i64 o.c) (.slice a o.l.length cap) 127
 have hPw := h.keep (keep_of hb)
 have hBw := hB.keep hb
 have HB : Hid (Below w.heap.size w W) := hb
 have HP : Hid (Pw R W P S hv) := hPw
 have HW : Hid (Bw W B P A nb ov lt uv cl) := hBw
 have c0 := cell_of hx 0 _ rfl
 have c1 := cell_of hx 1 _ rfl
 have c2 := cell_of hx 2 _ rfl
 have c4 := cell_of hx 4 _ rfl
 have b0 := cell_of hBw 0 _ rfl
 have b3 := cell_of hBw 3 _ rfl
 have hR' : ∀ g, R g -> g < W.heap.size := fun g hg => Nat.lt_of_lt_of_le (hR g hg) hb.size
 have hl' : RrS 1 LyI R W (.slice a o.l.length cap) o.l := HL.out.keep (fun _ h => h) fun g o x _ hg h => kI (keep_of hb) hg h
 unfold reaches
 clear hx hBw hB h hR hb
 by_cases h5 : o.k = 5
 ·rw [if_pos h5]
  obtain ⟨tv, nv, dv, hP, -, -, hN, -⟩ := hPw
  obtain ⟨q, g, oo, cp, e1, i0, i1, hlc, -, rfl, t0⟩ := int_at hN (fits_codeB hf (.inl h5))
  have p1 := cell_of hP 1 _ rfl
  clear hf hP hN HP HW HL hR' hl'
  obtain ⟨k, x, y, z, l⟩ := o
  dsimp only at *
  unfold nda
  generalize S.n.getD y.toNat 0 = u at *
  subst e1
  generalize A.st = s at *
  generalize S.n.length = n at *
  subst h5
  clear hst
  go_enter func142, ntmps142
  go_wp2_with fail
  go_quiet (fail)
  go_wp2_with fail
  go_ret
  exact ⟨rfl, IBase.below_drewN HB.out⟩
 rw [if_neg h5]
 have d5 : (o.k == 5) = false := by simp [h5]
 by_cases h10 : o.k = 10
 ·rw [if_pos h10]
  have hin := (fits_list hf h10).2
  have cC := contains_be hl' hR' (fun i => decide (A.st < nda S i)) B fun W' x hx hb' => isBeyond_c (HP.out.keep (keep_of hb')) (HW.out.keep hb') x (hin x hx)
  clear hf hPw HP HW HL hR' hl' hin hst
  obtain ⟨k, x, y, z, l⟩ := o
  dsimp only at *
  generalize (l.any fun i => decide (A.st < nda S i)) = Z at *
  subst h10
  go_enter func142, ntmps142
  go_wp2_with fail
  refine cC.mono ?_
  rintro e W1 ⟨rfl, b1⟩
  have HB1 : Hid (Below w.heap.size w W1) := HB.out.trans (b1.mono HB.out.size)
  clear cC b1
  go_wp2_with fail
  go_ret
  exact ⟨rfl, HB1.out⟩
 rw [if_neg h10]
 have d10 : (o.k == 10) = false := by simp [h10]
 by_cases h9 : o.k = 9
 ·rw [if_pos h9]
  obtain ⟨tv, nv, dv, hP, -, -, hN, -⟩ := hPw
  obtain ⟨q, g, oo, cp, e1, i0, i1, hlc, -, rfl, t0⟩ := int_at hN (fits_codeB hf (.inr h9))
  obtain ⟨q', g', oo', cp', e1', i0', i1', hlc', -, hsl, t0'⟩ := int_at hN (fits_code hf (.inr (.inr (.inl h9))))
  cases hsl
  have p1 := cell_of hP 1 _ rfl
  clear hf hP hN HP HW HL hR' hl'
  obtain ⟨k, x, y, z, l⟩ := o
  dsimp only at *
  unfold nda
  generalize S.n.getD y.toNat 0 = u at *
  generalize S.n.getD x.toNat 0 = u' at *
  subst e1
  subst e1'
  generalize A.st = s at *
  generalize S.n.length = n at *
  subst h9
  have hw : IntKind.i64.wrap (s + 2) = s + 2 := w64 (by omega) (by omega)
  clear hst
  by_cases hlt : s + 2 < u
  ·rw [if_pos hlt]
   have dl : decide (s + 2 < u) = true := by simp [hlt]
   clear hlt
   go_enter func142, ntmps142
   go_wp2_with fail
   go_quiet (fail)
   go_wp2_with fail
   go_ret
   exact ⟨rfl, IBase.below_drewN HB.out⟩
  ·rw [if_neg hlt]
   have dl : decide (s + 2 < u) = false := by simp; omega
   clear hlt
   go_enter func142, ntmps142
   go_wp2_with fail
   go_quiet (fail)
   go_wp2_with fail
   go_quiet (fail)
   go_wp2_with fail
   go_ret
   exact ⟨rfl, IBase.below_drewN (IBase.below_drewN HB.out)⟩
 rw [if_neg h9]
 have d9 : (o.k == 9) = false := by simp [h9]
 by_cases hc : o.k = 2 \/ o.k = 8 \/ o.k = 11
 ·rw [if_pos hc]
  obtain ⟨tv, nv, dv, hP, -, -, hN, -⟩ := hPw
  obtain ⟨q, g, oo, cp, e1, i0, i1, hlc, -, rfl, t0⟩ := int_at hN (fits_code hf (by omega))
  have p1 := cell_of hP 1 _ rfl
  clear hf hP hN HP HW HL hR' hl'
  obtain ⟨k, x, y, z, l⟩ := o
  dsimp only at *
  unfold nda
  generalize S.n.getD x.toNat 0 = u at *
  subst e1
  generalize A.st = s at *
  generalize S.n.length = n at *
  clear hst h5 h10 h9
  rcases hc with rfl | rfl | rfl <;> (
   go_enter func142, ntmps142
   go_wp2_with fail
   go_quiet (fail)
   go_wp2_with fail
   go_ret
   exact ⟨rfl, IBase.below_drewN HB.out⟩)
 rw [if_neg hc]
 have d2 : (o.k == 2) = false := by simp; omega
 have d8 : (o.k == 8) = false := by simp; omega
 have d11 : (o.k == 11) = false := by simp; omega
 clear hf hPw HP HW HL hR' hl' h5 h10 h9 hc hst
 obtain ⟨k, x, y, z, l⟩ := o
 dsimp only at *
 go_enter func142, ntmps142
 go_wp2_with fail
 go_ret
 exact ⟨rfl, HB.out⟩
end Go.Proofs.YtaiackmmmlhgbaaGreat.BRe

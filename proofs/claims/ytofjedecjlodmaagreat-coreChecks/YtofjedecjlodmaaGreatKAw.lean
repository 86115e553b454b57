/- What every program answers that is one: awake (stencillaw15). -/
import Derived.Test.YtofjedecjlodmaaGreatKSt
import Derived.Test.YtofjedecjlodmaaGreatIInts
namespace Go.Proofs.YtofjedecjlodmaaGreat.KAwP
open Go.RowKit Go.Proofs.YtofjedecjlodmaaGreat.Base Go.Proofs.YtofjedecjlodmaaGreat.EPure Go.Proofs.YtofjedecjlodmaaGreat.KBase Go.Proofs.YtofjedecjlodmaaGreat.KAr Go.Proofs.YtofjedecjlodmaaGreat.KEx Go.Proofs.YtofjedecjlodmaaGreat.KLe Go.Proofs.YtofjedecjlodmaaGreat.KNp Go.Proofs.YtofjedecjlodmaaGreat.KNd Go.Proofs.YtofjedecjlodmaaGreat.KVp Go.Proofs.YtofjedecjlodmaaGreat.KSt
set_option linter.unusedVariables false

abbrev nil : ByteArray := ⟨#[]⟩
def e0 : Ex := .mk 0 0 nil []
/-- A text x, an element p around it, an element P. -/
def xC : Co := .mk 1 nil [] [⟨⟨#[120]⟩, false, e0⟩] [] [] []
def pC : Co := .mk 2 ⟨#[112]⟩ [] [] [] [xC] []
def bC : Co := .mk 2 ⟨#[80]⟩ [] [] [] [] []
theorem tg_x : STx.tg ⟨#[120]⟩ = true := by decide +kernel
theorem wd_p : UBase.word ⟨#[112]⟩ 45 = true := by decide
theorem wd_P : UBase.word ⟨#[80]⟩ 45 = false := by decide
theorem nn_e0 : KSh.nn e0 = true := rfl
theorem pr_x : KRo.prOk [⟨⟨#[120]⟩, false, e0⟩] = true := by
  unfold KRo.prOk KRo.rowOk
  simp only [List.all_cons, List.all_nil, KSh.vOk, tg_x, nn_e0, KRo.rw1]
  decide
theorem xs_x : xsC xC = [] := rfl
theorem xs_p : xsC pC = [] := rfl
theorem lft_x (r : Int) : lft xC r = r - 2 := by
  unfold lft
  rw [xs_x, KPi.bq_nil]
  simp [xC, Co.f, Co.p, Co.x]
theorem lft_p (r : Int) : lft pC r = r - 1 := by
  unfold lft
  rw [xs_p, KPi.bq_nil]
  simp [pC, Co.f, Co.p, Co.x]
theorem ent_x (s e l : Int) : ent xC s e l = ((s, e, l), true) := by
  have : ent xC s e l = ((s, e, l), KRo.prOk [⟨⟨#[120]⟩, false, e0⟩] && bare nil 0 0 0 0 0) := rfl
  rw [this, pr_x]
  rfl
theorem ent_p (s e l : Int) : ent pC s e l = ((s, e + 1, l), true) := by
  have : ent pC s e l = ((s, e + 1, l), (UBase.word ⟨#[112]⟩ 45 && KFd.fl1 none []) && bare ⟨#[]⟩ 0 0 0 0 0) := rfl
  rw [this, wd_p]
  rfl
theorem own_x {r s e l : Int} (hr : 0 ≤ r) (hs : s ≤ 64) (he : e ≤ 63) (hl : l ≤ 8) : own xC r s e l = 0 := by
  unfold own
  rw [if_neg (by omega), ent_x, if_neg (by simp [deep]; omega), if_neg (by simp), xs_x, if_neg (by simp), if_neg]
  unfold plc
  rw [if_neg (by decide), xs_x]
  simp
theorem own_p {r s e l : Int} (hr : 0 ≤ r) (hs : s ≤ 64) (he : e ≤ 62) (hl : l ≤ 8) : own pC r s e l = 0 := by
  unfold own
  rw [if_neg (by omega), ent_p, if_neg (by simp [deep]; omega), if_neg (by simp), xs_p, if_neg (by simp), if_neg]
  unfold plc
  rw [if_neg (by decide), xs_p]
  simp
theorem nd_x {r s e l : Int} (hr : 2 ≤ r) (hs : s ≤ 64) (he : e ≤ 63) (hl : l ≤ 8) : ndL [xC] r s e l = (r - 2, 0) := by
  have h1 : xC.l = [] := rfl
  have h2 : xC.u = [] := rfl
  rw [ndL_one, lft_x, own_x (by omega) hs he hl, if_neg (by simp), ent_x, h1, h2, ndL_nil, if_neg (by simp), ndL_nil]
theorem nd_p {r s e l : Int} (hr : 3 ≤ r) (hs : s ≤ 64) (he : e ≤ 62) (hl : l ≤ 8) : ndL [pC] r s e l = (r - 3, 0) := by
  have h1 : pC.l = [xC] := rfl
  have h2 : pC.u = [] := rfl
  rw [ndL_one, lft_p, own_p (by omega) hs he hl, if_neg (by simp), ent_p, h1, h2]
  dsimp only
  rw [nd_x (by omega) hs (by omega) hl, if_neg (by simp), ndL_nil]
  congr 1
  omega
theorem chk_p : chk [pC] = 0 := by
  unfold chk
  rw [nd_p (by omega) (by omega) (by omega) (by omega)]
theorem chk_pp : chk [pC, pC] = 0 := by
  unfold chk
  rw [ndL_cons pC [pC], nd_p (by omega) (by omega) (by omega) (by omega), if_neg (by simp)]
  dsimp only
  rw [nd_p (by omega) (by omega) (by omega) (by omega)]
theorem chk_b : chk [bC] = 1500 := by
  have hx : xsC bC = [] := rfl
  have hl : lft bC 4096 = 4095 := by
    unfold lft
    rw [hx, KPi.bq_nil]
    simp [bC, Co.f, Co.p, Co.x]
  have he : ent bC 1 0 0 = ((1, 0 + 1, 0), false) := by
    have : ent bC 1 0 0 = ((1, 0 + 1, 0), (UBase.word ⟨#[80]⟩ 45 && KFd.fl1 none []) && bare ⟨#[]⟩ 0 0 0 0 0) := rfl
    rw [this, wd_P]
    rfl
  have ho : own bC 4095 1 0 0 = 1500 := by
    unfold own
    rw [if_neg (by omega), he, if_neg (by simp [deep]), if_pos rfl]
  unfold chk
  rw [ndL_one, hl, ho, if_pos (by simp)]
theorem sz_pp : szL (KCo.tk [pC, pC]) = 4 := by
  unfold KCo.tk
  rw [if_pos chk_pp, szL_cons, szL_cons, szL_nil]
  have h1 : pC.l = [xC] := rfl
  have h2 : pC.u = [] := rfl
  have h3 : xC.l = [] := rfl
  have h4 : xC.u = [] := rfl
  rw [h1, h2, szL_cons, szL_nil, h3, h4, szL_nil]
theorem lo_p : KVl.vf 0 (KCo.tk [pC]) 0 = 0 := by
  unfold KCo.tk
  have h1 : pC.l = [xC] := rfl
  have h2 : pC.u = [] := rfl
  have h3 : xC.l = [] := rfl
  have h4 : xC.u = [] := rfl
  have k1 : pC.k = 2 := rfl
  have k2 : xC.k = 1 := rfl
  rw [if_pos chk_p, KVl.vf_one, h1, h2, k1, if_neg (by omega), KVl.vf_nil, KVl.vf_one, h3, h4, k2, if_neg (by omega), KVl.vf_nil, KVl.vf_nil]
  decide
theorem st_x (k : Nat) : st1 xC k = (true, []) := by
  have h3 : xC.l = [] := rfl
  have h4 : xC.u = [] := rfl
  unfold st1
  rw [h3, h4, stL_nil, stL_nil]
  rfl
theorem st_xs (k : Nat) : stL [xC] k = (true, []) := by
  rw [stL_cons, st_x, stL_nil]
  rfl
theorem st_p (k : Nat) : st1 pC k = (true, [(k : Int)]) := by
  have h1 : pC.l = [xC] := rfl
  have h2 : pC.u = [] := rfl
  unfold st1
  rw [h1, h2, st_xs, stL_nil]
  rfl
theorem sts_pp : sts [pC, pC] = [0, 2] := by
  unfold sts KCo.tk
  have hs : s1 pC = 2 := by
    have h1 : pC.l = [xC] := rfl
    have h2 : pC.u = [] := rfl
    have h3 : xC.l = [] := rfl
    have h4 : xC.u = [] := rfl
    unfold s1
    rw [h1, h2, szL_cons, szL_nil, h3, h4, szL_nil]
  rw [if_pos chk_pp, stL_cons, stL_cons, stL_nil, st_p, st_p, hs]
  rfl
end Go.Proofs.YtofjedecjlodmaaGreat.KAwP

namespace Go.Proofs.YtofjedecjlodmaaGreat.KAw
open Go.RowKit Go.Proofs.YtofjedecjlodmaaGreat.Base Go.Proofs.YtofjedecjlodmaaGreat.EPure Go.Proofs.YtofjedecjlodmaaGreat.KBase Go.Proofs.YtofjedecjlodmaaGreat.KAr Go.Proofs.YtofjedecjlodmaaGreat.KEx Go.Proofs.YtofjedecjlodmaaGreat.KLe Go.Proofs.YtofjedecjlodmaaGreat.KNp Go.Proofs.YtofjedecjlodmaaGreat.KNd Go.Proofs.YtofjedecjlodmaaGreat.KVp Go.Proofs.YtofjedecjlodmaaGreat.KSt Go.Proofs.YtofjedecjlodmaaGreat.KAwP
open Go.Proofs.YtofjedecjlodmaaGreat.XBase (frozen_box two_box)
set_option linter.unusedVariables false

theorem num_c (x : Int) (w : World) : Calls Tryz.prog 11 #[.int .i64 x] w fun e w' => e = .returned (.int .i64 x) ∧ w' = w := by
  go_enter Tryz.func11, Tryz.ntmps11
  go_wp2_with fail
  go_ret
  exact ⟨rfl, rfl⟩
/-- Rows of one and of two. -/
theorem Rw.one {α : Type} {n z : Nat} {Ly : World → Nat → Nat → Value → Prop} {rm : Value} {S : Nat → Prop} {w : World} {P : Value → α → Prop} {g : Nat} {u : Value} {c : α} (hS : S g) (hL : Ly w g 0 u) (hP : P u c) (hz : z ≤ 1000) : Rw n z Ly rm false S w P (.slice (some ⟨g, 0, none⟩) 1 1) [c] := by
  refine ⟨some ⟨g, 0, none⟩, 1, rfl, by simp, by omega, by simp; omega, (fun h => by cases h), .inr ⟨g, 0, rfl, hS, fun j hj => ?_, (fun h => by cases h)⟩⟩
  have : j = 0 := by simp at hj; omega
  subst this
  exact ⟨u, by simpa using hL, hP⟩
theorem Rw.two {α : Type} {n z : Nat} {Ly : World → Nat → Nat → Value → Prop} {rm : Value} {S : Nat → Prop} {w : World} {P : Value → α → Prop} {g : Nat} {u u' : Value} {c c' : α} (hS : S g) (hL : Ly w g 0 u) (hP : P u c) (hL' : Ly w g n u') (hP' : P u' c') (hz : z ≤ 1000) : Rw n z Ly rm false S w P (.slice (some ⟨g, 0, none⟩) 2 2) [c, c'] := by
  refine ⟨some ⟨g, 0, none⟩, 2, rfl, by simp, by omega, by simp; omega, (fun h => by cases h), .inr ⟨g, 0, rfl, hS, fun j hj => ?_, (fun h => by cases h)⟩⟩
  have : j = 0 ∨ j = 1 := by simp at hj; omega
  rcases this with rfl | rfl
  · exact ⟨u, by simpa using hL, hP⟩
  · exact ⟨u', by simpa using hL', hP'⟩
theorem co_at {w : World} {g : Nat} {v0 v1 v2 v3 v4 v5 v6 : Value} {t : TypeId} (h : w.heap[g]? = some (.cells #[v0, v1, v2, v3, v4, v5, v6] t (0, 0))) : Co7 w g 0 (.agg #[v0, v1, v2, v3, v4, v5, v6]) := by
  obtain ⟨c0, c1, c2, c3, c4, c5, c6⟩ := seven_box h
  exact ⟨v0, v1, v2, v3, v4, v5, v6, rfl, c0, c1, c2, c3, c4, c5, c6⟩
theorem pt_at {w : World} {g : Nat} {v0 v1 v2 v3 v4 v5 : Value} {t : TypeId} (h : w.heap[g]? = some (.cells #[v0, v1, v2, v3, v4, v5] t (0, 0))) : Pt6 w g 0 (.agg #[v0, v1, v2, v3, v4, v5]) := by
  obtain ⟨c0, c1, c2, c3, c4, c5⟩ := six_box h
  exact ⟨v0, v1, v2, v3, v4, v5, rfl, c0, c1, c2, c3, c4, c5⟩
theorem co_two {w : World} {g : Nat} {v0 v1 v2 v3 v4 v5 v6 u0 u1 u2 u3 u4 u5 u6 : Value} {t : TypeId} (h : w.heap[g]? = some (.cells #[v0, v1, v2, v3, v4, v5, v6, u0, u1, u2, u3, u4, u5, u6] t (0, 0))) : Co7 w g 0 (.agg #[v0, v1, v2, v3, v4, v5, v6]) ∧ Co7 w g 7 (.agg #[u0, u1, u2, u3, u4, u5, u6]) := by
  refine ⟨⟨v0, v1, v2, v3, v4, v5, v6, rfl, ?_, ?_, ?_, ?_, ?_, ?_, ?_⟩, ⟨u0, u1, u2, u3, u4, u5, u6, rfl, ?_, ?_, ?_, ?_, ?_, ?_, ?_⟩⟩ <;> simp [World.cell?, h]
abbrev ns : Value := .slice none 0 0
abbrev row1 (g : Nat) : Value := .slice (some ⟨g, 0, none⟩) 1 1
theorem leaf_in (w : World) (m : Nat) (S : Nat → Prop) (k i : Int) (hk : -9223372036854775808 ≤ k ∧ k ≤ 9223372036854775807) (hi : -9223372036854775808 ≤ i ∧ i ≤ 9223372036854775807) : XBase.In false S w (m + 1) (.agg #[.int .i64 k, .int .i64 i, .string nil, ns]) (.mk k i nil []) := XBase.In.leaf w m S k i nil hk hi (by decide)
/-- The cells of the part x, of the text, of p. -/
abbrev xP : Array Value := #[.string ⟨#[120]⟩, .bool false, .int .i64 0, .int .i64 0, .string nil, ns]
abbrev xV (g : Nat) : Array Value := #[.int .i64 1, .string nil, ns, row1 g, ns, ns, ns]
abbrev pV (g : Nat) : Array Value := #[.int .i64 2, .string ⟨#[112]⟩, ns, ns, ns, row1 g, ns]
theorem x_in {w : World} {g : Nat} (h : w.heap[g]? = some (.cells xP 60 (0, 0))) : KBase.In false (fun _ => True) w 1 (.agg (xV g)) xC := by
  rw [in_succ]
  refine ⟨_, _, _, _, _, rfl, by simp [xC, Co.k], by decide, Rw.nil, Rw.one trivial (pt_at h) ⟨1, _, _, _, _, rfl, by decide, leaf_in w 0 _ 0 0 (by omega) (by omega)⟩ (by omega), ⟨1, none, 0, rfl, by simp [xC, Co.x], by simp, by simp [xC, Co.x], fun _ => rfl, .inl ⟨rfl, rfl⟩⟩, Rw.nil, Rw.nil⟩
theorem p_in {w : World} {g g' : Nat} (h : w.heap[g]? = some (.cells xP 60 (0, 0))) (h' : w.heap[g']? = some (.cells (xV g) 40 (0, 0))) : KBase.In false (fun _ => True) w 2 (.agg (pV g')) pC := by
  rw [in_succ]
  refine ⟨_, _, _, _, _, rfl, by simp [pC, Co.k], by decide, Rw.nil, Rw.nil, ⟨1, none, 0, rfl, by simp [pC, Co.x], by simp, by simp [pC, Co.x], fun _ => rfl, .inl ⟨rfl, rfl⟩⟩, Rw.one trivial (co_at h') (x_in h) (by omega), Rw.nil⟩
theorem b_in (w : World) : KBase.In false (fun _ => True) w 1 (.agg #[.int .i64 2, .string ⟨#[80]⟩, ns, ns, ns, ns, ns]) bC := by
  rw [in_succ]
  refine ⟨_, _, _, _, _, rfl, by simp [bC, Co.k], by decide, Rw.nil, Rw.nil, ⟨1, none, 0, rfl, by simp [bC, Co.x], by simp, by simp [bC, Co.x], fun _ => rfl, .inl ⟨rfl, rfl⟩⟩, Rw.nil, Rw.nil⟩
set_option maxRecDepth 20000 in
set_option maxHeartbeats 3200000 in
theorem awake_c (w : World) : Calls Tryz.prog 18 #[] w fun e w' => e = .returned (.bool true) ∧ Below w.heap.size w w' := by
  obtain ⟨W0, hW0, b0, hs0, q0, q1, q2⟩ := three_new w xP (xV w.heap.size) (pV (w.heap.size + 1)) 60 40 40
  have HB0 : Hid (Below w.heap.size w W0) := b0
  have HPI : Hid (∀ W, Below W0.heap.size W0 W → KBase.In false (fun _ => True) W 2 (.agg (pV (w.heap.size + 1))) pC) := fun W hW => p_in ((hW.block _ (by omega)).trans q0) ((hW.block _ (by omega)).trans q1)
  have HQ2 : Hid (W0.heap[w.heap.size + 1 + 1]? = some (.cells (pV (w.heap.size + 1)) 40 (0, 0))) := q2
  obtain ⟨z0, z1, z2, z3, z4, z5, z6⟩ := seven_box q2
  clear b0 q0 q1 q2
  obtain ⟨W1, hW1⟩ : ∃ W1, W0.alloc (.cells (pV (w.heap.size + 1)) 40) = W1 := ⟨_, rfl⟩
  have b1 : Below W0.heap.size W0 W1 := by rw [← hW1]; exact (Below.refl _ W0).alloc (Nat.le_refl _) _
  have p1 : W1.heap[W0.heap.size]? = some (.cells (pV (w.heap.size + 1)) 40 (0, 0)) := by rw [← hW1]; exact heap_alloc_new W0 _
  have c1 := check_c (m := 2) (w := W1) (Rw.one trivial (co_at p1) (HPI.out W1 b1) (by omega))
  rw [chk_p] at c1
  have Hb1 : Hid (Below W0.heap.size W0 W1) := b1
  have cN := fun x W => num_c x W
  clear b1 p1
  have HW0 : Hid (((w.alloc (.cells xP 60)).alloc (.cells (xV w.heap.size) 40)).alloc (.cells (pV (w.heap.size + 1)) 40) = W0) := hW0
  have HW1 : Hid (W0.alloc (.cells (pV (w.heap.size + 1)) 40) = W1) := hW1
  have hsz1 : W1.heap.size = w.heap.size + 4 := by rw [← hW1]; simp [hs0]
  clear hW0 hW1 z0 z1 z2 z3 z4 z5 z6
  go_enter Tryz.func18, Tryz.ntmps18
  go_wp2_with fail
  rw [HW0.out, HW1.out]
  rw [hs0] at c1
  refine c1.mono ?_
  rintro e W2 ⟨rfl, b2⟩
  have hs2 := b2.size
  have Hb2 : Hid (Below W0.heap.size W0 W2) := nx Hb1.out b2
  obtain ⟨W3, hW3⟩ : ∃ W3, W2.alloc (.cells #[.int .i64 2, .string ⟨#[80]⟩, ns, ns, ns, ns, ns] 40) = W3 := ⟨_, rfl⟩
  have b3 : Below W2.heap.size W2 W3 := by rw [← hW3]; exact (Below.refl _ W2).alloc (Nat.le_refl _) _
  have p3 : W3.heap[W2.heap.size]? = some (.cells #[.int .i64 2, .string ⟨#[80]⟩, ns, ns, ns, ns, ns] 40 (0, 0)) := by rw [← hW3]; exact heap_alloc_new W2 _
  have c3 := check_c (m := 1) (w := W3) (Rw.one trivial (co_at p3) (b_in W3) (by omega))
  rw [chk_b] at c3
  have Hb3 : Hid (Below W0.heap.size W0 W3) := nx Hb2.out b3
  have hs3 := b3.size
  clear c1 b2 b3 p3
  go_wp2_with fail
  try rw [hW3]
  refine c3.mono ?_
  rintro e W4 ⟨rfl, b4⟩
  have hs4 := b4.size
  have Hb4 : Hid (Below W0.heap.size W0 W4) := nx Hb3.out b4
  obtain ⟨z0, z1, z2, z3, z4, z5, z6⟩ := seven_box ((Hb4.out.block _ (by omega)).trans HQ2.out)
  obtain ⟨W5, hW5⟩ : ∃ W5, W4.alloc (.cells #[.int .i64 2, .string ⟨#[112]⟩, ns, ns, ns, row1 (w.heap.size + 1), ns, .int .i64 2, .string ⟨#[112]⟩, ns, ns, ns, row1 (w.heap.size + 1), ns] 40) = W5 := ⟨_, rfl⟩
  have b5 : Below W4.heap.size W4 W5 := by rw [← hW5]; exact (Below.refl _ W4).alloc (Nat.le_refl _) _
  have p5 := heap_alloc_new W4 (.cells #[.int .i64 2, .string ⟨#[112]⟩, ns, ns, ns, row1 (w.heap.size + 1), ns, .int .i64 2, .string ⟨#[112]⟩, ns, ns, ns, row1 (w.heap.size + 1), ns] 40)
  rw [hW5] at p5
  have Hb5 : Hid (Below W0.heap.size W0 W5) := nx Hb4.out b5
  have t5 := co_two p5
  have c5 := KCo.count_c (m := 2) (w := W5) (Rw.two trivial t5.1 (HPI.out W5 Hb5.out) t5.2 (HPI.out W5 Hb5.out) (by omega))
  rw [sz_pp] at c5
  have hs5 := b5.size
  clear c3 b4 b5 p5 t5 hW3
  go_wp2_with (first | (go_at_call 11; refine (cN _ _).mono ?_; rintro e W9 ⟨rfl, h9⟩; obtain rfl := h9.symm))
  try rw [hW5]
  refine c5.mono ?_
  rintro e W6 ⟨rfl, b6⟩
  have hs6 := b6.size
  have Hb6 : Hid (Below W0.heap.size W0 W6) := nx Hb5.out b6
  obtain ⟨y0, y1, y2, y3, y4, y5, y6⟩ := seven_box ((Hb6.out.block _ (by omega)).trans HQ2.out)
  obtain ⟨W7, hW7⟩ : ∃ W7, W6.alloc (.cells #[.int .i64 2, .string ⟨#[112]⟩, ns, ns, ns, row1 (w.heap.size + 1), ns, .int .i64 2, .string ⟨#[112]⟩, ns, ns, ns, row1 (w.heap.size + 1), ns] 40) = W7 := ⟨_, rfl⟩
  have b7 : Below W6.heap.size W6 W7 := by rw [← hW7]; exact (Below.refl _ W6).alloc (Nat.le_refl _) _
  have p7 := heap_alloc_new W6 (.cells #[.int .i64 2, .string ⟨#[112]⟩, ns, ns, ns, row1 (w.heap.size + 1), ns, .int .i64 2, .string ⟨#[112]⟩, ns, ns, ns, row1 (w.heap.size + 1), ns] 40)
  rw [hW7] at p7
  have Hb7 : Hid (Below W0.heap.size W0 W7) := nx Hb6.out b7
  have t7 := co_two p7
  have c7 := statics_c (m := 2) (w := W7) (Rw.two trivial t7.1 (HPI.out W7 Hb7.out) t7.2 (HPI.out W7 Hb7.out) (by omega))
  rw [sts_pp] at c7
  have hs7 := b7.size
  clear c5 b6 b7 p7 t7 hW5 z0 z1 z2 z3 z4 z5 z6
  go_wp2_with fail
  try rw [hW7]
  refine c7.mono ?_
  rintro e W8 ⟨b8, u, rfl, ho⟩
  have hs8 := b8.size
  have Hb8 : Hid (Below W0.heap.size W0 W8) := nx Hb7.out b8
  obtain ⟨W9, hW9⟩ : ∃ W9, W8.alloc (.cells #[.int .i64 0, .int .i64 2] 3) = W9 := ⟨_, rfl⟩
  have b9 : Below W8.heap.size W8 W9 := by rw [← hW9]; exact (Below.refl _ W8).alloc (Nat.le_refl _) _
  have p9 := heap_alloc_new W8 (.cells #[.int .i64 0, .int .i64 2] 3)
  rw [hW9] at p9
  have i1 : IBase.Ix W9 u [0, 2] := (IBase.Oi.ix (show IBase.Oi W8 W7.heap.size u [0, 2] from ho)).below b9
  have i2 : IBase.Ix W9 (.slice (some ⟨W8.heap.size, 0, none⟩) 2 2) [0, 2] := ⟨_, 2, rfl, by simp, by omega, (fun h => by cases h), .inr ⟨W8.heap.size, 0, rfl, fun j hj => by
    have : j = 0 ∨ j = 1 := by simp at hj; omega
    rcases this with rfl | rfl <;> simp [World.cell?, p9]⟩⟩
  have c9 := IInts.sameI_c i1 i2
  rw [decide_eq_true rfl] at c9
  have Hb9 : Hid (Below W0.heap.size W0 W9) := nx Hb8.out b9
  have hs9 := b9.size
  obtain ⟨ua, uc, hu, -⟩ := i1
  subst hu
  clear c7 b8 b9 p9 i2 ho hW7 y0 y1 y2 y3 y4 y5 y6
  go_wp2_with fail
  try rw [hW9]
  refine c9.mono ?_
  rintro e Wa ⟨rfl, ba⟩
  have hsa := ba.size
  have Hba : Hid (Below W0.heap.size W0 Wa) := nx Hb9.out ba
  obtain ⟨x0, x1, x2, x3, x4, x5, x6⟩ := seven_box ((Hba.out.block _ (by omega)).trans HQ2.out)
  obtain ⟨Wb, hWb⟩ : ∃ Wb, Wa.alloc (.cells (pV (w.heap.size + 1)) 40) = Wb := ⟨_, rfl⟩
  have bb : Below Wa.heap.size Wa Wb := by rw [← hWb]; exact (Below.refl _ Wa).alloc (Nat.le_refl _) _
  have pb := heap_alloc_new Wa (.cells (pV (w.heap.size + 1)) 40)
  rw [hWb] at pb
  have Hbb : Hid (Below W0.heap.size W0 Wb) := nx Hba.out bb
  have cb := KCo.loops_c (m := 2) (w := Wb) (Rw.one trivial (co_at pb) (HPI.out Wb Hbb.out) (by omega))
  rw [lo_p] at cb
  clear c9 ba bb pb hW9
  go_wp2_with fail
  try rw [hWb]
  refine cb.mono ?_
  rintro e Wc ⟨rfl, bc⟩
  have HF : Hid (Below w.heap.size w Wc) := nx HB0.out (nx Hbb.out bc)
  clear cb bc
  go_wp2_with fail
  go_ret
  exact ⟨rfl, HF.out⟩
end Go.Proofs.YtofjedecjlodmaaGreat.KAw

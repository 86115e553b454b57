/- So many CWiths around a text that asks a place: plain. -/
import Derived.Test.YtenhljiibfdckaaKAw
namespace Go.Proofs.Ytenhljiibfdckaa.KPl
open Go.RowKit Go.Proofs.Ytenhljiibfdckaa.Base Go.Proofs.Ytenhljiibfdckaa.EPure Go.Proofs.Ytenhljiibfdckaa.KBase Go.Proofs.Ytenhljiibfdckaa.KAr Go.Proofs.Ytenhljiibfdckaa.KEx Go.Proofs.Ytenhljiibfdckaa.KLe Go.Proofs.Ytenhljiibfdckaa.KNp Go.Proofs.Ytenhljiibfdckaa.KNd Go.Proofs.Ytenhljiibfdckaa.KVp Go.Proofs.Ytenhljiibfdckaa.KSt Go.Proofs.Ytenhljiibfdckaa.KAwP Go.Proofs.Ytenhljiibfdckaa.KAw
set_option linter.unusedVariables false

def vE (p : Int) : Ex := .mk 6 p nil []
def nE : Ex := .mk 1 0 nil []
/-- A text that asks place p; a CWith of one value around nodes. -/
def tC (p : Int) : Co := .mk 1 nil [] [⟨nil, true, vE p⟩] [] [] []
def wC (l : List Co) : Co := .mk 5 nil [] [] [nE] l []
def wt (p : Int) : Nat → List Co
  | 0 => [tC p]
  | k + 1 => [wC (wt p k)]
theorem bh_leaf {o i : Int} (hk : SFit.kd o = 0) (hf : SFit.ft KSh.rlf o i nil = true) : KSh.rsv (.mk o i nil []) = true := by
  unfold KSh.rsv
  rw [SBe.bhL_one (by rw [hk, hf]; simp), SBe.bhL_nil]
  decide
theorem rs_v (p : Int) : KSh.rsv (vE p) = true := bh_leaf (by decide) (by
  unfold SFit.ft
  rw [if_pos (by omega)]
  rfl)
theorem rs_n : KSh.rsv nE = true := bh_leaf (by decide) (by decide)
theorem xs_t (p : Int) : xsC (tC p) = [vE p] := rfl
theorem xs_w (l : List Co) : xsC (wC l) = [nE] := rfl
theorem lft_t (p r : Int) (hr : 2 ≤ r) : lft (tC p) r = r - 3 := by
  unfold lft
  rw [xs_t]
  have e1 : (tC p).f = [] := rfl
  have e2 : (tC p).p.length = 1 := rfl
  have e3 : (tC p).x = [] := rfl
  rw [e1, e2, e3]
  unfold vE
  rw [KPi.bq_one (by simp; omega), KPi.bq_nil]
  simp
  omega
theorem lft_w (l : List Co) (r : Int) (hr : 2 ≤ r) : lft (wC l) r = r - 3 := by
  unfold lft
  rw [xs_w]
  have e1 : (wC l).f = [] := rfl
  have e2 : (wC l).p = [] := rfl
  have e3 : (wC l).x.length = 1 := rfl
  rw [e1, e2, e3]
  unfold nE
  rw [KPi.bq_one (by simp; omega), KPi.bq_nil]
  simp
  omega
theorem ent_t (p s e l : Int) : ent (tC p) s e l = ((s, e, l), true) := rfl
theorem ent_w (c : List Co) (s e l : Int) : ent (wC c) s e l = ((s + 1, e, l), true) := rfl
theorem hs_v (p s : Int) : KHs.hs s [vE p] = (decide (0 ≤ p) && decide (p < s)) := by
  unfold vE
  rw [KHs.hs_one, KHs.hs_nil]
  by_cases h1 : 0 ≤ p
  · by_cases h2 : p < s
    · simp [h1, h2]
    · simp [h1, h2]
      omega
  · simp [h1]
theorem plc_t (p s si : Int) : plc (tC p) s si = (decide (0 ≤ p) && decide (p < s)) := by
  unfold plc
  have hk : (tC p).k = 1 := rfl
  rw [hk, if_neg (by omega), xs_t]
  simp only [List.all_cons, List.all_nil, hs_v, Bool.and_true]
theorem plc_w (l : List Co) (s si : Int) : plc (wC l) s si = true := by
  unfold plc
  have h2 : KHs.hs s [nE] = true := by
    unfold nE
    rw [KHs.hs_one, KHs.hs_nil]
    simp
  have hk : (wC l).k = 5 := rfl
  rw [hk, if_neg (by omega), xs_w]
  simp [h2]
theorem own_t {p r s : Int} (hr : 0 ≤ r) (hs : s ≤ 64) : own (tC p) r s 0 0 = if 0 ≤ p ∧ p < s then 0 else 1502 := by
  unfold own
  rw [if_neg (by omega), ent_t, if_neg (by simp [deep]; omega), if_neg (by simp), xs_t]
  have h1 : [vE p].all KSh.rsv = true := by simp [rs_v]
  rw [h1, if_neg (by simp), plc_t]
  by_cases h : 0 ≤ p ∧ p < s
  · rw [if_pos h, if_neg (by simp [h.1, h.2])]
  · rw [if_neg h, if_pos]
    by_cases h1 : 0 ≤ p
    · simp [h1]; omega
    · simp [h1]
theorem own_w {l : List Co} {r s : Int} (hr : 0 ≤ r) (hs : s + 1 ≤ 64) : own (wC l) r s 0 0 = 0 := by
  unfold own
  rw [if_neg (by omega), ent_w, if_neg (by simp [deep]; omega), if_neg (by simp), xs_w]
  have h1 : [nE].all KSh.rsv = true := by simp [rs_n]
  rw [h1, if_neg (by simp), plc_w, if_neg (by simp)]
theorem nd_wt (p : Int) : ∀ (k : Nat) (r s : Int), 3 * (k : Int) + 3 ≤ r → s + k ≤ 64 → ndL (wt p k) r s 0 0 = (r - 3 * k - 3, if 0 ≤ p ∧ p < s + k then 0 else 1502)
  | 0, r, s, hr, hs => by
    have h1 : (tC p).l = [] := rfl
    have h2 : (tC p).u = [] := rfl
    unfold wt
    rw [ndL_one, lft_t p r (by omega), own_t (by omega) (by omega)]
    by_cases h : 0 ≤ p ∧ p < s
    · rw [if_pos h, if_neg (by simp), ent_t, h1, h2, ndL_nil, if_neg (by simp), ndL_nil, if_pos (by simpa using h)]
      simp
    · rw [if_neg h, if_pos (by simp), if_neg (by simpa using h)]
      simp
  | k + 1, r, s, hr, hs => by
    have h1 : (wC (wt p k)).l = wt p k := rfl
    have h2 : (wC (wt p k)).u = [] := rfl
    unfold wt
    rw [ndL_one, lft_w _ r (by omega), own_w (by omega) (by omega), if_neg (by simp), ent_w, h1, h2]
    dsimp only
    rw [nd_wt p k (r - 3) (s + 1) (by omega) (by omega)]
    have hq : (0 ≤ p ∧ p < s + 1 + (k : Int)) = (0 ≤ p ∧ p < s + ((k + 1 : Nat) : Int)) := by
      apply propext
      constructor <;> (rintro ⟨a, b⟩; exact ⟨a, by omega⟩)
    have hr2 : r - 3 - 3 * (k : Int) - 3 = r - 3 * ((k + 1 : Nat) : Int) - 3 := by omega
    simp only [hq, hr2, ndL_nil]
    by_cases h : 0 ≤ p ∧ p < s + ((k + 1 : Nat) : Int)
    · simp only [if_pos h]
      simp
    · simp only [if_neg h]
      simp
theorem chk_wt (p : Int) (k : Nat) (hk : k ≤ 63) : chk (wt p k) = if 0 ≤ p ∧ p ≤ k then 0 else 1502 := by
  unfold chk
  rw [nd_wt p k 4096 1 (by omega) (by omega)]
  dsimp only
  have hq : (0 ≤ p ∧ p < 1 + (k : Int)) = (0 ≤ p ∧ p ≤ (k : Int)) := by
    apply propext
    constructor <;> (rintro ⟨a, b⟩; exact ⟨a, by omega⟩)
  simp only [hq]
theorem sz_wt (p : Int) : ∀ k, szL (wt p k) = k + 1
  | 0 => by
    unfold wt
    rw [szL_cons]
    have h1 : (tC p).l = [] := rfl
    have h2 : (tC p).u = [] := rfl
    rw [h1, h2, szL_nil]
  | k + 1 => by
    unfold wt
    rw [szL_cons]
    have h1 : (wC (wt p k)).l = wt p k := rfl
    have h2 : (wC (wt p k)).u = [] := rfl
    rw [h1, h2, szL_nil, sz_wt p k]
    omega
theorem tk_yes {p : Int} {k : Nat} (hk : k ≤ 63) (h : 0 ≤ p ∧ p ≤ k) : szL (KCo.tk (wt p k)) = k + 1 := by
  unfold KCo.tk
  rw [chk_wt p k hk, if_pos h, if_pos rfl, sz_wt]
theorem tk_no {p : Int} {k : Nat} (hk : k ≤ 63) (h : ¬ (0 ≤ p ∧ p ≤ k)) : szL (KCo.tk (wt p k)) = 0 := by
  unfold KCo.tk
  rw [chk_wt p k hk, if_neg h, if_neg (by simp), szL_nil]
/-- In memory. -/
theorem t_in {w : World} {g : Nat} {p : Int} (hp : -9223372036854775808 ≤ p ∧ p ≤ 9223372036854775807) (h : w.heap[g]? = some (.cells #[.string nil, .bool true, .int .i64 6, .int .i64 p, .string nil, ns] 44 (0, 0))) : KBase.In false (fun _ => True) w 1 (.agg #[.int .i64 1, .string nil, ns, row1 g, ns, ns, ns]) (tC p) := by
  rw [in_succ]
  refine ⟨_, _, _, _, _, rfl, by simp [tC, Co.k], (show nil.size ≤ 140737488351232 by decide), Rw.nil, Rw.one trivial (pt_at h) ⟨1, _, _, _, _, rfl, (show nil.size ≤ 140737488351232 by decide), leaf_in w 0 _ 6 p (by omega) hp⟩ (by omega), ⟨1, none, 0, rfl, by simp [tC, Co.x], by simp, by simp [tC, Co.x], fun _ => rfl, .inl ⟨rfl, rfl⟩⟩, Rw.nil, Rw.nil⟩
theorem w_in {w : World} {g m : Nat} {v : Value} {l : List Co} (h : w.heap[g]? = some (.cells #[.int .i64 1, .int .i64 0, .string nil, ns] 35 (0, 0))) (hl : InL false (fun _ => True) w m v l) : KBase.In false (fun _ => True) w (m + 1) (.agg #[.int .i64 5, .string nil, ns, ns, row1 g, v, ns]) (wC l) := by
  rw [in_succ]
  obtain ⟨c0, c1, c2, c3⟩ := XBase.four_box h
  refine ⟨_, _, _, _, _, rfl, by simp [wC, Co.k], (show nil.size ≤ 140737488351232 by decide), Rw.nil, Rw.nil, ⟨1, _, 1, rfl, by simp [wC, Co.x], by simp, by simp [wC, Co.x], (fun h => by cases h), .inr ⟨g, 0, rfl, trivial, fun j hj => ?_, (fun h => by cases h)⟩⟩, hl, Rw.nil⟩
  have : j = 0 := by simp [wC, Co.x] at hj; omega
  subst this
  exact ⟨_, ⟨_, _, _, _, rfl, c0, c1, c2, c3⟩, leaf_in w 0 _ 1 0 (by omega) (by omega)⟩
end Go.Proofs.Ytenhljiibfdckaa.KPl

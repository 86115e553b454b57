/- Cores that the laws build: plain. -/
import Derived.Test.YtenhljiibfdckaaKSt
namespace Go.Proofs.Ytenhljiibfdckaa.KAwP
open Go.RowKit Go.Proofs.Ytenhljiibfdckaa.Base Go.Proofs.Ytenhljiibfdckaa.EPure Go.Proofs.Ytenhljiibfdckaa.KBase Go.Proofs.Ytenhljiibfdckaa.KAr Go.Proofs.Ytenhljiibfdckaa.KEx Go.Proofs.Ytenhljiibfdckaa.KLe Go.Proofs.Ytenhljiibfdckaa.KNp Go.Proofs.Ytenhljiibfdckaa.KNd Go.Proofs.Ytenhljiibfdckaa.KVp Go.Proofs.Ytenhljiibfdckaa.KSt
set_option linter.unusedVariables false

abbrev nil : ByteArray := ⟨#[]⟩
def e0 : Ex := .mk 0 0 nil []
/-- A text x, an element p around it, an element P. -/
def xC : Co := .mk 1 nil [] [⟨⟨#[120]⟩, false, e0⟩] [] [] []
def pC : Co := .mk 2 ⟨#[112]⟩ [] [] [] [xC] []
def bC : Co := .mk 2 ⟨#[80]⟩ [] [] [] [] []
theorem tg_x : STx.tg ⟨#[120]⟩ = true := by decide +kernel
theorem wd_p : UBase.word ⟨#[112]⟩ 45 = true := by decide
theorem wd_P : UBase.word ⟨#[80]⟩ 45 = false := by decide
theorem nn_e0 : KSh.nn e0 = true := rfl
theorem pr_x : KRo.prOk [⟨⟨#[120]⟩, false, e0⟩] = true := by
  unfold KRo.prOk KRo.rowOk
  simp only [List.all_cons, List.all_nil, KSh.vOk, tg_x, nn_e0, KRo.rw1]
  decide
theorem xs_x : xsC xC = [] := rfl
theorem xs_p : xsC pC = [] := rfl
theorem lft_x (r : Int) : lft xC r = r - 2 := by
  unfold lft
  rw [xs_x, KPi.bq_nil]
  simp [xC, Co.f, Co.p, Co.x]
theorem lft_p (r : Int) : lft pC r = r - 1 := by
  unfold lft
  rw [xs_p, KPi.bq_nil]
  simp [pC, Co.f, Co.p, Co.x]
theorem ent_x (s e l : Int) : ent xC s e l = ((s, e, l), true) := by
  have : ent xC s e l = ((s, e, l), KRo.prOk [⟨⟨#[120]⟩, false, e0⟩] && bare nil 0 0 0 0 0) := rfl
  rw [this, pr_x]
  rfl
theorem ent_p (s e l : Int) : ent pC s e l = ((s, e + 1, l), true) := by
  have : ent pC s e l = ((s, e + 1, l), (UBase.word ⟨#[112]⟩ 45 && KFd.fl1 none []) && bare ⟨#[]⟩ 0 0 0 0 0) := rfl
  rw [this, wd_p]
  rfl
theorem own_x {r s e l : Int} (hr : 0 ≤ r) (hs : s ≤ 64) (he : e ≤ 63) (hl : l ≤ 8) : own xC r s e l = 0 := by
  unfold own
  rw [if_neg (by omega), ent_x, if_neg (by simp [deep]; omega), if_neg (by simp), xs_x, if_neg (by simp), if_neg]
  unfold plc
  rw [if_neg (by decide), xs_x]
  simp
theorem own_p {r s e l : Int} (hr : 0 ≤ r) (hs : s ≤ 64) (he : e ≤ 62) (hl : l ≤ 8) : own pC r s e l = 0 := by
  unfold own
  rw [if_neg (by omega), ent_p, if_neg (by simp [deep]; omega), if_neg (by simp), xs_p, if_neg (by simp), if_neg]
  unfold plc
  rw [if_neg (by decide), xs_p]
  simp
theorem nd_x {r s e l : Int} (hr : 2 ≤ r) (hs : s ≤ 64) (he : e ≤ 63) (hl : l ≤ 8) : ndL [xC] r s e l = (r - 2, 0) := by
  have h1 : xC.l = [] := rfl
  have h2 : xC.u = [] := rfl
  rw [ndL_one, lft_x, own_x (by omega) hs he hl, if_neg (by simp), ent_x, h1, h2, ndL_nil, if_neg (by simp), ndL_nil]
theorem nd_p {r s e l : Int} (hr : 3 ≤ r) (hs : s ≤ 64) (he : e ≤ 62) (hl : l ≤ 8) : ndL [pC] r s e l = (r - 3, 0) := by
  have h1 : pC.l = [xC] := rfl
  have h2 : pC.u = [] := rfl
  rw [ndL_one, lft_p, own_p (by omega) hs he hl, if_neg (by simp), ent_p, h1, h2]
  dsimp only
  rw [nd_x (by omega) hs (by omega) hl, if_neg (by simp), ndL_nil]
  congr 1
  omega
theorem chk_p : chk [pC] = 0 := by
  unfold chk
  rw [nd_p (by omega) (by omega) (by omega) (by omega)]
theorem chk_pp : chk [pC, pC] = 0 := by
  unfold chk
  rw [ndL_cons pC [pC], nd_p (by omega) (by omega) (by omega) (by omega), if_neg (by simp)]
  dsimp only
  rw [nd_p (by omega) (by omega) (by omega) (by omega)]
theorem chk_b : chk [bC] = 1500 := by
  have hx : xsC bC = [] := rfl
  have hl : lft bC 4096 = 4095 := by
    unfold lft
    rw [hx, KPi.bq_nil]
    simp [bC, Co.f, Co.p, Co.x]
  have he : ent bC 1 0 0 = ((1, 0 + 1, 0), false) := by
    have : ent bC 1 0 0 = ((1, 0 + 1, 0), (UBase.word ⟨#[80]⟩ 45 && KFd.fl1 none []) && bare ⟨#[]⟩ 0 0 0 0 0) := rfl
    rw [this, wd_P]
    rfl
  have ho : own bC 4095 1 0 0 = 1500 := by
    unfold own
    rw [if_neg (by omega), he, if_neg (by simp [deep]), if_pos rfl]
  unfold chk
  rw [ndL_one, hl, ho, if_pos (by simp)]
theorem sz_pp : szL (KCo.tk [pC, pC]) = 4 := by
  unfold KCo.tk
  rw [if_pos chk_pp, szL_cons, szL_cons, szL_nil]
  have h1 : pC.l = [xC] := rfl
  have h2 : pC.u = [] := rfl
  have h3 : xC.l = [] := rfl
  have h4 : xC.u = [] := rfl
  rw [h1, h2, szL_cons, szL_nil, h3, h4, szL_nil]
theorem lo_p : KVl.vf 0 (KCo.tk [pC]) 0 = 0 := by
  unfold KCo.tk
  have h1 : pC.l = [xC] := rfl
  have h2 : pC.u = [] := rfl
  have h3 : xC.l = [] := rfl
  have h4 : xC.u = [] := rfl
  have k1 : pC.k = 2 := rfl
  have k2 : xC.k = 1 := rfl
  rw [if_pos chk_p, KVl.vf_one, h1, h2, k1, if_neg (by omega), KVl.vf_nil, KVl.vf_one, h3, h4, k2, if_neg (by omega), KVl.vf_nil, KVl.vf_nil]
  decide
theorem st_x (k : Nat) : st1 xC k = (true, []) := by
  have h3 : xC.l = [] := rfl
  have h4 : xC.u = [] := rfl
  unfold st1
  rw [h3, h4, stL_nil, stL_nil]
  rfl
theorem st_xs (k : Nat) : stL [xC] k = (true, []) := by
  rw [stL_cons, st_x, stL_nil]
  rfl
theorem st_p (k : Nat) : st1 pC k = (true, [(k : Int)]) := by
  have h1 : pC.l = [xC] := rfl
  have h2 : pC.u = [] := rfl
  unfold st1
  rw [h1, h2, st_xs, stL_nil]
  rfl
theorem sts_pp : sts [pC, pC] = [0, 2] := by
  unfold sts KCo.tk
  have hs : s1 pC = 2 := by
    have h1 : pC.l = [xC] := rfl
    have h2 : pC.u = [] := rfl
    have h3 : xC.l = [] := rfl
    have h4 : xC.u = [] := rfl
    unfold s1
    rw [h1, h2, szL_cons, szL_nil, h3, h4, szL_nil]
  rw [if_pos chk_pp, stL_cons, stL_cons, stL_nil, st_p, st_p, hs]
  rfl
end Go.Proofs.Ytenhljiibfdckaa.KAwP

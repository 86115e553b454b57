/- Loops and statics as the document's own answer gathers them (plain): the same of cores that may be. -/
import Derived.Test.YtofjedecjlodmaaGreatKJp
namespace Go.Proofs.YtofjedecjlodmaaGreat.KRp
open Go.RowKit Go.Proofs.YtofjedecjlodmaaGreat.EPure Go.Proofs.YtofjedecjlodmaaGreat.KBase Go.Proofs.YtofjedecjlodmaaGreat.KAr Go.Proofs.YtofjedecjlodmaaGreat.KEx Go.Proofs.YtofjedecjlodmaaGreat.KLe Go.Proofs.YtofjedecjlodmaaGreat.KNp Go.Proofs.YtofjedecjlodmaaGreat.KNd Go.Proofs.YtofjedecjlodmaaGreat.KVp Go.Proofs.YtofjedecjlodmaaGreat.KSt Go.Proofs.YtofjedecjlodmaaGreat.KJp
set_option linter.unusedVariables false

/-- The most fors in one another. -/
def lps : List Co → Int
  | [] => 0
  | .mk k t f p x l u :: cs => max (max (lps l) (lps u) + (if k = 4 then 1 else 0)) (lps cs)
theorem lps_nil : lps [] = 0 := by rw [lps]
theorem lps_cons (c : Co) (t : List Co) : lps (c :: t) = max (max (lps c.l) (lps c.u) + (if c.k = 4 then 1 else 0)) (lps t) := by
  obtain ⟨k, tg, f, p, x, l, u⟩ := c
  rw [lps]
  rfl
theorem lps_pos : ∀ (n : Nat) (cs : List Co), SizeOf.sizeOf cs ≤ n → 0 ≤ lps cs := by
  intro n
  induction n with
  | zero =>
    intro cs h
    cases cs with
    | nil => rw [lps_nil]; omega
    | cons c t => exact absurd h (by simp)
  | succ n ih =>
    intro cs h
    cases cs with
    | nil => rw [lps_nil]; omega
    | cons c t =>
      rw [lps_cons]
      have := ih t (by simp at h; omega)
      omega
theorem vf_lps : ∀ (n : Nat) (cs : List Co) (lo y : Int), SizeOf.sizeOf cs ≤ n → lo ≤ y → KVl.vf lo cs y = max y (lo + lps cs) := by
  intro n
  induction n with
  | zero =>
    intro cs lo y h hy
    cases cs with
    | nil => rw [KVl.vf_nil, lps_nil]; omega
    | cons c t => exact absurd h (by simp)
  | succ n ih =>
    intro cs lo y h hy
    cases cs with
    | nil => rw [KVl.vf_nil, lps_nil]; omega
    | cons c t =>
      rw [KVl.vf_cons, KVl.vf_one, lps_cons]
      obtain ⟨k, tg, f, p, x, l, u⟩ := c
      have q0 : (Co.mk k tg f p x l u).k = k := rfl
      have q1 : (Co.mk k tg f p x l u).l = l := rfl
      have q2 : (Co.mk k tg f p x l u).u = u := rfl
      rw [q0, q1, q2]
      have p1 := lps_pos _ l (Nat.le_refl _)
      have p2 := lps_pos _ u (Nat.le_refl _)
      have p3 := lps_pos _ t (Nat.le_refl _)
      obtain ⟨i, hi⟩ : ∃ i : Int, (if k = 4 then lo + 1 else lo) = i := ⟨_, rfl⟩
      have hi' : i = lo + (if k = 4 then 1 else 0) := by rw [← hi]; split <;> omega
      have hl : lo ≤ i := by rw [hi']; split <;> omega
      rw [hi, ih l i _ (by simp at h; omega) (by omega), ih u i _ (by simp at h; omega) (by omega), ih t lo _ (by simp at h; omega) (by omega)]
      generalize (if k = 4 then (1 : Int) else 0) = j at *
      omega
theorem lo_ref (cs : List Co) : KVl.vf 0 cs 0 = lps cs := by
  have h := vf_lps _ cs 0 0 (Nat.le_refl _) (by omega)
  have p := lps_pos _ cs (Nat.le_refl _)
  omega
/-- Are they static, each? -/
def staL : List Co → Bool
  | [] => true
  | .mk k t f p x l u :: cs => (if k = 1 then p.length == 1 && !(p.any Pt.b) else if k = 2 then !(f.any Fld.b) && staL l else false) && staL cs
def sta1 (c : Co) : Bool := if c.k = 1 then c.p.length == 1 && !(c.p.any Pt.b) else if c.k = 2 then !(c.f.any Fld.b) && staL c.l else false
theorem staL_nil : staL [] = true := by rw [staL]
theorem staL_cons (c : Co) (t : List Co) : staL (c :: t) = (sta1 c && staL t) := by
  obtain ⟨k, tg, f, p, x, l, u⟩ := c
  rw [staL]
  rfl
/-- Their numbers. -/
def rst : List Co → Nat → List Int
  | [], _ => []
  | .mk k t f p x l u :: cs, n => (if k = 2 ∧ sta1 (.mk k t f p x l u) = true then [(n : Int)] else rst l (n + 1) ++ rst u (n + 1 + szL l)) ++ rst cs (n + (1 + szL l + szL u))
theorem rst_nil (n : Nat) : rst [] n = [] := by rw [rst]
theorem rst_cons (c : Co) (t : List Co) (n : Nat) : rst (c :: t) n = (if c.k = 2 ∧ sta1 c = true then [(n : Int)] else rst c.l (n + 1) ++ rst c.u (n + 1 + szL c.l)) ++ rst t (n + s1 c) := by
  obtain ⟨k, tg, f, p, x, l, u⟩ := c
  rw [rst]
  rfl
theorem plain_one : ∀ (l : List Pt), KRo.rowOk l = true → l.any Pt.b = false → l.length = 1 := by
  intro l h hb
  unfold KRo.rowOk at h
  rw [Bool.and_eq_true] at h
  match l, h, hb with
  | [], h, _ => simp at h
  | [a], _, _ => rfl
  | a :: b :: t, h, hb =>
    simp only [List.any_cons, Bool.or_eq_false_iff] at hb
    simp [KRo.rw1, hb.1, hb.2.1] at h
theorem st_ref : ∀ (m : Nat) (cs : List Co) (n : Nat) (s e l : Int), SizeOf.sizeOf cs ≤ m → okL false cs s e l = true → (stL cs n).1 = staL cs ∧ (stL cs n).2 = rst cs n := by
  intro m
  induction m with
  | zero =>
    intro cs n s e l h _
    cases cs with
    | nil => rw [stL_nil, staL_nil, rst_nil]; exact ⟨rfl, rfl⟩
    | cons c t => exact absurd h (by simp)
  | succ m ih =>
    intro cs n s e lo h hok
    cases cs with
    | nil => rw [stL_nil, staL_nil, rst_nil]; exact ⟨rfl, rfl⟩
    | cons c t =>
      rw [okL_cons] at hok
      simp only [Bool.and_eq_true] at hok
      obtain ⟨o1, o2, o3, o4⟩ := hok
      have i3 := ih t (n + s1 c) _ _ _ (by simp at h; omega) o4
      have he : (ent c s e lo).2 = true := by
        unfold ow at o1
        simp only [Bool.and_eq_true] at o1
        exact o1.2.1
      obtain ⟨k, tg, f, p, x, l, u⟩ := c
      have i1 := ih l (n + 1) _ _ _ (by simp at h; omega) o2
      have i2 := ih u (n + 1 + szL l) _ _ _ (by simp at h; omega) o3
      rw [stL_cons, staL_cons, rst_cons]
      have hc : (st1 (.mk k tg f p x l u) n).1 = sta1 (.mk k tg f p x l u) ∧ (st1 (.mk k tg f p x l u) n).2 = (if (Co.mk k tg f p x l u).k = 2 ∧ sta1 (.mk k tg f p x l u) = true then [(n : Int)] else rst (Co.mk k tg f p x l u).l (n + 1) ++ rst (Co.mk k tg f p x l u).u (n + 1 + szL (Co.mk k tg f p x l u).l)) := by
        unfold st1 one sta1
        have q0 : (Co.mk k tg f p x l u).k = k := rfl
        have q1 : (Co.mk k tg f p x l u).l = l := rfl
        have q2 : (Co.mk k tg f p x l u).u = u := rfl
        have q3 : (Co.mk k tg f p x l u).p = p := rfl
        have q4 : (Co.mk k tg f p x l u).f = f := rfl
        rw [q0, q1, q2, q3, q4, i1.1, i1.2, i2.2]
        by_cases h1 : k = 1
        · subst h1
          have hp : KRo.rowOk p = true := by
            unfold ent at he
            rw [q0, if_pos rfl, q3] at he
            simp only [Bool.and_eq_true] at he
            have := he.1
            unfold KRo.prOk at this
            rw [Bool.and_eq_true] at this
            exact this.2
          rw [if_pos rfl, if_pos rfl, if_neg (by omega)]
          refine ⟨?_, rfl⟩
          cases hb : p.any Pt.b with
          | true => simp
          | false => simp [plain_one p hp hb]
        · rw [if_neg h1, if_neg h1]
          by_cases h2 : k = 2
          · subst h2
            rw [if_pos rfl]
            cases hb : f.any Fld.b <;> cases hs : staL l <;> simp
          · rw [if_neg (by omega), if_neg h2, if_neg (by omega)]
            exact ⟨rfl, rfl⟩
      rw [hc.1, hc.2, i3.1, i3.2]
      exact ⟨rfl, rfl⟩
theorem sts_ref {cs : List Co} (h : chk cs = 0) : sts cs = rst cs 0 := by
  have ho := ok_of _ cs _ _ _ _ (Nat.le_refl _) h
  unfold sts KCo.tk
  rw [if_pos h]
  exact (st_ref _ cs 0 _ _ _ (Nat.le_refl _) ho).2
end Go.Proofs.YtofjedecjlodmaaGreat.KRp

/- Cores joined, an element around: counts, statics, loops (plain). -/
import Derived.Test.YtenhljiibfdckaaKSt
import Derived.Test.YtenhljiibfdckaaKAwP
namespace Go.Proofs.Ytenhljiibfdckaa.KJp
open Go.RowKit Go.Proofs.Ytenhljiibfdckaa.EPure Go.Proofs.Ytenhljiibfdckaa.KBase Go.Proofs.Ytenhljiibfdckaa.KAr Go.Proofs.Ytenhljiibfdckaa.KEx Go.Proofs.Ytenhljiibfdckaa.KLe Go.Proofs.Ytenhljiibfdckaa.KNp Go.Proofs.Ytenhljiibfdckaa.KNd Go.Proofs.Ytenhljiibfdckaa.KVp Go.Proofs.Ytenhljiibfdckaa.KSt Go.Proofs.Ytenhljiibfdckaa.KPi
set_option linter.unusedVariables false

/-- How many nodes expressions have. -/
def esz : List Ex → Nat
  | [] => 0
  | .mk o i s l :: t => 1 + esz l + esz t
theorem esz_nil : esz [] = 0 := by rw [esz]
theorem esz_cons (x : Ex) (t : List Ex) : esz (x :: t) = 1 + esz x.l + esz t := by
  obtain ⟨o, i, s, l⟩ := x
  rw [esz]
  rfl
theorem bq_sz : ∀ (n : Nat) (l : List Ex) (r : Int), SizeOf.sizeOf l ≤ n → ((esz l : Int) ≤ r → bq l r = r - esz l) ∧ (¬ (esz l : Int) ≤ r → bq l r < 0) := by
  intro n
  induction n with
  | zero =>
    intro l r h
    cases l with
    | nil => rw [bq_nil, esz_nil]; constructor <;> intro h <;> simp at h ⊢ <;> omega
    | cons x t => exact absurd h (by simp)
  | succ n ih =>
    intro l r h
    cases l with
    | nil => rw [bq_nil, esz_nil]; constructor <;> intro h <;> simp at h ⊢ <;> omega
    | cons x t =>
      obtain ⟨o, i, s, k⟩ := x
      rw [bq_cons, esz_cons]
      have e1 : (Ex.mk o i s k).l = k := rfl
      rw [e1]
      have i1 := ih k (r - 1) (by simp at h; omega)
      by_cases hr : r < 0
      · rw [bq_no hr, bq_neg t hr]
        constructor <;> intro h <;> omega
      · rw [bq_one hr]
        have i2 := ih t (bq k (r - 1)) (by simp at h; omega)
        by_cases hk : (esz k : Int) ≤ r - 1
        · rw [i1.1 hk] at i2 ⊢
          constructor
          · intro h
            rw [i2.1 (by omega)]
            omega
          · intro h
            exact i2.2 (by omega)
        · have hn := i1.2 hk
          rw [bq_neg t hn]
          constructor <;> intro h <;> omega
/-- How many pieces a node has by itself. -/
def pz (c : Co) : Nat := 1 + c.f.length + c.p.length + c.x.length + esz (xsC c)
theorem lft_yes {c : Co} {r : Int} (h : (pz c : Int) ≤ r) : lft c r = r - pz c := by
  unfold pz at h ⊢
  unfold lft
  rw [(bq_sz _ (xsC c) _ (Nat.le_refl _)).1 (by omega)]
  omega
theorem lft_no {c : Co} {r : Int} (h : ¬ (pz c : Int) ≤ r) : lft c r < 0 := by
  unfold pz at h
  unfold lft
  exact (bq_sz _ (xsC c) _ (Nat.le_refl _)).2 (by omega)
/-- How many pieces nodes have. -/
def cz : List Co → Nat
  | [] => 0
  | .mk k t f p x l u :: cs => pz (.mk k t f p x l u) + cz l + cz u + cz cs
theorem cz_nil : cz [] = 0 := by rw [cz]
theorem cz_cons (c : Co) (t : List Co) : cz (c :: t) = pz c + cz c.l + cz c.u + cz t := by
  obtain ⟨k, tg, f, p, x, l, u⟩ := c
  rw [cz]
  rfl
/-- May it be, but for the room? dp: may it be too deep? -/
def ow (dp : Bool) (c : Co) (s e l : Int) : Bool := (dp || !(deep (ent c s e l).1.1 (ent c s e l).1.2.1 (ent c s e l).1.2.2)) && ((ent c s e l).2 && ((xsC c).all KSh.rsv && plc c s (ent c s e l).1.1))
def okL (dp : Bool) : List Co → Int → Int → Int → Bool
  | [], _, _, _ => true
  | .mk k t f p x l u :: cs, s, e, lo => ow dp (.mk k t f p x l u) s e lo && (okL dp l (ent (.mk k t f p x l u) s e lo).1.1 (ent (.mk k t f p x l u) s e lo).1.2.1 (ent (.mk k t f p x l u) s e lo).1.2.2 && (okL dp u (ent (.mk k t f p x l u) s e lo).1.1 (ent (.mk k t f p x l u) s e lo).1.2.1 (ent (.mk k t f p x l u) s e lo).1.2.2 && okL dp cs s e lo))
theorem okL_nil (dp : Bool) (s e l : Int) : okL dp [] s e l = true := by rw [okL]
theorem okL_cons (dp : Bool) (c : Co) (t : List Co) (s e l : Int) : okL dp (c :: t) s e l = (ow dp c s e l && (okL dp c.l (ent c s e l).1.1 (ent c s e l).1.2.1 (ent c s e l).1.2.2 && (okL dp c.u (ent c s e l).1.1 (ent c s e l).1.2.1 (ent c s e l).1.2.2 && okL dp t s e l))) := by
  obtain ⟨k, tg, f, p, x, l', u⟩ := c
  rw [okL]
  rfl
theorem okL_append (dp : Bool) (a b : List Co) (s e l : Int) : okL dp (a ++ b) s e l = (okL dp a s e l && okL dp b s e l) := by
  induction a with
  | nil => rw [List.nil_append, okL_nil, Bool.true_and]
  | cons c t ih => rw [List.cons_append, okL_cons, okL_cons, ih]; simp only [Bool.and_assoc]
theorem cz_append (a b : List Co) : cz (a ++ b) = cz a + cz b := by
  induction a with
  | nil => rw [List.nil_append, cz_nil]; omega
  | cons c t ih => rw [List.cons_append, cz_cons, cz_cons, ih]; omega
theorem own_iff {c : Co} {r s e l : Int} : own c r s e l = 0 ↔ 0 ≤ r ∧ ow false c s e l = true := by
  unfold ow
  rw [Bool.false_or]
  constructor
  · intro h
    obtain ⟨h1, h2, h3, h4, h5⟩ := own_zero h
    refine ⟨by omega, ?_⟩
    rw [h2, h3, h4, h5]
    rfl
  · rintro ⟨h1, h2⟩
    simp only [Bool.and_eq_true, Bool.not_eq_true'] at h2
    obtain ⟨g1, g2, g3, g4⟩ := h2
    unfold own
    rw [if_neg (by omega), g1, if_neg (by simp), g2, if_neg (by simp), g3, if_neg (by simp), g4, if_neg (by simp)]
/-- With enough room what may be is taken; with less it is too large, or (dp) too deep. -/
theorem nd_ok : ∀ (n : Nat) (dp : Bool) (cs : List Co) (r s e l : Int), SizeOf.sizeOf cs ≤ n → okL dp cs s e l = true → 0 ≤ r →
    ((ndL cs r s e l).2 = 0 ∨ (ndL cs r s e l).2 = 1504 ∨ (dp = true ∧ (ndL cs r s e l).2 = 1503)) ∧ ((ndL cs r s e l).2 = 0 → (ndL cs r s e l).1 = r - cz cs) ∧ (dp = false → (cz cs : Int) ≤ r → (ndL cs r s e l).2 = 0) := by
  intro n
  induction n with
  | zero =>
    intro dp cs r s e l h _ hr
    cases cs with
    | nil => rw [ndL_nil, cz_nil]; exact ⟨.inl rfl, fun _ => by simp, fun _ _ => rfl⟩
    | cons c t => exact absurd h (by simp)
  | succ n ih =>
    intro dp cs r s e l h hok hr
    cases cs with
    | nil => rw [ndL_nil, cz_nil]; exact ⟨.inl rfl, fun _ => by simp, fun _ _ => rfl⟩
    | cons c t =>
      rw [okL_cons] at hok
      simp only [Bool.and_eq_true] at hok
      obtain ⟨o1, o2, o3, o4⟩ := hok
      have hone : ((ndL [c] r s e l).2 = 0 ∨ (ndL [c] r s e l).2 = 1504 ∨ (dp = true ∧ (ndL [c] r s e l).2 = 1503)) ∧ ((ndL [c] r s e l).2 = 0 → (ndL [c] r s e l).1 = r - (pz c + cz c.l + cz c.u : Nat)) ∧ (dp = false → ((pz c + cz c.l + cz c.u : Nat) : Int) ≤ r → (ndL [c] r s e l).2 = 0) := by
        rw [ndL_one]
        by_cases hp : (pz c : Int) ≤ r
        · rw [lft_yes hp]
          have hw := o1
          unfold ow at hw
          simp only [Bool.and_eq_true] at hw
          obtain ⟨w1, w2, w3, w4⟩ := hw
          by_cases hd : deep (ent c s e l).1.1 (ent c s e l).1.2.1 (ent c s e l).1.2.2 = true
          · have e1 : own c (r - pz c) s e l = 1503 := by unfold own; rw [if_neg (by omega), if_pos hd]
            have hdp : dp = true := by
              cases dp with
              | true => rfl
              | false => rw [hd] at w1; simp at w1
            rw [e1, if_pos (by simp)]
            exact ⟨.inr (.inr ⟨hdp, rfl⟩), fun h => by simp at h, fun h => by rw [hdp] at h; cases h⟩
          · have e1 : own c (r - pz c) s e l = 0 := by
              unfold own
              rw [if_neg (by omega), if_neg hd, w2, if_neg (by simp), w3, if_neg (by simp), w4, if_neg (by simp)]
            rw [e1, if_neg (by simp)]
            obtain ⟨k, tg, f, p, x, l', u⟩ := c
            have i1 := ih dp l' (r - pz (.mk k tg f p x l' u)) _ _ _ (by simp at h; omega) o2 (by omega)
            have q1 : (Co.mk k tg f p x l' u).l = l' := rfl
            have q2 : (Co.mk k tg f p x l' u).u = u := rfl
            rw [q1, q2]
            by_cases hz : (ndL l' (r - pz (.mk k tg f p x l' u)) (ent (.mk k tg f p x l' u) s e l).1.1 (ent (.mk k tg f p x l' u) s e l).1.2.1 (ent (.mk k tg f p x l' u) s e l).1.2.2).2 = 0
            · rw [if_neg (by simpa using hz)]
              have r1 := ndL_room _ l' (r - pz (.mk k tg f p x l' u)) _ _ _ (Nat.le_refl _) hz (by omega)
              have i2 := ih dp u _ (ent (.mk k tg f p x l' u) s e l).1.1 (ent (.mk k tg f p x l' u) s e l).1.2.1 (ent (.mk k tg f p x l' u) s e l).1.2.2 (by simp at h; omega) o3 r1.1
              have j1 := i1.2.1 hz
              rw [j1] at i2 ⊢
              refine ⟨i2.1, fun h => ?_, fun h1 h2 => i2.2.2 h1 (by omega)⟩
              have := i2.2.1 h
              omega
            · rw [if_pos (by simpa using hz)]
              refine ⟨i1.1, fun h => absurd h hz, fun h1 h2 => absurd (i1.2.2 h1 (by omega)) hz⟩
        · have hn := lft_no hp
          have e1 : own c (lft c r) s e l = 1504 := by unfold own; rw [if_pos hn]
          rw [e1, if_pos (by simp)]
          exact ⟨.inr (.inl rfl), fun h => by simp at h, fun _ h => by omega⟩
      rw [ndL_cons, cz_cons]
      by_cases hz : (ndL [c] r s e l).2 = 0
      · rw [if_neg (by simpa using hz)]
        have r1 := ndL_room _ [c] r s e l (Nat.le_refl _) hz hr
        have i2 := ih dp t _ s e l (by simp at h; omega) o4 r1.1
        have j1 := hone.2.1 hz
        rw [j1] at i2 ⊢
        refine ⟨i2.1, fun h => ?_, fun h1 h2 => i2.2.2 h1 (by omega)⟩
        have := i2.2.1 h
        omega
      · rw [if_pos (by simpa using hz)]
        exact ⟨hone.1, fun h => absurd h hz, fun h1 h2 => absurd (hone.2.2 h1 (by omega)) hz⟩
theorem ok_of : ∀ (n : Nat) (cs : List Co) (r s e l : Int), SizeOf.sizeOf cs ≤ n → (ndL cs r s e l).2 = 0 → okL false cs s e l = true := by
  intro n
  induction n with
  | zero =>
    intro cs r s e l h _
    cases cs with
    | nil => exact okL_nil _ _ _ _
    | cons c t => exact absurd h (by simp)
  | succ n ih =>
    intro cs r s e l h h0
    cases cs with
    | nil => exact okL_nil _ _ _ _
    | cons c t =>
      obtain ⟨h1, h2, h3⟩ := ok_cons h0
      obtain ⟨g1, g2, g3, g4⟩ := ok_one h1
      rw [okL_cons, (own_iff.1 g1).2]
      obtain ⟨k, tg, f, p, x, l', u⟩ := c
      have i1 := ih l' _ _ _ _ (by simp at h; omega) g2
      have i2 := ih u _ _ _ _ (by simp at h; omega) g3
      have i3 := ih t _ _ _ _ (by simp at h; omega) h2
      have q1 : (Co.mk k tg f p x l' u).l = l' := rfl
      have q2 : (Co.mk k tg f p x l' u).u = u := rfl
      rw [q1, q2, i1, i2, i3]
      rfl
theorem chk_join {a b : List Co} (ha : chk a = 0) (hb : chk b = 0) : chk (a ++ b) = 0 ∨ chk (a ++ b) = 1504 := by
  have h1 := ok_of _ a _ _ _ _ (Nat.le_refl _) ha
  have h2 := ok_of _ b _ _ _ _ (Nat.le_refl _) hb
  have := (nd_ok _ false (a ++ b) 4096 1 0 0 (Nat.le_refl _) (by rw [okL_append, h1, h2]; rfl) (by omega)).1
  rcases this with h | h | ⟨h, -⟩
  · exact .inl h
  · exact .inr h
  · cases h
end Go.Proofs.Ytenhljiibfdckaa.KJp

namespace Go.Proofs.Ytenhljiibfdckaa.KJq
open Go.RowKit Go.Proofs.Ytenhljiibfdckaa.EPure Go.Proofs.Ytenhljiibfdckaa.KBase Go.Proofs.Ytenhljiibfdckaa.KAr Go.Proofs.Ytenhljiibfdckaa.KEx Go.Proofs.Ytenhljiibfdckaa.KLe Go.Proofs.Ytenhljiibfdckaa.KNp Go.Proofs.Ytenhljiibfdckaa.KNd Go.Proofs.Ytenhljiibfdckaa.KVp Go.Proofs.Ytenhljiibfdckaa.KSt Go.Proofs.Ytenhljiibfdckaa.KJp
open Go.Proofs.Ytenhljiibfdckaa.KAwP (nil)
set_option linter.unusedVariables false

theorem szL_append (a b : List Co) : szL (a ++ b) = szL a + szL b := by
  induction a with
  | nil => rw [List.nil_append, szL_nil]; omega
  | cons c t ih => rw [List.cons_append, szL_cons, szL_cons, ih]; omega
theorem stL_append (a b : List Co) (n : Nat) : stL (a ++ b) n = ((stL a n).1 && (stL b (n + szL a)).1, (stL a n).2 ++ (stL b (n + szL a)).2) := by
  induction a generalizing n with
  | nil => rw [List.nil_append, stL_nil, szL_nil]; simp
  | cons c t ih =>
    rw [List.cons_append, stL_cons, stL_cons, ih, szL_cons]
    have e : n + s1 c + szL t = n + (1 + szL c.l + szL c.u + szL t) := by unfold s1; omega
    rw [e]
    simp [Bool.and_assoc]
def up (k : Nat) (L : List Int) : List Int := L.map (· + (k : Int))
theorem one_shift (c : Co) (n k : Nat) (inner : Bool) (F : List Int) : one c (n + k) inner (up k F) = ((one c n inner F).1, up k (one c n inner F).2) := by
  unfold one
  split
  · rfl
  · split
    · simp [up]
    · rfl
theorem stL_shift : ∀ (m : Nat) (cs : List Co) (n k : Nat), SizeOf.sizeOf cs ≤ m → stL cs (n + k) = ((stL cs n).1, up k (stL cs n).2) := by
  intro m
  induction m with
  | zero =>
    intro cs n k h
    cases cs with
    | nil => rw [stL_nil, stL_nil]; rfl
    | cons c t => exact absurd h (by simp)
  | succ m ih =>
    intro cs n k h
    cases cs with
    | nil => rw [stL_nil, stL_nil]; rfl
    | cons c t =>
      rw [stL_cons, stL_cons]
      have hs : st1 c (n + k) = ((st1 c n).1, up k (st1 c n).2) := by
        unfold st1
        obtain ⟨kd, tg, f, p, x, l, u⟩ := c
        have q1 : (Co.mk kd tg f p x l u).l = l := rfl
        have q2 : (Co.mk kd tg f p x l u).u = u := rfl
        rw [q1, q2]
        have i1 := ih l (n + 1) k (by simp at h; omega)
        have i2 := ih u (n + 1 + szL l) k (by simp at h; omega)
        rw [show n + k + 1 = n + 1 + k by omega, i1, show n + 1 + k + szL l = n + 1 + szL l + k by omega, i2]
        dsimp only
        rw [← one_shift]
        congr 1
        simp [up]
      have i3 := ih t (n + s1 c) k (by simp at h; omega)
      rw [hs, show n + k + s1 c = n + s1 c + k by omega, i3]
      simp [up]
theorem sts_join {a b : List Co} (ha : chk a = 0) (hb : chk b = 0) (hc : chk (a ++ b) = 0) : sts (a ++ b) = sts a ++ up (szL a) (sts b) := by
  unfold sts KCo.tk
  rw [if_pos ha, if_pos hb, if_pos hc, stL_append, stL_shift _ b 0 (szL a) (Nat.le_refl _)]
theorem tk_eq {a : List Co} (ha : chk a = 0) : KCo.tk a = a := by
  unfold KCo.tk
  rw [if_pos ha]
theorem vf_append (lo : Int) (a b : List Co) (x : Int) : KVl.vf lo (a ++ b) x = KVl.vf lo b (KVl.vf lo a x) := by
  induction a generalizing x with
  | nil => rw [List.nil_append, KVl.vf_nil]
  | cons c t ih => rw [List.cons_append, KVl.vf_cons, ih, ← KVl.vf_cons]
theorem vf_max : ∀ (n : Nat) (cs : List Co) (lo x y : Int), SizeOf.sizeOf cs ≤ n → KVl.vf lo cs (max x y) = max x (KVl.vf lo cs y) := by
  intro n
  induction n with
  | zero =>
    intro cs lo x y h
    cases cs with
    | nil => rw [KVl.vf_nil, KVl.vf_nil]
    | cons c t => exact absurd h (by simp)
  | succ n ih =>
    intro cs lo x y h
    cases cs with
    | nil => rw [KVl.vf_nil, KVl.vf_nil]
    | cons c t =>
      rw [KVl.vf_cons lo c t (max x y), KVl.vf_cons lo c t y, KVl.vf_one, KVl.vf_one]
      obtain ⟨k, tg, f, p, xs, l, u⟩ := c
      have q1 : (Co.mk k tg f p xs l u).l = l := rfl
      have q2 : (Co.mk k tg f p xs l u).u = u := rfl
      rw [q1, q2]
      obtain ⟨i, hi⟩ : ∃ i, (if (Co.mk k tg f p xs l u).k = 4 then lo + 1 else lo) = i := ⟨_, rfl⟩
      rw [hi, show max (max x y) i = max x (max y i) by omega, ih l _ _ _ (by simp at h; omega), ih u _ _ _ (by simp at h; omega), ih t _ _ _ (by simp at h; omega)]
theorem lo_join {a b : List Co} (ha : chk a = 0) (hb : chk b = 0) (hc : chk (a ++ b) = 0) : KVl.vf 0 (KCo.tk (a ++ b)) 0 = max (KVl.vf 0 (KCo.tk a) 0) (KVl.vf 0 (KCo.tk b) 0) := by
  rw [tk_eq ha, tk_eq hb, tk_eq hc, vf_append]
  have hz : 0 ≤ KVl.vf 0 a 0 := (KVl.vf_bd _ a 0 0 (Nat.le_refl _) (by omega) (KCo.tk_ok ha).1).1
  have := vf_max _ b 0 (KVl.vf 0 a 0) 0 (Nat.le_refl _)
  rw [show max (KVl.vf 0 a 0) 0 = KVl.vf 0 a 0 by omega] at this
  exact this
theorem sz_join {a b : List Co} (ha : chk a = 0) (hb : chk b = 0) (hc : chk (a ++ b) = 0) : szL (KCo.tk (a ++ b)) = szL (KCo.tk a) + szL (KCo.tk b) := by
  rw [tk_eq ha, tk_eq hb, tk_eq hc, szL_append]
/-- An element q with a bound field a around cores. -/
def nE : Ex := .mk 1 0 nil []
def qC (c : List Co) : Co := .mk 2 ⟨#[113]⟩ [⟨⟨#[97]⟩, nil, true, nE, 0⟩] [] [] c []
theorem rs_n : KSh.rsv nE = true := by
  unfold KSh.rsv nE
  rw [SBe.bhL_one (by decide), SBe.bhL_nil]
  decide
theorem xs_q (c : List Co) : xsC (qC c) = [nE] := rfl
theorem ent_q (c : List Co) (s e l : Int) : ent (qC c) s e l = ((s, e + 1, l), true) := by
  have : ent (qC c) s e l = ((s, e + 1, l), (UBase.word ⟨#[113]⟩ 45 && KFd.fl1 none [⟨⟨#[97]⟩, nil, true, nE, 0⟩]) && bare ⟨#[]⟩ 0 0 0 0 0) := rfl
  rw [this]
  congr 1
theorem plc_q (c : List Co) (s si : Int) : plc (qC c) s si = true := by
  unfold plc
  have hk : (qC c).k = 2 := rfl
  have h2 : KHs.hs s [nE] = true := by
    unfold nE
    rw [KHs.hs_one, KHs.hs_nil]
    simp
  rw [hk, if_neg (by omega), xs_q]
  simp [h2]
theorem ent_e (c : Co) (s e l : Int) : ent c s (e + 1) l = (((ent c s e l).1.1, (ent c s e l).1.2.1 + 1, (ent c s e l).1.2.2), (ent c s e l).2) := by
  unfold ent
  repeat' split
  all_goals rfl
theorem okL_deeper : ∀ (n : Nat) (cs : List Co) (s e l : Int), SizeOf.sizeOf cs ≤ n → okL false cs s e l = true → okL true cs s (e + 1) l = true := by
  intro n
  induction n with
  | zero =>
    intro cs s e l h _
    cases cs with
    | nil => exact okL_nil _ _ _ _
    | cons c t => exact absurd h (by simp)
  | succ n ih =>
    intro cs s e l h hok
    cases cs with
    | nil => exact okL_nil _ _ _ _
    | cons c t =>
      rw [okL_cons] at hok ⊢
      simp only [Bool.and_eq_true] at hok
      obtain ⟨o1, o2, o3, o4⟩ := hok
      have hw : ow true c s (e + 1) l = true := by
        unfold ow at o1 ⊢
        simp only [Bool.and_eq_true] at o1
        rw [ent_e]
        dsimp only
        rw [o1.2.1, o1.2.2.1, o1.2.2.2]
        rfl
      rw [hw, ent_e]
      dsimp only
      obtain ⟨k, tg, f, p, x, l', u⟩ := c
      rw [ih _ _ _ _ (by simp [Co.l] at h ⊢; omega) o2, ih _ _ _ _ (by simp [Co.u] at h ⊢; omega) o3, ih t _ _ _ (by simp at h; omega) o4]
      rfl
theorem chk_q {c : List Co} (hc : chk c = 0) : chk [qC c] = 0 ∨ chk [qC c] = 1504 ∨ chk [qC c] = 1503 := by
  have h1 := okL_deeper _ c 1 0 0 (Nat.le_refl _) (ok_of _ c _ _ _ _ (Nat.le_refl _) hc)
  have h2 : okL true [qC c] 1 0 0 = true := by
    rw [okL_cons, okL_nil, ent_q]
    have q1 : (qC c).l = c := rfl
    have q2 : (qC c).u = [] := rfl
    have hw : ow true (qC c) 1 0 0 = true := by
      unfold ow
      rw [ent_q, plc_q, xs_q]
      simp [rs_n]
    rw [hw, q1, q2, okL_nil, h1]
    rfl
  have := (nd_ok _ true [qC c] 4096 1 0 0 (Nat.le_refl _) h2 (by omega)).1
  rcases this with h | h | ⟨-, h⟩
  · exact .inl h
  · exact .inr (.inl h)
  · exact .inr (.inr h)
theorem sz_q {c : List Co} (hc : chk c = 0) (hq : chk [qC c] = 0) : szL (KCo.tk [qC c]) = 1 + szL (KCo.tk c) := by
  rw [tk_eq hc, tk_eq hq, szL_cons, szL_nil]
  have q1 : (qC c).l = c := rfl
  have q2 : (qC c).u = [] := rfl
  rw [q1, q2, szL_nil]
  omega
theorem sts_q {c : List Co} (hc : chk c = 0) (hq : chk [qC c] = 0) : sts [qC c] = up 1 (sts c) := by
  unfold sts
  rw [tk_eq hc, tk_eq hq, stL_cons, stL_nil]
  have q1 : (qC c).l = c := rfl
  have q2 : (qC c).u = [] := rfl
  have e1 : (st1 (qC c) 0).2 = (stL c 1).2 := by
    unfold st1
    rw [q1, q2, stL_nil]
    unfold one
    have hk : (qC c).k = 2 := rfl
    have hf : (qC c).f.any Fld.b = true := rfl
    rw [hk, if_neg (by omega), if_neg (by rw [hf]; simp)]
    simp
  rw [e1]
  have := stL_shift _ c 0 1 (Nat.le_refl _)
  rw [Nat.zero_add] at this
  rw [this]
  simp
end Go.Proofs.Ytenhljiibfdckaa.KJq

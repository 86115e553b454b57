/- Cores joined, an element around: plain. -/
import Derived.Test.YtofjedecjlodmaaGreatKSt
namespace Go.Proofs.YtofjedecjlodmaaGreat.KJp
open Go.RowKit Go.Proofs.YtofjedecjlodmaaGreat.EPure Go.Proofs.YtofjedecjlodmaaGreat.KBase Go.Proofs.YtofjedecjlodmaaGreat.KAr Go.Proofs.YtofjedecjlodmaaGreat.KEx Go.Proofs.YtofjedecjlodmaaGreat.KLe Go.Proofs.YtofjedecjlodmaaGreat.KNp Go.Proofs.YtofjedecjlodmaaGreat.KNd Go.Proofs.YtofjedecjlodmaaGreat.KVp Go.Proofs.YtofjedecjlodmaaGreat.KSt Go.Proofs.YtofjedecjlodmaaGreat.KPi
set_option linter.unusedVariables false

/-- How many nodes expressions have. -/
def esz : List Ex → Nat
  | [] => 0
  | .mk o i s l :: t => 1 + esz l + esz t
theorem esz_nil : esz [] = 0 := by rw [esz]
theorem esz_cons (x : Ex) (t : List Ex) : esz (x :: t) = 1 + esz x.l + esz t := by
  obtain ⟨o, i, s, l⟩ := x
  rw [esz]
  rfl
theorem bq_sz : ∀ (n : Nat) (l : List Ex) (r : Int), SizeOf.sizeOf l ≤ n → ((esz l : Int) ≤ r → bq l r = r - esz l) ∧ (¬ (esz l : Int) ≤ r → bq l r < 0) := by
  intro n
  induction n with
  | zero =>
    intro l r h
    cases l with
    | nil => rw [bq_nil, esz_nil]; constructor <;> intro h <;> simp at h ⊢ <;> omega
    | cons x t => exact absurd h (by simp)
  | succ n ih =>
    intro l r h
    cases l with
    | nil => rw [bq_nil, esz_nil]; constructor <;> intro h <;> simp at h ⊢ <;> omega
    | cons x t =>
      obtain ⟨o, i, s, k⟩ := x
      rw [bq_cons, esz_cons]
      have e1 : (Ex.mk o i s k).l = k := rfl
      rw [e1]
      have i1 := ih k (r - 1) (by simp at h; omega)
      by_cases hr : r < 0
      · rw [bq_no hr, bq_neg t hr]
        constructor <;> intro h <;> omega
      · rw [bq_one hr]
        have i2 := ih t (bq k (r - 1)) (by simp at h; omega)
        by_cases hk : (esz k : Int) ≤ r - 1
        · rw [i1.1 hk] at i2 ⊢
          constructor
          · intro h
            rw [i2.1 (by omega)]
            omega
          · intro h
            exact i2.2 (by omega)
        · have hn := i1.2 hk
          rw [bq_neg t hn]
          constructor <;> intro h <;> omega
/-- How many pieces a node has by itself. -/
def pz (c : Co) : Nat := 1 + c.f.length + c.p.length + c.x.length + esz (xsC c)
theorem lft_yes {c : Co} {r : Int} (h : (pz c : Int) ≤ r) : lft c r = r - pz c := by
  unfold pz at h ⊢
  unfold lft
  rw [(bq_sz _ (xsC c) _ (Nat.le_refl _)).1 (by omega)]
  omega
theorem lft_no {c : Co} {r : Int} (h : ¬ (pz c : Int) ≤ r) : lft c r < 0 := by
  unfold pz at h
  unfold lft
  exact (bq_sz _ (xsC c) _ (Nat.le_refl _)).2 (by omega)
/-- How many pieces nodes have. -/
def cz : List Co → Nat
  | [] => 0
  | .mk k t f p x l u :: cs => pz (.mk k t f p x l u) + cz l + cz u + cz cs
theorem cz_nil : cz [] = 0 := by rw [cz]
theorem cz_cons (c : Co) (t : List Co) : cz (c :: t) = pz c + cz c.l + cz c.u + cz t := by
  obtain ⟨k, tg, f, p, x, l, u⟩ := c
  rw [cz]
  rfl
/-- May it be, but for the room? dp: may it be too deep? -/
def ow (dp : Bool) (c : Co) (s e l : Int) : Bool := (dp || !(deep (ent c s e l).1.1 (ent c s e l).1.2.1 (ent c s e l).1.2.2)) && ((ent c s e l).2 && ((xsC c).all KSh.rsv && plc c s (ent c s e l).1.1))
def okL (dp : Bool) : List Co → Int → Int → Int → Bool
  | [], _, _, _ => true
  | .mk k t f p x l u :: cs, s, e, lo => ow dp (.mk k t f p x l u) s e lo && (okL dp l (ent (.mk k t f p x l u) s e lo).1.1 (ent (.mk k t f p x l u) s e lo).1.2.1 (ent (.mk k t f p x l u) s e lo).1.2.2 && (okL dp u (ent (.mk k t f p x l u) s e lo).1.1 (ent (.mk k t f p x l u) s e lo).1.2.1 (ent (.mk k t f p x l u) s e lo).1.2.2 && okL dp cs s e lo))
theorem okL_nil (dp : Bool) (s e l : Int) : okL dp [] s e l = true := by rw [okL]
theorem okL_cons (dp : Bool) (c : Co) (t : List Co) (s e l : Int) : okL dp (c :: t) s e l = (ow dp c s e l && (okL dp c.l (ent c s e l).1.1 (ent c s e l).1.2.1 (ent c s e l).1.2.2 && (okL dp c.u (ent c s e l).1.1 (ent c s e l).1.2.1 (ent c s e l).1.2.2 && okL dp t s e l))) := by
  obtain ⟨k, tg, f, p, x, l', u⟩ := c
  rw [okL]
  rfl
theorem okL_append (dp : Bool) (a b : List Co) (s e l : Int) : okL dp (a ++ b) s e l = (okL dp a s e l && okL dp b s e l) := by
  induction a with
  | nil => rw [List.nil_append, okL_nil, Bool.true_and]
  | cons c t ih => rw [List.cons_append, okL_cons, okL_cons, ih]; simp only [Bool.and_assoc]
theorem cz_append (a b : List Co) : cz (a ++ b) = cz a + cz b := by
  induction a with
  | nil => rw [List.nil_append, cz_nil]; omega
  | cons c t ih => rw [List.cons_append, cz_cons, cz_cons, ih]; omega
theorem own_iff {c : Co} {r s e l : Int} : own c r s e l = 0 ↔ 0 ≤ r ∧ ow false c s e l = true := by
  unfold ow
  rw [Bool.false_or]
  constructor
  · intro h
    obtain ⟨h1, h2, h3, h4, h5⟩ := own_zero h
    refine ⟨by omega, ?_⟩
    rw [h2, h3, h4, h5]
    rfl
  · rintro ⟨h1, h2⟩
    simp only [Bool.and_eq_true, Bool.not_eq_true'] at h2
    obtain ⟨g1, g2, g3, g4⟩ := h2
    unfold own
    rw [if_neg (by omega), g1, if_neg (by simp), g2, if_neg (by simp), g3, if_neg (by simp), g4, if_neg (by simp)]
/-- With enough room what may be is taken; with less it is too large, or (dp) too deep. -/
theorem nd_ok : ∀ (n : Nat) (dp : Bool) (cs : List Co) (r s e l : Int), SizeOf.sizeOf cs ≤ n → okL dp cs s e l = true → 0 ≤ r →
    ((ndL cs r s e l).2 = 0 ∨ (ndL cs r s e l).2 = 1504 ∨ (dp = true ∧ (ndL cs r s e l).2 = 1503)) ∧ ((ndL cs r s e l).2 = 0 → (ndL cs r s e l).1 = r - cz cs) ∧ (dp = false → (cz cs : Int) ≤ r → (ndL cs r s e l).2 = 0) := by
  intro n
  induction n with
  | zero =>
    intro dp cs r s e l h _ hr
    cases cs with
    | nil => rw [ndL_nil, cz_nil]; exact ⟨.inl rfl, fun _ => by simp, fun _ _ => rfl⟩
    | cons c t => exact absurd h (by simp)
  | succ n ih =>
    intro dp cs r s e l h hok hr
    cases cs with
    | nil => rw [ndL_nil, cz_nil]; exact ⟨.inl rfl, fun _ => by simp, fun _ _ => rfl⟩
    | cons c t =>
      rw [okL_cons] at hok
      simp only [Bool.and_eq_true] at hok
      obtain ⟨o1, o2, o3, o4⟩ := hok
      have hone : ((ndL [c] r s e l).2 = 0 ∨ (ndL [c] r s e l).2 = 1504 ∨ (dp = true ∧ (ndL [c] r s e l).2 = 1503)) ∧ ((ndL [c] r s e l).2 = 0 → (ndL [c] r s e l).1 = r - (pz c + cz c.l + cz c.u : Nat)) ∧ (dp = false → ((pz c + cz c.l + cz c.u : Nat) : Int) ≤ r → (ndL [c] r s e l).2 = 0) := by
        rw [ndL_one]
        by_cases hp : (pz c : Int) ≤ r
        · rw [lft_yes hp]
          have hw := o1
          unfold ow at hw
          simp only [Bool.and_eq_true] at hw
          obtain ⟨w1, w2, w3, w4⟩ := hw
          by_cases hd : deep (ent c s e l).1.1 (ent c s e l).1.2.1 (ent c s e l).1.2.2 = true
          · have e1 : own c (r - pz c) s e l = 1503 := by unfold own; rw [if_neg (by omega), if_pos hd]
            have hdp : dp = true := by
              cases dp with
              | true => rfl
              | false => rw [hd] at w1; simp at w1
            rw [e1, if_pos (by simp)]
            exact ⟨.inr (.inr ⟨hdp, rfl⟩), fun h => by simp at h, fun h => by rw [hdp] at h; cases h⟩
          · have e1 : own c (r - pz c) s e l = 0 := by
              unfold own
              rw [if_neg (by omega), if_neg hd, w2, if_neg (by simp), w3, if_neg (by simp), w4, if_neg (by simp)]
            rw [e1, if_neg (by simp)]
            obtain ⟨k, tg, f, p, x, l', u⟩ := c
            have i1 := ih dp l' (r - pz (.mk k tg f p x l' u)) _ _ _ (by simp at h; omega) o2 (by omega)
            have q1 : (Co.mk k tg f p x l' u).l = l' := rfl
            have q2 : (Co.mk k tg f p x l' u).u = u := rfl
            rw [q1, q2]
            by_cases hz : (ndL l' (r - pz (.mk k tg f p x l' u)) (ent (.mk k tg f p x l' u) s e l).1.1 (ent (.mk k tg f p x l' u) s e l).1.2.1 (ent (.mk k tg f p x l' u) s e l).1.2.2).2 = 0
            · rw [if_neg (by simpa using hz)]
              have r1 := ndL_room _ l' (r - pz (.mk k tg f p x l' u)) _ _ _ (Nat.le_refl _) hz (by omega)
              have i2 := ih dp u _ (ent (.mk k tg f p x l' u) s e l).1.1 (ent (.mk k tg f p x l' u) s e l).1.2.1 (ent (.mk k tg f p x l' u) s e l).1.2.2 (by simp at h; omega) o3 r1.1
              have j1 := i1.2.1 hz
              rw [j1] at i2 ⊢
              refine ⟨i2.1, fun h => ?_, fun h1 h2 => i2.2.2 h1 (by omega)⟩
              have := i2.2.1 h
              omega
            · rw [if_pos (by simpa using hz)]
              refine ⟨i1.1, fun h => absurd h hz, fun h1 h2 => absurd (i1.2.2 h1 (by omega)) hz⟩
        · have hn := lft_no hp
          have e1 : own c (lft c r) s e l = 1504 := by unfold own; rw [if_pos hn]
          rw [e1, if_pos (by simp)]
          exact ⟨.inr (.inl rfl), fun h => by simp at h, fun _ h => by omega⟩
      rw [ndL_cons, cz_cons]
      by_cases hz : (ndL [c] r s e l).2 = 0
      · rw [if_neg (by simpa using hz)]
        have r1 := ndL_room _ [c] r s e l (Nat.le_refl _) hz hr
        have i2 := ih dp t _ s e l (by simp at h; omega) o4 r1.1
        have j1 := hone.2.1 hz
        rw [j1] at i2 ⊢
        refine ⟨i2.1, fun h => ?_, fun h1 h2 => i2.2.2 h1 (by omega)⟩
        have := i2.2.1 h
        omega
      · rw [if_pos (by simpa using hz)]
        exact ⟨hone.1, fun h => absurd h hz, fun h1 h2 => absurd (hone.2.2 h1 (by omega)) hz⟩
theorem ok_of : ∀ (n : Nat) (cs : List Co) (r s e l : Int), SizeOf.sizeOf cs ≤ n → (ndL cs r s e l).2 = 0 → okL false cs s e l = true := by
  intro n
  induction n with
  | zero =>
    intro cs r s e l h _
    cases cs with
    | nil => exact okL_nil _ _ _ _
    | cons c t => exact absurd h (by simp)
  | succ n ih =>
    intro cs r s e l h h0
    cases cs with
    | nil => exact okL_nil _ _ _ _
    | cons c t =>
      obtain ⟨h1, h2, h3⟩ := ok_cons h0
      obtain ⟨g1, g2, g3, g4⟩ := ok_one h1
      rw [okL_cons, (own_iff.1 g1).2]
      obtain ⟨k, tg, f, p, x, l', u⟩ := c
      have i1 := ih l' _ _ _ _ (by simp at h; omega) g2
      have i2 := ih u _ _ _ _ (by simp at h; omega) g3
      have i3 := ih t _ _ _ _ (by simp at h; omega) h2
      have q1 : (Co.mk k tg f p x l' u).l = l' := rfl
      have q2 : (Co.mk k tg f p x l' u).u = u := rfl
      rw [q1, q2, i1, i2, i3]
      rfl
theorem chk_join {a b : List Co} (ha : chk a = 0) (hb : chk b = 0) : chk (a ++ b) = 0 ∨ chk (a ++ b) = 1504 := by
  have h1 := ok_of _ a _ _ _ _ (Nat.le_refl _) ha
  have h2 := ok_of _ b _ _ _ _ (Nat.le_refl _) hb
  have := (nd_ok _ false (a ++ b) 4096 1 0 0 (Nat.le_refl _) (by rw [okL_append, h1, h2]; rfl) (by omega)).1
  rcases this with h | h | ⟨h, -⟩
  · exact .inl h
  · exact .inr h
  · cases h
end Go.Proofs.YtofjedecjlodmaaGreat.KJp

import Derived.Test.YtnoohlmlpijhaaaGreatDoorPZ22
import Derived.Test.YtnoohlmlpijhaaaGreatDoorPZ23
import Derived.Test.YtnoohlmlpijhaaaGreatDoorPZ25
namespace Go.Proofs.YtnoohlmlpijhaaaGreatDoor.EBx
open Go.Proofs.YtnoohlmlpijhaaaGreatDoor.UBase Go.Proofs.YtnoohlmlpijhaaaGreatDoor.EPure Go.Proofs.YtnoohlmlpijhaaaGreatDoor.EDn Go.Proofs.YtnoohlmlpijhaaaGreatDoor.EBs Go.Proofs.YtnoohlmlpijhaaaGreatDoor.PTx Go.Proofs.YtnoohlmlpijhaaaGreatDoor.PFit
set_option linter.unusedVariables false
theorem St.nth {s : ByteArray} {i : Nat} {l : List UInt8} (h : St s i l) {k : Nat} (hk : k < l.length) : at' s (i + k) = l[k].toNat := by
  have h2 : St s i (l.take k ++ l.drop k) := by rw [List.take_append_drop]; exact h
  have h3 := h2.right
  rw [List.length_take, Nat.min_eq_left (by omega), List.drop_eq_getElem_cons hk] at h3
  exact h3.at
theorem at_list (t : ByteArray) {p : Nat} (h : p < t.size) : t.data.toList.drop p = UInt8.ofNat (at' t p) :: t.data.toList.drop (p + 1) := by
  rw [List.drop_eq_getElem_cons (by rw [sz]; exact h), at_get t p h]
  simp [ByteArray.getElem_eq_getElem_data]
theorem nth_at (t : ByteArray) {p k n : Nat} (hk : k < n) (h : p + n ≤ t.size) : ((t.data.toList.drop p).take n)[k]'(by rw [List.length_take, List.length_drop, sz]; omega) = UInt8.ofNat (at' t (p + k)) := by
  rw [List.getElem_take, List.getElem_drop, at_get t (p + k) (by omega)]
  simp [ByteArray.getElem_eq_getElem_data]
theorem ofNat_at (t : ByteArray) (p : Nat) : (UInt8.ofNat (at' t p)).toNat = at' t p := by
  unfold at'; simp
theorem qb_high {c : UInt8} (h : 128 ≤ c.toNat) : qb c = [c] := by
  unfold qb
  rw [if_neg, if_neg, if_neg, if_neg]
  all_goals (intro hc; rw [hc] at h; revert h; decide)
theorem flat_run (t : ByteArray) : ∀ (n p : Nat), p + n ≤ t.size → (∀ k, k < n → 128 ≤ at' t (p + k)) → (t.data.toList.drop p).flatMap qb = (t.data.toList.drop p).take n ++ (t.data.toList.drop (p + n)).flatMap qb
  | 0, p, _, _ => by simp
  | n + 1, p, h, hk => by
    have ih := flat_run t n (p + 1) (by omega) (fun k hk' => by have := hk (k + 1) (by omega); rwa [show p + (k + 1) = p + 1 + k by omega] at this)
    rw [at_list t (show p < t.size by omega), List.flatMap_cons, qb_high (by rw [ofNat_at]; simpa using hk 0 (by omega)), ih, List.take_succ_cons, show p + 1 + n = p + (n + 1) by omega]
    rfl
theorem len_same {s t : ByteArray} {j p : Nat} (hn : len t p ≠ 0) (h : ∀ k, k < len t p → at' s (j + k) = at' t (p + k)) : len s j = len t p := by
  have h0 := h 0
  have h1 := h 1
  have h2 := h 2
  have h3 := h 3
  clear h
  simp only [Nat.add_zero] at h0
  rw [len_eq] at hn h0 h1 h2 h3 ⊢
  rw [len_eq]
  generalize at' s j = a at *
  generalize at' s (j + 1) = b at *
  generalize at' s (j + 2) = c at *
  generalize at' s (j + 3) = d at *
  generalize at' t p = a' at *
  generalize at' t (p + 1) = b' at *
  generalize at' t (p + 2) = c' at *
  generalize at' t (p + 3) = d' at *
  obtain rfl := h0 (by omega)
  unfold len4 at hn h1 h2 h3 ⊢
  by_cases ha : a < 128
  · rw [if_pos ha, if_pos ha]
  rw [if_neg ha] at hn h1 h2 h3 ⊢
  rw [if_neg ha]
  by_cases e2 : 194 ≤ a ∧ a < 224 ∧ (128 ≤ b' ∧ b' < 192)
  · rw [if_pos e2] at h1 ⊢
    rw [h1 (by omega), if_pos e2]
  rw [if_neg e2] at hn h1 h2 h3 ⊢
  by_cases e3 : 224 ≤ a ∧ a < 240 ∧ (128 ≤ b' ∧ b' < 192) ∧ (128 ≤ c' ∧ c' < 192)
  · rw [if_pos e3] at hn h1 h2 h3 ⊢
    by_cases e4 : (a = 224 ∧ b' < 160) ∨ (a = 237 ∧ 160 ≤ b')
    · rw [if_pos e4] at hn; exact absurd rfl hn
    · rw [if_neg e4] at h1 h2 ⊢
      rw [h1 (by omega), h2 (by omega), if_neg e2, if_pos e3, if_neg e4]
  rw [if_neg e3] at hn h1 h2 h3 ⊢
  by_cases e5 : 240 ≤ a ∧ a < 245 ∧ (128 ≤ b' ∧ b' < 192) ∧ (128 ≤ c' ∧ c' < 192) ∧ (128 ≤ d' ∧ d' < 192)
  · rw [if_pos e5] at hn h1 h2 h3 ⊢
    by_cases e6 : (a = 240 ∧ b' < 144) ∨ (a = 244 ∧ 144 ≤ b')
    · rw [if_pos e6] at hn; exact absurd rfl hn
    · rw [if_neg e6] at h1 h2 h3 ⊢
      rw [h1 (by omega), h2 (by omega), h3 (by omega), if_neg e2, if_neg e3, if_pos e5, if_neg e6]
  · rw [if_neg e5] at hn; exact absurd rfl hn
/-- One character of a text that is written. -/
theorem chr_back {s t : ByteArray} {j p : Nat} {u : List UInt8} (hp : p < t.size) (hl : len t p ≠ 0) (hw : 32 ≤ at' t p ∨ at' t p = 10) (h : St s j ((t.data.toList.drop p).flatMap qb ++ u)) :
    at' s j ≠ 39 ∧ ∃ k, chr s j = .ok ((t.data.toList.drop p).take (len t p), j + k) ∧ (t.data.toList.drop p).flatMap qb ++ u = ((t.data.toList.drop p).flatMap qb).take k ++ ((t.data.toList.drop (p + len t p)).flatMap qb ++ u) ∧ k = (((t.data.toList.drop p).flatMap qb).take k).length := by
  obtain ⟨c, hc⟩ : ∃ c, UInt8.ofNat (at' t p) = c := ⟨_, rfl⟩
  have hcn : c.toNat = at' t p := by rw [← hc, ofNat_at]
  have hd := at_list t hp
  rw [hc] at hd
  by_cases h128 : at' t p < 128
  · have hl1 : len t p = 1 := by unfold len; rw [if_pos h128]
    rw [hl1, hd, List.take_succ_cons, List.take_zero]
    rw [hd] at h
    rw [List.flatMap_cons] at h ⊢
    by_cases he : c = 39 ∨ c = 92 ∨ c = 125 ∨ c = 10
    · obtain ⟨x, hx, ex⟩ : ∃ x, qb c = [92, x] ∧ esc x.toNat = some c.toNat := by
        rcases he with rfl | rfl | rfl | rfl
        · exact ⟨39, rfl, rfl⟩
        · exact ⟨92, rfl, rfl⟩
        · exact ⟨125, rfl, rfl⟩
        · exact ⟨110, rfl, rfl⟩
      rw [hx] at h ⊢
      have a0 := St.nth h (k := 0) (by simp)
      have a1 := St.nth h (k := 1) (by simp)
      have hz := h.le
      simp only [Nat.add_zero, List.cons_append, List.getElem_cons_zero, List.getElem_cons_succ] at a0 a1
      simp only [List.cons_append, List.length_cons] at hz
      have e92 : (92 : UInt8).toNat = 92 := rfl
      refine ⟨by rw [a0]; decide, 2, ?_, by simp, by simp⟩
      unfold chr
      rw [if_neg (by omega), a0, if_neg (by decide), if_pos e92, if_neg (by omega), a1, ex]
      simp
    · have hq : qb c = [c] := by
        unfold qb
        rw [if_neg (fun e => he (.inl e)), if_neg (fun e => he (.inr (.inl e))), if_neg (fun e => he (.inr (.inr (.inl e)))), if_neg (fun e => he (.inr (.inr (.inr e))))]
      rw [hq] at h ⊢
      have a0 := St.nth h (k := 0) (by simp)
      have hz := h.le
      simp only [Nat.add_zero, List.cons_append, List.nil_append, List.getElem_cons_zero] at a0
      simp only [List.cons_append, List.length_cons] at hz
      have n39 : at' s j ≠ 39 := by rw [a0]; intro e; exact he (.inl (UInt8.toNat_inj.1 e))
      have n92 : at' s j ≠ 92 := by rw [a0]; intro e; exact he (.inr (.inl (UInt8.toNat_inj.1 e)))
      have n10 : at' s j ≠ 10 := by rw [a0]; intro e; exact he (.inr (.inr (.inr (UInt8.toNat_inj.1 e))))
      refine ⟨n39, 1, ?_, by simp, by simp⟩
      obtain ⟨b, hb⟩ := h.drop
      unfold chr
      have l1 : len s j = 1 := by unfold len; rw [if_pos (by omega)]
      rw [if_neg (by omega), if_neg (by omega), if_neg n92, if_neg (by omega), l1, hb]
      simp
  · have hin := len_in hp
    have h2 : ∀ k, k < len t p → 128 ≤ at' t (p + k) := by
      have tt (x : Nat) (hx : tl t x = true) : 128 ≤ at' t x := ((tl_iff t x).1 hx).1
      intro k hk
      rcases len_parts t p with e | ⟨e, _⟩ | ⟨e, _, q1⟩ | ⟨e, _, q1, q2⟩ | ⟨e, _, q1, q2, q3⟩
      · exact absurd e hl
      · omega
      · match k, hk with
        | 0, _ => simp; omega
        | 1, _ => exact tt _ q1
        | k + 2, h => omega
      · match k, hk with
        | 0, _ => simp; omega
        | 1, _ => exact tt _ q1
        | 2, _ => exact tt _ q2
        | k + 3, h => omega
      · match k, hk with
        | 0, _ => simp; omega
        | 1, _ => exact tt _ q1
        | 2, _ => exact tt _ q2
        | 3, _ => exact tt _ q3
        | k + 4, h => omega
    have hr := flat_run t (len t p) p hin h2
    have hlen : ((t.data.toList.drop p).take (len t p)).length = len t p := by rw [List.length_take, List.length_drop, sz]; omega
    have hall : ∀ k, k < len t p → at' s (j + k) = at' t (p + k) := by
      intro k hk
      rw [hr, List.append_assoc] at h
      have := St.nth h (k := k) (by rw [List.length_append, hlen]; omega)
      rw [this, List.getElem_append_left (by rw [hlen]; exact hk), nth_at t hk hin, ofNat_at]
    have e0 := hall 0 (by omega)
    simp only [Nat.add_zero] at e0
    have hls := len_same hl hall
    have hz := h.le
    rw [hr] at hz
    simp only [List.length_append, hlen] at hz
    refine ⟨by omega, len t p, ?_, ?_, ?_⟩
    · obtain ⟨b, hb⟩ := h.drop
      unfold chr
      rw [if_neg (by omega), if_neg (by omega), if_neg (by omega), if_neg (by omega), hls, hb, hr, List.append_assoc, List.append_assoc, List.take_left' hlen]
    · rw [hr, List.take_left' hlen, List.append_assoc]
    · rw [hr, List.take_left' hlen, hlen]
theorem txl_back {s t : ByteArray} (hw : wrt t = true) : ∀ (n p j f : Nat) (acc : List UInt8), t.size - p ≤ n → p ≤ t.size → bad t p = none → n < f → St s j ((t.data.toList.drop p).flatMap qb ++ [39]) →
    txl s f j acc = .ok (acc ++ t.data.toList.drop p, j + ((t.data.toList.drop p).flatMap qb ++ [39]).length)
  | n, p, j, f + 1, acc, hn, hp, hb, hf, h => by
    rcases Nat.lt_or_ge p t.size with hlt | hge
    · have hl : len t p ≠ 0 := by intro e; rw [bad_here hlt e] at hb; cases hb
      have hb2 := hb
      rw [bad_step hlt hl] at hb2
      have hw' : 32 ≤ at' t p ∨ at' t p = 10 := by unfold wrt at hw; exact of_decide_eq_true hw p hlt
      obtain ⟨h39, k, hc, hk, hk2⟩ := chr_back hlt hl hw' h
      have hin := len_in hlt
      have hz := h.le
      simp only [List.length_append, List.length_cons, List.length_nil] at hz
      rw [txl, if_neg (by omega), if_neg h39, hc]
      simp only
      have h' := h
      rw [hk] at h'
      have h3 := h'.right
      rw [← hk2] at h3
      match n, hn with
      | 0, hn => omega
      | n + 1, hn =>
        rw [txl_back hw n (p + len t p) (j + k) f _ (by omega) hin hb2 (by omega) h3, hk]
        congr 1
        congr 1
        · rw [List.append_assoc, ← List.drop_drop, List.take_append_drop]
        · simp only [List.length_append]; omega
    · have hd : t.data.toList.drop p = [] := List.drop_eq_nil_of_le (by rw [sz]; omega)
      rw [hd] at h ⊢
      simp only [List.flatMap_nil, List.nil_append] at h ⊢
      have := h.at
      have hlt := h.lt
      rw [txl, if_neg (by omega), if_pos (by rw [this]; rfl)]
      simp
theorem text_tok {s t : ByteArray} {i : Nat} (ht : tx t = true) (h : St s i (qt t)) : Tok s i ⟨2, t, 0, i⟩ (i + (qt t).length) := by
  have ht' := ht
  unfold tx tg at ht'
  simp only [Bool.and_eq_true, decide_eq_true_eq, beq_iff_eq] at ht'
  obtain ⟨⟨hsz, hv⟩, hw⟩ := ht'
  have hb : bad t 0 = none := by
    unfold verr at hv
    by_cases hb : bad t 0 = none
    · exact hb
    · rw [if_neg hb] at hv; cases hv
  unfold qt at h ⊢
  have ha := h.at
  have hlt := h.lt
  have hz := h.le
  have htl := h.tail
  rw [show t.data.toList = t.data.toList.drop 0 by simp] at htl
  have hq : t.size ≤ (t.data.toList.flatMap qb).length := by
    rw [← sz t]
    have : ∀ l : List UInt8, l.length ≤ (l.flatMap qb).length := by
      intro l
      induction l with
      | nil => simp
      | cons c l ih =>
        rw [List.flatMap_cons, List.length_append, List.length_cons]
        have : 1 ≤ (qb c).length := by unfold qb; repeat' split
                                       all_goals simp
        omega
    exact this _
  simp only [List.length_cons, List.length_append, List.length_nil] at hz
  have hx := txl_back hw (t.size - 0) 0 (i + 1) (s.size + 1) [] (Nat.le_refl _) (by omega) hb (by omega) htl
  refine ⟨by rw [ha]; decide, ?_, by simp⟩
  unfold scan
  rw [if_neg (by omega), ha, if_pos (by decide), hx]
  simp only [List.nil_append, List.drop_zero]
  rw [if_neg (by rw [sz]; omega)]
  simp only [List.length_cons, List.length_append, List.length_nil]
  congr 2
  omega
end Go.Proofs.YtnoohlmlpijhaaaGreatDoor.EBx
namespace Go.Proofs.YtnoohlmlpijhaaaGreatDoor.EBl
open Go.Proofs.YtnoohlmlpijhaaaGreatDoor.UBase Go.Proofs.YtnoohlmlpijhaaaGreatDoor.EPure Go.Proofs.YtnoohlmlpijhaaaGreatDoor.EDn Go.Proofs.YtnoohlmlpijhaaaGreatDoor.EBs Go.Proofs.YtnoohlmlpijhaaaGreatDoor.EBx
set_option linter.unusedVariables false
/-- Too large, or nested too deep. -/
def big (e : F) : Prop := e.1 = 1001 ∨ e.1 = 1002
def Big (X : A Ex) : Prop := ∃ e, X = .error e ∧ big e
/-- What may stand behind a part of level y (its sign's level and one; 0: an if). -/
def Fo (s : ByteArray) (y j : Nat) : Prop := (j < s.size → wrd (at' s j) = false) ∧ j ≤ s.size ∧ ∀ r, (∃ e, adv s j r = .error e ∧ e.1 = 1002) ∨ ∃ g, adv s j r = .ok g ∧ is g.tk [40] = false ∧ (y = 0 → is g.tk [63] = false) ∧ (y ≤ 12 → is g.tk [46] = false ∧ is g.tk [91] = false) ∧ ∀ k, y ≤ k + 1 → k < 11 → opOf g.tk (lvs.getD k []) = none
theorem Fo.mono {s : ByteArray} {y y' j : Nat} (h : Fo s y j) (hy : y ≤ y') : Fo s y' j := by
  refine ⟨h.1, h.2.1, fun r => ?_⟩
  rcases h.2.2 r with e | ⟨g, h1, h2, h3, h4, h5⟩
  · exact .inl e
  · exact .inr ⟨g, h1, h2, fun h => h3 (by omega), fun h => h4 (by omega), fun k hk => h5 k (by omega)⟩
theorem Fo.ok {s : ByteArray} {y j r : Nat} {g : Sr} (h : Fo s y j) (hg : adv s j r = .ok g) : is g.tk [40] = false ∧ (y = 0 → is g.tk [63] = false) ∧ (y ≤ 12 → is g.tk [46] = false ∧ is g.tk [91] = false) ∧ ∀ k, y ≤ k + 1 → k < 11 → opOf g.tk (lvs.getD k []) = none := by
  rcases h.2.2 r with ⟨e, he, _⟩ | ⟨g', h1, h2⟩
  · rw [he] at hg; cases hg
  · rw [h1] at hg; injection hg with hg; subst hg; exact h2
/-- A row of levels read at g comes to x, what is behind it at j next. -/
def Rd (s : ByteArray) (q : P) (i j : Nat) (x : Ex) : Prop := ∀ r g, adv s i r = .ok g → Big (q g) ∨ ∃ r' g', adv s j r' = .ok g' ∧ q g = .ok (x, g')
def Q13 (s : ByteArray) (m i j : Nat) (x : Ex) : Prop := ∀ r g, adv s i r = .ok g → (is g.tk [45] = false ∧ is g.tk [33] = false) ∧ (Big (par s (lv2 s m).2 g) ∨ ∃ r' g' f, adv s j r' = .ok g' ∧ par s (lv2 s m).2 g = prt s (lv2 s m).2 f x g' ∧ 2 * s.size + 2 + i ≤ f + j)
def Qk (s : ByteArray) (m k i j : Nat) (x : Ex) : Prop := ∀ r g, adv s i r = .ok g → Big (lev s (lv2 s (m + 1)).1 (11 - k) g) ∨ ∃ r' g' f, adv s j r' = .ok g' ∧ lev s (lv2 s (m + 1)).1 (11 - k) g = more s k (lev s (lv2 s (m + 1)).1 (10 - k)) f x g' ∧ 2 * s.size + 2 + i ≤ f + j
def need (y : Nat) : Nat := if y = 0 then 0 else if y ≤ 11 then y + 1 else y
def Q (s : ByteArray) (m i j : Nat) (x : Ex) (y : Nat) : Prop := if y = 13 then Q13 s m i j x else if y = 12 then Rd s (lv2 s (m + 1)).1 i j x else if y = 0 then Rd s (lv2 s (m + 1)).2 i j x else Qk s m (y - 1) i j x
theorem le_need (y : Nat) : y ≤ need y := by
  unfold need
  repeat' split
  all_goals omega
theorem need_le (y : Nat) : need y ≤ y + 1 := by
  unfold need
  repeat' split
  all_goals omega
theorem more_ok {s : ByteArray} {k f : Nat} {q : P} {x : Ex} {g : Sr} (hf : 0 < f) (h : opOf g.tk (lvs.getD k []) = none) : more s k q f x g = .ok (x, g) := by
  cases f with
  | zero => omega
  | succ f => rw [more, h]
theorem prt_ok {s : ByteArray} {f : Nat} {C : P} {x : Ex} {g : Sr} (hf : 0 < f) (h1 : is g.tk [46] = false) (h2 : is g.tk [91] = false) : prt s C f x g = .ok (x, g) := by
  cases f with
  | zero => omega
  | succ f => rw [prt, if_neg (by rw [h1]; simp), if_neg (by rw [h2]; simp)]
theorem lev_err {s : ByteArray} {S : P} {g : Sr} {e : F} (h : S g = .error e) : ∀ n, lev s S n g = .error e
  | 0 => h
  | n + 1 => by rw [lev]; simp only [lev_err h n]
theorem lev_big {s : ByteArray} {S : P} {g : Sr} {n : Nat} (h : Big (lev s S n g)) : Big (lev s S (n + 1) g) := by
  obtain ⟨e, h1, h2⟩ := h
  exact ⟨e, by rw [lev]; simp only [h1], h2⟩
/-- Read whole, at a level between. -/
theorem closed {s : ByteArray} {m i j y : Nat} {x : Ex} (hy : 1 ≤ y) (hy2 : y ≤ 12) (h : Q s m i j x y) (hf : Fo s y j) : Rd s (lev s (lv2 s (m + 1)).1 (12 - y)) i j x := by
  unfold Q at h
  rw [if_neg (by omega)] at h
  by_cases h12 : y = 12
  · rw [if_pos h12] at h
    subst h12
    exact h
  rw [if_neg h12, if_neg (by omega)] at h
  intro r g hg
  have h11 : 11 - (y - 1) = 12 - y := by omega
  rcases h r g hg with hb | ⟨r', g', f, h1, h2, h3⟩
  · rw [h11] at hb; exact .inl hb
  · rw [h11] at h2
    refine .inr ⟨r', g', h1, ?_⟩
    rw [h2]
    have := hf.2.1
    exact more_ok (by omega) ((hf.ok h1).2.2.2 (y - 1) (by omega) (by omega))
theorem lift {s : ByteArray} {m i j y : Nat} {x : Ex} (hij : i ≤ j) (hy : y ≤ 12) (h : Q s m i j x (y + 1)) (hf : Fo s (need y) j) : Q s m i j x y := by
  by_cases h12 : y = 12
  · subst h12
    unfold Q at h ⊢
    rw [if_pos rfl] at h
    rw [if_neg (by omega), if_pos rfl]
    intro r g hg
    obtain ⟨⟨n1, n2⟩, h⟩ := h r g hg
    have hS : (lv2 s (m + 1)).1 g = par s (lv2 s m).2 g := by
      show sgd s (lv2 s m).1 (lv2 s m).2 g = _
      unfold sgd
      rw [if_neg (by rw [n1]; simp), if_neg (by rw [n2]; simp)]
    rw [hS]
    rcases h with hb | ⟨r', g', f, h1, h2, h3⟩
    · exact .inl hb
    · refine .inr ⟨r', g', h1, ?_⟩
      have hh := (hf.ok h1).2.2.1 (by simp [need])
      have := hf.2.1
      rw [h2]
      exact prt_ok (by omega) hh.1 hh.2
  by_cases h0 : y = 0
  · subst h0
    have hc := closed (by omega) (by omega) h (hf.mono (by simp [need]))
    unfold Q
    rw [if_neg (by omega), if_neg (by omega), if_pos rfl]
    intro r g hg
    show Big (chc s (lv2 s (m + 1)).1 (lv2 s m).2 g) ∨ ∃ r' g', adv s j r' = .ok g' ∧ chc s (lv2 s (m + 1)).1 (lv2 s m).2 g = .ok (x, g')
    unfold chc
    rcases hc r g hg with ⟨e, h1, h2⟩ | ⟨r', g', h1, h2⟩
    · left; simp only [h1]; exact ⟨e, rfl, h2⟩
    · right
      refine ⟨r', g', h1, ?_⟩
      simp only [h2]
      rw [if_neg (by rw [(hf.ok h1).2.1 rfl]; simp)]
  have hc := closed (by omega) (by omega) h (hf.mono (need_le y))
  unfold Q
  rw [if_neg (by omega), if_neg h12, if_neg h0]
  intro r g hg
  have e1 : 12 - (y + 1) = 10 - (y - 1) := by omega
  have e2 : 11 - (y - 1) = (10 - (y - 1)) + 1 := by omega
  rw [e1] at hc
  rw [e2]
  rcases hc r g hg with hb | ⟨r', g', h1, h2⟩
  · exact .inl (lev_big hb)
  · refine .inr ⟨r', g', 2 * s.size + 2, h1, ?_, by omega⟩
    rw [lev]
    simp only [h2]
    rw [show 10 - (10 - (y - 1)) = y - 1 by omega]
theorem lower {s : ByteArray} {m i j : Nat} {x : Ex} (hij : i ≤ j) : ∀ (d y : Nat), y + d ≤ 13 → Q s m i j x (y + d) → Fo s (need y) j → Q s m i j x y
  | 0, y, _, h, _ => h
  | d + 1, y, hd, h, hf => by
    refine lift hij (by omega) (lower hij d (y + 1) (by omega) (by rwa [show y + 1 + d = y + (d + 1) by omega]) (hf.mono ?_)) hf
    unfold need
    repeat' split
    all_goals omega
end Go.Proofs.YtnoohlmlpijhaaaGreatDoor.EBl
namespace Go.Proofs.YtnoohlmlpijhaaaGreatDoor.EBo
open Go.Proofs.YtnoohlmlpijhaaaGreatDoor.UBase Go.Proofs.YtnoohlmlpijhaaaGreatDoor.EPure Go.Proofs.YtnoohlmlpijhaaaGreatDoor.EDn Go.Proofs.YtnoohlmlpijhaaaGreatDoor.EBs Go.Proofs.YtnoohlmlpijhaaaGreatDoor.EBx Go.Proofs.YtnoohlmlpijhaaaGreatDoor.EBl Go.Proofs.YtnoohlmlpijhaaaGreatDoor.PPl Go.Proofs.YtnoohlmlpijhaaaGreatDoor.PPr Go.Proofs.YtnoohlmlpijhaaaGreatDoor.PFit Go.Proofs.YtnoohlmlpijhaaaGreatDoor.PTx Go.Proofs.YtnoohlmlpijhaaaGreatDoor.ENd Go.Proofs.YtnoohlmlpijhaaaGreatDoor.ERg
set_option linter.unusedVariables false
theorem op_cases {o : Int} (h1 : 12 ≤ o) (h2 : o ≤ 30) : o = 12 ∨ o = 13 ∨ o = 14 ∨ o = 15 ∨ o = 16 ∨ o = 17 ∨ o = 18 ∨ o = 19 ∨ o = 20 ∨ o = 21 ∨ o = 22 ∨ o = 23 ∨ o = 24 ∨ o = 25 ∨ o = 26 ∨ o = 27 ∨ o = 28 ∨ o = 29 ∨ o = 30 := by omega
theorem op_tok {s : ByteArray} {i : Nat} {o : Int} (h1 : 12 ≤ o) (h2 : o ≤ 30) (h : St s i (sgo o ++ [32])) : Tok s i ⟨4, ⟨(sgo o).toArray⟩, 0, i⟩ (i + (sgo o).length) := by
  rcases op_cases h1 h2 with rfl | rfl | rfl | rfl | rfl | rfl | rfl | rfl | rfl | rfl | rfl | rfl | rfl | rfl | rfl | rfl | rfl | rfl | rfl
  · exact sign_tok (c := 42) (t := [32]) h (by decide) (fun b => rfl)
  · exact sign_tok (c := 47) (t := [32]) h (by decide) (fun b => rfl)
  · exact sign_tok (c := 37) (t := [32]) h (by decide) (fun b => rfl)
  · exact sign_tok (c := 43) (t := [32]) h (by decide) (fun b => rfl)
  · exact sign_tok (c := 45) (t := [32]) h (by decide) (fun b => rfl)
  · exact sign_tok (c := 126) (t := [32]) h (by decide) (fun b => rfl)
  · exact sign_tok (c := 60) (t := [60, 32]) h (by decide) (fun b => rfl)
  · exact sign_tok (c := 62) (t := [62, 32]) h (by decide) (fun b => rfl)
  · exact sign_tok (c := 38) (t := [32]) h (by decide) (fun b => rfl)
  · exact sign_tok (c := 94) (t := [32]) h (by decide) (fun b => rfl)
  · exact sign_tok (c := 124) (t := [32]) h (by decide) (fun b => rfl)
  · exact sign_tok (c := 60) (t := [32]) h (by decide) (fun b => rfl)
  · exact sign_tok (c := 60) (t := [61, 32]) h (by decide) (fun b => rfl)
  · exact sign_tok (c := 62) (t := [32]) h (by decide) (fun b => rfl)
  · exact sign_tok (c := 62) (t := [61, 32]) h (by decide) (fun b => rfl)
  · exact sign_tok (c := 61) (t := [61, 32]) h (by decide) (fun b => rfl)
  · exact sign_tok (c := 33) (t := [61, 32]) h (by decide) (fun b => rfl)
  · exact sign_tok (c := 38) (t := [38, 32]) h (by decide) (fun b => rfl)
  · exact sign_tok (c := 124) (t := [124, 32]) h (by decide) (fun b => rfl)
theorem opOf_a (x : ByteArray) (n : Int) (a : Nat) : ∀ l, opOf ⟨4, x, n, a⟩ l = opOf ⟨4, x, 0, 0⟩ l
  | [] => rfl
  | (y, o) :: l => by rw [opOf, opOf, opOf_a x n a l]; rfl
theorem op_all : ∀ o : Fin 31, 12 ≤ o.1 → ∀ k, k < 11 → opOf ⟨4, ⟨(sgo (o.1 : Nat)).toArray⟩, 0, 0⟩ (lvs.getD k []) = if (k : Int) = lvl (o.1 : Nat) then some ((o.1 : Nat) : Int) else none := by decide
theorem op_of {o : Int} (h1 : 12 ≤ o) (h2 : o ≤ 30) {k : Nat} (hk : k < 11) (a : Nat) : opOf ⟨4, ⟨(sgo o).toArray⟩, 0, a⟩ (lvs.getD k []) = if (k : Int) = lvl o then some o else none := by
  rw [opOf_a]
  have := op_all ⟨o.toNat, by omega⟩ (by simp; omega) k hk
  simpa [show ((o.toNat : Nat) : Int) = o by omega] using this
theorem lvl_op {o : Int} (h1 : 12 ≤ o) (h2 : o ≤ 30) : 0 ≤ lvl o ∧ lvl o ≤ 10 := by
  rcases op_cases h1 h2 with rfl | rfl | rfl | rfl | rfl | rfl | rfl | rfl | rfl | rfl | rfl | rfl | rfl | rfl | rfl | rfl | rfl | rfl | rfl <;> decide
theorem op_is {o : Int} (h1 : 12 ≤ o) (h2 : o ≤ 30) (a : Nat) : is ⟨4, ⟨(sgo o).toArray⟩, 0, a⟩ [40] = false ∧ is ⟨4, ⟨(sgo o).toArray⟩, 0, a⟩ [46] = false ∧ is ⟨4, ⟨(sgo o).toArray⟩, 0, a⟩ [91] = false ∧ is ⟨4, ⟨(sgo o).toArray⟩, 0, a⟩ [63] = false := by
  rcases op_cases h1 h2 with rfl | rfl | rfl | rfl | rfl | rfl | rfl | rfl | rfl | rfl | rfl | rfl | rfl | rfl | rfl | rfl | rfl | rfl | rfl <;> exact ⟨rfl, rfl, rfl, rfl⟩
theorem sgo_pos {o : Int} (h1 : 12 ≤ o) (h2 : o ≤ 30) : 1 ≤ (sgo o).length := by
  rcases op_cases h1 h2 with rfl | rfl | rfl | rfl | rfl | rfl | rfl | rfl | rfl | rfl | rfl | rfl | rfl | rfl | rfl | rfl | rfl | rfl | rfl <;> decide
/-- A sign of one byte that begins no other. -/
def sgl (c : UInt8) : Bool := c == 40 || (c == 41 || (c == 91 || (c == 93 || (c == 46 || (c == 45 || (c == 63 || c == 58))))))
theorem one_tok {s : ByteArray} {i : Nat} {c : UInt8} (hc : sgl c = true) (h : St s i [c]) : Tok s i ⟨4, ⟨#[c]⟩, 0, i⟩ (i + 1) := by
  simp only [sgl, Bool.or_eq_true, beq_iff_eq] at hc
  rcases hc with rfl | rfl | rfl | rfl | rfl | rfl | rfl | rfl
  all_goals exact sign_tok (t := []) h (by decide) (fun b => rfl)
theorem not_tok {s : ByteArray} {i : Nat} {d : UInt8} (hd : d ≠ 61) (h : St s i [33, d]) : Tok s i ⟨4, ⟨#[33]⟩, 0, i⟩ (i + 1) := by
  refine sign_tok (c := 33) (t := [d]) (x := [33]) h (by decide) (fun b => ?_)
  have : ((61 : UInt8) == d) = false := by simp; exact fun e => hd e.symm
  simp [sg2, signs, List.isPrefixOf, this]
theorem one_op : ∀ c ∈ ([41, 93, 63, 58, 46, 91] : List UInt8), ∀ k, k < 11 → opOf ⟨4, ⟨#[c]⟩, 0, 0⟩ (lvs.getD k []) = none := by decide
theorem fo_of {s : ByteArray} {y j j' jn : Nat} {t : Tk} (hadv : ∀ r, adv s j r = adv s j' r) (ht : Tok s j' t jn) (hb : wrd (at' s j) = false) (hj : j ≤ s.size) (c1 : is t [40] = false) (c2 : y = 0 → is t [63] = false) (c3 : y ≤ 12 → is t [46] = false ∧ is t [91] = false) (c4 : ∀ k, y ≤ k + 1 → k < 11 → opOf t (lvs.getD k []) = none) : Fo s y j := by
  refine ⟨fun _ => hb, hj, fun r => ?_⟩
  rw [hadv r]
  rcases ht.adv r with e | ⟨_, e⟩
  · exact .inl ⟨_, e, rfl⟩
  · exact .inr ⟨_, e, c1, c2, c3, c4⟩
theorem fo_end {s : ByteArray} : Fo s 0 s.size := by
  refine ⟨fun h => absurd h (by omega), Nat.le_refl _, fun r => .inr ⟨⟨⟨0, ⟨#[]⟩, 0, s.size⟩, s.size, r⟩, ?_, rfl, fun _ => rfl, fun _ => ⟨rfl, rfl⟩, fun k _ _ => ?_⟩⟩
  · unfold adv
    rw [skp_stop (fun h => absurd h (by omega))]
    unfold scan
    rw [if_pos (Nat.le_refl _)]
    simp
  · have : ∀ l, opOf ⟨0, ⟨#[]⟩, 0, s.size⟩ l = none := by
      intro l
      induction l with
      | nil => rfl
      | cons p l ih => obtain ⟨a, b⟩ := p; rw [opOf, ih]; rfl
    exact this _
/-- Behind a part stands a closing sign. -/
theorem fo_close {s : ByteArray} {j : Nat} {c : UInt8} (hc : c = 41 ∨ c = 93) (h : St s j [c]) : Fo s 0 j := by
  have ht := one_tok (by rcases hc with rfl | rfl <;> rfl) h
  have hj := h.lt
  refine fo_of (fun _ => rfl) ht (by rw [h.at]; rcases hc with rfl | rfl <;> rfl) (by omega) (by rcases hc with rfl | rfl <;> rfl) (fun _ => by rcases hc with rfl | rfl <;> rfl) (fun _ => by rcases hc with rfl | rfl <;> exact ⟨rfl, rfl⟩) (fun k _ hk => ?_)
  rw [opOf_a]
  exact one_op c (by rcases hc with rfl | rfl <;> simp) k hk
theorem fo_colon {s : ByteArray} {j : Nat} (h : St s j [32, 58]) : Fo s 0 j := by
  have ht := one_tok (c := 58) rfl h.tail
  have hj := h.lt
  refine fo_of (fun r => adv_blank h rfl) ht (by rw [h.at]; rfl) (by omega) rfl (fun _ => rfl) (fun _ => ⟨rfl, rfl⟩) (fun k _ hk => ?_)
  rw [opOf_a]
  exact one_op 58 (by simp) k hk
theorem fo_if {s : ByteArray} {j : Nat} (h : St s j [32, 63]) : Fo s 1 j := by
  have ht := one_tok (c := 63) rfl h.tail
  have hj := h.lt
  refine fo_of (fun r => adv_blank h rfl) ht (by rw [h.at]; rfl) (by omega) rfl (fun h => by cases h) (fun _ => ⟨rfl, rfl⟩) (fun k _ hk => ?_)
  rw [opOf_a]
  exact one_op 63 (by simp) k hk
theorem fo_op {s : ByteArray} {j : Nat} {o : Int} (h1 : 12 ≤ o) (h2 : o ≤ 30) (h : St s j (32 :: (sgo o ++ [32]))) : Fo s ((lvl o).toNat + 2) j := by
  have ht := op_tok h1 h2 h.tail
  have hj := h.lt
  have hi := op_is h1 h2 (j + 1)
  have hl := lvl_op h1 h2
  refine fo_of (fun r => adv_blank h rfl) ht (by rw [h.at]; rfl) (by omega) hi.1 (fun h => by omega) (fun _ => ⟨hi.2.1, hi.2.2.1⟩) (fun k hk hk2 => ?_)
  rw [op_of h1 h2 hk2, if_neg (by omega)]
/-- Behind a part stands a point, or a bracket. -/
theorem fo_part {s : ByteArray} {j : Nat} {c : UInt8} (hc : c = 46 ∨ c = 91) (h : St s j [c]) : Fo s 13 j := by
  have ht := one_tok (by rcases hc with rfl | rfl <;> rfl) h
  have hj := h.lt
  refine fo_of (fun _ => rfl) ht (by rw [h.at]; rcases hc with rfl | rfl <;> rfl) (by omega) (by rcases hc with rfl | rfl <;> rfl) (fun h => by cases h) (fun h => by omega) (fun k _ hk => ?_)
  rw [opOf_a]
  exact one_op c (by rcases hc with rfl | rfl <;> simp) k hk
end Go.Proofs.YtnoohlmlpijhaaaGreatDoor.EBo
namespace Go.Proofs.YtnoohlmlpijhaaaGreatDoor.EBk
open Go.Proofs.YtnoohlmlpijhaaaGreatDoor.UBase Go.Proofs.YtnoohlmlpijhaaaGreatDoor.EPure Go.Proofs.YtnoohlmlpijhaaaGreatDoor.EDn Go.Proofs.YtnoohlmlpijhaaaGreatDoor.EBs Go.Proofs.YtnoohlmlpijhaaaGreatDoor.EBx Go.Proofs.YtnoohlmlpijhaaaGreatDoor.EBl Go.Proofs.YtnoohlmlpijhaaaGreatDoor.EBo Go.Proofs.YtnoohlmlpijhaaaGreatDoor.PPl Go.Proofs.YtnoohlmlpijhaaaGreatDoor.PFit Go.Proofs.YtnoohlmlpijhaaaGreatDoor.PTx Go.Proofs.YtnoohlmlpijhaaaGreatDoor.ENd Go.Proofs.YtnoohlmlpijhaaaGreatDoor.ERg
open Go.Proofs.YtnoohlmlpijhaaaGreatDoor.PPr (kl bdy prL pr gd gdL gdL_cons gd_range pr1 pr2 pr3 prL_nil prL_cons)
set_option linter.unusedVariables false
theorem lvl_ge (o : Int) : -1 ≤ lvl o ∧ lvl o ≤ 12 := by
  unfold lvl
  repeat' split
  all_goals omega
theorem pr_own {z : Int} {x : Ex} (h : ¬ lvl x.o < z) : pr z x = pr (-1) x := by
  have := (lvl_ge x.o).1
  unfold PPr.pr PPr.par
  rw [if_neg h, if_neg (by omega)]
theorem pr_par {z : Int} {x : Ex} (h : lvl x.o < z) : pr z x = 40 :: (pr (-1) x ++ [41]) := by
  have := (lvl_ge x.o).1
  unfold PPr.pr PPr.par
  rw [if_pos h, if_neg (by omega)]
  rfl
theorem pr_bdy (x : Ex) : pr (-1) x = bdy x.o x.i x.s (prL x.l (kl x.o)) := by
  have := (lvl_ge x.o).1
  unfold PPr.pr PPr.par
  rw [if_neg (by omega)]
theorem empty_of {s : ByteArray} (h : (s.size == 0) = true) : s = ⟨#[]⟩ := by
  have h0 : s.size = 0 := by simpa using h
  cases s with
  | mk d =>
    congr 1
    exact Array.eq_empty_of_size_eq_zero h0
/-- What a tree that may be looks like. -/
theorem shapes {x : Ex} (h : gd x) :
    (∃ a b c, gd a ∧ gd b ∧ gd c ∧ x = nd 31 [a, b, c]) ∨ (∃ o a b, 12 ≤ o ∧ o ≤ 30 ∧ gd a ∧ gd b ∧ x = nd o [a, b]) ∨ (∃ o a, (o = 10 ∨ o = 11) ∧ gd a ∧ x = nd o [a]) ∨
    (∃ a t, word t 95 = true ∧ gd a ∧ x = .mk 7 0 t [a]) ∨ (∃ a b, gd a ∧ gd b ∧ x = nd 8 [a, b]) ∨ (∃ i a, 1 ≤ i ∧ i ≤ 8 ∧ gd a ∧ x = .mk 9 i ⟨#[]⟩ [a]) ∨
    (∃ i, 0 ≤ i ∧ x = .mk 4 i ⟨#[]⟩ []) ∨ (∃ t, tx t = true ∧ x = .mk 5 0 t []) ∨ (∃ t, word t 95 = true ∧ Lib.containsS wdl t = false ∧ x = .mk 6 0 t []) ∨ (∃ o, (o = 1 ∨ o = 2 ∨ o = 3) ∧ x = nd o []) := by
  have hr := gd_range h
  obtain ⟨o, i, s, l⟩ := x
  obtain ⟨hl, hf, hg⟩ := h
  simp only [Ex.o, Ex.i, Ex.s, Ex.l] at hl hf hg hr
  have nil : kd o = 0 → l = [] := fun e => by rw [e] at hl; exact List.length_eq_zero_iff.1 (by omega)
  have one : kd o = 1 → ∃ a, l = [a] ∧ gd a := fun e => by
    rw [e] at hl
    match l, hl, hg with
    | [a], _, hg => exact ⟨a, rfl, (gdL_cons.1 hg).1⟩
    | [], hl, _ => simp at hl
    | _ :: _ :: _, hl, _ => simp at hl; omega
  have two : kd o = 2 → ∃ a b, l = [a, b] ∧ gd a ∧ gd b := fun e => by
    rw [e] at hl
    match l, hl, hg with
    | [a, b], _, hg => exact ⟨a, b, rfl, (gdL_cons.1 hg).1, (gdL_cons.1 (gdL_cons.1 hg).2).1⟩
    | [], hl, _ => simp at hl
    | [_], hl, _ => simp at hl
    | _ :: _ :: _ :: _, hl, _ => simp at hl; omega
  unfold ft at hf
  by_cases h31 : o = 31
  · subst h31
    simp only [show (31 : Int) ≠ 4 by decide, show (31 : Int) ≠ 5 by decide, show (31 : Int) ≠ 6 by decide, show (31 : Int) ≠ 7 by decide, show (31 : Int) ≠ 9 by decide, if_false, Bool.and_eq_true, beq_iff_eq] at hf
    have e : kd 31 = 3 := by decide
    rw [e] at hl
    match l, hl, hg with
    | [a, b, c], _, hg => exact .inl ⟨a, b, c, (gdL_cons.1 hg).1, (gdL_cons.1 (gdL_cons.1 hg).2).1, (gdL_cons.1 (gdL_cons.1 (gdL_cons.1 hg).2).2).1, by rw [hf.1, empty_of (s := s) (by simp [hf.2])]; rfl⟩
    | [], hl, _ => simp at hl
    | [_], hl, _ => simp at hl
    | [_, _], hl, _ => simp at hl
    | _ :: _ :: _ :: _ :: _, hl, _ => simp at hl; omega
  by_cases hb : 12 ≤ o
  · rw [if_neg (by omega), if_neg (by omega), if_neg (by omega), if_neg (by omega), if_neg (by omega)] at hf
    simp only [Bool.and_eq_true, beq_iff_eq] at hf
    obtain ⟨a, b, rfl, ha, hb'⟩ := two (by unfold kd; rw [if_neg (by omega), if_neg (by omega), if_pos (by omega)])
    exact .inr (.inl ⟨o, a, b, hb, by omega, ha, hb', by rw [hf.1, empty_of (s := s) (by simp [hf.2])]; rfl⟩)
  by_cases hu : o = 10 ∨ o = 11
  · rw [if_neg (by omega), if_neg (by omega), if_neg (by omega), if_neg (by omega), if_neg (by omega)] at hf
    simp only [Bool.and_eq_true, beq_iff_eq] at hf
    obtain ⟨a, rfl, ha⟩ := one (by unfold kd; rw [if_neg (by omega), if_pos (by omega)])
    exact .inr (.inr (.inl ⟨o, a, hu, ha, by rw [hf.1, empty_of (s := s) (by simp [hf.2])]; rfl⟩))
  by_cases h7 : o = 7
  · subst h7
    simp only [show (7 : Int) ≠ 4 by decide, show (7 : Int) ≠ 5 by decide, show (7 : Int) ≠ 6 by decide, if_false, if_true, Bool.and_eq_true, beq_iff_eq] at hf
    obtain ⟨a, rfl, ha⟩ := one (by decide)
    exact .inr (.inr (.inr (.inl ⟨a, s, hf.2, ha, by rw [hf.1]⟩)))
  by_cases h8 : o = 8
  · subst h8
    simp only [show (8 : Int) ≠ 4 by decide, show (8 : Int) ≠ 5 by decide, show (8 : Int) ≠ 6 by decide, show (8 : Int) ≠ 7 by decide, show (8 : Int) ≠ 9 by decide, if_false, Bool.and_eq_true, beq_iff_eq] at hf
    obtain ⟨a, b, rfl, ha, hb'⟩ := two (by decide)
    exact .inr (.inr (.inr (.inr (.inl ⟨a, b, ha, hb', by rw [hf.1, empty_of (s := s) (by simp [hf.2])]; rfl⟩))))
  by_cases h9 : o = 9
  · subst h9
    simp only [show (9 : Int) ≠ 4 by decide, show (9 : Int) ≠ 5 by decide, show (9 : Int) ≠ 6 by decide, show (9 : Int) ≠ 7 by decide, if_false, if_true, Bool.and_eq_true, beq_iff_eq, decide_eq_true_eq] at hf
    obtain ⟨a, rfl, ha⟩ := one (by decide)
    exact .inr (.inr (.inr (.inr (.inr (.inl ⟨i, a, hf.1.1, hf.1.2, ha, by rw [empty_of (s := s) (by simp [hf.2])]⟩)))))
  obtain rfl := nil (by unfold kd; rw [if_pos (by omega)])
  by_cases h4 : o = 4
  · subst h4
    simp only [if_true, Bool.and_eq_true, beq_iff_eq, decide_eq_true_eq] at hf
    exact .inr (.inr (.inr (.inr (.inr (.inr (.inl ⟨i, hf.1, by rw [empty_of (s := s) (by simp [hf.2])]⟩))))))
  by_cases h5 : o = 5
  · subst h5
    simp only [show (5 : Int) ≠ 4 by decide, if_false, if_true, Bool.and_eq_true, beq_iff_eq] at hf
    exact .inr (.inr (.inr (.inr (.inr (.inr (.inr (.inl ⟨s, hf.2, by rw [hf.1]⟩)))))))
  by_cases h6 : o = 6
  · subst h6
    simp only [show (6 : Int) ≠ 4 by decide, show (6 : Int) ≠ 5 by decide, if_false, if_true, Bool.and_eq_true, beq_iff_eq, Bool.not_eq_true'] at hf
    exact .inr (.inr (.inr (.inr (.inr (.inr (.inr (.inr (.inl ⟨s, hf.2.1, hf.2.2, by rw [hf.1]⟩))))))))
  rw [if_neg h4, if_neg h5, if_neg h6, if_neg h7, if_neg h9] at hf
  simp only [Bool.and_eq_true, beq_iff_eq] at hf
  exact .inr (.inr (.inr (.inr (.inr (.inr (.inr (.inr (.inr ⟨o, by omega, by rw [hf.1, empty_of (s := s) (by simp [hf.2])]; rfl⟩))))))))
/-- The texts of the shapes. -/
theorem tx_if (a b c : Ex) : pr (-1) (nd 31 [a, b, c]) = pr 0 a ++ ([32, 63, 32] ++ (pr (-1) b ++ ([32, 58, 32] ++ pr (-1) c))) := by
  rw [pr_bdy]
  show bdy 31 0 ⟨#[]⟩ (prL [a, b, c] [0, -1, -1]) = _
  rw [pr3]
  simp [bdy]
theorem tx_op {o : Int} (h1 : 12 ≤ o) (h2 : o ≤ 30) (a b : Ex) : pr (-1) (nd o [a, b]) = pr (lvl o) a ++ (32 :: (sgo o ++ [32]) ++ pr (lvl o + 1) b) := by
  rw [pr_bdy]
  show bdy o 0 ⟨#[]⟩ (prL [a, b] (kl o)) = _
  have hk : kl o = [lvl o, lvl o + 1] := by
    unfold PPr.kl
    rw [if_neg (by omega), if_neg (by omega), if_neg (by omega), if_neg (by omega), if_neg (by omega)]
  rw [hk, pr2]
  unfold PPr.bdy
  rw [if_neg (by omega), if_neg (by omega), if_neg (by omega), if_neg (by omega), if_neg (by omega), if_neg (by omega), if_neg (by omega), if_neg (by omega), if_neg (by omega), if_neg (by omega)]
  simp
theorem tx_sg {o : Int} (h : o = 10 ∨ o = 11) (a : Ex) : pr (-1) (nd o [a]) = (if o = 10 then 45 else 33) :: pr 11 a := by
  rw [pr_bdy]
  show bdy o 0 ⟨#[]⟩ (prL [a] (kl o)) = _
  rcases h with rfl | rfl
  · show bdy 10 0 ⟨#[]⟩ (prL [a] [11]) = _
    rw [pr1]; rfl
  · show bdy 11 0 ⟨#[]⟩ (prL [a] [11]) = _
    rw [pr1]; rfl
theorem tx_field (a : Ex) (t : ByteArray) : pr (-1) (.mk 7 0 t [a]) = pr 12 a ++ (46 :: t.data.toList) := by
  rw [pr_bdy]
  show bdy 7 0 t (prL [a] [12]) = _
  rw [pr1]
  simp [bdy]
theorem tx_index (a b : Ex) : pr (-1) (nd 8 [a, b]) = pr 12 a ++ (91 :: (pr (-1) b ++ [93])) := by
  rw [pr_bdy]
  show bdy 8 0 ⟨#[]⟩ (prL [a, b] [12, -1]) = _
  rw [pr2]
  simp [bdy]
theorem tx_call (i : Int) (a : Ex) : pr (-1) (.mk 9 i ⟨#[]⟩ [a]) = (cll.getD i.toNat ByteArray.empty).data.toList ++ (40 :: (pr (-1) a ++ [41])) := by
  rw [pr_bdy]
  show bdy 9 i ⟨#[]⟩ (prL [a] [-1]) = _
  rw [pr1]
  simp [bdy]
theorem tx_int (i : Int) : pr (-1) (.mk 4 i ⟨#[]⟩ []) = Lib.itoa i := by
  rw [pr_bdy]
  simp [bdy, Ex.o, Ex.i]
theorem tx_str (t : ByteArray) : pr (-1) (.mk 5 0 t []) = qt t := by
  rw [pr_bdy]
  simp [bdy, Ex.o, Ex.s]
theorem tx_var (t : ByteArray) : pr (-1) (.mk 6 0 t []) = t.data.toList := by
  rw [pr_bdy]
  simp [bdy, Ex.o, Ex.s]
theorem tx_word {o : Int} (h : o = 1 ∨ o = 2 ∨ o = 3) : pr (-1) (nd o []) = (wdl.getD o.toNat ByteArray.empty).data.toList := by
  rw [pr_bdy]
  rcases h with rfl | rfl | rfl <;> simp [bdy, Ex.o, nd]
theorem word_head {t : ByteArray} {j : Nat} (h : word t j = true) : ∃ c l, t.data.toList = c :: l ∧ 97 ≤ c.toNat := by
  unfold word at h
  simp only [Bool.and_eq_true, decide_eq_true_eq] at h
  cases hh : t.data.toList with
  | nil => have := sz t; rw [hh] at this; simp at this; omega
  | cons c l =>
    refine ⟨c, l, rfl, ?_⟩
    have := h.2.2.1
    rw [at_drop, List.drop_zero, hh] at this
    simp only [UBase.let', List.headD_cons, Bool.and_eq_true] at this
    exact of_decide_eq_true this.1
theorem call_word : ∀ n : Nat, 1 ≤ n → n ≤ 8 → word (cll.getD n ByteArray.empty) 95 = true := by
  intro n h1 h2
  have : n = 1 ∨ n = 2 ∨ n = 3 ∨ n = 4 ∨ n = 5 ∨ n = 6 ∨ n = 7 ∨ n = 8 := by omega
  rcases this with rfl | rfl | rfl | rfl | rfl | rfl | rfl | rfl <;> decide
theorem wdl_word {o : Int} (h : o = 1 ∨ o = 2 ∨ o = 3) : word (wdl.getD o.toNat ByteArray.empty) 95 = true := by
  rcases h with rfl | rfl | rfl <;> decide
theorem digits_head (n : Nat) : ∃ c l, Lib.decDigits n = c :: l ∧ 48 ≤ c.toNat ∧ c.toNat ≤ 57 := by
  rcases Nat.eq_zero_or_pos n with rfl | hp
  · exact ⟨48, [], by decide +kernel, by decide, by decide⟩
  · have := Nums.posForm_digits hp
    cases h : Lib.decDigits n with
    | nil => rw [h] at this; cases this
    | cons c l =>
      rw [h] at this
      simp only [Sums.posForm, Bool.and_eq_true, List.all_cons, Sums.isDig, decide_eq_true_eq] at this
      exact ⟨c, l, rfl, this.2.1.1, this.2.1.2⟩
theorem itoa_head {i : Int} (h : 0 ≤ i) : ∃ c l, Lib.itoa i = c :: l ∧ 48 ≤ c.toNat ∧ c.toNat ≤ 57 := by
  unfold Lib.itoa
  rw [if_neg (by omega)]
  exact digits_head _
/-- The first byte of a written text is not an equals sign. -/
theorem pr_hd : ∀ (n : Nat) (x : Ex), SizeOf.sizeOf x ≤ n → gd x → ∀ z : Int, ∃ c t, pr z x = c :: t ∧ c ≠ 61 := by
  intro n
  induction n with
  | zero => intro x h; obtain ⟨o, i, s, l⟩ := x; simp at h
  | succ n ih =>
    intro x hn hg z
    by_cases hz : lvl x.o < z
    · exact ⟨40, _, pr_par hz, by decide⟩
    rw [pr_own hz]
    clear hz z
    have letter {c : UInt8} (h : 97 ≤ c.toNat) : c ≠ 61 := by rintro rfl; revert h; decide
    have digit {c : UInt8} (h : c.toNat ≤ 57) : c ≠ 61 := by rintro rfl; revert h; decide
    rcases shapes hg with ⟨a, b, c, ha, hb, hc, rfl⟩ | ⟨o, a, b, h1, h2, ha, hb, rfl⟩ | ⟨o, a, ho, ha, rfl⟩ | ⟨a, t, ht, ha, rfl⟩ | ⟨a, b, ha, hb, rfl⟩ | ⟨i, a, h1, h2, ha, rfl⟩ | ⟨i, hi, rfl⟩ | ⟨t, ht, rfl⟩ | ⟨t, ht, -, rfl⟩ | ⟨o, ho, rfl⟩
    · obtain ⟨d, t, e, hd⟩ := ih a (by simp [nd] at hn; omega) ha 0
      rw [tx_if, e]; exact ⟨d, _, rfl, hd⟩
    · obtain ⟨d, t, e, hd⟩ := ih a (by simp [nd] at hn; omega) ha (lvl o)
      rw [tx_op h1 h2, e]; exact ⟨d, _, rfl, hd⟩
    · rw [tx_sg ho]; exact ⟨_, _, rfl, by rcases ho with rfl | rfl <;> decide⟩
    · obtain ⟨d, t', e, hd⟩ := ih a (by simp at hn; omega) ha 12
      rw [tx_field, e]; exact ⟨d, _, rfl, hd⟩
    · obtain ⟨d, t', e, hd⟩ := ih a (by simp [nd] at hn; omega) ha 12
      rw [tx_index, e]; exact ⟨d, _, rfl, hd⟩
    · obtain ⟨c, l, e, hc⟩ := word_head (call_word i.toNat (by omega) (by omega))
      rw [tx_call, e]; exact ⟨c, _, rfl, letter hc⟩
    · obtain ⟨c, l, e, _, hc⟩ := itoa_head hi
      rw [tx_int, e]; exact ⟨c, _, rfl, digit hc⟩
    · rw [tx_str]; exact ⟨39, _, rfl, by decide⟩
    · obtain ⟨c, l, e, hc⟩ := word_head ht
      rw [tx_var, e]; exact ⟨c, _, rfl, letter hc⟩
    · obtain ⟨c, l, e, hc⟩ := word_head (wdl_word ho)
      rw [tx_word ho, e]; exact ⟨c, _, rfl, letter hc⟩
theorem dig_wrd {c : Nat} (h : wrd c = false) : EPure.dig c = false := by
  unfold wrd at h
  simp only [Bool.or_eq_false_iff] at h
  exact h.2.1
theorem rg_of {o i : Int} {s : ByteArray} {l : List Ex} (h : rgL [.mk o i s l]) : (-9223372036854775808 ≤ i ∧ i ≤ 9223372036854775807) ∧ rgL l := ⟨(rgL_cons.1 h).1, (rgL_cons.1 h).2.1⟩
theorem rg1 {a : Ex} {t : List Ex} (h : rgL (a :: t)) : rgL [a] ∧ rgL t := ⟨rgL_cons.2 ⟨(rgL_cons.1 h).1, (rgL_cons.1 h).2.1, by rw [rgL]; trivial⟩, (rgL_cons.1 h).2.2⟩
/-- The first token of a written text. -/
theorem first {s : ByteArray} : ∀ (n : Nat) (x : Ex), SizeOf.sizeOf x ≤ n → gd x → rgL [x] → ∀ (z : Int) (i : Nat), St s i (pr z x) → (i + (pr z x).length < s.size → wrd (at' s (i + (pr z x).length)) = false) → ∃ t j', Tok s i t j' ∧ (z = 12 → is t [45] = false ∧ is t [33] = false) := by
  intro n
  induction n with
  | zero => intro x h; obtain ⟨o, i, s, l⟩ := x; simp at h
  | succ n ih =>
    intro x hn hg hr z i hs hw
    by_cases hz : lvl x.o < z
    · rw [pr_par hz] at hs
      exact ⟨_, _, one_tok (c := 40) rfl (St.left (t := [40]) hs), fun _ => ⟨rfl, rfl⟩⟩
    rw [pr_own hz] at hs hw
    rcases shapes hg with ⟨a, b, c, ha, hb, hc, rfl⟩ | ⟨o, a, b, h1, h2, ha, hb, rfl⟩ | ⟨o, a, ho, ha, rfl⟩ | ⟨a, t, ht, ha, rfl⟩ | ⟨a, b, ha, hb, rfl⟩ | ⟨q, a, h1, h2, ha, rfl⟩ | ⟨q, hi, rfl⟩ | ⟨t, ht, rfl⟩ | ⟨t, ht, -, rfl⟩ | ⟨o, ho, rfl⟩
    · rw [tx_if] at hs
      obtain ⟨t, j', h1, h2⟩ := ih a (by simp [nd] at hn; omega) ha (rg1 (rg_of hr).2).1 0 i hs.left (fun _ => by rw [hs.right.at]; rfl)
      exact ⟨t, j', h1, fun h => by subst h; exact absurd (show lvl 31 < 12 by decide) hz⟩
    · rw [tx_op h1 h2] at hs
      obtain ⟨t, j', h3, h4⟩ := ih a (by simp [nd] at hn; omega) ha (rg1 (rg_of hr).2).1 (lvl o) i hs.left (fun _ => by rw [hs.right.at]; rfl)
      refine ⟨t, j', h3, fun h => ?_⟩
      have := lvl_op h1 h2
      have hz' : ¬ lvl o < z := hz
      omega
    · rw [tx_sg ho] at hs
      have hz' : ¬ lvl o < z := hz
      rcases ho with rfl | rfl
      · exact ⟨_, _, one_tok (c := 45) rfl (St.left (t := [45]) hs), fun h => by subst h; exact absurd hz' (by decide)⟩
      · obtain ⟨c, t, e, hc⟩ := pr_hd _ a (Nat.le_refl _) ha 11
        rw [e] at hs
        exact ⟨_, _, not_tok hc (St.left (t := [33, c]) hs), fun h => by subst h; exact absurd hz' (by decide)⟩
    · rw [tx_field] at hs
      obtain ⟨t', j', h3, h4⟩ := ih a (by simp at hn; omega) ha (rg1 (rg_of hr).2).1 12 i hs.left (fun _ => by rw [hs.right.at]; rfl)
      exact ⟨t', j', h3, fun _ => h4 rfl⟩
    · rw [tx_index] at hs
      obtain ⟨t', j', h3, h4⟩ := ih a (by simp [nd] at hn; omega) ha (rg1 (rg_of hr).2).1 12 i hs.left (fun _ => by rw [hs.right.at]; rfl)
      exact ⟨t', j', h3, fun _ => h4 rfl⟩
    · rw [tx_call] at hs
      exact ⟨_, _, name_tok hs.left (call_word q.toNat (by omega) (by omega)) (fun _ => by rw [hs.right.at]; rfl), fun _ => ⟨rfl, rfl⟩⟩
    · rw [tx_int] at hs hw
      exact ⟨_, _, num_tok hi (rg_of hr).1.2 hs (fun h => dig_wrd (hw h)), fun _ => ⟨rfl, rfl⟩⟩
    · rw [tx_str] at hs
      exact ⟨_, _, text_tok ht hs, fun _ => ⟨rfl, rfl⟩⟩
    · rw [tx_var] at hs hw
      exact ⟨_, _, name_tok hs ht hw, fun _ => ⟨rfl, rfl⟩⟩
    · rw [tx_word ho] at hs hw
      exact ⟨_, _, name_tok hs (wdl_word ho) hw, fun _ => ⟨rfl, rfl⟩⟩
end Go.Proofs.YtnoohlmlpijhaaaGreatDoor.EBk

import Derived.Test.YtofpdnhnlkocoaaDoorPX33
namespace Go.Proofs.YtofpdnhnlkocoaaDoor.EWr
open Go.Proofs.YtofpdnhnlkocoaaDoor.UBase Go.Proofs.YtofpdnhnlkocoaaDoor.EPure Go.Proofs.YtofpdnhnlkocoaaDoor.EDn Go.Proofs.YtofpdnhnlkocoaaDoor.EBs Go.Proofs.YtofpdnhnlkocoaaDoor.EBx Go.Proofs.YtofpdnhnlkocoaaDoor.EBl
set_option linter.unusedVariables false
/-- The text with a parenthesis and blanks around. -/
def wr (s : ByteArray) : ByteArray := ⟨([32, 10, 40] ++ s.data.toList ++ [9, 41, 32]).toArray⟩
section
variable {s : ByteArray}
theorem wr_size : (wr s).size = s.size + 6 := by
  rw [← sz (wr s)]
  unfold wr
  simp
theorem wr_drop {i : Nat} (h : i ≤ s.size) : (wr s).data.toList.drop (i + 3) = s.data.toList.drop i ++ [9, 41, 32] := by
  unfold wr
  simp only [List.append_assoc]
  rw [show i + 3 = ([32, 10, 40] : List UInt8).length + i by simp; omega, List.drop_length_add_append, List.drop_append_of_le_length (by rw [sz]; exact h)]
theorem wr_at {i : Nat} (h : i < s.size) : at' (wr s) (i + 3) = at' s i := by
  rw [at_drop, at_drop, wr_drop (by omega), List.drop_eq_getElem_cons (by rw [sz]; exact h)]
  rfl
theorem wr_st : St (wr s) (s.size + 3) [9, 41, 32] := by
  refine ⟨[32, 10, 40] ++ s.data.toList, [], by unfold wr; simp, by simp []⟩
theorem wr_end : at' (wr s) (s.size + 3) = 9 := wr_st.at
theorem skp_sh {p : Nat → Bool} (hp : p 9 = false) : ∀ (n i : Nat), s.size - i ≤ n → i ≤ s.size → skp p (wr s) (i + 3) = skp p s i + 3 := by
  intro n
  induction n with
  | zero =>
    intro i h1 h2
    obtain rfl : i = s.size := by omega
    rw [skp_stop (s := wr s) (fun _ => by rw [wr_end]; exact hp), skp_stop (s := s) (fun h => absurd h (by omega))]
  | succ n ih =>
    intro i h1 h2
    by_cases hlt : i < s.size
    · cases hpi : p (at' s i) with
      | true => rw [skp_step (s := s) hlt hpi, skp_step (s := wr s) (by rw [wr_size]; omega) (by rw [wr_at hlt]; exact hpi), show i + 3 + 1 = i + 1 + 3 by omega, ih (i + 1) (by omega) (by omega)]
      | false => rw [skp_stop (s := s) (fun _ => hpi), skp_stop (s := wr s) (fun _ => by rw [wr_at hlt]; exact hpi)]
    · obtain rfl : i = s.size := by omega
      rw [skp_stop (s := wr s) (fun _ => by rw [wr_end]; exact hp), skp_stop (s := s) (fun h => absurd h (by omega))]
theorem skp_isb : ∀ (n i : Nat), s.size - i ≤ n → i ≤ s.size → (skp isb s i < s.size ∧ skp isb (wr s) (i + 3) = skp isb s i + 3) ∨ (skp isb s i = s.size ∧ skp isb (wr s) (i + 3) = s.size + 4) := by
  have he : skp isb (wr s) (s.size + 3) = s.size + 4 := by
    rw [skp_step (s := wr s) (by rw [wr_size]; omega) (by rw [wr_end]; rfl), skp_stop (s := wr s) (fun _ => by rw [wr_st.tail.at]; rfl)]
  intro n
  induction n with
  | zero =>
    intro i h1 h2
    obtain rfl : i = s.size := by omega
    exact .inr ⟨skp_stop (fun h => absurd h (by omega)), he⟩
  | succ n ih =>
    intro i h1 h2
    by_cases hlt : i < s.size
    · cases hpi : isb (at' s i) with
      | true =>
        have := ih (i + 1) (by omega) (by omega)
        rw [skp_step (s := s) hlt hpi, skp_step (s := wr s) (i := i + 3) (by rw [wr_size]; omega) (by rw [wr_at hlt]; exact hpi), show i + 3 + 1 = i + 1 + 3 by omega]
        exact this
      | false =>
        left
        rw [skp_stop (s := s) (fun _ => hpi), skp_stop (s := wr s) (fun _ => by rw [wr_at hlt]; exact hpi)]
        exact ⟨hlt, rfl⟩
    · obtain rfl : i = s.size := by omega
      exact .inr ⟨skp_stop (fun h => absurd h (by omega)), he⟩
theorem pfx : ∀ (y D r : List UInt8), (9 : UInt8) ∉ y → y.isPrefixOf (D ++ 9 :: r) = y.isPrefixOf D
  | [], D, r, _ => by simp
  | c :: y, [], r, h => by
    have : (c == (9 : UInt8)) = false := by simp; rintro rfl; exact h (by simp)
    simp [List.isPrefixOf, this]
  | c :: y, d :: D, r, h => by
    rw [List.cons_append, List.isPrefixOf, List.isPrefixOf, pfx y D r (fun hm => h (by simp [hm]))]
theorem pre_sh {i : Nat} {y : List UInt8} (hi : i ≤ s.size) (hy : (9 : UInt8) ∉ y) : pre (wr s) (i + 3) y = pre s i y := by
  rw [pre_eq (wr s) (i + 3) y (by rw [wr_size]; omega), pre_eq s i y hi, wr_drop hi, pfx y _ _ hy]
theorem sgn_sh {i j : Nat} {x : ByteArray} (hi : i ≤ s.size) : ∀ {L : List (List UInt8)}, (∀ y ∈ L, (9 : UInt8) ∉ y) → sgn s i L = .ok (x, j) → sgn (wr s) (i + 3) L = .ok (x, j + 3)
  | [], _, h => by rw [sgn] at h; cases h
  | y :: L, hL, h => by
    rw [sgn] at h ⊢
    rw [pre_sh hi (hL y (by simp))]
    split at h
    · next hp =>
      rw [if_pos hp]
      cases h
      congr 2
      omega
    · next hp =>
      rw [if_neg hp]
      exact sgn_sh hi (fun z hz => hL z (by simp [hz])) h
theorem no9 : ∀ y ∈ signs, (9 : UInt8) ∉ y := by decide
theorem cut_sh {i j : Nat} (hij : i ≤ j) (hj : j ≤ s.size) : cut (wr s) (i + 3) (j + 3) = cut s i j := by
  unfold cut
  apply ByteArray.ext
  rw [ByteArray.data_extract, ByteArray.data_extract]
  apply Array.toList_inj.1
  rw [Array.toList_extract, Array.toList_extract, List.extract_eq_take_drop, List.extract_eq_take_drop, wr_drop (by omega), show j + 3 - (i + 3) = j - i by omega, List.take_append_of_le_length (by rw [List.length_drop, sz]; omega)]
theorem chr_sh {i j : Nat} {x : List UInt8} (h : chr s i = .ok (x, j)) : chr (wr s) (i + 3) = .ok (x, j + 3) := by
  unfold chr at h ⊢
  split at h
  · cases h
  · next hsz =>
    have hlt : i < s.size := by omega
    rw [if_neg (by rw [wr_size]; omega), wr_at hlt]
    split at h
    · cases h
    · next h32 =>
      rw [if_neg h32]
      split at h
      · next h92 =>
        rw [if_pos h92]
        split at h
        · cases h
        · next hs1 =>
          rw [if_neg (by rw [wr_size]; omega), show i + 3 + 1 = i + 1 + 3 by omega, wr_at (by omega)]
          split at h
          · cases h
          · next c hc =>
            cases h
            rfl
      · next h92 =>
        rw [if_neg h92]
        split at h
        · cases h
        · next hl =>
          cases h
          have hin := len_in hlt
          have hls := len_same (s := wr s) (t := s) (j := i + 3) (p := i) hl (fun k hk => by rw [show i + 3 + k = i + k + 3 by omega]; exact wr_at (by omega))
          rw [hls, if_neg hl, wr_drop (by omega), List.take_append_of_le_length (by rw [List.length_drop, sz]; omega)]
          congr 2
          omega
theorem txl_sh : ∀ {f f' i j : Nat} {B l : List UInt8}, f ≤ f' → txl s f i B = .ok (l, j) → txl (wr s) f' (i + 3) B = .ok (l, j + 3)
  | 0, f', i, j, B, l, _, h => by rw [txl] at h; cases h
  | f + 1, f', i, j, B, l, hf, h => by
    cases f' with
    | zero => omega
    | succ f' =>
      rw [txl] at h ⊢
      split at h
      · cases h
      · next hsz =>
        rw [if_neg (by rw [wr_size]; omega), wr_at (by omega)]
        split at h
        · next h39 => rw [if_pos h39]; cases h; congr 2
        · next h39 =>
          rw [if_neg h39]
          cases hc : chr s i with
          | error e => rw [hc] at h; cases h
          | ok y =>
            obtain ⟨x, m⟩ := y
            rw [hc] at h
            dsimp only at h
            rw [chr_sh hc]
            exact txl_sh (by omega) h
/-- A token, three places on. -/
def sh (t : Tk) : Tk := ⟨t.k, t.t, t.n, t.a + 3⟩
theorem scan_sh {i j : Nat} {t : Tk} (hi : i < s.size) (h : scan s i = .ok (t, j)) : scan (wr s) (i + 3) = .ok (sh t, j + 3) := by
  unfold scan at h ⊢
  rw [if_neg (by omega)] at h
  rw [if_neg (by rw [wr_size]; omega), wr_at hi]
  split at h
  · next h39 =>
    rw [if_pos h39]
    split at h
    · cases h
    · next l m hx =>
      rw [show i + 3 + 1 = i + 1 + 3 by omega, txl_sh (by rw [wr_size]; omega) hx]
      simp only
      split at h
      · cases h
      · next hl => rw [if_neg hl]; cases h; rfl
  · next h39 =>
    rw [if_neg h39]
    split at h
    · next h48 => rw [if_pos h48]; cases h; congr 2
    · next h48 =>
      rw [if_neg h48]
      split at h
      · next hd =>
        rw [if_pos hd, skp_sh (p := EPure.dig) (by decide) _ i (Nat.le_refl _) (by omega), cut_sh (skp_ge _ _ _) (skp_in (by omega))]
        split at h
        · next hp => rw [if_pos hp]; cases h; rfl
        · cases h
      · next hd =>
        rw [if_neg hd]
        split at h
        · next hl =>
          rw [if_pos hl, skp_sh (p := wrd) (by decide) _ i (Nat.le_refl _) (by omega), cut_sh (skp_ge _ _ _) (skp_in (by omega)), show skp wrd s i + 3 - (i + 3) = skp wrd s i - i by omega]
          split at h
          · next h32 => rw [if_pos h32]; cases h; rfl
          · cases h
        · next hl =>
          rw [if_neg hl]
          split at h
          · cases h
          · next x m hx =>
            rw [sgn_sh (by omega) no9 hx]
            cases h
            rfl
/-- The parenthesis that closes. -/
def cl (s : ByteArray) : Tk := ⟨4, ⟨#[41]⟩, 0, s.size + 4⟩
/-- What stands next in the text, and in the one with a parenthesis around. -/
def Rel (s : ByteArray) (g g' : Sr) : Prop := (g.tk.k ≠ 0 ∧ g'.tk = sh g.tk ∧ g'.a = g.a + 3) ∨ (g.tk.k = 0 ∧ g'.tk = cl s ∧ g'.a = s.size + 5)
theorem adv_sh {a r r' : Nat} {g : Sr} (ha : a ≤ s.size) (h : adv s a r = .ok g) : (∃ e, adv (wr s) (a + 3) r' = .error e ∧ e.1 = 1002) ∨ ∃ g', adv (wr s) (a + 3) r' = .ok g' ∧ Rel s g g' := by
  unfold adv at h ⊢
  split at h
  · cases h
  · next t j e =>
    rcases skp_isb _ a (Nat.le_refl _) ha with ⟨h1, h2⟩ | ⟨h1, h2⟩
    · rw [h2, scan_sh h1 e]
      simp only
      obtain ⟨_, _, _, k0, _⟩ := scan_in (skp_in ha) e
      have hk : t.k ≠ 0 := fun hk => by have := (k0 hk).1; omega
      rw [if_neg hk] at h
      rw [if_neg (show (sh t).k ≠ 0 from hk)]
      split at h
      · cases h
      · cases h
        by_cases hr : r' = 512
        · rw [if_pos hr]; exact .inl ⟨_, rfl, rfl⟩
        · rw [if_neg hr]; exact .inr ⟨_, rfl, .inl ⟨hk, rfl, rfl⟩⟩
    · rw [h1] at e
      have e0 : scan s s.size = .ok (⟨0, ⟨#[]⟩, 0, s.size⟩, s.size) := by unfold scan; rw [if_pos (Nat.le_refl _)]
      rw [e0] at e
      injection e with e
      obtain ⟨rfl, rfl⟩ := Prod.mk.inj e
      rw [if_pos rfl] at h
      cases h
      have ht := EBo.one_tok (s := wr s) (c := 41) rfl (St.left (t := [41]) wr_st.tail)
      rw [h2]
      rw [show s.size + 4 = s.size + 3 + 1 by omega, ht.2.1]
      simp only
      rw [if_neg (by decide)]
      by_cases hr : r' = 512
      · rw [if_pos hr]; exact .inl ⟨_, rfl, rfl⟩
      · rw [if_neg hr]; exact .inr ⟨_, rfl, .inr ⟨rfl, rfl, rfl⟩⟩
theorem is_sh {g g' : Sr} (h : Rel s g g') {x : List UInt8} (hx : x ≠ [41]) : is g'.tk x = is g.tk x := by
  rcases h with ⟨_, h, _⟩ | ⟨h0, h, _⟩
  · rw [h]; rfl
  · rw [h]
    have e1 : is g.tk x = false := by unfold is; rw [h0]; rfl
    rw [e1]
    show ((4 == 4) && ([41] == x)) = false
    simp
    exact fun h => hx h.symm
theorem is_true {g g' : Sr} (h : Rel s g g') {x : List UInt8} (hx : is g.tk x = true) : is g'.tk x = true ∧ g.tk.k ≠ 0 ∧ g'.a = g.a + 3 := by
  have hk := is_k hx
  rcases h with ⟨_, h, h2⟩ | ⟨h0, _⟩
  · exact ⟨by rw [h]; exact hx, hk, h2⟩
  · exact absurd h0 hk
theorem op_sh {g g' : Sr} (h : Rel s g g') : ∀ {l : List (List UInt8 × Int)}, (∀ p ∈ l, p.1 ≠ [41]) → opOf g'.tk l = opOf g.tk l
  | [], _ => rfl
  | (x, o) :: l, hl => by
    rw [opOf, opOf, is_sh h (hl (x, o) (by simp)), op_sh h (fun p hp => hl p (by simp [hp]))]
theorem lvs41 : ∀ k, k < 11 → ∀ p ∈ lvs.getD k [], p.1 ≠ [41] := by decide
theorem lvs_41 (k : Nat) : ∀ p ∈ lvs.getD k [], p.1 ≠ [41] := by
  rcases Nat.lt_or_ge k 11 with hk | hk
  · exact lvs41 k hk
  · intro p hp
    rw [show lvs.getD k [] = [] by simp [List.getD, List.getElem?_eq_none (show lvs.length ≤ k from hk)]] at hp
    cases hp
theorem tak_sh {x : List UInt8} {g g1 g' : Sr} (hg : SrOk s g) (h : tak s x g = .ok g1) (hr : Rel s g g') : (∃ e, tak (wr s) x g' = .error e ∧ e.1 = 1002) ∨ ∃ g1', tak (wr s) x g' = .ok g1' ∧ Rel s g1 g1' := by
  unfold tak at h ⊢
  split at h
  · next hi =>
    obtain ⟨i1, i2, i3⟩ := is_true hr hi
    rw [if_pos i1, i3]
    exact adv_sh hg.a h
  · cases h
/-- Read alike. -/
def Sim (s : ByteArray) (q q' : P) : Prop := ∀ g x g1, SrOk s g → q g = .ok (x, g1) → ∀ g', Rel s g g' → Big (q' g') ∨ ∃ g1', Rel s g1 g1' ∧ q' g' = .ok (x, g1')
theorem more_sh {k : Nat} {q q' : P} (hd : Dn s q) (hq : Sim s q q') : ∀ f f' l g x g1 g', f ≤ f' → SrOk s g → more s k q f l g = .ok (x, g1) → Rel s g g' → Big (more (wr s) k q' f' l g') ∨ ∃ g1', Rel s g1 g1' ∧ more (wr s) k q' f' l g' = .ok (x, g1')
  | 0, f', l, g, x, g1, g', hf, hg, h, hr => by rw [more] at h; cases h
  | f + 1, f', l, g, x, g1, g', hf, hg, h, hr => by
    cases f' with
    | zero => omega
    | succ f' =>
      rw [more] at h ⊢
      rw [op_sh hr (lvs_41 k)]
      split at h
      · next ho => cases h; exact .inr ⟨g', hr, rfl⟩
      · next o ho =>
        split at h
        · cases h
        · next g2 e1 =>
          have hk := opOf_k ho
          have ha : g'.a = g.a + 3 := by
            rcases hr with ⟨_, _, h2⟩ | ⟨h0, _⟩
            · exact h2
            · exact absurd h0 hk
          obtain ⟨k2, _⟩ := adv_mu hg hk e1
          rw [ha]
          rcases adv_sh (r' := g'.r) hg.a e1 with ⟨e, he, hb⟩ | ⟨g2', he, hr2⟩
          · simp only [he]; exact .inl ⟨e, rfl, .inr hb⟩
          simp only [he]
          split at h
          · cases h
          · next y g3 e2 =>
            rcases hq _ _ _ k2 e2 _ hr2 with ⟨e, he, hb⟩ | ⟨g3', hr3, he⟩
            · simp only [he]; exact .inl ⟨e, rfl, hb⟩
            simp only [he]
            exact more_sh hd hq f f' _ _ _ _ _ (by omega) (hd _ _ _ k2 e2).1 h hr3
theorem lev_sh {q q' : P} (hd : Dn s q) (hq : Sim s q q') : ∀ j, Sim s (lev s q j) (lev (wr s) q' j)
  | 0 => hq
  | j + 1 => by
    intro g x g1 hg h g' hr
    rw [lev] at h ⊢
    dsimp only at h ⊢
    split at h
    · cases h
    · next y g2 e =>
      rcases lev_sh hd hq j _ _ _ hg e _ hr with ⟨e, he, hb⟩ | ⟨g2', hr2, he⟩
      · simp only [he]; exact .inl ⟨e, rfl, hb⟩
      simp only [he]
      exact more_sh (lev_dn hd j) (lev_sh hd hq j) _ _ _ _ _ _ _ (by rw [wr_size]; omega) (lev_dn hd j _ _ _ hg e).1 h hr2
theorem adv_is {x : List UInt8} {g g1 g' : Sr} (hg : SrOk s g) (hr : Rel s g g') (hi : is g.tk x = true) (h : adv s g.a g.r = .ok g1) : (∃ e, adv (wr s) g'.a g'.r = .error e ∧ e.1 = 1002) ∨ ∃ g1', adv (wr s) g'.a g'.r = .ok g1' ∧ Rel s g1 g1' := by
  obtain ⟨i1, i2, i3⟩ := is_true hr hi
  rw [i3]
  exact adv_sh hg.a h
theorem adv_num {g g1 g' : Sr} (hg : SrOk s g) (hr : Rel s g g') (hk : g.tk.k ≠ 0) (h : adv s g.a g.r = .ok g1) : (∃ e, adv (wr s) g'.a g'.r = .error e ∧ e.1 = 1002) ∨ ∃ g1', adv (wr s) g'.a g'.r = .ok g1' ∧ Rel s g1 g1' := by
  rcases hr with ⟨_, _, h2⟩ | ⟨h0, _⟩
  · rw [h2]; exact adv_sh hg.a h
  · exact absurd h0 hk
theorem chc_sh {S C S' C' : P} (dS : Dn s S) (dC : Dn s C) (hS : Sim s S S') (hC : Sim s C C') : Sim s (chc s S C) (chc (wr s) S' C') := by
  intro g x g1 hg h g' hr
  unfold chc at h ⊢
  split at h
  · cases h
  · next y g2 e =>
    rcases lev_sh dS hS 11 _ _ _ hg e _ hr with ⟨e, he, hb⟩ | ⟨g2', hr2, he⟩
    · simp only [he]; exact .inl ⟨e, rfl, hb⟩
    simp only [he]
    have k2 := (lev_dn dS 11 _ _ _ hg e).1
    rw [is_sh hr2 (by decide)]
    split at h
    · next hi =>
      rw [if_pos hi]
      split at h
      · cases h
      · next g3 e3 =>
        have k3 := (adv_mu k2 (is_k hi) e3).1
        rcases adv_is k2 hr2 hi e3 with ⟨e, he, hb⟩ | ⟨g3', he, hr3⟩
        · simp only [he]; exact .inl ⟨e, rfl, .inr hb⟩
        simp only [he]
        split at h
        · cases h
        · next a g4 e4 =>
          have k4 := (dC _ _ _ k3 e4).1
          rcases hC _ _ _ k3 e4 _ hr3 with ⟨e, he, hb⟩ | ⟨g4', hr4, he⟩
          · simp only [he]; exact .inl ⟨e, rfl, hb⟩
          simp only [he]
          split at h
          · cases h
          · next g5 e5 =>
            have k5 := (tak_mu k4 e5).1
            rcases tak_sh k4 e5 hr4 with ⟨e, he, hb⟩ | ⟨g5', he, hr5⟩
            · simp only [he]; exact .inl ⟨e, rfl, .inr hb⟩
            simp only [he]
            split at h
            · cases h
            · next b g6 e6 =>
              rcases hC _ _ _ k5 e6 _ hr5 with ⟨e, he, hb⟩ | ⟨g6', hr6, he⟩
              · simp only [he]; exact .inl ⟨e, rfl, hb⟩
              simp only [he]
              cases h
              exact .inr ⟨g6', hr6, rfl⟩
    · next hi =>
      rw [if_neg hi]
      cases h
      exact .inr ⟨g2', hr2, rfl⟩
theorem btw_sh {C C' : P} (dC : Dn s C) (hC : Sim s C C') (o c : List UInt8) : Sim s (btw s C o c) (btw (wr s) C' o c) := by
  intro g x g1 hg h g' hr
  unfold btw at h ⊢
  split at h
  · cases h
  · next g2 e1 =>
    have k2 := (tak_mu hg e1).1
    rcases tak_sh hg e1 hr with ⟨e, he, hb⟩ | ⟨g2', he, hr2⟩
    · simp only [he]; exact .inl ⟨e, rfl, .inr hb⟩
    simp only [he]
    split at h
    · cases h
    · next y g3 e2 =>
      have k3 := (dC _ _ _ k2 e2).1
      rcases hC _ _ _ k2 e2 _ hr2 with ⟨e, he, hb⟩ | ⟨g3', hr3, he⟩
      · simp only [he]; exact .inl ⟨e, rfl, hb⟩
      simp only [he]
      split at h
      · cases h
      · next g4 e3 =>
        rcases tak_sh k3 e3 hr3 with ⟨e, he, hb⟩ | ⟨g4', he, hr4⟩
        · simp only [he]; exact .inl ⟨e, rfl, .inr hb⟩
        simp only [he]
        cases h
        exact .inr ⟨g4', hr4, rfl⟩
theorem k_sh {g g' : Sr} (hr : Rel s g g') {n : Nat} (hn : n = 1 ∨ n = 2 ∨ n = 3) : (g'.tk.k = n ↔ g.tk.k = n) := by
  rcases hr with ⟨_, h, _⟩ | ⟨h0, h, _⟩
  · rw [h]; exact Iff.rfl
  · rw [h, h0]
    show (4 = n ↔ 0 = n)
    omega
theorem tk_sh {g g' : Sr} (hr : Rel s g g') (hk : g.tk.k ≠ 0) : g'.tk.t = g.tk.t ∧ g'.tk.n = g.tk.n := by
  rcases hr with ⟨_, h, _⟩ | ⟨h0, _⟩
  · rw [h]; exact ⟨rfl, rfl⟩
  · exact absurd h0 hk
theorem prt_sh {C C' : P} (dC : Dn s C) (hC : Sim s C C') : ∀ f f' l g x g1 g', f ≤ f' → SrOk s g → prt s C f l g = .ok (x, g1) → Rel s g g' → Big (prt (wr s) C' f' l g') ∨ ∃ g1', Rel s g1 g1' ∧ prt (wr s) C' f' l g' = .ok (x, g1')
  | 0, f', l, g, x, g1, g', hf, hg, h, hr => by rw [prt] at h; cases h
  | f + 1, f', l, g, x, g1, g', hf, hg, h, hr => by
    cases f' with
    | zero => omega
    | succ f' =>
      rw [prt] at h ⊢
      rw [is_sh hr (by decide), is_sh hr (by decide)]
      split at h
      · next hi =>
        rw [if_pos hi]
        split at h
        · cases h
        · next g2 e1 =>
          have k2 := (adv_mu hg (is_k hi) e1).1
          rcases adv_is hg hr hi e1 with ⟨e, he, hb⟩ | ⟨g2', he, hr2⟩
          · simp only [he]; exact .inl ⟨e, rfl, .inr hb⟩
          simp only [he]
          split at h
          · next h3 =>
            rw [if_pos ((k_sh hr2 (.inr (.inr rfl))).2 h3)]
            split at h
            · cases h
            · next g3 e2 =>
              have k3 := (adv_mu k2 (by omega) e2).1
              rcases adv_num k2 hr2 (by omega) e2 with ⟨e, he, hb⟩ | ⟨g3', he, hr3⟩
              · simp only [he]; exact .inl ⟨e, rfl, .inr hb⟩
              simp only [he]
              rw [(tk_sh hr2 (by omega)).1]
              exact prt_sh dC hC f f' _ _ _ _ _ (by omega) k3 h hr3
          · cases h
      · next hi =>
        rw [if_neg hi]
        split at h
        · next hi2 =>
          rw [if_pos hi2]
          split at h
          · cases h
          · next y g2 e1 =>
            have k2 := (btw_dn dC _ _ _ _ _ hg e1).1
            rcases btw_sh dC hC _ _ _ _ _ hg e1 _ hr with ⟨e, he, hb⟩ | ⟨g2', hr2, he⟩
            · simp only [he]; exact .inl ⟨e, rfl, hb⟩
            simp only [he]
            exact prt_sh dC hC f f' _ _ _ _ _ (by omega) k2 h hr2
        · next hi2 =>
          rw [if_neg hi2]
          cases h
          exact .inr ⟨g', hr, rfl⟩
theorem nmd_sh {C C' : P} (dC : Dn s C) (hC : Sim s C C') (t : ByteArray) : Sim s (nmd s C t) (nmd (wr s) C' t) := by
  intro g x g1 hg h g' hr
  unfold nmd at h ⊢
  split at h
  · next ho => cases h; exact .inr ⟨g', hr, rfl⟩
  · next ho =>
    split at h
    · next c hc =>
      rw [is_sh hr (by decide)]
      split at h
      · next hi =>
        rw [if_pos hi]
        split at h
        · cases h
        · next y g2 e =>
          rcases btw_sh dC hC _ _ _ _ _ hg e _ hr with ⟨e, he, hb⟩ | ⟨g2', hr2, he⟩
          · simp only [he]; exact .inl ⟨e, rfl, hb⟩
          simp only [he]
          cases h
          exact .inr ⟨g2', hr2, rfl⟩
      · next hi => rw [if_neg hi]; cases h; exact .inr ⟨g', hr, rfl⟩
    · next hc => cases h; exact .inr ⟨g', hr, rfl⟩
theorem wor_sh {C C' : P} (dC : Dn s C) (hC : Sim s C C') : Sim s (wor s C) (wor (wr s) C') := by
  intro g x g1 hg h g' hr
  unfold wor at h ⊢
  split at h
  · next hk =>
    rw [if_pos ((k_sh hr (.inl rfl)).2 hk)]
    split at h
    · cases h
    · next g2 e =>
      rcases adv_num hg hr (by omega) e with ⟨e, he, hb⟩ | ⟨g2', he, hr2⟩
      · simp only [he]; exact .inl ⟨e, rfl, .inr hb⟩
      simp only [he]
      rw [(tk_sh hr (by omega)).2]
      cases h
      exact .inr ⟨g2', hr2, rfl⟩
  · next hk1 =>
    rw [if_neg (fun e => hk1 ((k_sh hr (.inl rfl)).1 e))]
    split at h
    · next hk =>
      rw [if_pos ((k_sh hr (.inr (.inl rfl))).2 hk)]
      split at h
      · cases h
      · next g2 e =>
        rcases adv_num hg hr (by omega) e with ⟨e, he, hb⟩ | ⟨g2', he, hr2⟩
        · simp only [he]; exact .inl ⟨e, rfl, .inr hb⟩
        simp only [he]
        rw [(tk_sh hr (by omega)).1]
        cases h
        exact .inr ⟨g2', hr2, rfl⟩
    · next hk2 =>
      rw [if_neg (fun e => hk2 ((k_sh hr (.inr (.inl rfl))).1 e))]
      split at h
      · next hk =>
        rw [if_pos ((k_sh hr (.inr (.inr rfl))).2 hk)]
        split at h
        · cases h
        · next g2 e =>
          have k2 := (adv_mu hg (by omega) e).1
          rcases adv_num hg hr (by omega) e with ⟨e, he, hb⟩ | ⟨g2', he, hr2⟩
          · simp only [he]; exact .inl ⟨e, rfl, .inr hb⟩
          simp only [he]
          rw [(tk_sh hr (by omega)).1]
          exact nmd_sh dC hC _ _ _ _ k2 h _ hr2
      · next hk3 =>
        rw [if_neg (fun e => hk3 ((k_sh hr (.inr (.inr rfl))).1 e))]
        exact btw_sh dC hC _ _ _ _ _ hg h _ hr
theorem par_sh {C C' : P} (dC : Dn s C) (hC : Sim s C C') : Sim s (par s C) (par (wr s) C') := by
  intro g x g1 hg h g' hr
  unfold par at h ⊢
  split at h
  · cases h
  · next y g2 e =>
    have k2 := (wor_dn dC _ _ _ hg e).1
    rcases wor_sh dC hC _ _ _ hg e _ hr with ⟨e, he, hb⟩ | ⟨g2', hr2, he⟩
    · simp only [he]; exact .inl ⟨e, rfl, hb⟩
    simp only [he]
    exact prt_sh dC hC _ _ _ _ _ _ _ (by rw [wr_size]; omega) k2 h hr2
theorem sgd_sh {S C S' C' : P} (dS : Dn s S) (dC : Dn s C) (hS : Sim s S S') (hC : Sim s C C') : Sim s (sgd s S C) (sgd (wr s) S' C') := by
  intro g x g1 hg h g' hr
  unfold sgd at h ⊢
  rw [is_sh hr (by decide), is_sh hr (by decide)]
  split at h
  · next hi =>
    rw [if_pos hi]
    split at h
    · cases h
    · next g2 e =>
      have k2 := (adv_mu hg (is_k hi) e).1
      rcases adv_is hg hr hi e with ⟨e, he, hb⟩ | ⟨g2', he, hr2⟩
      · simp only [he]; exact .inl ⟨e, rfl, .inr hb⟩
      simp only [he]
      split at h
      · cases h
      · next y g3 e2 =>
        rcases hS _ _ _ k2 e2 _ hr2 with ⟨e, he, hb⟩ | ⟨g3', hr3, he⟩
        · simp only [he]; exact .inl ⟨e, rfl, hb⟩
        simp only [he]
        cases h
        exact .inr ⟨g3', hr3, rfl⟩
  · next hi =>
    rw [if_neg hi]
    split at h
    · next hi =>
      rw [if_pos hi]
      split at h
      · cases h
      · next g2 e =>
        have k2 := (adv_mu hg (is_k hi) e).1
        rcases adv_is hg hr hi e with ⟨e, he, hb⟩ | ⟨g2', he, hr2⟩
        · simp only [he]; exact .inl ⟨e, rfl, .inr hb⟩
        simp only [he]
        split at h
        · cases h
        · next y g3 e2 =>
          rcases hS _ _ _ k2 e2 _ hr2 with ⟨e, he, hb⟩ | ⟨g3', hr3, he⟩
          · simp only [he]; exact .inl ⟨e, rfl, hb⟩
          simp only [he]
          cases h
          exact .inr ⟨g3', hr3, rfl⟩
    · next hi =>
      rw [if_neg hi]
      exact par_sh dC hC _ _ _ hg h _ hr
theorem ded_sh {g g' : Sr} (hr : Rel s g g') : ded g' = .error (1001, g'.tk.a) := by
  unfold ded
  rw [if_neg]
  rcases hr with ⟨h0, h, _⟩ | ⟨_, h, _⟩
  · rw [h]; exact h0
  · rw [h]; show ¬ (4 : Nat) = 0; decide
theorem sim_ded (q : P) : Sim s q ded := fun g x g1 _ _ g' hr => .inl ⟨_, ded_sh hr, .inl rfl⟩
theorem sim_ded2 (q : P) : Sim s q (chc (wr s) ded ded) := fun g x g1 _ _ g' hr => .inl (by
  unfold chc
  simp only [lev_err (ded_sh hr) 11]
  exact ⟨_, rfl, .inl rfl⟩)
theorem lv2_sh : ∀ m m', m' ≤ m → Sim s (lv2 s m).1 (lv2 (wr s) m').1 ∧ Sim s (lv2 s m).2 (lv2 (wr s) m').2
  | m, 0, _ => ⟨sim_ded _, sim_ded2 _⟩
  | 0, m' + 1, h => absurd h (by omega)
  | m + 1, m' + 1, h => by
    obtain ⟨h1, h2⟩ := lv2_sh m m' (by omega)
    obtain ⟨d1, d2⟩ := lv2_dn s m
    exact ⟨sgd_sh d1 d2 h1 h2, chc_sh (sgd_dn d1 d2) d2 (sgd_sh d1 d2 h1 h2) h2⟩
end
/-- Read again, in parentheses. -/
theorem wrapped {s : ByteArray} {x : Ex} (h : prs s = .ok x) : prs (wr s) = .ok x ∨ ∃ e, prs (wr s) = .error e ∧ big e := by
  unfold prs at h
  split at h
  · cases h
  · next g e1 =>
    have k1 := (adv_in (Nat.zero_le _) (by omega) e1).1
    split at h
    · cases h
    · next y g1 e2 =>
      have k2 := ((lv2_dn s 32).2 _ _ _ k1 e2).1
      split at h
      · next hend =>
        cases h
        have hst : St (wr s) 0 [32, 10, 40] := ⟨[], s.data.toList ++ [9, 41, 32], by unfold wr; simp, rfl⟩
        have t40 := EBo.one_tok (s := wr s) (c := 40) rfl hst.tail.tail
        have hadv : adv (wr s) 0 0 = .ok ⟨⟨4, ⟨#[40]⟩, 0, 2⟩, 3, 1⟩ := by
          rw [adv_blank hst rfl, adv_blank hst.tail rfl]
          rcases t40.adv 0 with e | ⟨_, e⟩
          · exfalso
            unfold adv at e
            rw [skp_stop (fun _ => t40.1), t40.2.1] at e
            simp at e
          · exact e
        have hfo : ∀ r, adv (wr s) (s.size + 5) r = .ok ⟨⟨0, ⟨#[]⟩, 0, (wr s).size⟩, (wr s).size, r⟩ := by
          intro r
          rw [adv_blank (t := []) wr_st.tail.tail rfl, show s.size + 3 + 1 + 1 + 1 = (wr s).size by rw [wr_size]]
          exact EBn.adv_end _ _
        obtain ⟨_, hC⟩ := lv2_sh (s := s) 32 31 (by omega)
        have hB : Big (btw (wr s) (lv2 (wr s) 31).2 [40] [41] ⟨⟨4, ⟨#[40]⟩, 0, 2⟩, 3, 1⟩) ∨ ∃ g', btw (wr s) (lv2 (wr s) 31).2 [40] [41] ⟨⟨4, ⟨#[40]⟩, 0, 2⟩, 3, 1⟩ = .ok (x, g') ∧ g'.tk.k = 0 := by
          unfold btw
          rw [show tak (wr s) [40] ⟨⟨4, ⟨#[40]⟩, 0, 2⟩, 3, 1⟩ = adv (wr s) (0 + 3) 1 from rfl]
          rcases adv_sh (r' := 1) (Nat.zero_le _) e1 with ⟨e, he, hb⟩ | ⟨g', he, hr⟩
          · simp only [he]; exact .inl ⟨e, rfl, .inr hb⟩
          simp only [he]
          rcases hC _ _ _ k1 e2 _ hr with ⟨e, he, hb⟩ | ⟨g1', hr1, he⟩
          · simp only [he]; exact .inl ⟨e, rfl, hb⟩
          simp only [he]
          have ht : tak (wr s) [41] g1' = adv (wr s) (s.size + 5) g1'.r := by
            rcases hr1 with ⟨h0, _⟩ | ⟨_, h, h2⟩
            · exact absurd hend h0
            · unfold tak
              rw [h, h2]
              rfl
          rw [ht, hfo]
          exact .inr ⟨_, rfl, rfl⟩
        have hnone : ∀ (g : Sr), g.tk.k = 0 → (∀ l, opOf g.tk l = none) ∧ ∀ y, is g.tk y = false := by
          intro g hg
          have hi : ∀ y, is g.tk y = false := fun y => by unfold is; rw [hg]; rfl
          refine ⟨fun l => ?_, hi⟩
          induction l with
          | nil => rfl
          | cons p l ih => obtain ⟨a, b⟩ := p; rw [opOf, hi, ih]; rfl
        have hpar : Big (EPure.par (wr s) (lv2 (wr s) 31).2 ⟨⟨4, ⟨#[40]⟩, 0, 2⟩, 3, 1⟩) ∨ ∃ g', EPure.par (wr s) (lv2 (wr s) 31).2 ⟨⟨4, ⟨#[40]⟩, 0, 2⟩, 3, 1⟩ = .ok (x, g') ∧ g'.tk.k = 0 := by
          unfold EPure.par
          rw [show wor (wr s) (lv2 (wr s) 31).2 ⟨⟨4, ⟨#[40]⟩, 0, 2⟩, 3, 1⟩ = btw (wr s) (lv2 (wr s) 31).2 [40] [41] ⟨⟨4, ⟨#[40]⟩, 0, 2⟩, 3, 1⟩ from rfl]
          rcases hB with ⟨e, he, hb⟩ | ⟨g', he, hg⟩
          · simp only [he]; exact .inl ⟨e, rfl, hb⟩
          simp only [he]
          rw [prt_ok (by omega) ((hnone g' hg).2 _) ((hnone g' hg).2 _)]
          exact .inr ⟨g', rfl, hg⟩
        have hlev : ∀ j, Big (lev (wr s) (lv2 (wr s) 32).1 j ⟨⟨4, ⟨#[40]⟩, 0, 2⟩, 3, 1⟩) ∨ ∃ g', lev (wr s) (lv2 (wr s) 32).1 j ⟨⟨4, ⟨#[40]⟩, 0, 2⟩, 3, 1⟩ = .ok (x, g') ∧ g'.tk.k = 0 := by
          intro j
          induction j with
          | zero =>
            show Big (sgd (wr s) (lv2 (wr s) 31).1 (lv2 (wr s) 31).2 ⟨⟨4, ⟨#[40]⟩, 0, 2⟩, 3, 1⟩) ∨ ∃ g', sgd (wr s) (lv2 (wr s) 31).1 (lv2 (wr s) 31).2 ⟨⟨4, ⟨#[40]⟩, 0, 2⟩, 3, 1⟩ = .ok (x, g') ∧ g'.tk.k = 0
            rw [show sgd (wr s) (lv2 (wr s) 31).1 (lv2 (wr s) 31).2 ⟨⟨4, ⟨#[40]⟩, 0, 2⟩, 3, 1⟩ = EPure.par (wr s) (lv2 (wr s) 31).2 ⟨⟨4, ⟨#[40]⟩, 0, 2⟩, 3, 1⟩ from rfl]
            exact hpar
          | succ j ih =>
            rw [lev]
            dsimp only
            rcases ih with ⟨e, he, hb⟩ | ⟨g', he, hg⟩
            · simp only [he]; exact .inl ⟨e, rfl, hb⟩
            simp only [he]
            rw [more_ok (by omega) ((hnone g' hg).1 _)]
            exact .inr ⟨g', rfl, hg⟩
        unfold prs
        rw [hadv]
        simp only
        rw [show (lv2 (wr s) 32).2 = chc (wr s) (lv2 (wr s) 32).1 (lv2 (wr s) 31).2 from rfl]
        unfold chc
        rcases hlev 11 with ⟨e, he, hb⟩ | ⟨g', he, hg⟩
        · simp only [he]; exact .inr ⟨e, rfl, hb⟩
        simp only [he]
        rw [if_neg (by rw [(hnone g' hg).2]; simp)]
        simp only
        rw [if_pos hg]
        exact .inl rfl
      · cases h
end Go.Proofs.YtofpdnhnlkocoaaDoor.EWr

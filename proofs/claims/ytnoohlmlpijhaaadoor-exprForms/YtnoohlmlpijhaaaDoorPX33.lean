import Derived.Test.YtnoohlmlpijhaaaDoorPX04
import Derived.Test.YtnoohlmlpijhaaaDoorPX31
namespace Go.Proofs.YtnoohlmlpijhaaaDoor.EWr
open Go.Proofs.YtnoohlmlpijhaaaDoor.UBase Go.Proofs.YtnoohlmlpijhaaaDoor.EPure Go.Proofs.YtnoohlmlpijhaaaDoor.EDn Go.Proofs.YtnoohlmlpijhaaaDoor.EBs Go.Proofs.YtnoohlmlpijhaaaDoor.EBx Go.Proofs.YtnoohlmlpijhaaaDoor.EBl
set_option linter.unusedVariables false
/-- The text with a parenthesis and blanks around. -/
def wr (s : ByteArray) : ByteArray := ⟨([32, 10, 40] ++ s.data.toList ++ [9, 41, 32]).toArray⟩
section
variable {s : ByteArray}
theorem wr_size : (wr s).size = s.size + 6 := by
  rw [← sz (wr s)]
  unfold wr
  simp
theorem wr_drop {i : Nat} (h : i ≤ s.size) : (wr s).data.toList.drop (i + 3) = s.data.toList.drop i ++ [9, 41, 32] := by
  unfold wr
  simp only [List.append_assoc]
  rw [show i + 3 = ([32, 10, 40] : List UInt8).length + i by simp; omega, List.drop_length_add_append, List.drop_append_of_le_length (by rw [sz]; exact h)]
theorem wr_at {i : Nat} (h : i < s.size) : at' (wr s) (i + 3) = at' s i := by
  rw [at_drop, at_drop, wr_drop (by omega), List.drop_eq_getElem_cons (by rw [sz]; exact h)]
  rfl
theorem wr_st : St (wr s) (s.size + 3) [9, 41, 32] := by
  refine ⟨[32, 10, 40] ++ s.data.toList, [], by unfold wr; simp, by simp []⟩
theorem wr_end : at' (wr s) (s.size + 3) = 9 := wr_st.at
theorem skp_sh {p : Nat → Bool} (hp : p 9 = false) : ∀ (n i : Nat), s.size - i ≤ n → i ≤ s.size → skp p (wr s) (i + 3) = skp p s i + 3 := by
  intro n
  induction n with
  | zero =>
    intro i h1 h2
    obtain rfl : i = s.size := by omega
    rw [skp_stop (s := wr s) (fun _ => by rw [wr_end]; exact hp), skp_stop (s := s) (fun h => absurd h (by omega))]
  | succ n ih =>
    intro i h1 h2
    by_cases hlt : i < s.size
    · cases hpi : p (at' s i) with
      | true => rw [skp_step (s := s) hlt hpi, skp_step (s := wr s) (by rw [wr_size]; omega) (by rw [wr_at hlt]; exact hpi), show i + 3 + 1 = i + 1 + 3 by omega, ih (i + 1) (by omega) (by omega)]
      | false => rw [skp_stop (s := s) (fun _ => hpi), skp_stop (s := wr s) (fun _ => by rw [wr_at hlt]; exact hpi)]
    · obtain rfl : i = s.size := by omega
      rw [skp_stop (s := wr s) (fun _ => by rw [wr_end]; exact hp), skp_stop (s := s) (fun h => absurd h (by omega))]
theorem skp_isb : ∀ (n i : Nat), s.size - i ≤ n → i ≤ s.size → (skp isb s i < s.size ∧ skp isb (wr s) (i + 3) = skp isb s i + 3) ∨ (skp isb s i = s.size ∧ skp isb (wr s) (i + 3) = s.size + 4) := by
  have he : skp isb (wr s) (s.size + 3) = s.size + 4 := by
    rw [skp_step (s := wr s) (by rw [wr_size]; omega) (by rw [wr_end]; rfl), skp_stop (s := wr s) (fun _ => by rw [wr_st.tail.at]; rfl)]
  intro n
  induction n with
  | zero =>
    intro i h1 h2
    obtain rfl : i = s.size := by omega
    exact .inr ⟨skp_stop (fun h => absurd h (by omega)), he⟩
  | succ n ih =>
    intro i h1 h2
    by_cases hlt : i < s.size
    · cases hpi : isb (at' s i) with
      | true =>
        have := ih (i + 1) (by omega) (by omega)
        rw [skp_step (s := s) hlt hpi, skp_step (s := wr s) (i := i + 3) (by rw [wr_size]; omega) (by rw [wr_at hlt]; exact hpi), show i + 3 + 1 = i + 1 + 3 by omega]
        exact this
      | false =>
        left
        rw [skp_stop (s := s) (fun _ => hpi), skp_stop (s := wr s) (fun _ => by rw [wr_at hlt]; exact hpi)]
        exact ⟨hlt, rfl⟩
    · obtain rfl : i = s.size := by omega
      exact .inr ⟨skp_stop (fun h => absurd h (by omega)), he⟩
theorem pfx : ∀ (y D r : List UInt8), (9 : UInt8) ∉ y → y.isPrefixOf (D ++ 9 :: r) = y.isPrefixOf D
  | [], D, r, _ => by simp
  | c :: y, [], r, h => by
    have : (c == (9 : UInt8)) = false := by simp; rintro rfl; exact h (by simp)
    simp [List.isPrefixOf, this]
  | c :: y, d :: D, r, h => by
    rw [List.cons_append, List.isPrefixOf, List.isPrefixOf, pfx y D r (fun hm => h (by simp [hm]))]
theorem pre_sh {i : Nat} {y : List UInt8} (hi : i ≤ s.size) (hy : (9 : UInt8) ∉ y) : pre (wr s) (i + 3) y = pre s i y := by
  rw [pre_eq (wr s) (i + 3) y (by rw [wr_size]; omega), pre_eq s i y hi, wr_drop hi, pfx y _ _ hy]
theorem sgn_sh {i j : Nat} {x : ByteArray} (hi : i ≤ s.size) : ∀ {L : List (List UInt8)}, (∀ y ∈ L, (9 : UInt8) ∉ y) → sgn s i L = .ok (x, j) → sgn (wr s) (i + 3) L = .ok (x, j + 3)
  | [], _, h => by rw [sgn] at h; cases h
  | y :: L, hL, h => by
    rw [sgn] at h ⊢
    rw [pre_sh hi (hL y (by simp))]
    split at h
    · next hp =>
      rw [if_pos hp]
      cases h
      congr 2
      omega
    · next hp =>
      rw [if_neg hp]
      exact sgn_sh hi (fun z hz => hL z (by simp [hz])) h
theorem no9 : ∀ y ∈ signs, (9 : UInt8) ∉ y := by decide
theorem cut_sh {i j : Nat} (hij : i ≤ j) (hj : j ≤ s.size) : cut (wr s) (i + 3) (j + 3) = cut s i j := by
  unfold cut
  apply ByteArray.ext
  rw [ByteArray.data_extract, ByteArray.data_extract]
  apply Array.toList_inj.1
  rw [Array.toList_extract, Array.toList_extract, List.extract_eq_take_drop, List.extract_eq_take_drop, wr_drop (by omega), show j + 3 - (i + 3) = j - i by omega, List.take_append_of_le_length (by rw [List.length_drop, sz]; omega)]
theorem chr_sh {i j : Nat} {x : List UInt8} (h : chr s i = .ok (x, j)) : chr (wr s) (i + 3) = .ok (x, j + 3) := by
  unfold chr at h ⊢
  split at h
  · cases h
  · next hsz =>
    have hlt : i < s.size := by omega
    rw [if_neg (by rw [wr_size]; omega), wr_at hlt]
    split at h
    · cases h
    · next h32 =>
      rw [if_neg h32]
      split at h
      · next h92 =>
        rw [if_pos h92]
        split at h
        · cases h
        · next hs1 =>
          rw [if_neg (by rw [wr_size]; omega), show i + 3 + 1 = i + 1 + 3 by omega, wr_at (by omega)]
          split at h
          · cases h
          · next c hc =>
            cases h
            rfl
      · next h92 =>
        rw [if_neg h92]
        split at h
        · cases h
        · next hl =>
          cases h
          have hin := len_in hlt
          have hls := len_same (s := wr s) (t := s) (j := i + 3) (p := i) hl (fun k hk => by rw [show i + 3 + k = i + k + 3 by omega]; exact wr_at (by omega))
          rw [hls, if_neg hl, wr_drop (by omega), List.take_append_of_le_length (by rw [List.length_drop, sz]; omega)]
          congr 2
          omega
theorem txl_sh : ∀ {f f' i j : Nat} {B l : List UInt8}, f ≤ f' → txl s f i B = .ok (l, j) → txl (wr s) f' (i + 3) B = .ok (l, j + 3)
  | 0, f', i, j, B, l, _, h => by rw [txl] at h; cases h
  | f + 1, f', i, j, B, l, hf, h => by
    cases f' with
    | zero => omega
    | succ f' =>
      rw [txl] at h ⊢
      split at h
      · cases h
      · next hsz =>
        rw [if_neg (by rw [wr_size]; omega), wr_at (by omega)]
        split at h
        · next h39 => rw [if_pos h39]; cases h; congr 2
        · next h39 =>
          rw [if_neg h39]
          cases hc : chr s i with
          | error e => rw [hc] at h; cases h
          | ok y =>
            obtain ⟨x, m⟩ := y
            rw [hc] at h
            dsimp only at h
            rw [chr_sh hc]
            exact txl_sh (by omega) h
/-- A token, three places on. -/
def sh (t : Tk) : Tk := ⟨t.k, t.t, t.n, t.a + 3⟩
theorem scan_sh {i j : Nat} {t : Tk} (hi : i < s.size) (h : scan s i = .ok (t, j)) : scan (wr s) (i + 3) = .ok (sh t, j + 3) := by
  unfold scan at h ⊢
  rw [if_neg (by omega)] at h
  rw [if_neg (by rw [wr_size]; omega), wr_at hi]
  split at h
  · next h39 =>
    rw [if_pos h39]
    split at h
    · cases h
    · next l m hx =>
      rw [show i + 3 + 1 = i + 1 + 3 by omega, txl_sh (by rw [wr_size]; omega) hx]
      simp only
      split at h
      · cases h
      · next hl => rw [if_neg hl]; cases h; rfl
  · next h39 =>
    rw [if_neg h39]
    split at h
    · next h48 => rw [if_pos h48]; cases h; congr 2
    · next h48 =>
      rw [if_neg h48]
      split at h
      · next hd =>
        rw [if_pos hd, skp_sh (p := EPure.dig) (by decide) _ i (Nat.le_refl _) (by omega), cut_sh (skp_ge _ _ _) (skp_in (by omega))]
        split at h
        · next hp => rw [if_pos hp]; cases h; rfl
        · cases h
      · next hd =>
        rw [if_neg hd]
        split at h
        · next hl =>
          rw [if_pos hl, skp_sh (p := wrd) (by decide) _ i (Nat.le_refl _) (by omega), cut_sh (skp_ge _ _ _) (skp_in (by omega)), show skp wrd s i + 3 - (i + 3) = skp wrd s i - i by omega]
          split at h
          · next h32 => rw [if_pos h32]; cases h; rfl
          · cases h
        · next hl =>
          rw [if_neg hl]
          split at h
          · cases h
          · next x m hx =>
            rw [sgn_sh (by omega) no9 hx]
            cases h
            rfl
/-- The parenthesis that closes. -/
def cl (s : ByteArray) : Tk := ⟨4, ⟨#[41]⟩, 0, s.size + 4⟩
/-- What stands next in the text, and in the one with a parenthesis around. -/
def Rel (s : ByteArray) (g g' : Sr) : Prop := (g.tk.k ≠ 0 ∧ g'.tk = sh g.tk ∧ g'.a = g.a + 3) ∨ (g.tk.k = 0 ∧ g'.tk = cl s ∧ g'.a = s.size + 5)
theorem adv_sh {a r r' : Nat} {g : Sr} (ha : a ≤ s.size) (h : adv s a r = .ok g) : (∃ e, adv (wr s) (a + 3) r' = .error e ∧ e.1 = 1002) ∨ ∃ g', adv (wr s) (a + 3) r' = .ok g' ∧ Rel s g g' := by
  unfold adv at h ⊢
  split at h
  · cases h
  · next t j e =>
    rcases skp_isb _ a (Nat.le_refl _) ha with ⟨h1, h2⟩ | ⟨h1, h2⟩
    · rw [h2, scan_sh h1 e]
      simp only
      obtain ⟨_, _, _, k0, _⟩ := scan_in (skp_in ha) e
      have hk : t.k ≠ 0 := fun hk => by have := (k0 hk).1; omega
      rw [if_neg hk] at h
      rw [if_neg (show (sh t).k ≠ 0 from hk)]
      split at h
      · cases h
      · cases h
        by_cases hr : r' = 512
        · rw [if_pos hr]; exact .inl ⟨_, rfl, rfl⟩
        · rw [if_neg hr]; exact .inr ⟨_, rfl, .inl ⟨hk, rfl, rfl⟩⟩
    · rw [h1] at e
      have e0 : scan s s.size = .ok (⟨0, ⟨#[]⟩, 0, s.size⟩, s.size) := by unfold scan; rw [if_pos (Nat.le_refl _)]
      rw [e0] at e
      injection e with e
      obtain ⟨rfl, rfl⟩ := Prod.mk.inj e
      rw [if_pos rfl] at h
      cases h
      have ht := EBo.one_tok (s := wr s) (c := 41) rfl (St.left (t := [41]) wr_st.tail)
      rw [h2]
      rw [show s.size + 4 = s.size + 3 + 1 by omega, ht.2.1]
      simp only
      rw [if_neg (by decide)]
      by_cases hr : r' = 512
      · rw [if_pos hr]; exact .inl ⟨_, rfl, rfl⟩
      · rw [if_neg hr]; exact .inr ⟨_, rfl, .inr ⟨rfl, rfl, rfl⟩⟩
theorem is_sh {g g' : Sr} (h : Rel s g g') {x : List UInt8} (hx : x ≠ [41]) : is g'.tk x = is g.tk x := by
  rcases h with ⟨_, h, _⟩ | ⟨h0, h, _⟩
  · rw [h]; rfl
  · rw [h]
    have e1 : is g.tk x = false := by unfold is; rw [h0]; rfl
    rw [e1]
    show ((4 == 4) && ([41] == x)) = false
    simp
    exact fun h => hx h.symm
theorem is_true {g g' : Sr} (h : Rel s g g') {x : List UInt8} (hx : is g.tk x = true) : is g'.tk x = true ∧ g.tk.k ≠ 0 ∧ g'.a = g.a + 3 := by
  have hk := is_k hx
  rcases h with ⟨_, h, h2⟩ | ⟨h0, _⟩
  · exact ⟨by rw [h]; exact hx, hk, h2⟩
  · exact absurd h0 hk
theorem op_sh {g g' : Sr} (h : Rel s g g') : ∀ {l : List (List UInt8 × Int)}, (∀ p ∈ l, p.1 ≠ [41]) → opOf g'.tk l = opOf g.tk l
  | [], _ => rfl
  | (x, o) :: l, hl => by
    rw [opOf, opOf, is_sh h (hl (x, o) (by simp)), op_sh h (fun p hp => hl p (by simp [hp]))]
theorem lvs41 : ∀ k, k < 11 → ∀ p ∈ lvs.getD k [], p.1 ≠ [41] := by decide
theorem lvs_41 (k : Nat) : ∀ p ∈ lvs.getD k [], p.1 ≠ [41] := by
  rcases Nat.lt_or_ge k 11 with hk | hk
  · exact lvs41 k hk
  · intro p hp
    rw [show lvs.getD k [] = [] by simp [List.getD, List.getElem?_eq_none (show lvs.length ≤ k from hk)]] at hp
    cases hp
theorem tak_sh {x : List UInt8} {g g1 g' : Sr} (hg : SrOk s g) (h : tak s x g = .ok g1) (hr : Rel s g g') : (∃ e, tak (wr s) x g' = .error e ∧ e.1 = 1002) ∨ ∃ g1', tak (wr s) x g' = .ok g1' ∧ Rel s g1 g1' := by
  unfold tak at h ⊢
  split at h
  · next hi =>
    obtain ⟨i1, i2, i3⟩ := is_true hr hi
    rw [if_pos i1, i3]
    exact adv_sh hg.a h
  · cases h
/-- Read alike. -/
def Sim (s : ByteArray) (q q' : P) : Prop := ∀ g x g1, SrOk s g → q g = .ok (x, g1) → ∀ g', Rel s g g' → Big (q' g') ∨ ∃ g1', Rel s g1 g1' ∧ q' g' = .ok (x, g1')
theorem more_sh {k : Nat} {q q' : P} (hd : Dn s q) (hq : Sim s q q') : ∀ f f' l g x g1 g', f ≤ f' → SrOk s g → more s k q f l g = .ok (x, g1) → Rel s g g' → Big (more (wr s) k q' f' l g') ∨ ∃ g1', Rel s g1 g1' ∧ more (wr s) k q' f' l g' = .ok (x, g1')
  | 0, f', l, g, x, g1, g', hf, hg, h, hr => by rw [more] at h; cases h
  | f + 1, f', l, g, x, g1, g', hf, hg, h, hr => by
    cases f' with
    | zero => omega
    | succ f' =>
      rw [more] at h ⊢
      rw [op_sh hr (lvs_41 k)]
      split at h
      · next ho => cases h; exact .inr ⟨g', hr, rfl⟩
      · next o ho =>
        split at h
        · cases h
        · next g2 e1 =>
          have hk := opOf_k ho
          have ha : g'.a = g.a + 3 := by
            rcases hr with ⟨_, _, h2⟩ | ⟨h0, _⟩
            · exact h2
            · exact absurd h0 hk
          obtain ⟨k2, _⟩ := adv_mu hg hk e1
          rw [ha]
          rcases adv_sh (r' := g'.r) hg.a e1 with ⟨e, he, hb⟩ | ⟨g2', he, hr2⟩
          · simp only [he]; exact .inl ⟨e, rfl, .inr hb⟩
          simp only [he]
          split at h
          · cases h
          · next y g3 e2 =>
            rcases hq _ _ _ k2 e2 _ hr2 with ⟨e, he, hb⟩ | ⟨g3', hr3, he⟩
            · simp only [he]; exact .inl ⟨e, rfl, hb⟩
            simp only [he]
            exact more_sh hd hq f f' _ _ _ _ _ (by omega) (hd _ _ _ k2 e2).1 h hr3
theorem lev_sh {q q' : P} (hd : Dn s q) (hq : Sim s q q') : ∀ j, Sim s (lev s q j) (lev (wr s) q' j)
  | 0 => hq
  | j + 1 => by
    intro g x g1 hg h g' hr
    rw [lev] at h ⊢
    dsimp only at h ⊢
    split at h
    · cases h
    · next y g2 e =>
      rcases lev_sh hd hq j _ _ _ hg e _ hr with ⟨e, he, hb⟩ | ⟨g2', hr2, he⟩
      · simp only [he]; exact .inl ⟨e, rfl, hb⟩
      simp only [he]
      exact more_sh (lev_dn hd j) (lev_sh hd hq j) _ _ _ _ _ _ _ (by rw [wr_size]; omega) (lev_dn hd j _ _ _ hg e).1 h hr2
theorem adv_is {x : List UInt8} {g g1 g' : Sr} (hg : SrOk s g) (hr : Rel s g g') (hi : is g.tk x = true) (h : adv s g.a g.r = .ok g1) : (∃ e, adv (wr s) g'.a g'.r = .error e ∧ e.1 = 1002) ∨ ∃ g1', adv (wr s) g'.a g'.r = .ok g1' ∧ Rel s g1 g1' := by
  obtain ⟨i1, i2, i3⟩ := is_true hr hi
  rw [i3]
  exact adv_sh hg.a h
theorem adv_num {g g1 g' : Sr} (hg : SrOk s g) (hr : Rel s g g') (hk : g.tk.k ≠ 0) (h : adv s g.a g.r = .ok g1) : (∃ e, adv (wr s) g'.a g'.r = .error e ∧ e.1 = 1002) ∨ ∃ g1', adv (wr s) g'.a g'.r = .ok g1' ∧ Rel s g1 g1' := by
  rcases hr with ⟨_, _, h2⟩ | ⟨h0, _⟩
  · rw [h2]; exact adv_sh hg.a h
  · exact absurd h0 hk
theorem chc_sh {S C S' C' : P} (dS : Dn s S) (dC : Dn s C) (hS : Sim s S S') (hC : Sim s C C') : Sim s (chc s S C) (chc (wr s) S' C') := by
  intro g x g1 hg h g' hr
  unfold chc at h ⊢
  split at h
  · cases h
  · next y g2 e =>
    rcases lev_sh dS hS 11 _ _ _ hg e _ hr with ⟨e, he, hb⟩ | ⟨g2', hr2, he⟩
    · simp only [he]; exact .inl ⟨e, rfl, hb⟩
    simp only [he]
    have k2 := (lev_dn dS 11 _ _ _ hg e).1
    rw [is_sh hr2 (by decide)]
    split at h
    · next hi =>
      rw [if_pos hi]
      split at h
      · cases h
      · next g3 e3 =>
        have k3 := (adv_mu k2 (is_k hi) e3).1
        rcases adv_is k2 hr2 hi e3 with ⟨e, he, hb⟩ | ⟨g3', he, hr3⟩
        · simp only [he]; exact .inl ⟨e, rfl, .inr hb⟩
        simp only [he]
        split at h
        · cases h
        · next a g4 e4 =>
          have k4 := (dC _ _ _ k3 e4).1
          rcases hC _ _ _ k3 e4 _ hr3 with ⟨e, he, hb⟩ | ⟨g4', hr4, he⟩
          · simp only [he]; exact .inl ⟨e, rfl, hb⟩
          simp only [he]
          split at h
          · cases h
          · next g5 e5 =>
            have k5 := (tak_mu k4 e5).1
            rcases tak_sh k4 e5 hr4 with ⟨e, he, hb⟩ | ⟨g5', he, hr5⟩
            · simp only [he]; exact .inl ⟨e, rfl, .inr hb⟩
            simp only [he]
            split at h
            · cases h
            · next b g6 e6 =>
              rcases hC _ _ _ k5 e6 _ hr5 with ⟨e, he, hb⟩ | ⟨g6', hr6, he⟩
              · simp only [he]; exact .inl ⟨e, rfl, hb⟩
              simp only [he]
              cases h
              exact .inr ⟨g6', hr6, rfl⟩
    · next hi =>
      rw [if_neg hi]
      cases h
      exact .inr ⟨g2', hr2, rfl⟩
theorem btw_sh {C C' : P} (dC : Dn s C) (hC : Sim s C C') (o c : List UInt8) : Sim s (btw s C o c) (btw (wr s) C' o c) := by
  intro g x g1 hg h g' hr
  unfold btw at h ⊢
  split at h
  · cases h
  · next g2 e1 =>
    have k2 := (tak_mu hg e1).1
    rcases tak_sh hg e1 hr with ⟨e, he, hb⟩ | ⟨g2', he, hr2⟩
    · simp only [he]; exact .inl ⟨e, rfl, .inr hb⟩
    simp only [he]
    split at h
    · cases h
    · next y g3 e2 =>
      have k3 := (dC _ _ _ k2 e2).1
      rcases hC _ _ _ k2 e2 _ hr2 with ⟨e, he, hb⟩ | ⟨g3', hr3, he⟩
      · simp only [he]; exact .inl ⟨e, rfl, hb⟩
      simp only [he]
      split at h
      · cases h
      · next g4 e3 =>
        rcases tak_sh k3 e3 hr3 with ⟨e, he, hb⟩ | ⟨g4', he, hr4⟩
        · simp only [he]; exact .inl ⟨e, rfl, .inr hb⟩
        simp only [he]
        cases h
        exact .inr ⟨g4', hr4, rfl⟩
theorem k_sh {g g' : Sr} (hr : Rel s g g') {n : Nat} (hn : n = 1 ∨ n = 2 ∨ n = 3) : (g'.tk.k = n ↔ g.tk.k = n) := by
  rcases hr with ⟨_, h, _⟩ | ⟨h0, h, _⟩
  · rw [h]; exact Iff.rfl
  · rw [h, h0]
    show (4 = n ↔ 0 = n)
    omega
theorem tk_sh {g g' : Sr} (hr : Rel s g g') (hk : g.tk.k ≠ 0) : g'.tk.t = g.tk.t ∧ g'.tk.n = g.tk.n := by
  rcases hr with ⟨_, h, _⟩ | ⟨h0, _⟩
  · rw [h]; exact ⟨rfl, rfl⟩
  · exact absurd h0 hk
theorem prt_sh {C C' : P} (dC : Dn s C) (hC : Sim s C C') : ∀ f f' l g x g1 g', f ≤ f' → SrOk s g → prt s C f l g = .ok (x, g1) → Rel s g g' → Big (prt (wr s) C' f' l g') ∨ ∃ g1', Rel s g1 g1' ∧ prt (wr s) C' f' l g' = .ok (x, g1')
  | 0, f', l, g, x, g1, g', hf, hg, h, hr => by rw [prt] at h; cases h
  | f + 1, f', l, g, x, g1, g', hf, hg, h, hr => by
    cases f' with
    | zero => omega
    | succ f' =>
      rw [prt] at h ⊢
      rw [is_sh hr (by decide), is_sh hr (by decide)]
      split at h
      · next hi =>
        rw [if_pos hi]
        split at h
        · cases h
        · next g2 e1 =>
          have k2 := (adv_mu hg (is_k hi) e1).1
          rcases adv_is hg hr hi e1 with ⟨e, he, hb⟩ | ⟨g2', he, hr2⟩
          · simp only [he]; exact .inl ⟨e, rfl, .inr hb⟩
          simp only [he]
          split at h
          · next h3 =>
            rw [if_pos ((k_sh hr2 (.inr (.inr rfl))).2 h3)]
            split at h
            · cases h
            · next g3 e2 =>
              have k3 := (adv_mu k2 (by omega) e2).1
              rcases adv_num k2 hr2 (by omega) e2 with ⟨e, he, hb⟩ | ⟨g3', he, hr3⟩
              · simp only [he]; exact .inl ⟨e, rfl, .inr hb⟩
              simp only [he]
              rw [(tk_sh hr2 (by omega)).1]
              exact prt_sh dC hC f f' _ _ _ _ _ (by omega) k3 h hr3
          · cases h
      · next hi =>
        rw [if_neg hi]
        split at h
        · next hi2 =>
          rw [if_pos hi2]
          split at h
          · cases h
          · next y g2 e1 =>
            have k2 := (btw_dn dC _ _ _ _ _ hg e1).1
            rcases btw_sh dC hC _ _ _ _ _ hg e1 _ hr with ⟨e, he, hb⟩ | ⟨g2', hr2, he⟩
            · simp only [he]; exact .inl ⟨e, rfl, hb⟩
            simp only [he]
            exact prt_sh dC hC f f' _ _ _ _ _ (by omega) k2 h hr2
        · next hi2 =>
          rw [if_neg hi2]
          cases h
          exact .inr ⟨g', hr, rfl⟩
theorem nmd_sh {C C' : P} (dC : Dn s C) (hC : Sim s C C') (t : ByteArray) : Sim s (nmd s C t) (nmd (wr s) C' t) := by
  intro g x g1 hg h g' hr
  unfold nmd at h ⊢
  split at h
  · next ho => cases h; exact .inr ⟨g', hr, rfl⟩
  · next ho =>
    split at h
    · next c hc =>
      rw [is_sh hr (by decide)]
      split at h
      · next hi =>
        rw [if_pos hi]
        split at h
        · cases h
        · next y g2 e =>
          rcases btw_sh dC hC _ _ _ _ _ hg e _ hr with ⟨e, he, hb⟩ | ⟨g2', hr2, he⟩
          · simp only [he]; exact .inl ⟨e, rfl, hb⟩
          simp only [he]
          cases h
          exact .inr ⟨g2', hr2, rfl⟩
      · next hi => rw [if_neg hi]; cases h; exact .inr ⟨g', hr, rfl⟩
    · next hc => cases h; exact .inr ⟨g', hr, rfl⟩
theorem wor_sh {C C' : P} (dC : Dn s C) (hC : Sim s C C') : Sim s (wor s C) (wor (wr s) C') := by
  intro g x g1 hg h g' hr
  unfold wor at h ⊢
  split at h
  · next hk =>
    rw [if_pos ((k_sh hr (.inl rfl)).2 hk)]
    split at h
    · cases h
    · next g2 e =>
      rcases adv_num hg hr (by omega) e with ⟨e, he, hb⟩ | ⟨g2', he, hr2⟩
      · simp only [he]; exact .inl ⟨e, rfl, .inr hb⟩
      simp only [he]
      rw [(tk_sh hr (by omega)).2]
      cases h
      exact .inr ⟨g2', hr2, rfl⟩
  · next hk1 =>
    rw [if_neg (fun e => hk1 ((k_sh hr (.inl rfl)).1 e))]
    split at h
    · next hk =>
      rw [if_pos ((k_sh hr (.inr (.inl rfl))).2 hk)]
      split at h
      · cases h
      · next g2 e =>
        rcases adv_num hg hr (by omega) e with ⟨e, he, hb⟩ | ⟨g2', he, hr2⟩
        · simp only [he]; exact .inl ⟨e, rfl, .inr hb⟩
        simp only [he]
        rw [(tk_sh hr (by omega)).1]
        cases h
        exact .inr ⟨g2', hr2, rfl⟩
    · next hk2 =>
      rw [if_neg (fun e => hk2 ((k_sh hr (.inr (.inl rfl))).1 e))]
      split at h
      · next hk =>
        rw [if_pos ((k_sh hr (.inr (.inr rfl))).2 hk)]
        split at h
        · cases h
        · next g2 e =>
          have k2 := (adv_mu hg (by omega) e).1
          rcases adv_num hg hr (by omega) e with ⟨e, he, hb⟩ | ⟨g2', he, hr2⟩
          · simp only [he]; exact .inl ⟨e, rfl, .inr hb⟩
          simp only [he]
          rw [(tk_sh hr (by omega)).1]
          exact nmd_sh dC hC _ _ _ _ k2 h _ hr2
      · next hk3 =>
        rw [if_neg (fun e => hk3 ((k_sh hr (.inr (.inr rfl))).1 e))]
        exact btw_sh dC hC _ _ _ _ _ hg h _ hr
theorem par_sh {C C' : P} (dC : Dn s C) (hC : Sim s C C') : Sim s (par s C) (par (wr s) C') := by
  intro g x g1 hg h g' hr
  unfold par at h ⊢
  split at h
  · cases h
  · next y g2 e =>
    have k2 := (wor_dn dC _ _ _ hg e).1
    rcases wor_sh dC hC _ _ _ hg e _ hr with ⟨e, he, hb⟩ | ⟨g2', hr2, he⟩
    · simp only [he]; exact .inl ⟨e, rfl, hb⟩
    simp only [he]
    exact prt_sh dC hC _ _ _ _ _ _ _ (by rw [wr_size]; omega) k2 h hr2
theorem sgd_sh {S C S' C' : P} (dS : Dn s S) (dC : Dn s C) (hS : Sim s S S') (hC : Sim s C C') : Sim s (sgd s S C) (sgd (wr s) S' C') := by
  intro g x g1 hg h g' hr
  unfold sgd at h ⊢
  rw [is_sh hr (by decide), is_sh hr (by decide)]
  split at h
  · next hi =>
    rw [if_pos hi]
    split at h
    · cases h
    · next g2 e =>
      have k2 := (adv_mu hg (is_k hi) e).1
      rcases adv_is hg hr hi e with ⟨e, he, hb⟩ | ⟨g2', he, hr2⟩
      · simp only [he]; exact .inl ⟨e, rfl, .inr hb⟩
      simp only [he]
      split at h
      · cases h
      · next y g3 e2 =>
        rcases hS _ _ _ k2 e2 _ hr2 with ⟨e, he, hb⟩ | ⟨g3', hr3, he⟩
        · simp only [he]; exact .inl ⟨e, rfl, hb⟩
        simp only [he]
        cases h
        exact .inr ⟨g3', hr3, rfl⟩
  · next hi =>
    rw [if_neg hi]
    split at h
    · next hi =>
      rw [if_pos hi]
      split at h
      · cases h
      · next g2 e =>
        have k2 := (adv_mu hg (is_k hi) e).1
        rcases adv_is hg hr hi e with ⟨e, he, hb⟩ | ⟨g2', he, hr2⟩
        · simp only [he]; exact .inl ⟨e, rfl, .inr hb⟩
        simp only [he]
        split at h
        · cases h
        · next y g3 e2 =>
          rcases hS _ _ _ k2 e2 _ hr2 with ⟨e, he, hb⟩ | ⟨g3', hr3, he⟩
          · simp only [he]; exact .inl ⟨e, rfl, hb⟩
          simp only [he]
          cases h
          exact .inr ⟨g3', hr3, rfl⟩
    · next hi =>
      rw [if_neg hi]
      exact par_sh dC hC _ _ _ hg h _ hr
theorem ded_sh {g g' : Sr} (hr : Rel s g g') : ded g' = .error (1001, g'.tk.a) := by
  unfold ded
  rw [if_neg]
  rcases hr with ⟨h0, h, _⟩ | ⟨_, h, _⟩
  · rw [h]; exact h0
  · rw [h]; show ¬ (4 : Nat) = 0; decide
theorem sim_ded (q : P) : Sim s q ded := fun g x g1 _ _ g' hr => .inl ⟨_, ded_sh hr, .inl rfl⟩
theorem sim_ded2 (q : P) : Sim s q (chc (wr s) ded ded) := fun g x g1 _ _ g' hr => .inl (by
  unfold chc
  simp only [lev_err (ded_sh hr) 11]
  exact ⟨_, rfl, .inl rfl⟩)
theorem lv2_sh : ∀ m m', m' ≤ m → Sim s (lv2 s m).1 (lv2 (wr s) m').1 ∧ Sim s (lv2 s m).2 (lv2 (wr s) m').2
  | m, 0, _ => ⟨sim_ded _, sim_ded2 _⟩
  | 0, m' + 1, h => absurd h (by omega)
  | m + 1, m' + 1, h => by
    obtain ⟨h1, h2⟩ := lv2_sh m m' (by omega)
    obtain ⟨d1, d2⟩ := lv2_dn s m
    exact ⟨sgd_sh d1 d2 h1 h2, chc_sh (sgd_dn d1 d2) d2 (sgd_sh d1 d2 h1 h2) h2⟩
end
/-- Read again, in parentheses. -/
theorem wrapped {s : ByteArray} {x : Ex} (h : prs s = .ok x) : prs (wr s) = .ok x ∨ ∃ e, prs (wr s) = .error e ∧ big e := by
  unfold prs at h
  split at h
  · cases h
  · next g e1 =>
    have k1 := (adv_in (Nat.zero_le _) (by omega) e1).1
    split at h
    · cases h
    · next y g1 e2 =>
      have k2 := ((lv2_dn s 32).2 _ _ _ k1 e2).1
      split at h
      · next hend =>
        cases h
        have hst : St (wr s) 0 [32, 10, 40] := ⟨[], s.data.toList ++ [9, 41, 32], by unfold wr; simp, rfl⟩
        have t40 := EBo.one_tok (s := wr s) (c := 40) rfl hst.tail.tail
        have hadv : adv (wr s) 0 0 = .ok ⟨⟨4, ⟨#[40]⟩, 0, 2⟩, 3, 1⟩ := by
          rw [adv_blank hst rfl, adv_blank hst.tail rfl]
          rcases t40.adv 0 with e | ⟨_, e⟩
          · exfalso
            unfold adv at e
            rw [skp_stop (fun _ => t40.1), t40.2.1] at e
            simp at e
          · exact e
        have hfo : ∀ r, adv (wr s) (s.size + 5) r = .ok ⟨⟨0, ⟨#[]⟩, 0, (wr s).size⟩, (wr s).size, r⟩ := by
          intro r
          rw [adv_blank (t := []) wr_st.tail.tail rfl, show s.size + 3 + 1 + 1 + 1 = (wr s).size by rw [wr_size]]
          exact EBn.adv_end _ _
        obtain ⟨_, hC⟩ := lv2_sh (s := s) 32 31 (by omega)
        have hB : Big (btw (wr s) (lv2 (wr s) 31).2 [40] [41] ⟨⟨4, ⟨#[40]⟩, 0, 2⟩, 3, 1⟩) ∨ ∃ g', btw (wr s) (lv2 (wr s) 31).2 [40] [41] ⟨⟨4, ⟨#[40]⟩, 0, 2⟩, 3, 1⟩ = .ok (x, g') ∧ g'.tk.k = 0 := by
          unfold btw
          rw [show tak (wr s) [40] ⟨⟨4, ⟨#[40]⟩, 0, 2⟩, 3, 1⟩ = adv (wr s) (0 + 3) 1 from rfl]
          rcases adv_sh (r' := 1) (Nat.zero_le _) e1 with ⟨e, he, hb⟩ | ⟨g', he, hr⟩
          · simp only [he]; exact .inl ⟨e, rfl, .inr hb⟩
          simp only [he]
          rcases hC _ _ _ k1 e2 _ hr with ⟨e, he, hb⟩ | ⟨g1', hr1, he⟩
          · simp only [he]; exact .inl ⟨e, rfl, hb⟩
          simp only [he]
          have ht : tak (wr s) [41] g1' = adv (wr s) (s.size + 5) g1'.r := by
            rcases hr1 with ⟨h0, _⟩ | ⟨_, h, h2⟩
            · exact absurd hend h0
            · unfold tak
              rw [h, h2]
              rfl
          rw [ht, hfo]
          exact .inr ⟨_, rfl, rfl⟩
        have hnone : ∀ (g : Sr), g.tk.k = 0 → (∀ l, opOf g.tk l = none) ∧ ∀ y, is g.tk y = false := by
          intro g hg
          have hi : ∀ y, is g.tk y = false := fun y => by unfold is; rw [hg]; rfl
          refine ⟨fun l => ?_, hi⟩
          induction l with
          | nil => rfl
          | cons p l ih => obtain ⟨a, b⟩ := p; rw [opOf, hi, ih]; rfl
        have hpar : Big (EPure.par (wr s) (lv2 (wr s) 31).2 ⟨⟨4, ⟨#[40]⟩, 0, 2⟩, 3, 1⟩) ∨ ∃ g', EPure.par (wr s) (lv2 (wr s) 31).2 ⟨⟨4, ⟨#[40]⟩, 0, 2⟩, 3, 1⟩ = .ok (x, g') ∧ g'.tk.k = 0 := by
          unfold EPure.par
          rw [show wor (wr s) (lv2 (wr s) 31).2 ⟨⟨4, ⟨#[40]⟩, 0, 2⟩, 3, 1⟩ = btw (wr s) (lv2 (wr s) 31).2 [40] [41] ⟨⟨4, ⟨#[40]⟩, 0, 2⟩, 3, 1⟩ from rfl]
          rcases hB with ⟨e, he, hb⟩ | ⟨g', he, hg⟩
          · simp only [he]; exact .inl ⟨e, rfl, hb⟩
          simp only [he]
          rw [prt_ok (by omega) ((hnone g' hg).2 _) ((hnone g' hg).2 _)]
          exact .inr ⟨g', rfl, hg⟩
        have hlev : ∀ j, Big (lev (wr s) (lv2 (wr s) 32).1 j ⟨⟨4, ⟨#[40]⟩, 0, 2⟩, 3, 1⟩) ∨ ∃ g', lev (wr s) (lv2 (wr s) 32).1 j ⟨⟨4, ⟨#[40]⟩, 0, 2⟩, 3, 1⟩ = .ok (x, g') ∧ g'.tk.k = 0 := by
          intro j
          induction j with
          | zero =>
            show Big (sgd (wr s) (lv2 (wr s) 31).1 (lv2 (wr s) 31).2 ⟨⟨4, ⟨#[40]⟩, 0, 2⟩, 3, 1⟩) ∨ ∃ g', sgd (wr s) (lv2 (wr s) 31).1 (lv2 (wr s) 31).2 ⟨⟨4, ⟨#[40]⟩, 0, 2⟩, 3, 1⟩ = .ok (x, g') ∧ g'.tk.k = 0
            rw [show sgd (wr s) (lv2 (wr s) 31).1 (lv2 (wr s) 31).2 ⟨⟨4, ⟨#[40]⟩, 0, 2⟩, 3, 1⟩ = EPure.par (wr s) (lv2 (wr s) 31).2 ⟨⟨4, ⟨#[40]⟩, 0, 2⟩, 3, 1⟩ from rfl]
            exact hpar
          | succ j ih =>
            rw [lev]
            dsimp only
            rcases ih with ⟨e, he, hb⟩ | ⟨g', he, hg⟩
            · simp only [he]; exact .inl ⟨e, rfl, hb⟩
            simp only [he]
            rw [more_ok (by omega) ((hnone g' hg).1 _)]
            exact .inr ⟨g', rfl, hg⟩
        unfold prs
        rw [hadv]
        simp only
        rw [show (lv2 (wr s) 32).2 = chc (wr s) (lv2 (wr s) 32).1 (lv2 (wr s) 31).2 from rfl]
        unfold chc
        rcases hlev 11 with ⟨e, he, hb⟩ | ⟨g', he, hg⟩
        · simp only [he]; exact .inr ⟨e, rfl, hb⟩
        simp only [he]
        rw [if_neg (by rw [(hnone g' hg).2]; simp)]
        simp only
        rw [if_pos hg]
        exact .inl rfl
      · cases h
end Go.Proofs.YtnoohlmlpijhaaaDoor.EWr
namespace Go.Proofs.YtnoohlmlpijhaaaDoor.EEr
open Go.Proofs.YtnoohlmlpijhaaaDoor.UBase Go.Proofs.YtnoohlmlpijhaaaDoor.EPure Go.Proofs.YtnoohlmlpijhaaaDoor.EDn
set_option linter.unusedVariables false
/-- A fault's code and place. -/
def Fo' (s : ByteArray) (e : F) : Prop := 1000 ≤ e.1 ∧ e.2 ≤ s.size
section
variable {s : ByteArray}
theorem chr_err {i : Nat} {e : F} (hi : i ≤ s.size) (h : chr s i = .error e) : Fo' s e := by
  unfold chr at h
  split at h
  · cases h; exact ⟨by simp [], hi⟩
  · next hsz =>
    split at h
    · cases h; exact ⟨by simp [], hi⟩
    · split at h
      · split at h
        · cases h; exact ⟨by simp [], by simp only; omega⟩
        · split at h
          · cases h; exact ⟨by simp [], by simp only; omega⟩
          · cases h
      · split at h
        · cases h; exact ⟨by simp [], hi⟩
        · cases h
theorem txl_err : ∀ {f i : Nat} {B : List UInt8} {e : F}, i ≤ s.size → txl s f i B = .error e → Fo' s e
  | 0, i, B, e, hi, h => by rw [txl] at h; cases h; exact ⟨by simp [], hi⟩
  | f + 1, i, B, e, hi, h => by
    rw [txl] at h
    split at h
    · cases h; exact ⟨by simp [], hi⟩
    · split at h
      · cases h
      · cases hc : chr s i with
        | error x => rw [hc] at h; cases h; exact chr_err hi hc
        | ok y =>
          obtain ⟨x, m⟩ := y
          rw [hc] at h
          dsimp only at h
          exact txl_err (chr_in hc).2.1 h
theorem sgn_err {i : Nat} {e : F} : ∀ {L : List (List UInt8)}, sgn s i L = .error e → 1000 ≤ e.1 ∧ e.2 = i
  | [], h => by rw [sgn] at h; cases h; exact ⟨by simp [], rfl⟩
  | x :: L, h => by
    rw [sgn] at h
    split at h
    · cases h
    · exact sgn_err h
theorem scan_err {i : Nat} {e : F} (hi : i ≤ s.size) (h : scan s i = .error e) : Fo' s e := by
  unfold scan at h
  split at h
  · cases h
  · next hsz =>
    split at h
    · split at h
      · next hx => cases h; exact txl_err (by omega) hx
      · split at h
        · cases h; exact ⟨by simp [], hi⟩
        · cases h
    · split at h
      · cases h
      · split at h
        · split at h
          · cases h
          · cases h; exact ⟨by simp [], hi⟩
        · split at h
          · split at h
            · cases h
            · cases h; exact ⟨by simp [], hi⟩
          · split at h
            · next hx => cases h; exact ⟨(sgn_err hx).1, by rw [(sgn_err hx).2]; exact hi⟩
            · cases h
theorem adv_err {a r : Nat} {e : F} (ha : a ≤ s.size) (h : adv s a r = .error e) : Fo' s e := by
  unfold adv at h
  split at h
  · next hx => cases h; exact scan_err (skp_in ha) hx
  · next hx =>
    split at h
    · cases h
    · split at h
      · cases h
        exact ⟨by simp [], (scan_in (skp_in ha) hx).2.1.ha⟩
      · cases h
theorem tak_err {x : List UInt8} {g : Sr} {e : F} (hg : SrOk s g) (h : tak s x g = .error e) : Fo' s e := by
  unfold tak at h
  split at h
  · exact adv_err hg.a h
  · cases h; exact ⟨by simp [ends], hg.t.ha⟩
/-- Such a reader's faults lie in the text. -/
def Ep (s : ByteArray) (q : P) : Prop := ∀ g e, SrOk s g → q g = .error e → Fo' s e
theorem ded_e : Ep s ded := by
  intro g e hg h
  unfold ded at h
  split at h <;> (cases h; exact ⟨by simp [], hg.t.ha⟩)
theorem more_e {k : Nat} {q : P} (hd : Dn s q) (hq : Ep s q) : ∀ f l g e, SrOk s g → more s k q f l g = .error e → Fo' s e
  | 0, l, g, e, hg, h => by rw [more] at h; cases h; exact ⟨by simp [ends], hg.t.ha⟩
  | f + 1, l, g, e, hg, h => by
    rw [more] at h
    split at h
    · cases h
    · next ho =>
      split at h
      · next e1 => cases h; exact adv_err hg.a e1
      · next e1 =>
        have h1 := (adv_mu hg (opOf_k ho) e1).1
        split at h
        · next e2 => cases h; exact hq _ _ h1 e2
        · next e2 => exact more_e hd hq f _ _ _ (hd _ _ _ h1 e2).1 h
theorem lev_e {q : P} (hd : Dn s q) (hq : Ep s q) : ∀ j, Ep s (lev s q j)
  | 0 => hq
  | j + 1 => by
    intro g e hg h
    rw [lev] at h
    dsimp only at h
    split at h
    · next e1 => cases h; exact lev_e hd hq j _ _ hg e1
    · next e1 => exact more_e (lev_dn hd j) (lev_e hd hq j) _ _ _ _ (lev_dn hd j _ _ _ hg e1).1 h
theorem chc_e {S C : P} (dS : Dn s S) (dC : Dn s C) (hS : Ep s S) (hC : Ep s C) : Ep s (chc s S C) := by
  intro g e hg h
  unfold chc at h
  split at h
  · next e1 => cases h; exact lev_e dS hS 11 _ _ hg e1
  · next e1 =>
    have h1 := (lev_dn dS 11 _ _ _ hg e1).1
    split at h
    · next hi =>
      split at h
      · next e2 => cases h; exact adv_err h1.a e2
      · next e2 =>
        have h2 := (adv_mu h1 (is_k hi) e2).1
        split at h
        · next e3 => cases h; exact hC _ _ h2 e3
        · next e3 =>
          have h3 := (dC _ _ _ h2 e3).1
          split at h
          · next e4 => cases h; exact tak_err h3 e4
          · next e4 =>
            have h4 := (tak_mu h3 e4).1
            split at h
            · next e5 => cases h; exact hC _ _ h4 e5
            · cases h
    · cases h
theorem btw_e {C : P} (dC : Dn s C) (hC : Ep s C) (o c : List UInt8) : Ep s (btw s C o c) := by
  intro g e hg h
  unfold btw at h
  split at h
  · next e1 => cases h; exact tak_err hg e1
  · next e1 =>
    have h1 := (tak_mu hg e1).1
    split at h
    · next e2 => cases h; exact hC _ _ h1 e2
    · next e2 =>
      have h2 := (dC _ _ _ h1 e2).1
      split at h
      · next e3 => cases h; exact tak_err h2 e3
      · cases h
theorem prt_e {C : P} (dC : Dn s C) (hC : Ep s C) : ∀ f l g e, SrOk s g → prt s C f l g = .error e → Fo' s e
  | 0, l, g, e, hg, h => by rw [prt] at h; cases h; exact ⟨by simp [ends], hg.t.ha⟩
  | f + 1, l, g, e, hg, h => by
    rw [prt] at h
    split at h
    · next hi =>
      split at h
      · next e1 => cases h; exact adv_err hg.a e1
      · next e1 =>
        have h1 := (adv_mu hg (is_k hi) e1).1
        split at h
        · next h3 =>
          split at h
          · next e2 => cases h; exact adv_err h1.a e2
          · next e2 => exact prt_e dC hC f _ _ _ (adv_mu h1 (by omega) e2).1 h
        · cases h; exact ⟨by simp [ends], h1.t.ha⟩
    · split at h
      · split at h
        · next e1 => cases h; exact btw_e dC hC _ _ _ _ hg e1
        · next e1 => exact prt_e dC hC f _ _ _ (btw_dn dC _ _ _ _ _ hg e1).1 h
      · cases h
theorem nmd_e {C : P} (dC : Dn s C) (hC : Ep s C) (t : ByteArray) : Ep s (nmd s C t) := by
  intro g e hg h
  unfold nmd at h
  split at h
  · cases h
  · split at h
    · split at h
      · split at h
        · next e1 => cases h; exact btw_e dC hC _ _ _ _ hg e1
        · cases h
      · cases h
    · cases h
theorem wor_e {C : P} (dC : Dn s C) (hC : Ep s C) : Ep s (wor s C) := by
  intro g e hg h
  unfold wor at h
  split at h
  · split at h
    · next e1 => cases h; exact adv_err hg.a e1
    · cases h
  · split at h
    · split at h
      · next e1 => cases h; exact adv_err hg.a e1
      · cases h
    · split at h
      · split at h
        · next e1 => cases h; exact adv_err hg.a e1
        · next e1 => exact nmd_e dC hC _ _ _ (adv_mu hg (by omega) e1).1 h
      · exact btw_e dC hC _ _ _ _ hg h
theorem par_e {C : P} (dC : Dn s C) (hC : Ep s C) : Ep s (par s C) := by
  intro g e hg h
  unfold par at h
  split at h
  · next e1 => cases h; exact wor_e dC hC _ _ hg e1
  · next e1 => exact prt_e dC hC _ _ _ _ (wor_dn dC _ _ _ hg e1).1 h
theorem sgd_e {S C : P} (dS : Dn s S) (dC : Dn s C) (hS : Ep s S) (hC : Ep s C) : Ep s (sgd s S C) := by
  intro g e hg h
  unfold sgd at h
  split at h
  · next hi =>
    split at h
    · next e1 => cases h; exact adv_err hg.a e1
    · next e1 =>
      split at h
      · next e2 => cases h; exact hS _ _ (adv_mu hg (is_k hi) e1).1 e2
      · cases h
  · split at h
    · next hi =>
      split at h
      · next e1 => cases h; exact adv_err hg.a e1
      · next e1 =>
        split at h
        · next e2 => cases h; exact hS _ _ (adv_mu hg (is_k hi) e1).1 e2
        · cases h
    · exact par_e dC hC _ _ hg h
theorem lv2_e (s : ByteArray) : ∀ m, Ep s (lv2 s m).1 ∧ Ep s (lv2 s m).2
  | 0 => ⟨ded_e, chc_e (ded_dn s) (ded_dn s) ded_e ded_e⟩
  | m + 1 => by
    obtain ⟨d1, d2⟩ := lv2_dn s m
    obtain ⟨e1, e2⟩ := lv2_e s m
    exact ⟨sgd_e d1 d2 e1 e2, chc_e (sgd_dn d1 d2) d2 (sgd_e d1 d2 e1 e2) e2⟩
theorem prs_err {e : F} (h : prs s = .error e) : Fo' s e := by
  unfold prs at h
  split at h
  · next e1 => cases h; exact adv_err (Nat.zero_le _) e1
  · next e1 =>
    have h1 := (adv_in (Nat.zero_le _) (by omega) e1).1
    split at h
    · next e2 => cases h; exact (lv2_e s 32).2 _ _ h1 e2
    · next e2 =>
      split at h
      · cases h
      · cases h; exact ⟨by simp [ends], ((lv2_dn s 32).2 _ _ _ h1 e2).1.t.ha⟩
end
end Go.Proofs.YtnoohlmlpijhaaaDoor.EEr
namespace Go.Proofs.YtnoohlmlpijhaaaDoor.WFormsX
open Go.RowKit Go.Proofs.YtnoohlmlpijhaaaDoor.EPure Go.Proofs.YtnoohlmlpijhaaaDoor.EPs Go.Proofs.YtnoohlmlpijhaaaDoor.EAw Go.Proofs.YtnoohlmlpijhaaaDoor.XSm Go.Proofs.YtnoohlmlpijhaaaDoor.EWr
open Go.Proofs.YtnoohlmlpijhaaaDoor.XBase (four_box two_box frozen_box Rg)
open Go.Proofs.YtnoohlmlpijhaaaDoor.Base (All heap_alloc_new)
open Go.Proofs.YtnoohlmlpijhaaaDoor.PPr (pr)
open Go.Proofs.YtnoohlmlpijhaaaDoor.PMay (mayL)
set_option linter.unusedVariables false
theorem wr_eq (s : ByteArray) : (⟨#[32, 10, 40]⟩ : ByteArray) ++ s ++ ⟨#[9, 41, 32]⟩ = wr s := by
  apply ByteArray.ext
  apply Array.toList_inj.1
  simp [wr]
/-- An expression that Parse has handed out, in its box. -/
structure Bo (w : World) (B : Nat) (x : Ex) (m : Nat) (a : Option Addr) (c : Nat) : Prop where
  box : w.heap[B]? = some (.cells #[.int .i64 x.o, .int .i64 x.i, .string x.s, .slice a x.l.length c] 24 (0, 0))
  lt : B < w.heap.size
  inn : XBase.In false (fun b => b < w.heap.size) w m (.agg #[.int .i64 x.o, .int .i64 x.i, .string x.s, .slice a x.l.length c]) x
theorem Bo.later {w w' : World} {B m c : Nat} {x : Ex} {a : Option Addr} (h : Bo w B x m a c) (hb : Below w.heap.size w w') : Bo w' B x m a c :=
  ⟨(hb.block B h.lt).trans h.box, Nat.lt_of_lt_of_le h.lt hb.size, (h.inn.below hb).weak (fun b hb' => Nat.lt_of_lt_of_le hb' hb.size) false id m (Nat.le_refl _)⟩
theorem Bo.mk' {w w' : World} {m c lo : Nat} {x : Ex} {a : Option Addr} (hin : XBase.In false (Rg lo w.heap.size) w m (.agg #[.int .i64 x.o, .int .i64 x.i, .string x.s, .slice a x.l.length c]) x)
    (hW : w.alloc (.cells #[.int .i64 x.o, .int .i64 x.i, .string x.s, .slice a x.l.length c] 24) = w') : Bo w' w.heap.size x m a c ∧ Below w.heap.size w w' := by
  have d : Below w.heap.size w w' := by rw [← hW]; exact (Below.refl _ w).alloc (Nat.le_refl _) _
  refine ⟨⟨by rw [← hW]; exact heap_alloc_new w _, by rw [← hW]; simp, (hin.below d).weak (fun b hb => Nat.lt_of_lt_of_le hb.2 d.size) false id m (Nat.le_refl _)⟩, d⟩
/-- What the three readings come to. -/
theorem facts {s : ByteArray} {x : Ex} (hp : prs s = .ok x) : (PPp.ptx x = pr (-1) x ∧ PPp.pcd x = 0 ∧ (pr (-1) x).length ≤ 100000000000) ∧ (prs ⟨(pr (-1) x).toArray⟩ = .ok x ∨ ∃ c p, prs ⟨(pr (-1) x).toArray⟩ = .error (c, p) ∧ (c = 1001 ∨ c = 1002)) ∧ (prs (wr s) = .ok x ∨ ∃ c p, prs (wr s) = .error (c, p) ∧ (c = 1001 ∨ c = 1002)) := by
  obtain ⟨h1, h2, h3⟩ := EGd.prs_good hp
  refine ⟨⟨by unfold PPp.ptx; rw [if_pos h1], by unfold PPp.pcd; rw [if_pos h1], PLen.pr_len h3 h1⟩, ?_, ?_⟩
  · rcases EBn.back h2 h3 with h | ⟨⟨c, p⟩, h, hb⟩
    · exact .inl h
    · exact .inr ⟨c, p, h, hb⟩
  · rcases wrapped hp with h | ⟨⟨c, p⟩, h, hb⟩
    · exact .inl h
    · exact .inr ⟨c, p, h, hb⟩
/-- Nothing, as Parse hands it out beside a fault. -/
def nx : Ex := .mk 0 0 ⟨#[]⟩ []
theorem may_nx : (mayL [nx] 512).1 = false := by
  unfold nx
  rw [PMay.mayL_no (.inr (.inl (by decide)))]
/-- What Parse hands out, in one form: the expression or nothing, its code. -/
def Pany (w : World) (e : Ending) (w' : World) (y : Ex) (c p : Nat) : Prop := Below w.heap.size w w' ∧ ∃ m a k, e = .returned (.tuple #[.agg #[.int .i64 y.o, .int .i64 y.i, .string y.s, .slice a y.l.length k], .int .i64 p, .int .i64 c]) ∧ XBase.In false (Rg w.heap.size w'.heap.size) w' m (.agg #[.int .i64 y.o, .int .i64 y.i, .string y.s, .slice a y.l.length k]) y
theorem in_nx (w : World) (S : Nat → Prop) : XBase.In false S w 1 (.agg #[.int .i64 nx.o, .int .i64 nx.i, .string nx.s, .slice none nx.l.length 0]) nx := by
  unfold nx
  rw [XBase.In]
  exact ⟨none, 0, rfl, by omega, by omega, by decide, by simp, by omega, by simp, fun _ => rfl, .inl ⟨rfl, rfl⟩⟩
theorem any_of {t : ByteArray} {x : Ex} (h : prs t = .ok x ∨ ∃ c p, prs t = .error (c, p) ∧ (c = 1001 ∨ c = 1002)) : ∃ y c p, ((c = 0 ∧ y = x) ∨ ((c = 1001 ∨ c = 1002) ∧ y = nx)) ∧ ∀ w e w', Pout w e w' (prs t) → Pany w e w' y c p := by
  rcases h with h | ⟨c, p, h, hc⟩
  · refine ⟨x, 0, 0, .inl ⟨rfl, rfl⟩, fun w e w' ho => ?_⟩
    rw [h] at ho
    obtain ⟨b, m, a, k, rfl, hin⟩ := ho
    exact ⟨b, m, a, k, rfl, hin⟩
  · refine ⟨nx, c, p, .inr ⟨hc, rfl⟩, fun w e w' ho => ?_⟩
    rw [h] at ho
    obtain ⟨b, rfl⟩ := ho
    exact ⟨b, 1, none, 0, rfl, in_nx _ _⟩
set_option maxRecDepth 20000 in
set_option maxHeartbeats 6400000 in
theorem walk {w : World} (s : ByteArray) (hs : s.size ≤ 140737488351232) (ht : TX w) : Calls Tryd.prog 4 #[.string s] w fun e w' => e = .returned (.bool true) ∧ Below w.heap.size w w' := by
  have HT : Hid (TX w) := ht
  have c0 := awake_c ht
  have HZ : Hid (s.size ≤ 140737488351232) := hs
  clear ht
  go_enter Tryd.func4, Tryd.ntmps4
  go_wp2_with fail
  refine c0.mono ?_
  rintro e W1 ⟨rfl, b1⟩
  have HB1 : Hid (Below w.heap.size w W1) := b1
  have c1 := parse_x (s := s) (by omega) (HT.out.later b1)
  clear b1 c0
  cases hp : prs s with
  | error f =>
    obtain ⟨c, p⟩ := f
    obtain ⟨hc0, hpl⟩ := EEr.prs_err hp
    rw [hp] at c1
    clear hp
    have hc0' : ((c : Int) != 0) = true := by simp only [bne_iff_ne, ne_eq]; simp only at hc0; omega
    simp only at hpl
    go_wp2_with fail
    refine c1.mono ?_
    rintro e W2 ⟨b2, rfl⟩
    have HB2 : Hid (Below w.heap.size w W2) := HB1.out.trans (b2.mono HB1.out.size)
    clear b2 c1 hc0
    go_wp2_with (first | (go_at_call 10; refine (num_c _ _).mono ?_; rintro e w' ⟨rfl, hw'⟩; subst w'))
    all_goals first | (exfalso; omega) | skip
    go_ret
    exact ⟨rfl, HB2.out.alloc HB2.out.size _⟩
  | ok x =>
    obtain ⟨⟨f1, f2, f3⟩, f4, f5⟩ := facts hp
    obtain ⟨T, hT⟩ : ∃ T, pr (-1) x = T := ⟨_, rfl⟩
    rw [hT] at f1 f3 f4
    obtain ⟨yg, cg, pg, hg, ag⟩ := any_of f4
    obtain ⟨yi, ci, pi, hi, ai⟩ := any_of f5
    have HG : Hid (∀ W, TX W → Calls Tryd.prog 11 #[.string ⟨T.toArray⟩] W fun e w' => Pany W e w' yg cg pg) := fun W hW => (parse_x (by show T.toArray.size ≤ _; simp; omega) hW).mono fun e w' => ag W e w'
    have HI : Hid (∀ W, TX W → Calls Tryd.prog 11 #[.string (⟨#[32, 10, 40]⟩ ++ s ++ ⟨#[9, 41, 32]⟩)] W fun e w' => Pany W e w' yi ci pi) := fun W hW => by
      rw [wr_eq]
      exact (parse_x (by rw [wr_size]; omega) hW).mono fun e w' => ai W e w'
    have HC : Hid (((cg = 0 ∧ yg = x) ∨ ((cg = 1001 ∨ cg = 1002) ∧ yg = nx)) ∧ ((ci = 0 ∧ yi = x) ∨ ((ci = 1001 ∨ ci = 1002) ∧ yi = nx))) := ⟨hg, hi⟩
    rw [hp] at c1
    have HF : Hid (PPp.ptx x = T ∧ PPp.pcd x = 0) := ⟨f1, f2⟩
    clear hp hT f3 f4 f5 ag ai hg hi
    go_wp2_with fail
    refine c1.mono ?_
    rintro e W2 ⟨b2, m2, a2, k2, rfl, in2⟩
    obtain ⟨W3, hW3⟩ : ∃ W3, W2.alloc (.cells #[.int .i64 x.o, .int .i64 x.i, .string x.s, .slice a2 x.l.length k2] 24) = W3 := ⟨_, rfl⟩
    obtain ⟨o3, d3⟩ := Bo.mk' in2 hW3
    have hb3 : Below w.heap.size w W3 := HB1.out.trans ((b2.trans (d3.mono b2.size)).mono HB1.out.size)
    have cP := print_x o3.inn (HT.out.later hb3)
    rw [f1, f2] at cP
    obtain ⟨y0, y1, y2, y3⟩ := four_box o3.box
    have HB3 : Hid (Below w.heap.size w W3) := hb3
    have O3 : Hid (Bo W3 W2.heap.size x m2 a2 k2) := o3
    clear b2 in2 d3 hb3 c1 o3 f1 f2
    go_wp2_with (first | (go_at_call 10; refine (num_c _ _).mono ?_; rintro e w' ⟨rfl, hw'⟩; subst w'))
    clear hW3
    refine cP.mono ?_
    rintro e W4 ⟨rfl, b4⟩
    have hb4 : Below w.heap.size w W4 := HB3.out.trans (b4.mono HB3.out.size)
    have O4 : Hid (Bo W4 W2.heap.size x m2 a2 k2) := O3.out.later b4
    have HB4 : Hid (Below w.heap.size w W4) := hb4
    have cG := HG.out W4 (HT.out.later hb4)
    clear y0 y1 y2 y3 cP b4 hb4 O3 HG
    go_wp2_with fail
    refine cG.mono ?_
    rintro e W5 ⟨b5, m5, a5, k5, rfl, in5⟩
    obtain ⟨W6, hW6⟩ : ∃ W6, W5.alloc (.cells #[.int .i64 yg.o, .int .i64 yg.i, .string yg.s, .slice a5 yg.l.length k5] 24) = W6 := ⟨_, rfl⟩
    obtain ⟨o6, d6⟩ := Bo.mk' in5 hW6
    have e6 := b5.trans (d6.mono b5.size)
    have hb6 : Below w.heap.size w W6 := HB4.out.trans (e6.mono HB4.out.size)
    have O6 : Hid (Bo W6 W2.heap.size x m2 a2 k2) := O4.out.later e6
    have P6 : Hid (Bo W6 W5.heap.size yg m5 a5 k5) := o6
    have cQ := print_x o6.inn (HT.out.later hb6)
    obtain ⟨T2, hT2⟩ : ∃ T2, PPp.ptx yg = T2 := ⟨_, rfl⟩
    obtain ⟨h2, hh2⟩ : ∃ h2, PPp.pcd yg = h2 := ⟨_, rfl⟩
    have HT2 : Hid (PPp.ptx yg = T2 ∧ PPp.pcd yg = h2) := ⟨hT2, hh2⟩
    rw [hT2, hh2] at cQ
    obtain ⟨y0, y1, y2, y3⟩ := four_box o6.box
    have HB6 : Hid (Below w.heap.size w W6) := hb6
    clear b5 in5 d6 e6 hb6 cG o6 O4 hT2 hh2
    go_wp2_with fail
    clear hW6
    refine cQ.mono ?_
    rintro e W7 ⟨rfl, b7⟩
    have hb7 : Below w.heap.size w W7 := HB6.out.trans (b7.mono HB6.out.size)
    have O7 : Hid (Bo W7 W2.heap.size x m2 a2 k2) := O6.out.later b7
    have P7 : Hid (Bo W7 W5.heap.size yg m5 a5 k5) := P6.out.later b7
    have HB7 : Hid (Below w.heap.size w W7) := hb7
    have cI := HI.out W7 (HT.out.later hb7)
    clear y0 y1 y2 y3 cQ b7 hb7 O6 P6 HI
    have hz := HZ.out
    go_wp2_with fail
    all_goals first | (exfalso; omega) | skip
    refine cI.mono ?_
    rintro e W8 ⟨b8, m8, a8, k8, rfl, in8⟩
    obtain ⟨W9, hW9⟩ : ∃ W9, W8.alloc (.cells #[.int .i64 yi.o, .int .i64 yi.i, .string yi.s, .slice a8 yi.l.length k8] 24) = W9 := ⟨_, rfl⟩
    obtain ⟨o9, d9⟩ := Bo.mk' in8 hW9
    have e9 := b8.trans (d9.mono b8.size)
    have HB9 : Hid (Below w.heap.size w W9) := HB7.out.trans (e9.mono HB7.out.size)
    have O9 : Hid (Bo W9 W2.heap.size x m2 a2 k2) := O7.out.later e9
    have P9 : Hid (Bo W9 W5.heap.size yg m5 a5 k5) := P7.out.later e9
    have R9 : Hid (Bo W9 W8.heap.size yi m8 a8 k8) := o9
    obtain ⟨y0, y1, y2, y3⟩ := four_box O9.out.box
    obtain ⟨z0, z1, z2, z3⟩ := four_box P9.out.box
    obtain ⟨v0, v1, v2, v3⟩ := four_box R9.out.box
    clear b8 in8 d9 e9 o9 cI O7 P7
    obtain ⟨hg, hi⟩ := HC.out
    rcases hg with ⟨rfl, rfl⟩ | ⟨rfl | rfl, rfl⟩
    · rcases hi with ⟨rfl, rfl⟩ | ⟨rfl | rfl, rfl⟩
      · obtain ⟨rfl, rfl⟩ : T = T2 ∧ h2 = 0 := ⟨HF.out.1.symm.trans HT2.out.1, HT2.out.2.symm.trans HF.out.2⟩
        have cE := same_c O9.out.inn P9.out.inn
        rw [WLeans.smL_refl _ [_] (Nat.le_refl _)] at cE
        go_wp2_with (first | (go_at_call 10; refine (num_c _ _).mono ?_; rintro e w' ⟨rfl, hw'⟩; subst w') | (go_at_call 12; refine cF.mono ?_; rintro e W11 ⟨rfl, b11⟩) | (go_at_call 12; refine cE.mono ?_; rintro e W10 ⟨rfl, b10⟩; clear y0 y1 y2 y3 v0 v1 v2 v3; obtain ⟨y0, y1, y2, y3⟩ := four_box (O9.out.later b10).box; obtain ⟨v0, v1, v2, v3⟩ := four_box (R9.out.later b10).box; have cF := same_c (O9.out.later b10).inn (R9.out.later b10).inn; rw [WLeans.smL_refl _ [yi] (Nat.le_refl _)] at cF))
        go_ret
        exact ⟨rfl, HB9.out.trans ((b10.trans (b11.mono b10.size)).mono HB9.out.size)⟩
      · obtain ⟨rfl, rfl⟩ : T = T2 ∧ h2 = 0 := ⟨HF.out.1.symm.trans HT2.out.1, HT2.out.2.symm.trans HF.out.2⟩
        have cE := same_c O9.out.inn P9.out.inn
        rw [WLeans.smL_refl _ [_] (Nat.le_refl _)] at cE
        go_wp2_with (first | (go_at_call 10; refine (num_c _ _).mono ?_; rintro e w' ⟨rfl, hw'⟩; subst w') | (go_at_call 12; refine cE.mono ?_; rintro e W10 ⟨rfl, b10⟩; clear y0 y1 y2 y3 v0 v1 v2 v3; obtain ⟨y0, y1, y2, y3⟩ := four_box (O9.out.later b10).box; obtain ⟨v0, v1, v2, v3⟩ := four_box (R9.out.later b10).box))
        go_ret
        exact ⟨rfl, HB9.out.trans (b10.mono HB9.out.size)⟩
      · obtain ⟨rfl, rfl⟩ : T = T2 ∧ h2 = 0 := ⟨HF.out.1.symm.trans HT2.out.1, HT2.out.2.symm.trans HF.out.2⟩
        have cE := same_c O9.out.inn P9.out.inn
        rw [WLeans.smL_refl _ [_] (Nat.le_refl _)] at cE
        go_wp2_with (first | (go_at_call 10; refine (num_c _ _).mono ?_; rintro e w' ⟨rfl, hw'⟩; subst w') | (go_at_call 12; refine cE.mono ?_; rintro e W10 ⟨rfl, b10⟩; clear y0 y1 y2 y3 v0 v1 v2 v3; obtain ⟨y0, y1, y2, y3⟩ := four_box (O9.out.later b10).box; obtain ⟨v0, v1, v2, v3⟩ := four_box (R9.out.later b10).box))
        go_ret
        exact ⟨rfl, HB9.out.trans (b10.mono HB9.out.size)⟩
    · rcases hi with ⟨rfl, rfl⟩ | ⟨rfl | rfl, rfl⟩
      · have cF := same_c O9.out.inn R9.out.inn
        rw [WLeans.smL_refl _ [_] (Nat.le_refl _)] at cF
        go_wp2_with (first | (go_at_call 10; refine (num_c _ _).mono ?_; rintro e w' ⟨rfl, hw'⟩; subst w') | (go_at_call 12; refine cF.mono ?_; rintro e W11 ⟨rfl, b11⟩))
        go_ret
        exact ⟨rfl, HB9.out.trans (b11.mono HB9.out.size)⟩
      · go_wp2_with (first | (go_at_call 10; refine (num_c _ _).mono ?_; rintro e w' ⟨rfl, hw'⟩; subst w'))
        go_ret
        exact ⟨rfl, HB9.out⟩
      · go_wp2_with (first | (go_at_call 10; refine (num_c _ _).mono ?_; rintro e w' ⟨rfl, hw'⟩; subst w'))
        go_ret
        exact ⟨rfl, HB9.out⟩
    · rcases hi with ⟨rfl, rfl⟩ | ⟨rfl | rfl, rfl⟩
      · have cF := same_c O9.out.inn R9.out.inn
        rw [WLeans.smL_refl _ [_] (Nat.le_refl _)] at cF
        go_wp2_with (first | (go_at_call 10; refine (num_c _ _).mono ?_; rintro e w' ⟨rfl, hw'⟩; subst w') | (go_at_call 12; refine cF.mono ?_; rintro e W11 ⟨rfl, b11⟩))
        go_ret
        exact ⟨rfl, HB9.out.trans (b11.mono HB9.out.size)⟩
      · go_wp2_with (first | (go_at_call 10; refine (num_c _ _).mono ?_; rintro e w' ⟨rfl, hw'⟩; subst w'))
        go_ret
        exact ⟨rfl, HB9.out⟩
      · go_wp2_with (first | (go_at_call 10; refine (num_c _ _).mono ?_; rintro e w' ⟨rfl, hw'⟩; subst w'))
        go_ret
        exact ⟨rfl, HB9.out⟩
end Go.Proofs.YtnoohlmlpijhaaaDoor.WFormsX

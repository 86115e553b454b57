import Derived.Test.YtofpdnhnlkocoaaDoorPX28
namespace Go.Proofs.YtofpdnhnlkocoaaDoor.EGd
open Go.Proofs.YtofpdnhnlkocoaaDoor.UBase Go.Proofs.YtofpdnhnlkocoaaDoor.EPure Go.Proofs.YtofpdnhnlkocoaaDoor.EDn Go.Proofs.YtofpdnhnlkocoaaDoor.EBs Go.Proofs.YtofpdnhnlkocoaaDoor.EBx Go.Proofs.YtofpdnhnlkocoaaDoor.PPl Go.Proofs.YtofpdnhnlkocoaaDoor.PFit Go.Proofs.YtofpdnhnlkocoaaDoor.PMay Go.Proofs.YtofpdnhnlkocoaaDoor.ENd Go.Proofs.YtofpdnhnlkocoaaDoor.ERg
open Go.Proofs.YtofpdnhnlkocoaaDoor.PPr (gd gdL gdL_cons)
set_option linter.unusedVariables false
theorem bad_join {s t : ByteArray} : ∀ (k i : Nat), s.size - i ≤ k → i ≤ s.size → bad s i = none → bad t 0 = none → bad (s ++ t) i = none := by
  have key : ∀ (k j : Nat), t.size - j ≤ k → bad t j = none → bad (s ++ t) (s.size + j) = none := by
    intro k
    induction k with
    | zero => intro j hj _; exact bad_end (by simp; omega)
    | succ k ih =>
      intro j hj hb
      by_cases hlt : j < t.size
      · have hl : len t j ≠ 0 := fun e => by rw [bad_here hlt e] at hb; cases hb
        have hin := len_in hlt
        have hag := len_same (s := s ++ t) (t := t) (j := s.size + j) (p := j) hl (fun m hm => by rw [Nat.add_assoc]; exact at_append_right s t (j + m))
        rw [bad_step hlt hl] at hb
        rw [bad_step (by simp; omega) (by rw [hag]; exact hl), hag, Nat.add_assoc]
        exact ih _ (by omega) hb
      · exact bad_end (by simp; omega)
  intro k
  induction k with
  | zero =>
    intro i hi hle hs ht
    have : i = s.size := by omega
    subst this
    exact key _ 0 (Nat.le_refl _) ht
  | succ k ih =>
    intro i hi hle hs ht
    by_cases hlt : i < s.size
    · have hl : len s i ≠ 0 := fun e => by rw [bad_here hlt e] at hs; cases hs
      have hin := len_in hlt
      have hag := len_same (s := s ++ t) (t := s) (j := i) (p := i) hl (fun m hm => at_append_left s t _ (by omega))
      rw [bad_step hlt hl] at hs
      rw [bad_step (by simp; omega) (by rw [hag]; exact hl), hag]
      exact ih _ (by omega) (by omega) hs ht
    · have : i = s.size := by omega
      subst this
      exact key _ 0 (Nat.le_refl _) ht
theorem mk_size (L : List UInt8) : (⟨L.toArray⟩ : ByteArray).size = L.length := by show L.toArray.size = _; simp
theorem bad_one (L : List UInt8) (h : len ⟨L.toArray⟩ 0 = L.length) (hne : L ≠ []) : bad ⟨L.toArray⟩ 0 = none := by
  have hs := mk_size L
  have hp := List.length_pos_iff.2 hne
  rw [bad_step (by omega) (by omega), h]
  exact bad_end (by omega)
theorem app_list (A M : List UInt8) : (⟨(A ++ M).toArray⟩ : ByteArray) = ⟨A.toArray⟩ ++ ⟨M.toArray⟩ := by
  apply ByteArray.ext
  rw [ByteArray.data_append]
  simp
/-- No byte below 32 but LF. -/
def Wl (L : List UInt8) : Prop := ∀ c ∈ L, 32 ≤ c.toNat ∨ c.toNat = 10
theorem chr_good {s : ByteArray} {i j : Nat} {x : List UInt8} (h : chr s i = .ok (x, j)) : bad ⟨x.toArray⟩ 0 = none ∧ Wl x := by
  unfold chr at h
  split at h
  · cases h
  · next hsz =>
    split at h
    · cases h
    · next h32 =>
      split at h
      · split at h
        · cases h
        · split at h
          · cases h
          · next c hc =>
            cases h
            unfold esc at hc
            have hc' : c = 39 ∨ c = 92 ∨ c = 125 ∨ c = 10 := by
              repeat' split at hc
              all_goals first
                | (injection hc with hc; omega)
                | (cases hc)
            rcases hc' with rfl | rfl | rfl | rfl
            all_goals exact ⟨bad_one _ (by decide) (by simp), fun d hd => by simp at hd; subst hd; decide⟩
      · split at h
        · cases h
        · next hl =>
          cases h
          have hlt : i < s.size := by omega
          have hin := len_in hlt
          have hlen : ((s.data.toList.drop i).take (len s i)).length = len s i := by rw [List.length_take, List.length_drop, sz]; omega
          have hat : ∀ k, k < len s i → at' ⟨((s.data.toList.drop i).take (len s i)).toArray⟩ (0 + k) = at' s (i + k) := by
            intro k hk
            have hst : St ⟨((s.data.toList.drop i).take (len s i)).toArray⟩ 0 ((s.data.toList.drop i).take (len s i)) := ⟨[], [], by simp, rfl⟩
            rw [EBx.St.nth hst (by rw [hlen]; exact hk), nth_at s hk hin, ofNat_at]
          have hls := len_same (s := ⟨((s.data.toList.drop i).take (len s i)).toArray⟩) (t := s) (j := 0) (p := i) hl hat
          refine ⟨bad_one _ (by rw [hls, hlen]) (fun e => by rw [e] at hlen; simp at hlen; omega), fun d hd => ?_⟩
          obtain ⟨k, hk, rfl⟩ := List.mem_iff_getElem.1 hd
          rw [hlen] at hk
          rw [nth_at s hk hin, ofNat_at]
          left
          have tt (x : Nat) (hx : tl s x = true) : 128 ≤ at' s x := ((tl_iff s x).1 hx).1
          rcases len_parts s i with e | ⟨e, _⟩ | ⟨e, _, q1⟩ | ⟨e, _, q1, q2⟩ | ⟨e, _, q1, q2, q3⟩
          · exact absurd e hl
          · obtain rfl : k = 0 := by omega
            simp; omega
          · match k, hk with
            | 0, _ => simp; omega
            | 1, _ => have := tt _ q1; omega
            | k + 2, h => omega
          · match k, hk with
            | 0, _ => simp; omega
            | 1, _ => have := tt _ q1; omega
            | 2, _ => have := tt _ q2; omega
            | k + 3, h => omega
          · match k, hk with
            | 0, _ => simp; omega
            | 1, _ => have := tt _ q1; omega
            | 2, _ => have := tt _ q2; omega
            | 3, _ => have := tt _ q3; omega
            | k + 4, h => omega
theorem txl_good {s : ByteArray} : ∀ (f i j : Nat) (B L : List UInt8), bad ⟨B.toArray⟩ 0 = none → Wl B → txl s f i B = .ok (L, j) → bad ⟨L.toArray⟩ 0 = none ∧ Wl L
  | 0, i, j, B, L, _, _, hn => by rw [txl] at hn; cases hn
  | f + 1, i, j, B, L, hB, hW, hn => by
    rw [txl] at hn
    split at hn
    · cases hn
    · split at hn
      · cases hn; exact ⟨hB, hW⟩
      · cases hc : chr s i with
        | error x => rw [hc] at hn; cases hn
        | ok y =>
          obtain ⟨x, m⟩ := y
          rw [hc] at hn
          dsimp only at hn
          obtain ⟨c1, c2⟩ := chr_good hc
          refine txl_good f m j _ L ?_ ?_ hn
          · rw [app_list]
            exact bad_join _ 0 (Nat.le_refl _) (Nat.zero_le _) hB c1
          · intro d hd
            rcases List.mem_append.1 hd with h | h
            · exact hW d h
            · exact c2 d h
theorem tx_of {L : List UInt8} (h1 : bad ⟨L.toArray⟩ 0 = none) (h2 : L.length ≤ 4096) (h3 : Wl L) : tx ⟨L.toArray⟩ = true := by
  have hs := mk_size L
  unfold tx tg verr wrt
  rw [if_pos h1]
  simp only [hs, h2, decide_true, Bool.true_and, beq_self_eq_true, decide_eq_true_eq]
  intro k hk
  have hst : St ⟨L.toArray⟩ 0 L := ⟨[], [], by simp, rfl⟩
  have := EBx.St.nth hst (k := k) hk
  rw [Nat.zero_add] at this
  rw [this]
  exact h3 _ (List.getElem_mem _)
theorem sk_all {p : Nat → Bool} {s : ByteArray} : ∀ f i k, i ≤ k → k < sk p s f i → p (at' s k) = true
  | 0, i, k, h1, h2 => by rw [sk] at h2; omega
  | f + 1, i, k, h1, h2 => by
    rw [sk] at h2
    split at h2
    · next hc =>
      by_cases e : k = i
      · rw [e]; exact hc.2
      · exact sk_all f (i + 1) k (by omega) h2
    · omega
theorem at_cut {s : ByteArray} {i j k : Nat} (hj : j ≤ s.size) (hk : k < j - i) : at' (cut s i j) k = at' s (i + k) := by
  have hs := cut_size s i j hj
  rw [at_get _ k (by omega), at_get s (i + k) (by omega)]
  unfold cut
  simp [ByteArray.getElem_extract]
theorem scan_ok {s : ByteArray} {i j : Nat} {t : Tk} (hi : i ≤ s.size) (h : scan s i = .ok (t, j)) : (t.k = 1 → 0 ≤ t.n) ∧ (t.k = 2 → tx t.t = true) ∧ (t.k = 3 → word t.t 95 = true) := by
  unfold scan at h
  split at h
  · cases h; exact ⟨fun h => (by cases h), fun h => (by cases h), fun h => (by cases h)⟩
  · next hsz =>
    split at h
    · split at h
      · cases h
      · next l m hx =>
        split at h
        · cases h
        · next hl =>
          cases h
          obtain ⟨c1, c2⟩ := txl_good _ _ _ [] l (bad_end (by decide)) (fun d hd => (by cases hd)) hx
          exact ⟨fun h => (by cases h), fun _ => tx_of c1 (by omega) c2, fun h => (by cases h)⟩
    · split at h
      · cases h; exact ⟨fun _ => Int.le_refl 0, fun h => (by cases h), fun h => (by cases h)⟩
      · split at h
        · next hd =>
          split at h
          · next hp =>
            cases h
            refine ⟨fun _ => ?_, fun h => (by cases h), fun h => (by cases h)⟩
            have hip := Nums.itoa_parse _ hp
            simp only
            rcases Int.lt_or_le (Nums.pnum (Sums.bs (cut s i (skp EPure.dig s i)))) 0 with hn | hn
            · exfalso
              have hin := skp_in (p := EPure.dig) (s := s) hi
              have hlt : i < skp EPure.dig s i := skp_lt (by omega) hd
              have hz := cut_size s i (skp EPure.dig s i) hin
              have ha := at_cut (s := s) (i := i) (j := skp EPure.dig s i) (k := 0) hin (by omega)
              rw [Nat.add_zero, at_drop, List.drop_zero] at ha
              generalize Nums.pnum (Sums.bs (cut s i (skp EPure.dig s i))) = n at *
              unfold Lib.itoa at hip
              rw [if_pos hn] at hip
              have hb : (cut s i (skp EPure.dig s i)).data.toList = 45 :: Lib.decDigits n.natAbs := hip.symm
              rw [hb] at ha
              simp only [List.headD_cons] at ha
              rw [← ha] at hd
              revert hd; decide
            · exact hn
          · cases h
        · split at h
          · next hle =>
            split at h
            · next h32 =>
              cases h
              refine ⟨fun h => (by cases h), fun h => (by cases h), fun _ => ?_⟩
              have hin := skp_in (p := wrd) (s := s) hi
              have hw0 : wrd (at' s i) = true := by unfold wrd; rw [hle]; rfl
              have hlt : i < skp wrd s i := skp_lt (by omega) hw0
              have hz := cut_size s i (skp wrd s i) hin
              unfold word
              simp only [Bool.and_eq_true, decide_eq_true_eq]
              refine ⟨by omega, by omega, ?_, fun k hk => ?_⟩
              · rw [at_cut hin (by omega), Nat.add_zero]
                simpa [UBase.let', EPure.let'] using hle
              · rw [hz] at hk
                rw [at_cut hin hk]
                have := sk_all (p := wrd) (s := s) (s.size - i) i (i + k) (by omega) (by show _ < skp wrd s i; omega)
                unfold sign
                unfold wrd at this
                simpa [UBase.let', UBase.dig, EPure.let', EPure.dig] using this
            · cases h
          · split at h
            · cases h
            · cases h; exact ⟨fun h => (by cases h), fun h => (by cases h), fun h => (by cases h)⟩
/-- How many nodes. -/
def nn : List Ex → Nat
  | [] => 0
  | .mk _ _ _ l :: t => 1 + nn l + nn t
theorem nn_nil : nn [] = 0 := by rw [nn]
theorem nn_cons (x : Ex) (t : List Ex) : nn (x :: t) = 1 + nn x.l + nn t := by
  obtain ⟨o, i, s, l⟩ := x
  rw [nn]; rfl
theorem nn_cons1 (x : Ex) (t : List Ex) : nn (x :: t) = nn [x] + nn t := by rw [nn_cons, nn_cons x [], nn_nil]; omega
theorem may_of : ∀ (n : Nat) (l : List Ex) (r : Nat), SizeOf.sizeOf l ≤ n → gdL l → nn l ≤ r → mayL l r = (true, r - nn l) := by
  intro n
  induction n with
  | zero =>
    intro l r h _ _
    cases l with
    | nil => rw [mayL_nil, nn_nil]; rfl
    | cons x t => exact absurd h (by simp)
  | succ n ih =>
    intro l r h hg hr
    cases l with
    | nil => rw [mayL_nil, nn_nil]; rfl
    | cons x t =>
      obtain ⟨o, i, s, k⟩ := x
      obtain ⟨⟨g1, g2, g3⟩, g4⟩ := gdL_cons.1 hg
      rw [nn_cons] at hr ⊢
      simp only [Ex.l] at hr g1 g3 ⊢
      have g1' : (k.length : Int) = kd o := g1
      have g2' : ft o i s = true := g2
      have hno : ¬ (r = 0 ∨ (k.length : Int) ≠ kd o ∨ ft o i s = false) := by
        rintro (h | h | h)
        · omega
        · exact h g1'
        · rw [g2'] at h; cases h
      rw [mayL, if_neg hno]
      rw [ih k (r - 1) (by simp at h; omega) g3 (by omega)]
      simp only
      rw [ih t _ (by simp at h; omega) g4 (by omega)]
      congr 1
      omega
/-- A tree that may be, its Ints ints. -/
def GX (x : Ex) : Prop := gdL [x] ∧ rgL [x]
theorem gx_nil : gdL [] ∧ rgL [] := ⟨by rw [gdL]; trivial, by rw [rgL]; trivial⟩
theorem gx_cons {x : Ex} {t : List Ex} (h : GX x) (ht : gdL t ∧ rgL t) : gdL (x :: t) ∧ rgL (x :: t) :=
  ⟨gdL_cons.2 ⟨(gdL_cons.1 h.1).1, ht.1⟩, rgL_cons.2 ⟨(rgL_cons.1 h.2).1, (rgL_cons.1 h.2).2.1, ht.2⟩⟩
theorem gx_mk {o i : Int} {s : ByteArray} {l : List Ex} (h1 : (l.length : Int) = kd o) (h2 : ft o i s = true) (h3 : -9223372036854775808 ≤ i ∧ i ≤ 9223372036854775807) (h4 : gdL l ∧ rgL l) : GX (.mk o i s l) :=
  ⟨gdL_cons.2 ⟨⟨h1, h2, h4.1⟩, gx_nil.1⟩, rgL_cons.2 ⟨h3, h4.2, gx_nil.2⟩⟩
theorem zero_in : -9223372036854775808 ≤ (0 : Int) ∧ (0 : Int) ≤ 9223372036854775807 := by omega
/-- What stands next may be; how many tokens have been passed. -/
structure Kk (s : ByteArray) (g : Sr) : Prop where
  sr : SrOk s g
  t1 : g.tk.k = 1 → 0 ≤ g.tk.n
  t2 : g.tk.k = 2 → tx g.tk.t = true
  t3 : g.tk.k = 3 → word g.tk.t 95 = true
  pos : g.tk.k ≠ 0 → 1 ≤ g.r
def cn (g : Sr) : Nat := if g.tk.k = 0 then g.r else g.r - 1
theorem adv_k0 {s : ByteArray} {a r : Nat} {g : Sr} (ha : a ≤ s.size) (hr : r ≤ 512) (h : adv s a r = .ok g) : Kk s g ∧ cn g = r := by
  have h1 := (adv_in ha hr h).1
  unfold adv at h
  split at h
  · cases h
  · next t j e =>
    obtain ⟨o1, o2, o3⟩ := scan_ok (skp_in ha) e
    split at h
    · next hk =>
      cases h
      exact ⟨⟨h1, o1, o2, o3, fun h => absurd hk h⟩, by unfold cn; rw [if_pos hk]⟩
    · next hk =>
      split at h
      · cases h
      · cases h
        exact ⟨⟨h1, o1, o2, o3, fun _ => by simp⟩, by unfold cn; rw [if_neg hk]; simp⟩
theorem adv_k {s : ByteArray} {g g' : Sr} (hg : Kk s g) (hk : g.tk.k ≠ 0) (h : adv s g.a g.r = .ok g') : Kk s g' ∧ cn g' = cn g + 1 := by
  obtain ⟨h1, h2⟩ := adv_k0 hg.sr.a hg.sr.r h
  refine ⟨h1, ?_⟩
  rw [h2]
  unfold cn
  rw [if_neg hk]
  have := hg.pos hk
  omega
theorem cn_le {s : ByteArray} {g : Sr} (h : Kk s g) : cn g ≤ 512 := by
  have := h.sr.r
  unfold cn
  split <;> omega
theorem tak_k {s : ByteArray} {x : List UInt8} {g g' : Sr} (hg : Kk s g) (h : tak s x g = .ok g') : Kk s g' ∧ cn g' = cn g + 1 := by
  unfold tak at h
  split at h
  · next hi => exact adv_k hg (is_k hi) h
  · cases h
/-- What such a reader reads may be, and has no more nodes than tokens were passed. -/
def Gp (s : ByteArray) (q : P) : Prop := ∀ g x g', Kk s g → q g = .ok (x, g') → Kk s g' ∧ GX x ∧ nn [x] + cn g ≤ cn g'
theorem nn_mk (o i : Int) (s : ByteArray) (l : List Ex) : nn [.mk o i s l] = 1 + nn l := by rw [nn_cons, nn_nil]; rfl
theorem nn_nd (o : Int) (l : List Ex) : nn [nd o l] = 1 + nn l := nn_mk o 0 ⟨#[]⟩ l
theorem lvs_range : ∀ k, k < 11 → ∀ p ∈ lvs.getD k [], 12 ≤ p.2 ∧ p.2 ≤ 30 := by decide
theorem opOf_mem {t : Tk} {o : Int} : ∀ {l : List (List UInt8 × Int)}, opOf t l = some o → ∃ p ∈ l, p.2 = o
  | [], h => by rw [opOf] at h; cases h
  | (x, y) :: l, h => by
    rw [opOf] at h
    split at h
    · injection h with h; exact ⟨(x, y), by simp, h⟩
    · obtain ⟨p, hp, e⟩ := opOf_mem h
      exact ⟨p, by simp [hp], e⟩
theorem op_range {t : Tk} {o : Int} {k : Nat} (h : opOf t (lvs.getD k []) = some o) : 12 ≤ o ∧ o ≤ 30 := by
  obtain ⟨p, hp, rfl⟩ := opOf_mem h
  rcases Nat.lt_or_ge k 11 with hk | hk
  · exact lvs_range k hk p hp
  · rw [show lvs.getD k [] = [] by simp [List.getD, List.getElem?_eq_none (show lvs.length ≤ k from hk)]] at hp
    cases hp
theorem ft_nd {o : Int} (h : o ≠ 4 ∧ o ≠ 5 ∧ o ≠ 6 ∧ o ≠ 7 ∧ o ≠ 9) : ft o 0 ⟨#[]⟩ = true := by
  unfold ft
  rw [if_neg h.1, if_neg h.2.1, if_neg h.2.2.1, if_neg h.2.2.2.1, if_neg h.2.2.2.2]
  rfl
theorem gx_op {o : Int} (h1 : 12 ≤ o) (h2 : o ≤ 30) {a b : Ex} (ha : GX a) (hb : GX b) : GX (nd o [a, b]) :=
  gx_mk (by unfold kd; rw [if_neg (by omega), if_neg (by omega), if_pos (by omega)]; rfl) (ft_nd (by omega)) zero_in (gx_cons ha (gx_cons hb gx_nil))
theorem ded_g (s : ByteArray) : Gp s ded := by
  intro g x g' hg h
  unfold ded at h
  split at h <;> cases h
theorem more_g {s : ByteArray} {k : Nat} {q : P} (hq : Gp s q) : ∀ f l g x g' c0, Kk s g → GX l → nn [l] + c0 ≤ cn g → more s k q f l g = .ok (x, g') → Kk s g' ∧ GX x ∧ nn [x] + c0 ≤ cn g'
  | 0, l, g, x, g', c0, hg, hl, hc, h => by rw [more] at h; cases h
  | f + 1, l, g, x, g', c0, hg, hl, hc, h => by
    rw [more] at h
    split at h
    · cases h; exact ⟨hg, hl, hc⟩
    · next ho =>
      split at h
      · cases h
      · next e1 =>
        obtain ⟨h1, m1⟩ := adv_k hg (opOf_k ho) e1
        split at h
        · cases h
        · next e2 =>
          obtain ⟨h2, g2, m2⟩ := hq _ _ _ h1 e2
          have hr := op_range ho
          exact more_g hq f _ _ _ _ c0 h2 (gx_op hr.1 hr.2 hl g2) (by rw [nn_nd, nn_cons1]; omega) h
theorem lev_g {s : ByteArray} {q : P} (hq : Gp s q) : ∀ j, Gp s (lev s q j)
  | 0 => hq
  | j + 1 => by
    intro g x g' hg h
    rw [lev] at h
    dsimp only at h
    split at h
    · cases h
    · next e =>
      obtain ⟨h1, g1, m1⟩ := lev_g hq j _ _ _ hg e
      exact more_g (lev_g hq j) _ _ _ _ _ (cn g) h1 g1 m1 h
theorem chc_g {s : ByteArray} {S C : P} (hS : Gp s S) (hC : Gp s C) : Gp s (chc s S C) := by
  intro g x g' hg h
  unfold chc at h
  split at h
  · cases h
  · next e =>
    obtain ⟨h1, g1, m1⟩ := lev_g hS 11 _ _ _ hg e
    split at h
    · next hi =>
      split at h
      · cases h
      · next e2 =>
        obtain ⟨h2, m2⟩ := adv_k h1 (is_k hi) e2
        split at h
        · cases h
        · next e3 =>
          obtain ⟨h3, g3, m3⟩ := hC _ _ _ h2 e3
          split at h
          · cases h
          · next e4 =>
            obtain ⟨h4, m4⟩ := tak_k h3 e4
            split at h
            · cases h
            · next e5 =>
              obtain ⟨h5, g5, m5⟩ := hC _ _ _ h4 e5
              cases h
              exact ⟨h5, gx_mk (by rfl) (ft_nd (by decide)) zero_in (gx_cons g1 (gx_cons g3 (gx_cons g5 gx_nil))), by rw [nn_nd, nn_cons1, nn_cons1 _ [_]]; omega⟩
    · cases h
      exact ⟨h1, g1, m1⟩
theorem btw_g {s : ByteArray} {C : P} (hC : Gp s C) (o c : List UInt8) : ∀ g x g', Kk s g → btw s C o c g = .ok (x, g') → Kk s g' ∧ GX x ∧ nn [x] + cn g + 2 ≤ cn g' := by
  intro g x g' hg h
  unfold btw at h
  split at h
  · cases h
  · next e1 =>
    obtain ⟨h1, m1⟩ := tak_k hg e1
    split at h
    · cases h
    · next e2 =>
      obtain ⟨h2, g2, m2⟩ := hC _ _ _ h1 e2
      split at h
      · cases h
      · next e3 =>
        obtain ⟨h3, m3⟩ := tak_k h2 e3
        cases h
        exact ⟨h3, g2, by omega⟩
theorem ft_field {t : ByteArray} (h : word t 95 = true) : ft 7 0 t = true := by
  show ((0 : Int) == 0 && word t 95) = true
  rw [h]; rfl
theorem prt_g {s : ByteArray} {C : P} (hC : Gp s C) : ∀ f l g x g' c0, Kk s g → GX l → nn [l] + c0 ≤ cn g → prt s C f l g = .ok (x, g') → Kk s g' ∧ GX x ∧ nn [x] + c0 ≤ cn g'
  | 0, l, g, x, g', c0, hg, hl, hc, h => by rw [prt] at h; cases h
  | f + 1, l, g, x, g', c0, hg, hl, hc, h => by
    rw [prt] at h
    split at h
    · next hi =>
      split at h
      · cases h
      · next e1 =>
        obtain ⟨h1, m1⟩ := adv_k hg (is_k hi) e1
        split at h
        · next h3 =>
          split at h
          · cases h
          · next e2 =>
            obtain ⟨h2, m2⟩ := adv_k h1 (by omega) e2
            exact prt_g hC f _ _ _ _ c0 h2 (gx_mk (by rfl) (ft_field (h1.t3 h3)) zero_in (gx_cons hl gx_nil)) (by rw [nn_mk]; omega) h
        · cases h
    · split at h
      · split at h
        · cases h
        · next e1 =>
          obtain ⟨h1, g1, m1⟩ := btw_g hC _ _ _ _ _ hg e1
          exact prt_g hC f _ _ _ _ c0 h1 (show GX (nd 8 [_, _]) from gx_mk (by rfl) (ft_nd (by decide)) zero_in (gx_cons hl (gx_cons g1 gx_nil))) (by rw [nn_nd, nn_cons1]; omega) h
      · cases h
        exact ⟨hg, hl, hc⟩
theorem ft_var {t : ByteArray} (h : word t 95 = true) (hn : wordOp t.data.toList = none) : ft 6 0 t = true := by
  show ((0 : Int) == 0 && (word t 95 && !(Lib.containsS wdl t))) = true
  rw [h]
  have hc : Lib.containsS wdl t = false := by
    cases hc : Lib.containsS wdl t with
    | false => rfl
    | true =>
      exfalso
      have hm := (Lib.containsS_iff wdl t).1 hc
      unfold wdl at hm
      simp only [List.mem_cons, List.not_mem_nil, or_false] at hm
      rcases hm with rfl | rfl | rfl | rfl
      · revert h; decide
      · revert hn; decide
      · revert hn; decide
      · revert hn; decide
  rw [hc]; rfl
theorem word_range {x : List UInt8} {o : Int} (h : wordOp x = some o) : o = 1 ∨ o = 2 ∨ o = 3 := by
  unfold wordOp at h
  repeat' split at h
  all_goals first
    | (injection h with h; omega)
    | (cases h)
theorem call_range {x : List UInt8} {c : Int} (h : callOf x = some c) : 1 ≤ c ∧ c ≤ 8 := by
  unfold callOf at h
  repeat' split at h
  all_goals first
    | (injection h with h; omega)
    | (cases h)
theorem nmd_g {s : ByteArray} {C : P} (hC : Gp s C) {t : ByteArray} (ht : word t 95 = true) : ∀ g x g' c0, Kk s g → c0 + 1 ≤ cn g → nmd s C t g = .ok (x, g') → Kk s g' ∧ GX x ∧ nn [x] + c0 ≤ cn g' := by
  intro g x g' c0 hg hc h
  unfold nmd at h
  split at h
  · next ho =>
    cases h
    have hr := word_range ho
    refine ⟨hg, gx_mk (by unfold kd; rw [if_pos (by omega)]; rfl) (ft_nd (by omega)) zero_in gx_nil, by rw [nn_nd, nn_nil]; omega⟩
  · next hn =>
    have hv : GX (.mk 6 0 t []) := gx_mk (by decide) (ft_var ht hn) zero_in gx_nil
    split at h
    · next hcl =>
      split at h
      · split at h
        · cases h
        · next e =>
          obtain ⟨h1, g1, m1⟩ := btw_g hC _ _ _ _ _ hg e
          cases h
          have hr := call_range hcl
          refine ⟨h1, gx_mk (by rfl) ?_ (by omega) (gx_cons g1 gx_nil), by rw [nn_mk]; omega⟩
          unfold ft
          simp [hr.1, hr.2]
          rfl
      · cases h; exact ⟨hg, hv, by rw [nn_mk, nn_nil]; omega⟩
    · cases h; exact ⟨hg, hv, by rw [nn_mk, nn_nil]; omega⟩
theorem wor_g {s : ByteArray} {C : P} (hC : Gp s C) : Gp s (wor s C) := by
  intro g x g' hg h
  unfold wor at h
  split at h
  · next hk =>
    split at h
    · cases h
    · next e =>
      obtain ⟨h1, m1⟩ := adv_k hg (by omega) e
      cases h
      have hn := hg.sr.t.hn
      have h0 := hg.t1 hk
      refine ⟨h1, gx_mk (by decide) ?_ hn gx_nil, by rw [nn_mk, nn_nil]; omega⟩
      unfold ft
      simp [h0]
      rfl
  · split at h
    · next hk =>
      split at h
      · cases h
      · next e =>
        obtain ⟨h1, m1⟩ := adv_k hg (by omega) e
        cases h
        refine ⟨h1, gx_mk (by decide) ?_ zero_in gx_nil, by rw [nn_mk, nn_nil]; omega⟩
        show ((0 : Int) == 0 && tx g.tk.t) = true
        rw [hg.t2 hk]; rfl
    · split at h
      · next hk =>
        split at h
        · cases h
        · next e =>
          obtain ⟨h1, m1⟩ := adv_k hg (by omega) e
          exact nmd_g hC (hg.t3 hk) _ _ _ (cn g) h1 (by omega) h
      · obtain ⟨h1, g1, m1⟩ := btw_g hC _ _ _ _ _ hg h
        exact ⟨h1, g1, by omega⟩
theorem par_g {s : ByteArray} {C : P} (hC : Gp s C) : Gp s (par s C) := by
  intro g x g' hg h
  unfold par at h
  split at h
  · cases h
  · next e =>
    obtain ⟨h1, g1, m1⟩ := wor_g hC _ _ _ hg e
    exact prt_g hC _ _ _ _ _ (cn g) h1 g1 m1 h
theorem sgd_g {s : ByteArray} {S C : P} (hS : Gp s S) (hC : Gp s C) : Gp s (sgd s S C) := by
  intro g x g' hg h
  unfold sgd at h
  split at h
  · next hi =>
    split at h
    · cases h
    · next e =>
      obtain ⟨h1, m1⟩ := adv_k hg (is_k hi) e
      split at h
      · cases h
      · next e2 =>
        obtain ⟨h2, g2, m2⟩ := hS _ _ _ h1 e2
        cases h
        exact ⟨h2, gx_mk (by rfl) (ft_nd (by decide)) zero_in (gx_cons g2 gx_nil), by rw [nn_nd]; omega⟩
  · split at h
    · next hi =>
      split at h
      · cases h
      · next e =>
        obtain ⟨h1, m1⟩ := adv_k hg (is_k hi) e
        split at h
        · cases h
        · next e2 =>
          obtain ⟨h2, g2, m2⟩ := hS _ _ _ h1 e2
          cases h
          exact ⟨h2, gx_mk (by rfl) (ft_nd (by decide)) zero_in (gx_cons g2 gx_nil), by rw [nn_nd]; omega⟩
    · exact par_g hC _ _ _ hg h
theorem lv2_g (s : ByteArray) : ∀ m, Gp s (lv2 s m).1 ∧ Gp s (lv2 s m).2
  | 0 => ⟨ded_g s, chc_g (ded_g s) (ded_g s)⟩
  | m + 1 => ⟨sgd_g (lv2_g s m).1 (lv2_g s m).2, chc_g (sgd_g (lv2_g s m).1 (lv2_g s m).2) (lv2_g s m).2⟩
/-- What is read may be. -/
theorem prs_good {s : ByteArray} {x : Ex} (h : prs s = .ok x) : (mayL [x] 512).1 = true ∧ gd x ∧ rgL [x] := by
  unfold prs at h
  split at h
  · cases h
  · next e1 =>
    obtain ⟨h1, c1⟩ := adv_k0 (Nat.zero_le _) (by omega) e1
    split at h
    · cases h
    · next e2 =>
      obtain ⟨h2, g2, m2⟩ := (lv2_g s 32).2 _ _ _ h1 e2
      split at h
      · cases h
        have hc := cn_le h2
        refine ⟨by rw [may_of _ [x] 512 (Nat.le_refl _) g2.1 (by omega)], (gdL_cons.1 g2.1).1, g2.2⟩
      · cases h
end Go.Proofs.YtofpdnhnlkocoaaDoor.EGd

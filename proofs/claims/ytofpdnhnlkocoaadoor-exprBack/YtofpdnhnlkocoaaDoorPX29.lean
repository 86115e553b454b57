import Derived.Deep.RegionWith
import Derived.Test.YtofpdnhnlkocoaaDoorPX04
import Derived.Test.YtofpdnhnlkocoaaDoorPX13
namespace Go.Proofs.YtofpdnhnlkocoaaDoor.XSm
open Go.RowKit Go.Proofs.YtofpdnhnlkocoaaDoor.EPure Go.Proofs.YtofpdnhnlkocoaaDoor.XBase
open Go.Proofs.YtofpdnhnlkocoaaDoor.Base (nx All heap_alloc_new)
set_option linter.unusedVariables false
/-- One by one the same. -/
def smL : List Ex → List Ex → Bool
  | [], [] => true
  | [], _ :: _ => false
  | _ :: _, [] => false
  | .mk o i s l :: t, .mk o' i' s' l' :: t' => ((o == o') && ((i == i') && ((s.toList == s'.toList) && smL l l'))) && smL t t'
theorem smL_nil : smL [] [] = true := by rw [smL]
theorem smL_one (o i : Int) (s : ByteArray) (l : List Ex) (o' i' : Int) (s' : ByteArray) (l' : List Ex) : smL [.mk o i s l] [.mk o' i' s' l'] = ((o == o') && ((i == i') && ((s.toList == s'.toList) && smL l l'))) := by
  rw [smL, smL_nil, Bool.and_true]
theorem smL_cons (x y : Ex) (t t' : List Ex) : smL (x :: t) (y :: t') = (smL [x] [y] && smL t t') := by
  obtain ⟨o, i, s, l⟩ := x
  obtain ⟨o', i', s', l'⟩ := y
  rw [smL_one, smL]
theorem smL_len : ∀ (t t' : List Ex), t.length ≠ t'.length → smL t t' = false
  | [], [], h => absurd rfl h
  | [], _ :: _, _ => by rw [smL]
  | _ :: _, [], _ => by rw [smL]
  | x :: t, y :: t', h => by rw [smL_cons, smL_len t t' (by simpa using h), Bool.and_false]
def SI (m : Nat) : Prop := ∀ (u v : Value) (x y : Ex) (w : World), In false All w m u x → In false All w m v y →
    Calls Tryd.prog 12 #[u, v] w fun e w' => e = .returned (.bool (smL [x] [y])) ∧ Below w.heap.size w w'
def SLI (m : Nat) : Prop := ∀ (u v : Value) (l l' : List Ex) (w : World), InL false All w m u l → InL false All w m v l' →
    Calls Tryd.prog 18 #[u, v] w fun e w' => e = .returned (.bool (smL l l')) ∧ Below w.heap.size w w'
set_option maxRecDepth 20000 in
set_option maxHeartbeats 1600000 in
theorem sames_of (m : Nat) (hm : SI m) : SLI m := by
  intro u v l l' w hu hv
  obtain ⟨a, cap, rfl, hlc, hcm, hlen, hnil, hN⟩ := hu
  obtain ⟨a', cap', rfl, hlc', hcm', hlen', hnil', hN'⟩ := hv
  by_cases hll : l.length = l'.length
  · obtain ⟨T, hT⟩ : ∃ T, smL l l' = T := ⟨_, rfl⟩
    rw [hT]
    have HT : Hid (smL (l.drop 0) (l'.drop 0) = T) := hT
    have en : (((l.length : Nat) : Int) != ((l'.length : Nat) : Int)) = false := by simp; omega
    have HLL : Hid (l.length = l'.length) := hll
    clear hT hll
    go_enter Tryd.func18, Tryd.ntmps18
    go_wp2_with fail
    go_loopw [5] (fun i wr => ∃ q : Nat, q ≤ l.length ∧ i = .int .i64 q ∧ Below w.heap.size w wr ∧ smL (l.drop q) (l'.drop q) = T) (fun i _ => l.length - (intOf i).toNat)
    case atStart => exact ⟨0, by omega, rfl, Below.refl _ _, HT.out⟩
    case round =>
      clear HT
      obtain ⟨q, hq, rfl, hb, hT⟩ := hrel
      have HT : Hid (smL (l.drop q) (l'.drop q) = T) := hT
      clear hT
      by_cases hlt : q < l.length
      · have hlt2 : q < l'.length := by have := HLL.out; omega
        obtain ⟨g, o, x, rfl, -, hx, hin⟩ := elem_at hN hlt
        obtain ⟨g', o', y, rfl, -, hy, hin'⟩ := elem_at hN' hlt2
        have hd := (Below.refl wr.heap.size wr).drew
        have c31 := hm x y l[q] l'[q] wr.drew ((hin.below hb).below hd) ((hin'.below hb).below hd)
        have HS : Hid (smL (l.drop q) (l'.drop q) = (smL [l[q]] [l'[q]] && smL (l.drop (q + 1)) (l'.drop (q + 1)))) := by
          show _ = _
          rw [List.drop_eq_getElem_cons hlt, List.drop_eq_getElem_cons hlt2, smL_cons]
        obtain ⟨z, hz⟩ : ∃ z, smL [l[q]] [l'[q]] = z := ⟨_, rfl⟩
        rw [hz] at c31 HS
        have hx := four_below hx hb
        have hy := four_below hy hb
        obtain ⟨x0, x1, x2, x3, rfl, d0, d1, d2, d3⟩ := hx
        obtain ⟨y0, y1, y2, y3, rfl, e0, e1, e2, e3⟩ := hy
        clear hN hN' hin hin' hm hz
        cases z with
        | true =>
          have HT2 : Hid (smL (l.drop (q + 1)) (l'.drop (q + 1)) = T) := by
            show _ = _
            rw [← HT.out, HS.out, Bool.true_and]
          go_wp2_with fail
          go_region_with (go_at_call 12; refine c31.mono ?_; rintro e w1 ⟨rfl, b1⟩)
          all_goals go_wp2_with fail
          all_goals go_roundw
          all_goals first
            | (case rel => exact ⟨q + 1, by omega, by go_num, hb.drew.trans (b1.mono hb.size), HT2.out⟩)
            | (case measure => simp only [intOf]; omega)
        | false =>
          have hT2 : false = T := by rw [← HT.out, HS.out, Bool.false_and]
          subst hT2
          go_wp2_with fail
          go_region_with (go_at_call 12; refine c31.mono ?_; rintro e w1 ⟨rfl, b1⟩)
          all_goals
            go_wp2_with fail
            go_ret
            exact ⟨rfl, hb.drew.trans (b1.mono hb.size)⟩
      · have hlt' : decide ((q : Int) < (l.length : Int)) = false := by simp; omega
        have hT2 : true = T := by
          rw [← HT.out, List.drop_eq_nil_of_le (by omega), List.drop_eq_nil_of_le (by have := HLL.out; omega), smL_nil]
        subst hT2
        go_wp2_with fail
        go_ret
        exact ⟨rfl, hb⟩
  · rw [smL_len l l' hll]
    have en : (((l.length : Nat) : Int) != ((l'.length : Nat) : Int)) = true := by simp; omega
    clear hll
    go_enter Tryd.func18, Tryd.ntmps18
    go_wp2_with fail
    go_ret
    exact ⟨rfl, Below.refl _ _⟩
set_option maxRecDepth 20000 in
set_option maxHeartbeats 1600000 in
theorem same_of (m : Nat) (hm : SLI m) : SI (m + 1) := by
  intro u v x y w hu hv
  obtain ⟨o, i, s, l⟩ := x
  obtain ⟨o', i', s', l'⟩ := y
  rw [in_iff] at hu hv
  obtain ⟨lv, rfl, -, -, -, hl⟩ := hu
  obtain ⟨lv', rfl, -, -, -, hl'⟩ := hv
  obtain ⟨W0, hW0⟩ : ∃ W0, (w.alloc (.cells #[.int .i64 o, .int .i64 i, .string s, lv] 24)).alloc (.cells #[.int .i64 o', .int .i64 i', .string s', lv'] 24) = W0 := ⟨_, rfl⟩
  have hb0 : Below w.heap.size w W0 := by rw [← hW0]; exact ((Below.refl _ w).alloc (Nat.le_refl _) _).alloc (by simp) _
  have hx0 : W0.heap[w.heap.size]? = some (.cells #[.int .i64 o, .int .i64 i, .string s, lv] 24) := by
    rw [← hW0, Below.heap_alloc _ _ _ (by simp), heap_alloc_new]
  have hx1 : W0.heap[w.heap.size + 1]? = some (.cells #[.int .i64 o', .int .i64 i', .string s', lv'] 24) := by
    have := heap_alloc_new (w.alloc (.cells #[.int .i64 o, .int .i64 i, .string s, lv] 24)) (.cells #[.int .i64 o', .int .i64 i', .string s', lv'] 24)
    rwa [hW0, World.size_alloc] at this
  obtain ⟨d0, d1, d2, d3⟩ := four_box hx0
  obtain ⟨e0, e1, e2, e3⟩ := four_box hx1
  have c51 := hm lv lv' l l' W0 (hl.below hb0) (hl'.below hb0)
  rw [smL_one]
  obtain ⟨Z, hZ⟩ : ∃ Z, smL l l' = Z := ⟨_, rfl⟩
  rw [hZ] at c51 ⊢
  clear hx0 hx1 hl hl' hm hZ
  cases t1 : (o == o') with
  | false =>
    rw [Bool.false_and]
    go_enter Tryd.func12, Tryd.ntmps12
    go_wp2_with fail
    go_ret
    exact ⟨rfl, hb0⟩
  | true =>
    rw [Bool.true_and]
    cases t2 : (i == i') with
    | false =>
      rw [Bool.false_and]
      go_enter Tryd.func12, Tryd.ntmps12
      go_wp2_with fail
      go_ret
      exact ⟨rfl, hb0⟩
    | true =>
      rw [Bool.true_and]
      cases t3 : (s.toList == s'.toList) with
      | false =>
        rw [Bool.false_and]
        go_enter Tryd.func12, Tryd.ntmps12
        go_wp2_with fail
        go_ret
        exact ⟨rfl, hb0⟩
      | true =>
        rw [Bool.true_and]
        go_enter Tryd.func12, Tryd.ntmps12
        go_wp2_with fail
        refine c51.mono ?_
        rintro e w2 ⟨rfl, b2⟩
        go_wp2_with fail
        go_ret
        exact ⟨rfl, nx hb0 b2⟩
theorem sames : ∀ m, SI m
  | 0 => by intro u v x y w h; rw [In] at h; exact h.elim
  | m + 1 => same_of m (sames_of m (sames m))
theorem same_c {m m' : Nat} {u v : Value} {x y : Ex} {S S' : Nat → Prop} {w : World} (hu : In false S w m u x) (hv : In false S' w m' v y) :
    Calls Tryd.prog 12 #[u, v] w fun e w' => e = .returned (.bool (smL [x] [y])) ∧ Below w.heap.size w w' :=
  sames (m + m') u v x y w (hu.plain.weak (fun _ h => h) false id _ (by omega)) (hv.plain.weak (fun _ h => h) false id _ (by omega))
end Go.Proofs.YtofpdnhnlkocoaaDoor.XSm
namespace Go.Proofs.YtofpdnhnlkocoaaDoor.EEr
open Go.Proofs.YtofpdnhnlkocoaaDoor.UBase Go.Proofs.YtofpdnhnlkocoaaDoor.EPure Go.Proofs.YtofpdnhnlkocoaaDoor.EDn
set_option linter.unusedVariables false
/-- A fault's code and place. -/
def Fo' (s : ByteArray) (e : F) : Prop := 1000 ≤ e.1 ∧ e.2 ≤ s.size
section
variable {s : ByteArray}
theorem chr_err {i : Nat} {e : F} (hi : i ≤ s.size) (h : chr s i = .error e) : Fo' s e := by
  unfold chr at h
  split at h
  · cases h; exact ⟨by simp [], hi⟩
  · next hsz =>
    split at h
    · cases h; exact ⟨by simp [], hi⟩
    · split at h
      · split at h
        · cases h; exact ⟨by simp [], by simp only; omega⟩
        · split at h
          · cases h; exact ⟨by simp [], by simp only; omega⟩
          · cases h
      · split at h
        · cases h; exact ⟨by simp [], hi⟩
        · cases h
theorem txl_err : ∀ {f i : Nat} {B : List UInt8} {e : F}, i ≤ s.size → txl s f i B = .error e → Fo' s e
  | 0, i, B, e, hi, h => by rw [txl] at h; cases h; exact ⟨by simp [], hi⟩
  | f + 1, i, B, e, hi, h => by
    rw [txl] at h
    split at h
    · cases h; exact ⟨by simp [], hi⟩
    · split at h
      · cases h
      · cases hc : chr s i with
        | error x => rw [hc] at h; cases h; exact chr_err hi hc
        | ok y =>
          obtain ⟨x, m⟩ := y
          rw [hc] at h
          dsimp only at h
          exact txl_err (chr_in hc).2.1 h
theorem sgn_err {i : Nat} {e : F} : ∀ {L : List (List UInt8)}, sgn s i L = .error e → 1000 ≤ e.1 ∧ e.2 = i
  | [], h => by rw [sgn] at h; cases h; exact ⟨by simp [], rfl⟩
  | x :: L, h => by
    rw [sgn] at h
    split at h
    · cases h
    · exact sgn_err h
theorem scan_err {i : Nat} {e : F} (hi : i ≤ s.size) (h : scan s i = .error e) : Fo' s e := by
  unfold scan at h
  split at h
  · cases h
  · next hsz =>
    split at h
    · split at h
      · next hx => cases h; exact txl_err (by omega) hx
      · split at h
        · cases h; exact ⟨by simp [], hi⟩
        · cases h
    · split at h
      · cases h
      · split at h
        · split at h
          · cases h
          · cases h; exact ⟨by simp [], hi⟩
        · split at h
          · split at h
            · cases h
            · cases h; exact ⟨by simp [], hi⟩
          · split at h
            · next hx => cases h; exact ⟨(sgn_err hx).1, by rw [(sgn_err hx).2]; exact hi⟩
            · cases h
theorem adv_err {a r : Nat} {e : F} (ha : a ≤ s.size) (h : adv s a r = .error e) : Fo' s e := by
  unfold adv at h
  split at h
  · next hx => cases h; exact scan_err (skp_in ha) hx
  · next hx =>
    split at h
    · cases h
    · split at h
      · cases h
        exact ⟨by simp [], (scan_in (skp_in ha) hx).2.1.ha⟩
      · cases h
theorem tak_err {x : List UInt8} {g : Sr} {e : F} (hg : SrOk s g) (h : tak s x g = .error e) : Fo' s e := by
  unfold tak at h
  split at h
  · exact adv_err hg.a h
  · cases h; exact ⟨by simp [ends], hg.t.ha⟩
/-- Such a reader's faults lie in the text. -/
def Ep (s : ByteArray) (q : P) : Prop := ∀ g e, SrOk s g → q g = .error e → Fo' s e
theorem ded_e : Ep s ded := by
  intro g e hg h
  unfold ded at h
  split at h <;> (cases h; exact ⟨by simp [], hg.t.ha⟩)
theorem more_e {k : Nat} {q : P} (hd : Dn s q) (hq : Ep s q) : ∀ f l g e, SrOk s g → more s k q f l g = .error e → Fo' s e
  | 0, l, g, e, hg, h => by rw [more] at h; cases h; exact ⟨by simp [ends], hg.t.ha⟩
  | f + 1, l, g, e, hg, h => by
    rw [more] at h
    split at h
    · cases h
    · next ho =>
      split at h
      · next e1 => cases h; exact adv_err hg.a e1
      · next e1 =>
        have h1 := (adv_mu hg (opOf_k ho) e1).1
        split at h
        · next e2 => cases h; exact hq _ _ h1 e2
        · next e2 => exact more_e hd hq f _ _ _ (hd _ _ _ h1 e2).1 h
theorem lev_e {q : P} (hd : Dn s q) (hq : Ep s q) : ∀ j, Ep s (lev s q j)
  | 0 => hq
  | j + 1 => by
    intro g e hg h
    rw [lev] at h
    dsimp only at h
    split at h
    · next e1 => cases h; exact lev_e hd hq j _ _ hg e1
    · next e1 => exact more_e (lev_dn hd j) (lev_e hd hq j) _ _ _ _ (lev_dn hd j _ _ _ hg e1).1 h
theorem chc_e {S C : P} (dS : Dn s S) (dC : Dn s C) (hS : Ep s S) (hC : Ep s C) : Ep s (chc s S C) := by
  intro g e hg h
  unfold chc at h
  split at h
  · next e1 => cases h; exact lev_e dS hS 11 _ _ hg e1
  · next e1 =>
    have h1 := (lev_dn dS 11 _ _ _ hg e1).1
    split at h
    · next hi =>
      split at h
      · next e2 => cases h; exact adv_err h1.a e2
      · next e2 =>
        have h2 := (adv_mu h1 (is_k hi) e2).1
        split at h
        · next e3 => cases h; exact hC _ _ h2 e3
        · next e3 =>
          have h3 := (dC _ _ _ h2 e3).1
          split at h
          · next e4 => cases h; exact tak_err h3 e4
          · next e4 =>
            have h4 := (tak_mu h3 e4).1
            split at h
            · next e5 => cases h; exact hC _ _ h4 e5
            · cases h
    · cases h
theorem btw_e {C : P} (dC : Dn s C) (hC : Ep s C) (o c : List UInt8) : Ep s (btw s C o c) := by
  intro g e hg h
  unfold btw at h
  split at h
  · next e1 => cases h; exact tak_err hg e1
  · next e1 =>
    have h1 := (tak_mu hg e1).1
    split at h
    · next e2 => cases h; exact hC _ _ h1 e2
    · next e2 =>
      have h2 := (dC _ _ _ h1 e2).1
      split at h
      · next e3 => cases h; exact tak_err h2 e3
      · cases h
theorem prt_e {C : P} (dC : Dn s C) (hC : Ep s C) : ∀ f l g e, SrOk s g → prt s C f l g = .error e → Fo' s e
  | 0, l, g, e, hg, h => by rw [prt] at h; cases h; exact ⟨by simp [ends], hg.t.ha⟩
  | f + 1, l, g, e, hg, h => by
    rw [prt] at h
    split at h
    · next hi =>
      split at h
      · next e1 => cases h; exact adv_err hg.a e1
      · next e1 =>
        have h1 := (adv_mu hg (is_k hi) e1).1
        split at h
        · next h3 =>
          split at h
          · next e2 => cases h; exact adv_err h1.a e2
          · next e2 => exact prt_e dC hC f _ _ _ (adv_mu h1 (by omega) e2).1 h
        · cases h; exact ⟨by simp [ends], h1.t.ha⟩
    · split at h
      · split at h
        · next e1 => cases h; exact btw_e dC hC _ _ _ _ hg e1
        · next e1 => exact prt_e dC hC f _ _ _ (btw_dn dC _ _ _ _ _ hg e1).1 h
      · cases h
theorem nmd_e {C : P} (dC : Dn s C) (hC : Ep s C) (t : ByteArray) : Ep s (nmd s C t) := by
  intro g e hg h
  unfold nmd at h
  split at h
  · cases h
  · split at h
    · split at h
      · split at h
        · next e1 => cases h; exact btw_e dC hC _ _ _ _ hg e1
        · cases h
      · cases h
    · cases h
theorem wor_e {C : P} (dC : Dn s C) (hC : Ep s C) : Ep s (wor s C) := by
  intro g e hg h
  unfold wor at h
  split at h
  · split at h
    · next e1 => cases h; exact adv_err hg.a e1
    · cases h
  · split at h
    · split at h
      · next e1 => cases h; exact adv_err hg.a e1
      · cases h
    · split at h
      · split at h
        · next e1 => cases h; exact adv_err hg.a e1
        · next e1 => exact nmd_e dC hC _ _ _ (adv_mu hg (by omega) e1).1 h
      · exact btw_e dC hC _ _ _ _ hg h
theorem par_e {C : P} (dC : Dn s C) (hC : Ep s C) : Ep s (par s C) := by
  intro g e hg h
  unfold par at h
  split at h
  · next e1 => cases h; exact wor_e dC hC _ _ hg e1
  · next e1 => exact prt_e dC hC _ _ _ _ (wor_dn dC _ _ _ hg e1).1 h
theorem sgd_e {S C : P} (dS : Dn s S) (dC : Dn s C) (hS : Ep s S) (hC : Ep s C) : Ep s (sgd s S C) := by
  intro g e hg h
  unfold sgd at h
  split at h
  · next hi =>
    split at h
    · next e1 => cases h; exact adv_err hg.a e1
    · next e1 =>
      split at h
      · next e2 => cases h; exact hS _ _ (adv_mu hg (is_k hi) e1).1 e2
      · cases h
  · split at h
    · next hi =>
      split at h
      · next e1 => cases h; exact adv_err hg.a e1
      · next e1 =>
        split at h
        · next e2 => cases h; exact hS _ _ (adv_mu hg (is_k hi) e1).1 e2
        · cases h
    · exact par_e dC hC _ _ hg h
theorem lv2_e (s : ByteArray) : ∀ m, Ep s (lv2 s m).1 ∧ Ep s (lv2 s m).2
  | 0 => ⟨ded_e, chc_e (ded_dn s) (ded_dn s) ded_e ded_e⟩
  | m + 1 => by
    obtain ⟨d1, d2⟩ := lv2_dn s m
    obtain ⟨e1, e2⟩ := lv2_e s m
    exact ⟨sgd_e d1 d2 e1 e2, chc_e (sgd_dn d1 d2) d2 (sgd_e d1 d2 e1 e2) e2⟩
theorem prs_err {e : F} (h : prs s = .error e) : Fo' s e := by
  unfold prs at h
  split at h
  · next e1 => cases h; exact adv_err (Nat.zero_le _) e1
  · next e1 =>
    have h1 := (adv_in (Nat.zero_le _) (by omega) e1).1
    split at h
    · next e2 => cases h; exact (lv2_e s 32).2 _ _ h1 e2
    · next e2 =>
      split at h
      · cases h
      · cases h; exact ⟨by simp [ends], ((lv2_dn s 32).2 _ _ _ h1 e2).1.t.ha⟩
end
end Go.Proofs.YtofpdnhnlkocoaaDoor.EEr

/- The HTML of trees, as the document has it: contract of html and of its Html. -/
import Derived.Test.YtonoalbhpligfaaRPk
import Derived.Test.YtonoalbhpligfaaRLook
import Derived.Deep.RegionHeld3
namespace Go.Proofs.Ytonoalbhpligfaa.RHtml
open Go.RowKit Go.Proofs.Ytonoalbhpligfaa.TBase Go.Proofs.Ytonoalbhpligfaa.TMay Go.Proofs.Ytonoalbhpligfaa.TVisit Go.Proofs.Ytonoalbhpligfaa.TSpecH Go.Proofs.Ytonoalbhpligfaa.TWrite Go.Proofs.Ytonoalbhpligfaa.RPk Go.Proofs.Ytonoalbhpligfaa.Base Go.Proofs.Ytonoalbhpligfaa.Row
set_option linter.unusedVariables false

def Htmls (m : Nat) : Prop := ∀ (v : Value) (l : List T) (w : World), InL false All w m v l → 16 * wt l ≤ 140737488351232 →
    Calls Try.prog 30 #[v] w fun e w' => ∃ u, e = .returned u ∧ Own w' w.heap.size u (ht l) ∧ Hid (u = .slice none 0 0 ↔ ht l = []) ∧ Below w.heap.size w w'
set_option maxRecDepth 20000 in
set_option maxHeartbeats 12800000 in
theorem html_of (m : Nat) (ih : ∀ m', m = m' + 1 → Htmls m') : Htmls m := by
  intro v l w h hlen
  have hlo := TMeas.lo_of_in h
  obtain ⟨a, cap, rfl, hlc, hcm, hll, hnil, hL⟩ := hlo
  have H : Hid (∀ m', m = m' + 1 → Htmls m') := ih
  have HL : Hid (LAt false (Lo w.heap.size) w m a cap l) := hL
  clear ih hL h
  go_enter Try.func30, Try.ntmps30
  go_wp2_with fail
  go_loopw [3, 4] (fun out i wr => ∃ q : Nat, q ≤ l.length ∧ i = .int .i64 q ∧ Pk w.heap.size w wr out (ht (l.take q)) []) (fun _ i _ => l.length - (intOf i).toNat)
  case atStart => exact ⟨0, by omega, rfl, by rw [List.take_zero, ht_nil]; exact Pk.start (World.ownsRow_nil _ _ _ _) (Nat.le_refl _) (by simp)⟩
  case round =>
    obtain ⟨q, hq, rfl, hp⟩ := hrel
    obtain ⟨ro, hro⟩ : ∃ ro, ro = wr := ⟨_, rfl⟩
    subst hro
    by_cases hlt : q < l.length
    · obtain ⟨g1, o, u, rfl, hgB, hu, hin⟩ := elem_at HL.out hlt
      have hu := (keep_in hp.bel).four hgB hu
      have hin := hin.keep (keep_in hp.bel)
      obtain ⟨v0, v1, v2, v3, rfl, d0, d1, d2, d3⟩ := hu
      obtain ⟨m', a1, c1, a2, c2, hm, rfl, rfl, rfl, rfl, hgs, hss, hna, hka⟩ := hin.kinds
      have hws := wt_split l q hlt
      have hhl := ht_len _ (l.take q) (Nat.le_refl _)
      have htk := ht_take l q hlt
      obtain ⟨c, hc⟩ : ∃ c, l[q] = c := ⟨_, rfl⟩
      rw [hc] at hin d0 d1 d2 d3 hws htk hgs hss hna hka
      clear hc
      have Htk : Hid (ht (l.take (q + 1)) = ht (l.take q) ++ h1 c) := htk
      clear htk hin
      obtain ⟨L, hL⟩ : ∃ L, ht (l.take q) = L := ⟨_, rfl⟩
      rw [hL] at hp hhl
      have HLq : Hid (ht (l.take q) = L) := hL
      clear hL
      obtain ⟨W1, hW1⟩ : ∃ W1, ro.alloc (.cells #[.string c.g, .string c.s, .slice a1 c.n.length c1, .slice a2 c.l.length c2] 37) = W1 := ⟨_, rfl⟩
      have hb0 : Below ro.heap.size ro W1 := by rw [← hW1]; exact bx
      have hp0 : Hid (Pk w.heap.size w W1 u3 L []) := hp.below hb0
      have hp1 := Pk.start hp0.out.own hp0.out.le hp0.out.nil
      have hbx : W1.heap[ro.heap.size]? = some (.cells #[.string c.g, .string c.s, .slice a1 c.n.length c1, .slice a2 c.l.length c2] 37 (0, 0)) := by rw [← hW1]; exact heap_alloc_new ro _
      cases hg0 : c.g.toList.isEmpty with
      | true =>
        have e1 : h1 c = esc false c.s.data.toList := by unfold h1; rw [if_pos hg0]
        have HE : Hid ((escB false c.s).data.toList = h1 c) := by rw [e1]; simp [Hid, escB]
        have hw1 : c.s.size ≤ TSpecH.w1 c := by unfold TSpecH.w1; omega
        have hes := esc_size false c.s
        have c43 := Esc.rtext_c c.s (by omega) W1
        obtain ⟨k0, k1, k2, k3⟩ := four_box hbx
        clear e1 hp hbx
        generalize escB false c.s = X at *
        go_wp2_with fail
        refine c43.mono ?_
        rintro e W2 ⟨rfl, b2⟩
        have hp2 := hp1.below b2
        clear hp1 c43
        go_wp2_with (first | (at_builtin; refine list_text rfl _ _ rfl hp2 rfl X rfl (by omega) ?_))
        intro v2 W3 hp3
        clear hp2
        have HP3 : Hid (Pk w.heap.size W1 W3 v2 (L ++ X.data.toList) []) := hp3
        obtain ⟨ao, no, co, rfl⟩ := hp3.shape
        clear hp3
        go_wp2_with fail
        go_roundw
        case rel =>
          refine ⟨q + 1, by omega, by go_num, ?_⟩
          rw [Htk.out, HLq.out, ← HE.out]
          exact hp0.out.trans HP3.out
        case measure => simp only [intOf]; omega
      | false =>
        obtain ⟨k0, k1, k2, k3⟩ := four_box hbx
        have HX : Hid (W1.heap[ro.heap.size]? = some (.cells #[.string c.g, .string c.s, .slice a1 c.n.length c1, .slice a2 c.l.length c2] 37 (0, 0))) := hbx
        clear hbx
        have hw1 : TSpecH.w1 c = c.g.size + c.s.size + wa c.n + 1 + wt c.l := rfl
        have hB0 : Below w.heap.size ro W1 := hb0.mono hp.le
        have hq := hp1.drew
        clear hp1 hp
        go_wp2_with fail
        go_region_held3 (fun w' => w'.cell? ⟨ro.heap.size, 0, none⟩ = some (.string c.g)) (go_keep) (first
          | (refine step_bytes (by rfl) _ _ (by rfl) hq (by rfl) _ _ [60] (by rfl) (by simp) (by simp only [List.length_append, List.length_cons, List.length_nil, size_list]; omega) ?_; clear hq; intro vv WW hq; have hxx := hq.ty _ _ _ _ HX.out (by decide); obtain ⟨y0, y1, y2, y3⟩ := four_box hxx)
          | (refine step_bytes (by rfl) _ _ (by rfl) (hq.lay [60] #[.int .u8 60] rfl) (by rfl) _ _ [60] (by rfl) (by simp) (by simp only [List.length_cons, List.length_nil]; omega) ?_; clear hq; intro vv WW hq; have hxx := hq.ty _ _ _ _ HX.out (by decide); obtain ⟨y0, y1, y2, y3⟩ := four_box hxx)
          | (refine step_text (by rfl) _ _ (by rfl) hq (by rfl) c.g (by rfl) (by simp only [List.length_append, List.length_cons, List.length_nil]; omega) ?_; clear hq; intro vv WW hq; have hxx := hq.ty _ _ _ _ HX.out (by decide); obtain ⟨y0, y1, y2, y3⟩ := four_box hxx)
          | (refine step_text (by rfl) _ _ (by rfl) (hq.lay [60] #[.int .u8 60] rfl) (by rfl) c.g (by rfl) (by simp only [List.length_append, List.length_cons, List.length_nil, size_list]; omega) ?_; clear hq; intro vv WW hq; have hxx := hq.ty _ _ _ _ HX.out (by decide); obtain ⟨y0, y1, y2, y3⟩ := four_box hxx)
          | fail)
        have hq1 : Hid (Pk w.heap.size W1 WW vv (L ++ [60] ++ c.g.data.toList) []) := hq.bare
        obtain ⟨ao, no, co, rfl⟩ := hq.shape
        clear hq hW1 k0 k1 k2 k3
        go_wp2_with fail
        obtain ⟨aa, cc, E1, hk1, hk2, hk3, hsz, hk5, hNA⟩ := hna
        cases E1
        have HNA : Hid (NAt false (Lo w.heap.size) ro a1 c1 c.n) := hNA
        have Hsz : Hid (∀ t ∈ c.n, t.1.size ≤ 140737488351232 ∧ t.2.size ≤ 140737488351232) := hsz
        clear hNA hsz
        go_loopw [3, 6] (fun out i wr2 => ∃ p : Nat, p ≤ c.n.length ∧ i = .int .i64 p ∧ Pk w.heap.size W1 wr2 out ((L ++ [60] ++ c.g.data.toList) ++ ats (c.n.take p)) []) (fun _ i _ => c.n.length - (intOf i).toNat)
        case atStart => exact ⟨0, by omega, rfl, by rw [List.take_zero]; simpa [ats] using hq1.out⟩
        case round =>
          obtain ⟨p, hp, rfl, hq⟩ := hrel
          have hxx := hq.ty _ _ _ _ HX.out (by decide)
          obtain ⟨y0, y1, y2, y3⟩ := four_box hxx
          by_cases hlp : p < c.n.length
          · have hn := Hsz.out c.n[p] (List.getElem_mem hlp)
            obtain ⟨gA, oA, rfl, hgA, hcA, hdA⟩ := attr_at HNA.out hlp
            have h16 := at1_len c.n[p]
            have hwa := wa_split c.n p hlp
            have hat := ats_len (c.n.take p)
            have htk2 := ats_take c.n p hlp
            obtain ⟨t, ht⟩ : ∃ t, c.n[p] = t := ⟨_, rfl⟩
            rw [ht] at hcA hdA hn h16 hwa htk2
            obtain ⟨x, y⟩ := t
            simp only at hcA hdA hn h16 hwa
            have Htk2 : Hid (ats (c.n.take (p + 1)) = ats (c.n.take p) ++ at1 (x, y)) := htk2
            clear htk2 ht
            obtain ⟨A, hA⟩ : ∃ A, ats (c.n.take p) = A := ⟨_, rfl⟩
            rw [hA] at hq hat
            have HA : Hid (ats (c.n.take p) = A) := hA
            clear hA
            obtain ⟨L1, hL1⟩ : ∃ L1, (L ++ [60] ++ c.g.data.toList) ++ A = L1 := ⟨_, rfl⟩
            have hL1l : L1.length = L.length + 1 + c.g.size + A.length := by rw [← hL1]; simp only [List.length_append, List.length_cons, List.length_nil, size_list]
            rw [hL1] at hq
            have HL1 : Hid ((L ++ [60] ++ c.g.data.toList) ++ A = L1) := hL1
            clear hL1
            have hB1 : Below w.heap.size ro W1 := hB0
            have c44 := fun W => Esc.rattr_c y (by omega) W
            have hes := esc_size true y
            have HY : Hid ((escB true y).data.toList = esc true y.data.toList) := by simp [Hid, escB]
            generalize escB true y = Y at *
            have y4 := (keep_in (hB1.trans hq.bel)).cell hgA hcA
            have y5 := (keep_in (hB1.trans hq.bel)).cell hgA hdA
            have hq := hq.drew
            go_wp2_with fail
            go_region_held3 (fun w' => w'.cell? ⟨ro.heap.size, 2, none⟩ = some (.slice (some ⟨gA, oA, none⟩) c.n.length c1) ∧ w'.cell? ⟨gA, oA + p * 2, none⟩ = some (.string x) ∧ w'.cell? ⟨gA, oA + p * 2 + 1, none⟩ = some (.string y)) (go_keep) (first
          | (refine step_bytes (by rfl) _ _ (by rfl) hq (by rfl) _ _ [32] (by rfl) (by simp) (by simp only [List.length_append, List.length_cons, List.length_nil, size_list]; omega) ?_; clear hq; intro vv WW hq; have hxx := hq.ty _ _ _ _ HX.out (by decide); obtain ⟨y0, y1, y2, y3⟩ := four_box hxx; have y4 := (keep_in (hB1.trans hq.bel)).cell hgA hcA; have y5 := (keep_in (hB1.trans hq.bel)).cell hgA hdA)
          | (refine step_bytes (by rfl) _ _ (by rfl) (hq.lay [32] #[.int .u8 32] rfl) (by rfl) _ _ [32] (by rfl) (by simp) (by simp only [List.length_cons, List.length_nil]; omega) ?_; clear hq; intro vv WW hq; have hxx := hq.ty _ _ _ _ HX.out (by decide); obtain ⟨y0, y1, y2, y3⟩ := four_box hxx; have y4 := (keep_in (hB1.trans hq.bel)).cell hgA hcA; have y5 := (keep_in (hB1.trans hq.bel)).cell hgA hdA)
          | (refine step_bytes (by rfl) _ _ (by rfl) (hq.lay [61, 34] #[.int .u8 61, .int .u8 34] rfl) (by rfl) _ _ [32] (by rfl) (by simp) (by simp only [List.length_append, List.length_cons, List.length_nil, size_list]; omega) ?_; clear hq; intro vv WW hq; have hxx := hq.ty _ _ _ _ HX.out (by decide); obtain ⟨y0, y1, y2, y3⟩ := four_box hxx; have y4 := (keep_in (hB1.trans hq.bel)).cell hgA hcA; have y5 := (keep_in (hB1.trans hq.bel)).cell hgA hdA)
          | (refine step_bytes (by rfl) _ _ (by rfl) ((hq.lay [32] #[.int .u8 32] rfl).lay [61, 34] #[.int .u8 61, .int .u8 34] rfl) (by rfl) _ _ [32] (by rfl) (by simp) (by simp only [List.length_cons, List.length_nil]; omega) ?_; clear hq; intro vv WW hq; have hxx := hq.ty _ _ _ _ HX.out (by decide); obtain ⟨y0, y1, y2, y3⟩ := four_box hxx; have y4 := (keep_in (hB1.trans hq.bel)).cell hgA hcA; have y5 := (keep_in (hB1.trans hq.bel)).cell hgA hdA)
          | (refine step_bytes (by rfl) _ _ (by rfl) ((hq.lay [61, 34] #[.int .u8 61, .int .u8 34] rfl).lay [32] #[.int .u8 32] rfl) (by rfl) _ _ [32] (by rfl) (by simp) (by simp only [List.length_cons, List.length_nil]; omega) ?_; clear hq; intro vv WW hq; have hxx := hq.ty _ _ _ _ HX.out (by decide); obtain ⟨y0, y1, y2, y3⟩ := four_box hxx; have y4 := (keep_in (hB1.trans hq.bel)).cell hgA hcA; have y5 := (keep_in (hB1.trans hq.bel)).cell hgA hdA)
          | (refine step_bytes (by rfl) _ _ (by rfl) hq (by rfl) _ _ [61, 34] (by rfl) (by simp) (by simp only [List.length_append, List.length_cons, List.length_nil, size_list]; omega) ?_; clear hq; intro vv WW hq; have hxx := hq.ty _ _ _ _ HX.out (by decide); obtain ⟨y0, y1, y2, y3⟩ := four_box hxx; have y4 := (keep_in (hB1.trans hq.bel)).cell hgA hcA; have y5 := (keep_in (hB1.trans hq.bel)).cell hgA hdA)
          | (refine step_bytes (by rfl) _ _ (by rfl) (hq.lay [32] #[.int .u8 32] rfl) (by rfl) _ _ [61, 34] (by rfl) (by simp) (by simp only [List.length_append, List.length_cons, List.length_nil, size_list]; omega) ?_; clear hq; intro vv WW hq; have hxx := hq.ty _ _ _ _ HX.out (by decide); obtain ⟨y0, y1, y2, y3⟩ := four_box hxx; have y4 := (keep_in (hB1.trans hq.bel)).cell hgA hcA; have y5 := (keep_in (hB1.trans hq.bel)).cell hgA hdA)
          | (refine step_bytes (by rfl) _ _ (by rfl) (hq.lay [61, 34] #[.int .u8 61, .int .u8 34] rfl) (by rfl) _ _ [61, 34] (by rfl) (by simp) (by simp only [List.length_append, List.length_cons, List.length_nil, size_list]; omega) ?_; clear hq; intro vv WW hq; have hxx := hq.ty _ _ _ _ HX.out (by decide); obtain ⟨y0, y1, y2, y3⟩ := four_box hxx; have y4 := (keep_in (hB1.trans hq.bel)).cell hgA hcA; have y5 := (keep_in (hB1.trans hq.bel)).cell hgA hdA)
          | (refine step_bytes (by rfl) _ _ (by rfl) ((hq.lay [32] #[.int .u8 32] rfl).lay [61, 34] #[.int .u8 61, .int .u8 34] rfl) (by rfl) _ _ [61, 34] (by rfl) (by simp) (by simp only [List.length_append, List.length_cons, List.length_nil, size_list]; omega) ?_; clear hq; intro vv WW hq; have hxx := hq.ty _ _ _ _ HX.out (by decide); obtain ⟨y0, y1, y2, y3⟩ := four_box hxx; have y4 := (keep_in (hB1.trans hq.bel)).cell hgA hcA; have y5 := (keep_in (hB1.trans hq.bel)).cell hgA hdA)
          | (refine step_bytes (by rfl) _ _ (by rfl) ((hq.lay [61, 34] #[.int .u8 61, .int .u8 34] rfl).lay [32] #[.int .u8 32] rfl) (by rfl) _ _ [61, 34] (by rfl) (by simp) (by simp only [List.length_append, List.length_cons, List.length_nil, size_list]; omega) ?_; clear hq; intro vv WW hq; have hxx := hq.ty _ _ _ _ HX.out (by decide); obtain ⟨y0, y1, y2, y3⟩ := four_box hxx; have y4 := (keep_in (hB1.trans hq.bel)).cell hgA hcA; have y5 := (keep_in (hB1.trans hq.bel)).cell hgA hdA)
          | (refine step_text (by rfl) _ _ (by rfl) hq (by rfl) x (by rfl) (by simp only [List.length_append, List.length_cons, List.length_nil]; omega) ?_; clear hq; intro vv WW hq; have hxx := hq.ty _ _ _ _ HX.out (by decide); obtain ⟨y0, y1, y2, y3⟩ := four_box hxx; have y4 := (keep_in (hB1.trans hq.bel)).cell hgA hcA; have y5 := (keep_in (hB1.trans hq.bel)).cell hgA hdA)
          | (refine step_text (by rfl) _ _ (by rfl) (hq.lay [32] #[.int .u8 32] rfl) (by rfl) x (by rfl) (by simp only [List.length_append, List.length_cons, List.length_nil, size_list]; omega) ?_; clear hq; intro vv WW hq; have hxx := hq.ty _ _ _ _ HX.out (by decide); obtain ⟨y0, y1, y2, y3⟩ := four_box hxx; have y4 := (keep_in (hB1.trans hq.bel)).cell hgA hcA; have y5 := (keep_in (hB1.trans hq.bel)).cell hgA hdA)
          | (refine step_text (by rfl) _ _ (by rfl) (hq.lay [61, 34] #[.int .u8 61, .int .u8 34] rfl) (by rfl) x (by rfl) (by simp only [List.length_append, List.length_cons, List.length_nil]; omega) ?_; clear hq; intro vv WW hq; have hxx := hq.ty _ _ _ _ HX.out (by decide); obtain ⟨y0, y1, y2, y3⟩ := four_box hxx; have y4 := (keep_in (hB1.trans hq.bel)).cell hgA hcA; have y5 := (keep_in (hB1.trans hq.bel)).cell hgA hdA)
          | (refine step_text (by rfl) _ _ (by rfl) ((hq.lay [32] #[.int .u8 32] rfl).lay [61, 34] #[.int .u8 61, .int .u8 34] rfl) (by rfl) x (by rfl) (by simp only [List.length_append, List.length_cons, List.length_nil, size_list]; omega) ?_; clear hq; intro vv WW hq; have hxx := hq.ty _ _ _ _ HX.out (by decide); obtain ⟨y0, y1, y2, y3⟩ := four_box hxx; have y4 := (keep_in (hB1.trans hq.bel)).cell hgA hcA; have y5 := (keep_in (hB1.trans hq.bel)).cell hgA hdA)
          | (refine step_text (by rfl) _ _ (by rfl) ((hq.lay [61, 34] #[.int .u8 61, .int .u8 34] rfl).lay [32] #[.int .u8 32] rfl) (by rfl) x (by rfl) (by simp only [List.length_append, List.length_cons, List.length_nil, size_list]; omega) ?_; clear hq; intro vv WW hq; have hxx := hq.ty _ _ _ _ HX.out (by decide); obtain ⟨y0, y1, y2, y3⟩ := four_box hxx; have y4 := (keep_in (hB1.trans hq.bel)).cell hgA hcA; have y5 := (keep_in (hB1.trans hq.bel)).cell hgA hdA)
          | (refine step_text (by rfl) _ _ (by rfl) hq (by rfl) Y (by rfl) (by simp only [List.length_append, List.length_cons, List.length_nil, size_list]; omega) ?_; clear hq; intro vv WW hq; have hxx := hq.ty _ _ _ _ HX.out (by decide); obtain ⟨y0, y1, y2, y3⟩ := four_box hxx; have y4 := (keep_in (hB1.trans hq.bel)).cell hgA hcA; have y5 := (keep_in (hB1.trans hq.bel)).cell hgA hdA)
          | (refine step_text (by rfl) _ _ (by rfl) (hq.lay [32] #[.int .u8 32] rfl) (by rfl) Y (by rfl) (by simp only [List.length_append, List.length_cons, List.length_nil, size_list]; omega) ?_; clear hq; intro vv WW hq; have hxx := hq.ty _ _ _ _ HX.out (by decide); obtain ⟨y0, y1, y2, y3⟩ := four_box hxx; have y4 := (keep_in (hB1.trans hq.bel)).cell hgA hcA; have y5 := (keep_in (hB1.trans hq.bel)).cell hgA hdA)
          | (refine step_text (by rfl) _ _ (by rfl) (hq.lay [61, 34] #[.int .u8 61, .int .u8 34] rfl) (by rfl) Y (by rfl) (by simp only [List.length_append, List.length_cons, List.length_nil, size_list]; omega) ?_; clear hq; intro vv WW hq; have hxx := hq.ty _ _ _ _ HX.out (by decide); obtain ⟨y0, y1, y2, y3⟩ := four_box hxx; have y4 := (keep_in (hB1.trans hq.bel)).cell hgA hcA; have y5 := (keep_in (hB1.trans hq.bel)).cell hgA hdA)
          | (refine step_text (by rfl) _ _ (by rfl) ((hq.lay [32] #[.int .u8 32] rfl).lay [61, 34] #[.int .u8 61, .int .u8 34] rfl) (by rfl) Y (by rfl) (by simp only [List.length_append, List.length_cons, List.length_nil, size_list]; omega) ?_; clear hq; intro vv WW hq; have hxx := hq.ty _ _ _ _ HX.out (by decide); obtain ⟨y0, y1, y2, y3⟩ := four_box hxx; have y4 := (keep_in (hB1.trans hq.bel)).cell hgA hcA; have y5 := (keep_in (hB1.trans hq.bel)).cell hgA hdA)
          | (refine step_text (by rfl) _ _ (by rfl) ((hq.lay [61, 34] #[.int .u8 61, .int .u8 34] rfl).lay [32] #[.int .u8 32] rfl) (by rfl) Y (by rfl) (by simp only [List.length_append, List.length_cons, List.length_nil, size_list]; omega) ?_; clear hq; intro vv WW hq; have hxx := hq.ty _ _ _ _ HX.out (by decide); obtain ⟨y0, y1, y2, y3⟩ := four_box hxx; have y4 := (keep_in (hB1.trans hq.bel)).cell hgA hcA; have y5 := (keep_in (hB1.trans hq.bel)).cell hgA hdA)
          | (go_at_call 44; refine (c44 _).mono ?_; rintro e WW ⟨rfl, bb⟩; have hq := hq.below bb; have hxx := hq.ty _ _ _ _ HX.out (by decide); obtain ⟨y0, y1, y2, y3⟩ := four_box hxx; have y4 := (keep_in (hB1.trans hq.bel)).cell hgA hcA; have y5 := (keep_in (hB1.trans hq.bel)).cell hgA hdA)
          | (go_at_call 44; refine (c44 _).mono ?_; rintro e WW ⟨rfl, bb⟩; have hq := (hq.lay [32] #[.int .u8 32] rfl).below bb; have hxx := hq.ty _ _ _ _ HX.out (by decide); obtain ⟨y0, y1, y2, y3⟩ := four_box hxx; have y4 := (keep_in (hB1.trans hq.bel)).cell hgA hcA; have y5 := (keep_in (hB1.trans hq.bel)).cell hgA hdA)
          | (go_at_call 44; refine (c44 _).mono ?_; rintro e WW ⟨rfl, bb⟩; have hq := (hq.lay [61, 34] #[.int .u8 61, .int .u8 34] rfl).below bb; have hxx := hq.ty _ _ _ _ HX.out (by decide); obtain ⟨y0, y1, y2, y3⟩ := four_box hxx; have y4 := (keep_in (hB1.trans hq.bel)).cell hgA hcA; have y5 := (keep_in (hB1.trans hq.bel)).cell hgA hdA)
          | (go_at_call 44; refine (c44 _).mono ?_; rintro e WW ⟨rfl, bb⟩; have hq := ((hq.lay [32] #[.int .u8 32] rfl).lay [61, 34] #[.int .u8 61, .int .u8 34] rfl).below bb; have hxx := hq.ty _ _ _ _ HX.out (by decide); obtain ⟨y0, y1, y2, y3⟩ := four_box hxx; have y4 := (keep_in (hB1.trans hq.bel)).cell hgA hcA; have y5 := (keep_in (hB1.trans hq.bel)).cell hgA hdA)
          | (go_at_call 44; refine (c44 _).mono ?_; rintro e WW ⟨rfl, bb⟩; have hq := ((hq.lay [61, 34] #[.int .u8 61, .int .u8 34] rfl).lay [32] #[.int .u8 32] rfl).below bb; have hxx := hq.ty _ _ _ _ HX.out (by decide); obtain ⟨y0, y1, y2, y3⟩ := four_box hxx; have y4 := (keep_in (hB1.trans hq.bel)).cell hgA hcA; have y5 := (keep_in (hB1.trans hq.bel)).cell hgA hdA)
          | fail)
            all_goals
              have hq2 := hq.bare.lay [34] #[.int .u8 34] rfl
              obtain ⟨ao2, no2, co2, rfl⟩ := hq.shape
              clear hq
              go_wp2_with (first | (at_builtin; refine list_bytes rfl _ _ rfl hq2 rfl _ _ [34] rfl (by simp) (by simp only [List.length_append, List.length_cons, List.length_nil, size_list]; omega) ?_))
              intro v5 W5 hq5
              have HQ5 : Hid (Pk w.heap.size W1 W5 v5 ((L ++ [60] ++ c.g.data.toList) ++ ats (c.n.take (p + 1))) []) := by
                have e : (L ++ [60] ++ c.g.data.toList) ++ ats (c.n.take (p + 1)) = (((((L1 ++ [32]) ++ x.data.toList) ++ [61, 34]) ++ Y.data.toList) ++ [34]) := by
                  rw [Htk2.out, HA.out, ← List.append_assoc, HL1.out, HY.out]
                  simp [at1]
                rw [e]
                show Pk w.heap.size W1 W5 v5 (((((L1 ++ [32]) ++ x.data.toList) ++ [61, 34]) ++ Y.data.toList) ++ [34]) []
                first | exact hq5.bare | simpa using hq5.bare
              obtain ⟨ao3, no3, co3, rfl⟩ := hq5.shape
              clear hq5 hq2
              go_wp2_with fail
              go_roundw
              case rel => exact ⟨p + 1, by omega, by go_num, HQ5.out⟩
              case measure => simp only [intOf]; omega
          · have hlp' : decide ((p : Int) < (c.n.length : Int)) = false := by simp; omega
            obtain rfl : p = c.n.length := by omega
            rw [List.take_length] at hq
            have hat := ats_len c.n
            obtain ⟨L2, hL2⟩ : ∃ L2, (L ++ [60] ++ c.g.data.toList) ++ ats c.n = L2 := ⟨_, rfl⟩
            have hL2l : L2.length = L.length + 1 + c.g.size + (ats c.n).length := by rw [← hL2]; simp only [List.length_append, List.length_cons, List.length_nil, size_list]
            rw [hL2] at hq
            have HL2 : Hid ((L ++ [60] ++ c.g.data.toList) ++ ats c.n = L2) := hL2
            clear hL2
            have hB1 : Below w.heap.size ro W1 := hB0
            have hkl := ht_len _ c.l (Nat.le_refl _)
            have hq := hq.drew
            have HK : Hid (∀ W, Below w.heap.size W1 W → Calls Try.prog 30 #[.slice a2 c.l.length c2] W fun e w' => ∃ u, e = .returned u ∧ Own w' W.heap.size u (ht c.l) ∧ Hid (u = .slice none 0 0 ↔ ht c.l = []) ∧ Below W.heap.size W w') :=
              fun W hW => H.out m' hm _ c.l W ((hka.keep (keep_in (hB1.trans hW))).plain) (by omega)
            by_cases hkn : ht c.l = []
            · have c30 : ∀ W, Below w.heap.size W1 W → Calls Try.prog 30 #[.slice a2 c.l.length c2] W fun e w' => e = .returned (.slice none 0 0) ∧ Below W.heap.size W w' := fun W hW => (HK.out W hW).mono fun e w' ⟨u, he, _, hn, hb⟩ => ⟨by rw [he, hn.out.2 hkn], hb⟩
              have Hkn : Hid (ht c.l = []) := hkn
              clear hkn HK
              go_wp2_with fail
              go_region_held3 (fun w' => w'.cell? ⟨ro.heap.size, 3, none⟩ = some (.slice a2 c.l.length c2)) (go_keep) (first
          | (refine step_bytes (by rfl) _ _ (by rfl) hq (by rfl) _ _ [62] (by rfl) (by simp) (by simp only [List.length_append, List.length_cons, List.length_nil, size_list]; omega) ?_; clear hq; intro vv WW hq; have hxx := hq.ty _ _ _ _ HX.out (by decide); obtain ⟨y0, y1, y2, y3⟩ := four_box hxx)
          | (refine step_bytes (by rfl) _ _ (by rfl) (hq.lay [62] #[.int .u8 62] rfl) (by rfl) _ _ [62] (by rfl) (by simp) (by simp only [List.length_cons, List.length_nil]; omega) ?_; clear hq; intro vv WW hq; have hxx := hq.ty _ _ _ _ HX.out (by decide); obtain ⟨y0, y1, y2, y3⟩ := four_box hxx)
          | (go_at_call 30; refine (c30 _ hq.bel).mono ?_; rintro e WW ⟨rfl, bb⟩; have hq := hq.below bb; have hxx := hq.ty _ _ _ _ HX.out (by decide); obtain ⟨y0, y1, y2, y3⟩ := four_box hxx)
          | (go_at_call 30; refine (c30 _ (hq.lay [62] #[.int .u8 62] rfl).bel).mono ?_; rintro e WW ⟨rfl, bb⟩; have hq := (hq.lay [62] #[.int .u8 62] rfl).below bb; have hxx := hq.ty _ _ _ _ HX.out (by decide); obtain ⟨y0, y1, y2, y3⟩ := four_box hxx)
          | (refine step_none (by rfl) _ _ (by rfl) hq (by rfl) (by rfl) ?_)
          | fail)
              all_goals
                have hq3 := hq.bare
                obtain ⟨ao4, no4, co4, rfl⟩ := hq.shape
                clear hq
                have hxx := hq3.ty _ _ _ _ HX.out (by decide)
                obtain ⟨y0, y1, y2, y3⟩ := four_box hxx
                have hq := hq3.drew
                clear hq3
                go_wp2_with fail
                go_region_held3 (fun w' => w'.cell? ⟨ro.heap.size, 0, none⟩ = some (.string c.g)) (go_keep) (first
          | (refine step_bytes (by rfl) _ _ (by rfl) hq (by rfl) _ _ [60, 47] (by rfl) (by simp) (by simp only [List.length_append, List.length_cons, List.length_nil, size_list]; omega) ?_; clear hq; intro vv WW hq; have hxx := hq.ty _ _ _ _ HX.out (by decide); obtain ⟨y0, y1, y2, y3⟩ := four_box hxx)
          | (refine step_bytes (by rfl) _ _ (by rfl) (hq.lay [60, 47] #[.int .u8 60, .int .u8 47] rfl) (by rfl) _ _ [60, 47] (by rfl) (by simp) (by simp only [List.length_append, List.length_cons, List.length_nil]; omega) ?_; clear hq; intro vv WW hq; have hxx := hq.ty _ _ _ _ HX.out (by decide); obtain ⟨y0, y1, y2, y3⟩ := four_box hxx)
          | (refine step_bytes (by rfl) _ _ (by rfl) (hq.lay [62] #[.int .u8 62] rfl) (by rfl) _ _ [60, 47] (by rfl) (by simp) (by simp only [List.length_append, List.length_cons, List.length_nil, size_list]; omega) ?_; clear hq; intro vv WW hq; have hxx := hq.ty _ _ _ _ HX.out (by decide); obtain ⟨y0, y1, y2, y3⟩ := four_box hxx)
          | (refine step_bytes (by rfl) _ _ (by rfl) ((hq.lay [60, 47] #[.int .u8 60, .int .u8 47] rfl).lay [62] #[.int .u8 62] rfl) (by rfl) _ _ [60, 47] (by rfl) (by simp) (by simp only [List.length_append, List.length_cons, List.length_nil]; omega) ?_; clear hq; intro vv WW hq; have hxx := hq.ty _ _ _ _ HX.out (by decide); obtain ⟨y0, y1, y2, y3⟩ := four_box hxx)
          | (refine step_bytes (by rfl) _ _ (by rfl) ((hq.lay [62] #[.int .u8 62] rfl).lay [60, 47] #[.int .u8 60, .int .u8 47] rfl) (by rfl) _ _ [60, 47] (by rfl) (by simp) (by simp only [List.length_append, List.length_cons, List.length_nil]; omega) ?_; clear hq; intro vv WW hq; have hxx := hq.ty _ _ _ _ HX.out (by decide); obtain ⟨y0, y1, y2, y3⟩ := four_box hxx)
          | (refine step_bytes (by rfl) _ _ (by rfl) hq (by rfl) _ _ [62] (by rfl) (by simp) (by simp only [List.length_append, List.length_cons, List.length_nil, size_list]; omega) ?_; clear hq; intro vv WW hq; have hxx := hq.ty _ _ _ _ HX.out (by decide); obtain ⟨y0, y1, y2, y3⟩ := four_box hxx)
          | (refine step_bytes (by rfl) _ _ (by rfl) (hq.lay [60, 47] #[.int .u8 60, .int .u8 47] rfl) (by rfl) _ _ [62] (by rfl) (by simp) (by simp only [List.length_append, List.length_cons, List.length_nil, size_list]; omega) ?_; clear hq; intro vv WW hq; have hxx := hq.ty _ _ _ _ HX.out (by decide); obtain ⟨y0, y1, y2, y3⟩ := four_box hxx)
          | (refine step_bytes (by rfl) _ _ (by rfl) (hq.lay [62] #[.int .u8 62] rfl) (by rfl) _ _ [62] (by rfl) (by simp) (by simp only [List.length_append, List.length_cons, List.length_nil, size_list]; omega) ?_; clear hq; intro vv WW hq; have hxx := hq.ty _ _ _ _ HX.out (by decide); obtain ⟨y0, y1, y2, y3⟩ := four_box hxx)
          | (refine step_bytes (by rfl) _ _ (by rfl) ((hq.lay [60, 47] #[.int .u8 60, .int .u8 47] rfl).lay [62] #[.int .u8 62] rfl) (by rfl) _ _ [62] (by rfl) (by simp) (by simp only [List.length_append, List.length_cons, List.length_nil, size_list]; omega) ?_; clear hq; intro vv WW hq; have hxx := hq.ty _ _ _ _ HX.out (by decide); obtain ⟨y0, y1, y2, y3⟩ := four_box hxx)
          | (refine step_bytes (by rfl) _ _ (by rfl) ((hq.lay [62] #[.int .u8 62] rfl).lay [60, 47] #[.int .u8 60, .int .u8 47] rfl) (by rfl) _ _ [62] (by rfl) (by simp) (by simp only [List.length_append, List.length_cons, List.length_nil, size_list]; omega) ?_; clear hq; intro vv WW hq; have hxx := hq.ty _ _ _ _ HX.out (by decide); obtain ⟨y0, y1, y2, y3⟩ := four_box hxx)
          | (refine step_text (by rfl) _ _ (by rfl) hq (by rfl) c.g (by rfl) (by simp only [List.length_append, List.length_cons, List.length_nil]; omega) ?_; clear hq; intro vv WW hq; have hxx := hq.ty _ _ _ _ HX.out (by decide); obtain ⟨y0, y1, y2, y3⟩ := four_box hxx)
          | (refine step_text (by rfl) _ _ (by rfl) (hq.lay [60, 47] #[.int .u8 60, .int .u8 47] rfl) (by rfl) c.g (by rfl) (by simp only [List.length_append, List.length_cons, List.length_nil, size_list]; omega) ?_; clear hq; intro vv WW hq; have hxx := hq.ty _ _ _ _ HX.out (by decide); obtain ⟨y0, y1, y2, y3⟩ := four_box hxx)
          | (refine step_text (by rfl) _ _ (by rfl) (hq.lay [62] #[.int .u8 62] rfl) (by rfl) c.g (by rfl) (by simp only [List.length_append, List.length_cons, List.length_nil]; omega) ?_; clear hq; intro vv WW hq; have hxx := hq.ty _ _ _ _ HX.out (by decide); obtain ⟨y0, y1, y2, y3⟩ := four_box hxx)
          | (refine step_text (by rfl) _ _ (by rfl) ((hq.lay [60, 47] #[.int .u8 60, .int .u8 47] rfl).lay [62] #[.int .u8 62] rfl) (by rfl) c.g (by rfl) (by simp only [List.length_append, List.length_cons, List.length_nil, size_list]; omega) ?_; clear hq; intro vv WW hq; have hxx := hq.ty _ _ _ _ HX.out (by decide); obtain ⟨y0, y1, y2, y3⟩ := four_box hxx)
          | (refine step_text (by rfl) _ _ (by rfl) ((hq.lay [62] #[.int .u8 62] rfl).lay [60, 47] #[.int .u8 60, .int .u8 47] rfl) (by rfl) c.g (by rfl) (by simp only [List.length_append, List.length_cons, List.length_nil, size_list]; omega) ?_; clear hq; intro vv WW hq; have hxx := hq.ty _ _ _ _ HX.out (by decide); obtain ⟨y0, y1, y2, y3⟩ := four_box hxx)
          | fail)
                all_goals
                  have HQ6 : Hid (Pk w.heap.size w WW vv (L ++ h1 c) []) := by
                    have e : L ++ h1 c = ((((L2 ++ [62]) ++ [60, 47]) ++ c.g.data.toList) ++ [62]) := by
                      unfold h1
                      rw [if_neg (by rw [hg0]; simp), ← HL2.out, Hkn.out]
                      simp
                    rw [e]
                    exact hp0.out.trans hq
                  obtain ⟨ao5, no5, co5, rfl⟩ := hq.shape
                  clear hq
                  go_wp2_with fail
                  go_roundw
                  case rel =>
                    refine ⟨q + 1, by omega, by go_num, ?_⟩
                    rw [Htk.out, HLq.out]
                    exact HQ6.out
                  case measure => simp only [intOf]; omega
            · have c30 : ∀ W, Below w.heap.size W1 W → Calls Try.prog 30 #[.slice a2 c.l.length c2] W fun e w' => ∃ g cap, e = .returned (.slice (some ⟨g, 0, none⟩) (ht c.l).length cap) ∧ Below W.heap.size W w' ∧ W.heap.size ≤ g ∧ g < w'.heap.size ∧ Hid (∀ j u, (Lib.byteCells (ht c.l))[j]? = some u → w'.cell? ⟨g, j, none⟩ = some u) := by
                intro W hW
                refine (HK.out W hW).mono ?_
                rintro e w' ⟨u, rfl, ho, hn, hb⟩
                rcases ho.2 with ⟨h0, _⟩ | ⟨g, cap, cur, hv, hg, hh, _⟩
                · exact (hkn (hn.out.1 h0)).elim
                · subst hv
                  refine ⟨g, cap, rfl, hb, hg, (Array.getElem?_eq_some_iff.1 hh).1, fun j u hu => ?_⟩
                  have := World.ownsRow.cells (g := g) ho rfl j u hu
                  rwa [add_none, Nat.zero_add] at this
              clear HK
              generalize hKD : ht c.l = KD at *
              have HKD : Hid (ht c.l = KD) := hKD
              clear hKD hkn
              go_wp2_with fail
              go_region_held3 (fun w' => w'.cell? ⟨ro.heap.size, 3, none⟩ = some (.slice a2 c.l.length c2)) (go_keep) (first
          | (refine step_bytes (by rfl) _ _ (by rfl) hq (by rfl) _ _ KD (by rfl) (by simp) (by simp only [List.length_append, List.length_cons, List.length_nil]; omega) ?_; clear hq; intro vv WW hq; have hxx := hq.ty _ _ _ _ HX.out (by decide); obtain ⟨y0, y1, y2, y3⟩ := four_box hxx)
          | (refine step_bytes (by rfl) _ _ (by rfl) hq (by rfl) _ _ [62] (by rfl) (by simp) (by simp only [List.length_append, List.length_cons, List.length_nil, size_list]; omega) ?_; clear hq; intro vv WW hq; have hxx := hq.ty _ _ _ _ HX.out (by decide); obtain ⟨y0, y1, y2, y3⟩ := four_box hxx)
          | (refine step_bytes (by rfl) _ _ (by rfl) (hq.lay [62] #[.int .u8 62] rfl) (by rfl) _ _ [62] (by rfl) (by simp) (by simp only [List.length_cons, List.length_nil]; omega) ?_; clear hq; intro vv WW hq; have hxx := hq.ty _ _ _ _ HX.out (by decide); obtain ⟨y0, y1, y2, y3⟩ := four_box hxx)
          | (go_at_call 30; refine (c30 _ hq.bel).mono ?_; rintro e WW ⟨gk, ck, rfl, bb, hga, hgb, hgc⟩; have hq := hq.row bb hga hgb hgc.out; have hxx := hq.ty _ _ _ _ HX.out (by decide); obtain ⟨y0, y1, y2, y3⟩ := four_box hxx)
          | (go_at_call 30; refine (c30 _ (hq.lay [62] #[.int .u8 62] rfl).bel).mono ?_; rintro e WW ⟨gk, ck, rfl, bb, hga, hgb, hgc⟩; have hq := (hq.lay [62] #[.int .u8 62] rfl).row bb hga hgb hgc.out; have hxx := hq.ty _ _ _ _ HX.out (by decide); obtain ⟨y0, y1, y2, y3⟩ := four_box hxx)
          | fail)
              all_goals
                have hq3 := hq.bare
                obtain ⟨ao4, no4, co4, rfl⟩ := hq.shape
                clear hq
                have hxx := hq3.ty _ _ _ _ HX.out (by decide)
                obtain ⟨y0, y1, y2, y3⟩ := four_box hxx
                have hq := hq3.drew
                clear hq3
                go_wp2_with fail
                go_region_held3 (fun w' => w'.cell? ⟨ro.heap.size, 0, none⟩ = some (.string c.g)) (go_keep) (first
          | (refine step_bytes (by rfl) _ _ (by rfl) hq (by rfl) _ _ [60, 47] (by rfl) (by simp) (by simp only [List.length_append, List.length_cons, List.length_nil, size_list]; omega) ?_; clear hq; intro vv WW hq; have hxx := hq.ty _ _ _ _ HX.out (by decide); obtain ⟨y0, y1, y2, y3⟩ := four_box hxx)
          | (refine step_bytes (by rfl) _ _ (by rfl) (hq.lay [60, 47] #[.int .u8 60, .int .u8 47] rfl) (by rfl) _ _ [60, 47] (by rfl) (by simp) (by simp only [List.length_append, List.length_cons, List.length_nil]; omega) ?_; clear hq; intro vv WW hq; have hxx := hq.ty _ _ _ _ HX.out (by decide); obtain ⟨y0, y1, y2, y3⟩ := four_box hxx)
          | (refine step_bytes (by rfl) _ _ (by rfl) (hq.lay [62] #[.int .u8 62] rfl) (by rfl) _ _ [60, 47] (by rfl) (by simp) (by simp only [List.length_append, List.length_cons, List.length_nil, size_list]; omega) ?_; clear hq; intro vv WW hq; have hxx := hq.ty _ _ _ _ HX.out (by decide); obtain ⟨y0, y1, y2, y3⟩ := four_box hxx)
          | (refine step_bytes (by rfl) _ _ (by rfl) ((hq.lay [60, 47] #[.int .u8 60, .int .u8 47] rfl).lay [62] #[.int .u8 62] rfl) (by rfl) _ _ [60, 47] (by rfl) (by simp) (by simp only [List.length_append, List.length_cons, List.length_nil]; omega) ?_; clear hq; intro vv WW hq; have hxx := hq.ty _ _ _ _ HX.out (by decide); obtain ⟨y0, y1, y2, y3⟩ := four_box hxx)
          | (refine step_bytes (by rfl) _ _ (by rfl) ((hq.lay [62] #[.int .u8 62] rfl).lay [60, 47] #[.int .u8 60, .int .u8 47] rfl) (by rfl) _ _ [60, 47] (by rfl) (by simp) (by simp only [List.length_append, List.length_cons, List.length_nil]; omega) ?_; clear hq; intro vv WW hq; have hxx := hq.ty _ _ _ _ HX.out (by decide); obtain ⟨y0, y1, y2, y3⟩ := four_box hxx)
          | (refine step_bytes (by rfl) _ _ (by rfl) hq (by rfl) _ _ [62] (by rfl) (by simp) (by simp only [List.length_append, List.length_cons, List.length_nil, size_list]; omega) ?_; clear hq; intro vv WW hq; have hxx := hq.ty _ _ _ _ HX.out (by decide); obtain ⟨y0, y1, y2, y3⟩ := four_box hxx)
          | (refine step_bytes (by rfl) _ _ (by rfl) (hq.lay [60, 47] #[.int .u8 60, .int .u8 47] rfl) (by rfl) _ _ [62] (by rfl) (by simp) (by simp only [List.length_append, List.length_cons, List.length_nil, size_list]; omega) ?_; clear hq; intro vv WW hq; have hxx := hq.ty _ _ _ _ HX.out (by decide); obtain ⟨y0, y1, y2, y3⟩ := four_box hxx)
          | (refine step_bytes (by rfl) _ _ (by rfl) (hq.lay [62] #[.int .u8 62] rfl) (by rfl) _ _ [62] (by rfl) (by simp) (by simp only [List.length_append, List.length_cons, List.length_nil, size_list]; omega) ?_; clear hq; intro vv WW hq; have hxx := hq.ty _ _ _ _ HX.out (by decide); obtain ⟨y0, y1, y2, y3⟩ := four_box hxx)
          | (refine step_bytes (by rfl) _ _ (by rfl) ((hq.lay [60, 47] #[.int .u8 60, .int .u8 47] rfl).lay [62] #[.int .u8 62] rfl) (by rfl) _ _ [62] (by rfl) (by simp) (by simp only [List.length_append, List.length_cons, List.length_nil, size_list]; omega) ?_; clear hq; intro vv WW hq; have hxx := hq.ty _ _ _ _ HX.out (by decide); obtain ⟨y0, y1, y2, y3⟩ := four_box hxx)
          | (refine step_bytes (by rfl) _ _ (by rfl) ((hq.lay [62] #[.int .u8 62] rfl).lay [60, 47] #[.int .u8 60, .int .u8 47] rfl) (by rfl) _ _ [62] (by rfl) (by simp) (by simp only [List.length_append, List.length_cons, List.length_nil, size_list]; omega) ?_; clear hq; intro vv WW hq; have hxx := hq.ty _ _ _ _ HX.out (by decide); obtain ⟨y0, y1, y2, y3⟩ := four_box hxx)
          | (refine step_text (by rfl) _ _ (by rfl) hq (by rfl) c.g (by rfl) (by simp only [List.length_append, List.length_cons, List.length_nil]; omega) ?_; clear hq; intro vv WW hq; have hxx := hq.ty _ _ _ _ HX.out (by decide); obtain ⟨y0, y1, y2, y3⟩ := four_box hxx)
          | (refine step_text (by rfl) _ _ (by rfl) (hq.lay [60, 47] #[.int .u8 60, .int .u8 47] rfl) (by rfl) c.g (by rfl) (by simp only [List.length_append, List.length_cons, List.length_nil, size_list]; omega) ?_; clear hq; intro vv WW hq; have hxx := hq.ty _ _ _ _ HX.out (by decide); obtain ⟨y0, y1, y2, y3⟩ := four_box hxx)
          | (refine step_text (by rfl) _ _ (by rfl) (hq.lay [62] #[.int .u8 62] rfl) (by rfl) c.g (by rfl) (by simp only [List.length_append, List.length_cons, List.length_nil]; omega) ?_; clear hq; intro vv WW hq; have hxx := hq.ty _ _ _ _ HX.out (by decide); obtain ⟨y0, y1, y2, y3⟩ := four_box hxx)
          | (refine step_text (by rfl) _ _ (by rfl) ((hq.lay [60, 47] #[.int .u8 60, .int .u8 47] rfl).lay [62] #[.int .u8 62] rfl) (by rfl) c.g (by rfl) (by simp only [List.length_append, List.length_cons, List.length_nil, size_list]; omega) ?_; clear hq; intro vv WW hq; have hxx := hq.ty _ _ _ _ HX.out (by decide); obtain ⟨y0, y1, y2, y3⟩ := four_box hxx)
          | (refine step_text (by rfl) _ _ (by rfl) ((hq.lay [62] #[.int .u8 62] rfl).lay [60, 47] #[.int .u8 60, .int .u8 47] rfl) (by rfl) c.g (by rfl) (by simp only [List.length_append, List.length_cons, List.length_nil, size_list]; omega) ?_; clear hq; intro vv WW hq; have hxx := hq.ty _ _ _ _ HX.out (by decide); obtain ⟨y0, y1, y2, y3⟩ := four_box hxx)
          | fail)
                all_goals
                  have HQ6 : Hid (Pk w.heap.size w WW vv (L ++ h1 c) []) := by
                    have e : L ++ h1 c = (((((L2 ++ [62]) ++ KD) ++ [60, 47]) ++ c.g.data.toList) ++ [62]) := by
                      unfold h1
                      rw [if_neg (by rw [hg0]; simp), ← HL2.out, HKD.out]
                      simp
                    rw [e]
                    exact hp0.out.trans hq
                  obtain ⟨ao5, no5, co5, rfl⟩ := hq.shape
                  clear hq
                  go_wp2_with fail
                  go_roundw
                  case rel =>
                    refine ⟨q + 1, by omega, by go_num, ?_⟩
                    rw [Htk.out, HLq.out]
                    exact HQ6.out
                  case measure => simp only [intOf]; omega
    · have hlt' : decide ((q : Int) < (l.length : Int)) = false := by simp; omega
      rw [List.take_of_length_le (by omega)] at hp
      have HP : Hid (Pk w.heap.size w ro u3 (ht l) []) := hp
      obtain ⟨ao, no, co, rfl⟩ := hp.shape
      clear hp
      go_wp2_with fail
      go_ret
      exact ⟨_, rfl, HP.out.own, HP.out.nil, HP.out.bel⟩
theorem htmls : ∀ m, Htmls m := by
  intro m
  induction m with
  | zero => exact html_of 0 (fun m' h => by omega)
  | succ m ih => exact html_of (m + 1) (fun m' h => Nat.succ.inj h ▸ ih)
theorem rhtml_c (m : Nat) (v : Value) (l : List T) (w : World) (h : InL false All w m v l) (hlen : TMeas.ck l = 0 → 16 * wt l ≤ 140737488351232) :
    Calls Try.prog 13 #[v] w fun r w' => r = .returned (.tuple #[.string (htB l), .int .i64 (TMeas.ck l : Nat)]) ∧ Below w.heap.size w w' := by
  have c15 := RLook.rcheck_c m v l w h
  have HI : Hid (InL false All w m v l) := h
  obtain ⟨a, cap, rfl, -⟩ := h
  have hck := (TMeas.ck_ok l).1
  by_cases h0 : TMeas.ck l = 0
  · have e1 : htB l = ⟨(ht l).toArray⟩ := by unfold htB; rw [if_pos h0]
    obtain ⟨X, hX⟩ : ∃ X, (⟨(ht l).toArray⟩ : ByteArray) = X := ⟨_, rfl⟩
    rw [e1, h0, hX]
    have HX : Hid ((⟨(ht l).toArray⟩ : ByteArray) = X) := hX
    rw [h0] at c15
    have hlen := hlen h0
    clear e1 h0 hck hX
    go_enter Try.func13, Try.ntmps13
    go_wp2_with fail
    refine c15.mono ?_
    rintro e w1 ⟨rfl, b1⟩
    have c30 := htmls m _ l w1 (HI.out.below b1) hlen
    clear c15
    go_wp2_with fail
    refine c30.mono ?_
    rintro e w2 ⟨u, rfl, ho, -, b2⟩
    have hconv := own_conv ho
    rw [HX.out] at hconv
    clear ho c30
    go_wp2_with fail
    go_ret2
    exact ⟨rfl, nx b1 b2⟩
  · have e1 : htB l = ⟨#[]⟩ := by unfold htB; rw [if_neg h0]
    rw [e1]
    have h1 : (((TMeas.ck l : Nat) : Int) == 0) = false := by simp; omega
    clear e1 hlen HI
    generalize TMeas.ck l = x at *
    generalize l.length = n at *
    go_enter Try.func13, Try.ntmps13
    go_wp2_with fail
    refine c15.mono ?_
    rintro e w1 ⟨rfl, b1⟩
    go_wp2_with fail
    go_ret2
    exact ⟨rfl, b1⟩
end Go.Proofs.Ytonoalbhpligfaa.RHtml

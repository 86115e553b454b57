/- The walk of the law ForestTexts. -/
import Derived.Test.YtonoalbhpligfaaTAw
namespace Go.Proofs.Ytonoalbhpligfaa.WTexts
open Go.RowKit Go.Proofs.Ytonoalbhpligfaa.TBase Go.Proofs.Ytonoalbhpligfaa.TPure Go.Proofs.Ytonoalbhpligfaa.TMay Go.Proofs.Ytonoalbhpligfaa.TVisit Go.Proofs.Ytonoalbhpligfaa.TMeas Go.Proofs.Ytonoalbhpligfaa.TSpecH Go.Proofs.Ytonoalbhpligfaa.TWrite Go.Proofs.Ytonoalbhpligfaa.TAw Go.Proofs.Ytonoalbhpligfaa.Base
set_option linter.unusedVariables false

theorem ck_one (c : T) (h : c.l = []) : ck [c] = if alone c = true then 0 else 700 := by
  unfold ck
  have e : flt c 1 (0 + 1) = if alone c = true then 0 else 700 := by unfold flt; rw [if_neg (by omega), if_neg (by omega)]
  rw [vis_cons, e]
  cases alone c with
  | true =>
    have e2 : ∀ d k e, vis c.l d k e = (k, e, 0) := by intro d k e; rw [h, vis_nil]
    rw [if_pos rfl, if_pos rfl, e2, if_pos rfl, vis_nil]
  | false => rw [if_neg (by simp), if_neg (by simp)]
theorem ck_text (s : ByteArray) : ck [.mk ⟨#[]⟩ s [] []] = if tg s = true then 0 else 700 := by
  rw [ck_one _ rfl]
  have e : alone (.mk ⟨#[]⟩ s [] []) = tg s := by
    unfold alone
    show (if (⟨#[]⟩ : ByteArray).toList.isEmpty = true then _ else _) = _
    rw [show (⟨#[]⟩ : ByteArray).toList.isEmpty = true by kernel_rfl, if_pos rfl]
    rfl
  rw [e]
theorem ck_attr (s : ByteArray) : ck [.mk ⟨#[97]⟩ ⟨#[]⟩ [(⟨#[98]⟩, s)] []] = if tg s = true then 0 else 700 := by
  rw [ck_one _ rfl]
  have e1 : attrsOK [(⟨#[98]⟩, s)] = tg s := by
    have hw : UBase.word ⟨#[98]⟩ 45 = true := by kernel_rfl
    have ha : ∀ h, aok [(⟨#[98]⟩, s)] 0 h = tg s := by
      intro h
      unfold aok
      show (UBase.word ⟨#[98]⟩ 45 && (tg s && (decide (0 = 0) || _))) = _
      rw [hw]
      simp
    cases ht : tg s with
    | true =>
      refine attrsOK_true fun i hi => ?_
      obtain rfl : i = 0 := by simpa using hi
      rw [ha, ht]
    | false => exact attrsOK_false (i := 0) (by simp) (by rw [ha, ht])
  have e : alone (.mk ⟨#[97]⟩ ⟨#[]⟩ [(⟨#[98]⟩, s)] []) = tg s := by
    unfold alone
    show (if (⟨#[97]⟩ : ByteArray).toList.isEmpty = true then _ else UBase.word ⟨#[97]⟩ 45 && ((⟨#[]⟩ : ByteArray).toList.isEmpty && attrsOK [(⟨#[98]⟩, s)])) = _
    rw [show (⟨#[97]⟩ : ByteArray).toList.isEmpty = false by kernel_rfl, if_neg (by simp), e1, show UBase.word ⟨#[97]⟩ 45 = true by kernel_rfl, show (⟨#[]⟩ : ByteArray).toList.isEmpty = true by kernel_rfl]
    simp
  rw [e]
theorem ht_text (s : ByteArray) (h : tg s = true) : htB [.mk ⟨#[]⟩ s [] []] = escB false s := by
  unfold htB
  rw [if_pos (by rw [ck_text, h]; rfl), ht_cons, ht_nil]
  unfold h1
  rw [show (T.mk ⟨#[]⟩ s [] []).g.toList.isEmpty = true by kernel_rfl, if_pos rfl, List.append_nil]
  rfl
theorem ht_attr (s : ByteArray) (h : tg s = true) : htB [.mk ⟨#[97]⟩ ⟨#[]⟩ [(⟨#[98]⟩, s)] []] = ((⟨#[60, 97, 32, 98, 61, 34]⟩ : ByteArray) ++ escB true s) ++ ⟨#[34, 62, 60, 47, 97, 62]⟩ := by
  unfold htB
  rw [if_pos (by rw [ck_attr, h]; rfl), ht_cons, ht_nil]
  unfold h1
  rw [show (T.mk ⟨#[97]⟩ ⟨#[]⟩ [(⟨#[98]⟩, s)] []).g.toList.isEmpty = false by kernel_rfl, if_neg (by simp), List.append_nil]
  apply ByteArray.ext
  apply Array.toList_inj.1
  rw [dat, dat]
  show 60 :: ([97] ++ (ats [(⟨#[98]⟩, s)] ++ 62 :: (ht [] ++ 60 :: 47 :: ([97] ++ [62])))) = _
  rw [ht_nil]
  have e : ats [((⟨#[98]⟩ : ByteArray), s)] = 32 :: ([98] ++ 61 :: 34 :: (esc true s.data.toList ++ [34])) := by
    unfold ats
    rw [List.flatMap_cons, List.flatMap_nil, List.append_nil]
    rfl
  rw [e]
  have e2 : (escB true s).data.toList = esc true s.data.toList := by simp [escB]
  rw [e2]
  simp
theorem tg_size {s : ByteArray} (h : tg s = true) : s.size ≤ 4096 := by
  unfold tg at h
  simp at h
  exact h.1
theorem zero_of {b : Bool} (h : (if b = true then 0 else 700 : Nat) = 0) : b = true := by
  cases b with
  | true => rfl
  | false => cases h
theorem text_in {w : World} {b : Nat} {s : ByteArray} (hs : s.size ≤ 140737488351232) (h : w.heap[b]? = some (.cells #[.string ⟨#[]⟩, .string s, .slice none 0 0, .slice none 0 0] 37 (0, 0))) :
    InL false All w 1 (.slice (some ⟨b, 0, none⟩) 1 1) [.mk ⟨#[]⟩ s [] []] := one_in h (leaf w 0 _ _ (by decide) hs)
theorem attr_in {w : World} {b : Nat} {s : ByteArray} (hs : s.size ≤ 140737488351232) (h0 : w.heap[b]? = some (.cells #[.string ⟨#[98]⟩, .string s] 39 (0, 0))) (h : w.heap[b + 1]? = some (.cells #[.string ⟨#[97]⟩, .string ⟨#[]⟩, .slice (some ⟨b, 0, none⟩) 1 1, .slice none 0 0] 37 (0, 0))) :
    InL false All w 1 (.slice (some ⟨b + 1, 0, none⟩) 1 1) [.mk ⟨#[97]⟩ ⟨#[]⟩ [(⟨#[98]⟩, s)] []] := by
  refine one_in h ?_
  rw [in_iff]
  refine ⟨_, _, rfl, by decide, by decide, ?_, in0 w 0⟩
  obtain ⟨k0, k1⟩ := two_box h0
  refine ⟨some ⟨b, 0, none⟩, 1, rfl, by simp, by simp, by simp, ?_, (fun h => by cases h), .inr ⟨b, 0, rfl, trivial, ?_, fun h => by cases h⟩⟩
  · intro t ht
    simp at ht
    subst ht
    exact ⟨by show (1 : Nat) ≤ _; decide, hs⟩
  · intro j hj
    obtain rfl : j = 0 := by simpa using hj
    exact ⟨k0, k1⟩
set_option maxRecDepth 20000 in
set_option maxHeartbeats 1600000 in
theorem walk (s t : ByteArray) (hs : s.size ≤ 140737488351232) (ht : t.size ≤ 140737488351232) (w : World) :
    Calls Try.prog 6 #[.string s, .string t] w fun r w' => r = .returned (.bool true) ∧ Below w.heap.size w w' := by
  have c19 := awake_c w
  go_enter Try.func6, Try.ntmps6
  go_wp2_with fail
  refine c19.mono ?_
  rintro e w1 ⟨rfl, b1⟩
  clear c19
  have x1 := heap_alloc_new w1 (.cells #[.string ⟨#[]⟩, .string s, .slice none 0 0, .slice none 0 0] 37)
  have c12 := html_c 1 _ _ _ (text_in hs x1) (by
    intro h
    rw [ck_text] at h
    have := tg_size (zero_of h)
    rw [wt_cons, wt_nil]
    unfold TSpecH.w1
    show 16 * (0 + s.size + 0 + 1 + wt [] + 0) ≤ _
    rw [wt_nil]
    omega)
  rw [ck_text] at c12
  go_wp2_with fail
  refine c12.mono ?_
  rintro e w2 ⟨rfl, b2⟩
  have B2 : Below w.heap.size w w2 := nx (nx b1 bx) b2
  obtain ⟨W0, hW0⟩ : ∃ W0, (w2.alloc (.cells #[.string ⟨#[98]⟩, .string t] 39)).alloc (.cells #[.string ⟨#[97]⟩, .string ⟨#[]⟩, .slice (some ⟨w2.heap.size, 0, none⟩) 1 1, .slice none 0 0] 37) = W0 := ⟨_, rfl⟩
  have b0 : Below w2.heap.size w2 W0 := by rw [← hW0]; exact bx.alloc (by simp) _
  have y0 : W0.heap[w2.heap.size]? = some (.cells #[.string ⟨#[98]⟩, .string t] 39 (0, 0)) := by rw [← hW0, Below.heap_alloc _ _ _ (by simp), heap_alloc_new]
  have y1 : W0.heap[w2.heap.size + 1]? = some (.cells #[.string ⟨#[97]⟩, .string ⟨#[]⟩, .slice (some ⟨w2.heap.size, 0, none⟩) 1 1, .slice none 0 0] 37 (0, 0)) := by
    rw [← hW0]
    have := heap_alloc_new (w2.alloc (.cells #[.string ⟨#[98]⟩, .string t] 39)) (.cells #[.string ⟨#[97]⟩, .string ⟨#[]⟩, .slice (some ⟨w2.heap.size, 0, none⟩) 1 1, .slice none 0 0] 37)
    rwa [World.size_alloc] at this
  have d12 := html_c 1 _ _ _ (attr_in ht y0 y1) (by
    intro h
    rw [ck_attr] at h
    have := tg_size (zero_of h)
    rw [wt_cons, wt_nil]
    unfold TSpecH.w1
    show 16 * (1 + 0 + (1 + t.size + 1 + 0) + 1 + wt [] + 0) ≤ _
    rw [wt_nil]
    omega)
  rw [ck_attr] at d12
  have h1 := fun h => ht_text s h
  have h2 := fun h => ht_attr t h
  generalize htB [.mk ⟨#[]⟩ s [] []] = X at *
  generalize htB [.mk ⟨#[97]⟩ ⟨#[]⟩ [(⟨#[98]⟩, t)] []] = Y at *
  clear c12 x1 y0 y1
  have Hs := @tg_size s
  have Ht := @tg_size t
  have c23 := fun (h : tg s = true) (W : World) => Esc.text_c s (by have := Hs h; omega) W
  have c24 := fun (h : tg t = true) (W : World) => Esc.attr_c t (by have := Ht h; omega) W
  have z1 : (⟨#[60, 97, 32, 98, 61, 34]⟩ : ByteArray).size = 6 := rfl
  have z2 : (⟨#[34, 62, 60, 47, 97, 62]⟩ : ByteArray).size = 6 := rfl
  have hes : tg t = true → (escB true t).size ≤ 32768 := fun h => by have := esc_size true t; have := Ht h; omega
  clear Hs Ht
  cases es : tg s with
  | true =>
    have c23 := c23 es
    obtain rfl := h1 es
    cases et : tg t with
    | true =>
      have c24 := c24 et
      have hes := hes et
      obtain rfl := h2 et
      rw [if_pos et] at d12
      generalize escB false s = S at *
      generalize escB true t = U at *
      have q1 : ∀ W, (Op.stringOp .add (⟨#[60, 97, 32, 98, 61, 34]⟩ : ByteArray) U).run Try.prog W = .ok (.string (⟨#[60, 97, 32, 98, 61, 34]⟩ ++ U)) W := fun W => run_string_add_sum W _ _ (by rw [z1]; omega)
      have q2 : ∀ W, (Op.stringOp .add ((⟨#[60, 97, 32, 98, 61, 34]⟩ : ByteArray) ++ U) ⟨#[34, 62, 60, 47, 97, 62]⟩).run Try.prog W = .ok (.string ((⟨#[60, 97, 32, 98, 61, 34]⟩ ++ U) ++ ⟨#[34, 62, 60, 47, 97, 62]⟩)) W := fun W => run_string_add_sum W _ _ (by simp only [ByteArray.size_append, z1, z2]; omega)
      go_wp2_with (first | (go_at_call 12; refine d12.mono ?_; rintro e w3 ⟨rfl, b3⟩) | (go_at_call 14; refine (num_c _ _).mono ?_; rintro e w' ⟨rfl, rfl⟩) | (go_at_call 23; refine (c23 _).mono ?_; rintro e w4 ⟨rfl, b4⟩) | (go_at_call 24; refine (c24 _).mono ?_; rintro e w5 ⟨rfl, b5⟩))
      go_ret
      exact ⟨rfl, nx (nx (nx (nx B2 b0) b3) b4) b5⟩
    | false =>
      rw [if_neg (by rw [et]; simp)] at d12
      generalize escB false s = S at *
      go_wp2_with (first | (go_at_call 12; refine d12.mono ?_; rintro e w3 ⟨rfl, b3⟩) | (go_at_call 14; refine (num_c _ _).mono ?_; rintro e w' ⟨rfl, rfl⟩) | (go_at_call 23; refine (c23 _).mono ?_; rintro e w4 ⟨rfl, b4⟩))
      go_ret
      exact ⟨rfl, nx (nx (nx B2 b0) b3) b4⟩
  | false =>
    cases et : tg t with
    | true =>
      have c24 := c24 et
      have hes := hes et
      obtain rfl := h2 et
      rw [if_pos et] at d12
      generalize escB true t = U at *
      have q1 : ∀ W, (Op.stringOp .add (⟨#[60, 97, 32, 98, 61, 34]⟩ : ByteArray) U).run Try.prog W = .ok (.string (⟨#[60, 97, 32, 98, 61, 34]⟩ ++ U)) W := fun W => run_string_add_sum W _ _ (by rw [z1]; omega)
      have q2 : ∀ W, (Op.stringOp .add ((⟨#[60, 97, 32, 98, 61, 34]⟩ : ByteArray) ++ U) ⟨#[34, 62, 60, 47, 97, 62]⟩).run Try.prog W = .ok (.string ((⟨#[60, 97, 32, 98, 61, 34]⟩ ++ U) ++ ⟨#[34, 62, 60, 47, 97, 62]⟩)) W := fun W => run_string_add_sum W _ _ (by simp only [ByteArray.size_append, z1, z2]; omega)
      go_wp2_with (first | (go_at_call 12; refine d12.mono ?_; rintro e w3 ⟨rfl, b3⟩) | (go_at_call 14; refine (num_c _ _).mono ?_; rintro e w' ⟨rfl, rfl⟩) | (go_at_call 24; refine (c24 _).mono ?_; rintro e w5 ⟨rfl, b5⟩))
      go_ret
      exact ⟨rfl, nx (nx (nx B2 b0) b3) b5⟩
    | false =>
      rw [if_neg (by rw [et]; simp)] at d12
      go_wp2_with (first | (go_at_call 12; refine d12.mono ?_; rintro e w3 ⟨rfl, b3⟩) | (go_at_call 14; refine (num_c _ _).mono ?_; rintro e w' ⟨rfl, rfl⟩))
      go_ret
      exact ⟨rfl, nx (nx B2 b0) b3⟩
end Go.Proofs.Ytonoalbhpligfaa.WTexts

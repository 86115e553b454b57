/- The reference's lexer: a tag's name. -/
import Derived.Test.YtfglbgnjgapehaaRBl
import Derived.Test.YtfglbgnjgapehaaUWord
import Derived.Test.YtfglbgnjgapehaaLTp
namespace Go.Proofs.Ytfglbgnjgapehaa.RNa
open Go.RowKit Go.Proofs.Ytfglbgnjgapehaa.UBase Go.Proofs.Ytfglbgnjgapehaa.EPure Go.Proofs.Ytfglbgnjgapehaa.LPure Go.Proofs.Ytfglbgnjgapehaa.LRd Go.Proofs.Ytfglbgnjgapehaa.LSk Go.Proofs.Ytfglbgnjgapehaa.LNm Go.Proofs.Ytfglbgnjgapehaa.LSc Go.Proofs.Ytfglbgnjgapehaa.LOc Go.Proofs.Ytfglbgnjgapehaa.LIn Go.Proofs.Ytfglbgnjgapehaa.LMu Go.Proofs.Ytfglbgnjgapehaa.LCv Go.Proofs.Ytfglbgnjgapehaa.RLd Go.Proofs.Ytfglbgnjgapehaa.RBl
set_option linter.unusedVariables false

theorem wd2 : ∀ n : Fin 256, word ⟨#[97, UInt8.ofNat n.val]⟩ 45 = tgb n.val := by decide +kernel
theorem wd1 : ∀ n : Fin 256, word ⟨#[UInt8.ofNat n.val]⟩ 45 = UBase.let' n.val := by decide +kernel
theorem ext_one {s : ByteArray} {j : Nat} (h : j < s.size) : s.extract j (j + 1) = ⟨#[UInt8.ofNat (at' s j)]⟩ := by
  have := LTp.sub_one (s := s) (i := j) (c := s[j]) (t := s.data.toList.drop (j + 1)) (by omega) (HFind.drop_at h)
  unfold sub at this
  rw [this, at_get s j h]
  simp
theorem word2 {s : ByteArray} {j : Nat} (h : j < s.size) : word (⟨#[97]⟩ ++ s.extract j (j + 1)) 45 = tgb (at' s j) := by
  rw [ext_one h]
  exact wd2 ⟨at' s j, at_lt s j⟩
theorem word1 {s : ByteArray} {j : Nat} (h : j < s.size) : word (s.extract j (j + 1)) 45 = UBase.let' (at' s j) := by
  rw [ext_one h]
  exact wd1 ⟨at' s j, at_lt s j⟩
/-- Where a name ends that has begun at i, from j on. -/
def rn (s : ByteArray) (i j : Nat) : Nat := if j = i then (if i < s.size ∧ UBase.let' (at' s i) = true then skp tgb s (i + 1) else i) else skp tgb s j
theorem let_tgb {c : Nat} (h : UBase.let' c = true) : tgb c = true := by
  have h' : EPure.let' c = true := h
  unfold tgb
  rw [h']
  rfl
theorem rn_go {s : ByteArray} {i j : Nat} (hij : i ≤ j) (h1 : j < s.size) (h2 : tgb (at' s j) = true) (h3 : i < j ∨ UBase.let' (at' s j) = true) : rn s i (j + 1) = rn s i j := by
  unfold rn
  rw [if_neg (by omega)]
  split
  · rename_i e
    subst e
    rw [if_pos ⟨h1, h3.resolve_left (by omega)⟩]
  · rw [skp_step h1 h2]
theorem rn_stop {s : ByteArray} {i j : Nat} (hij : i ≤ j) (h : ¬ (j < s.size ∧ tgb (at' s j) = true ∧ (i < j ∨ UBase.let' (at' s j) = true))) : rn s i j = j := by
  unfold rn
  split
  · rename_i e
    subst e
    rw [if_neg (fun h' => h ⟨h'.1, let_tgb h'.2, .inr h'.2⟩)]
  · exact skp_stop (fun h' => h ⟨h'.1, h'.2, .inl (by omega)⟩)
theorem rn_ge (s : ByteArray) {i j : Nat} (h : i ≤ j) : j ≤ rn s i j := by
  unfold rn
  split
  · split
    · have := skp_ge tgb s (i + 1); omega
    · omega
  · exact skp_ge tgb s j
theorem rn_in {s : ByteArray} {i : Nat} (hi : i ≤ s.size) : rn s i i ≤ s.size := by
  unfold rn
  rw [if_pos rfl]
  split
  · rename_i h; exact skp_in (by omega)
  · exact hi
theorem skp_all {p : Nat → Bool} {s : ByteArray} : ∀ (k i : Nat), s.size - i ≤ k → ∀ j, i ≤ j → j < skp p s i → p (at' s j) = true := by
  intro k
  induction k with
  | zero => intro i hk j h1 h2; rw [skp_stop (by omega)] at h2; omega
  | succ k ih =>
    intro i hk j h1 h2
    by_cases hc : i < s.size ∧ p (at' s i) = true
    · rw [skp_step hc.1 hc.2] at h2
      rcases Nat.eq_or_lt_of_le h1 with rfl | h3
      · exact hc.2
      · exact ih (i + 1) (by omega) j h3 h2
    · rw [skp_stop hc] at h2; omega
theorem at_sub {s : ByteArray} {i e k : Nat} (he : e ≤ s.size) (hk : k < e - i) : at' (sub s i e) k = at' s (i + k) := by
  have h1 := LEv.at_list (sub s i e) 0 k
  rw [Nat.zero_add, List.drop_zero, sub_list he] at h1
  rw [h1, LEv.at_list]
  unfold LEv.gt
  rw [List.getD_eq_getElem?_getD, List.getD_eq_getElem?_getD, List.getElem?_take, if_pos hk]
/-- A name is a tag just where its first byte is a letter and it has at most 32. -/
theorem rn_word {s : ByteArray} {i : Nat} (hi : i ≤ s.size) : (rn s i i = i ∧ word (nT s i) 45 = false) ∨ (i < rn s i i ∧ rn s i i = nE s i ∧ word (nT s i) 45 = decide (rn s i i - i ≤ 32)) := by
  have hX : skp tgb s i ≤ s.size := skp_in hi
  have hg := skp_ge tgb s i
  show (_ ∧ word (sub s i (skp tgb s i)) 45 = false) ∨ (_ ∧ rn s i i = skp tgb s i ∧ word (sub s i (skp tgb s i)) 45 = _)
  have hz := sub_size (i := i) hX
  by_cases hc : i < s.size ∧ UBase.let' (at' s i) = true
  · have hst : skp tgb s i = skp tgb s (i + 1) := skp_step hc.1 (let_tgb hc.2)
    have h1 := skp_ge tgb s (i + 1)
    have e : rn s i i = skp tgb s i := by unfold rn; rw [if_pos rfl, if_pos hc, hst]
    refine .inr ⟨by rw [e]; omega, e, ?_⟩
    rw [e]
    unfold word
    have h0 : at' (sub s i (skp tgb s i)) 0 = at' s i := at_sub hX (by rw [hst]; omega)
    have hpos : 0 < skp tgb s i - i := by rw [hst]; omega
    rw [h0, hc.2, hz, decide_eq_true hpos]
    have hall : decide (∀ k, k < skp tgb s i - i → sign 45 (at' (sub s i (skp tgb s i)) k) = true) = true := by
      refine decide_eq_true fun k hk => ?_
      rw [at_sub hX hk]
      have := skp_all (p := tgb) (s := s) _ i (Nat.le_refl _) (i + k) (by omega) (by omega)
      exact this
    rw [hall]
    simp
  · refine .inl ⟨by unfold rn; rw [if_pos rfl, if_neg hc], ?_⟩
    unfold word
    rw [hz]
    rcases Nat.eq_or_lt_of_le hg with h | h
    · rw [decide_eq_false (by omega)]; rfl
    · have h0 : at' (sub s i (skp tgb s i)) 0 = at' s i := at_sub hX (by omega)
      have hl : UBase.let' (at' s i) = false := by
        cases e : UBase.let' (at' s i) with
        | false => rfl
        | true => exact absurd ⟨by omega, e⟩ hc
      rw [h0, hl]
      simp
theorem sub_nil (s : ByteArray) (j : Nat) : sub s j j = ByteArray.empty := by
  refine LTp.ext_b ?_
  unfold sub
  simp
set_option maxRecDepth 20000 in
set_option maxHeartbeats 3200000 in
theorem name_c {w : World} {R : Nat} {s : ByteArray} {i : Nat} {ov : Value} {f : F} (h : Rl w R s i ov f) :
    Calls Try.prog 29 #[ptr R] w fun r w' => r = .returned (.string (sub s i (rn s i i))) ∧ Rl w' R s (rn s i i) ov (nF s i f) ∧ Kr R w w' := by
  obtain ⟨k0, k1, k2, k3, k4⟩ := h.cells
  have hsz := h.sz
  have hla := h.la
  have hw := rn_word hla
  have hXs := rn_in hla
  have hXi := rn_ge s (Nat.le_refl i)
  obtain ⟨X, HX⟩ : ∃ X, Hid (rn s i i = X) := ⟨_, rfl⟩
  have HF : Hid ((X = i ∧ rf f (1202, i) = nF s i f) ∨ (i < X ∧ X - i ≤ 32 ∧ f = nF s i f) ∨ (i < X ∧ ¬ X - i ≤ 32 ∧ rf f (1202, i) = nF s i f)) := by
    show _ ∨ _
    rw [HX.out] at hw
    rcases hw with ⟨h1, h2⟩ | ⟨h1, h2, h3⟩
    · refine .inl ⟨h1, ?_⟩
      show _ = fif (word (nT s i) 45) f (1202, i)
      rw [h2]; rfl
    · by_cases h4 : X - i ≤ 32
      · refine .inr (.inl ⟨h1, h4, ?_⟩)
        show _ = fif (word (nT s i) 45) f (1202, i)
        rw [h3, decide_eq_true h4]; rfl
      · refine .inr (.inr ⟨h1, h4, ?_⟩)
        show _ = fif (word (nT s i) 45) f (1202, i)
        rw [h3, decide_eq_false h4]; rfl
  rw [HX.out] at hXs hXi ⊢
  generalize nF s i f = U at *
  have HE : Hid (Rl w R s i ov f) := h
  clear h hw
  unfold ptr
  go_enter Try.func29, Try.ntmps29
  go_wp2_with fail
  go_loopw [] (fun wr => ∃ j : Nat, i ≤ j ∧ rn s i j = X ∧ Rl wr R s j ov f ∧ Kr R w wr) (fun wr => s.size - plc R wr)
  case atStart => exact ⟨i, Nat.le_refl _, HX.out, HE.out, Kr.refl _ _⟩
  case round =>
    clear HX HE k0 k1 k2 k3 k4
    obtain ⟨j, hij, hj, hE, hK⟩ := hrel
    obtain ⟨k0, k1, k2, k3, k4⟩ := hE.cells
    have f1 := hE.free 1
    have hlj := hE.la
    have HM : Hid (plc R wr = j) := plr_of hE
    have HE : Hid (∀ m, Rl (wr.drewN m) R s j ov f) := fun m => hE.drewN m
    have cT := fun (x : ByteArray) (hx : x.size ≤ 9223372036854775807) (W : World) => UWord.rtag_c x hx W
    by_cases hjl : j < s.size
    · have d0 : decide ((j : Int) < (s.size : Int)) = true := decide_eq_true (by omega)
      have hwj : IntKind.i64.wrap ((j : Int) + 1) = (j : Int) + 1 := by rw [IntKind.wrap_i64]; omega
      have hx1 : (s.extract j (j + 1)).size ≤ 1 := by rw [ByteArray.size_extract]; omega
      have c2 := fun W => cT (⟨#[97]⟩ ++ s.extract j (j + 1)) (by rw [ByteArray.size_append]; have : (⟨#[97]⟩ : ByteArray).size = 1 := rfl; omega) W
      have c1 := fun W => cT (s.extract j (j + 1)) (by omega) W
      rw [word2 hjl] at c2
      rw [word1 hjl] at c1
      by_cases hgo : tgb (at' s j) = true ∧ (i < j ∨ UBase.let' (at' s j) = true)
      · have HJ : Hid (∀ m, Rl ((wr.drewN m).setCell ⟨R, 1, none⟩ (.int .i64 ((j : Int) + 1))) R s (j + 1) ov f) := fun m => by
          have := (hE.drewN m).go (j + 1) (by omega)
          rwa [show ((j + 1 : Nat) : Int) = (j : Int) + 1 from by omega] at this
        have HS : Hid (rn s i (j + 1) = X) := by
          show _ = _
          rw [rn_go hij hjl hgo.1 hgo.2, hj]
        rw [hgo.1] at c2
        have b1 : (0 : Int) ≤ (j : Int) := by omega
        have b2 : (j : Int) ≤ (j : Int) + 1 := by omega
        have b3 : (j : Int) + 1 ≤ (s.size : Int) := by omega
        by_cases hlt : i < j
        · have e1 : decide ((i : Int) < (j : Int)) = true := decide_eq_true (by omega)
          clear hE hj hgo cT
          go_wp2_with fail
          go_quiet (first | (go_at_call 47; first | exact Calls.quiet_of_same (c2 _) | exact Calls.quiet_of_same (c1 _)))
          go_wp2_with fail
          go_roundw
          case rel => exact ⟨j + 1, by omega, HS.out, HJ.out nq, (hK.drewN nq).set 1 _⟩
          case measure =>
            show s.size - plc R _ < s.size - plc R wr
            rw [plr_of (HJ.out nq), HM.out]
            omega
        · have e1 : decide ((i : Int) < (j : Int)) = false := decide_eq_false (by omega)
          rw [hgo.2.resolve_left hlt] at c1
          clear hE hj hgo cT
          go_wp2_with fail
          go_quiet (first | (go_at_call 47; first | exact Calls.quiet_of_same (c2 _) | exact Calls.quiet_of_same (c1 _)))
          go_wp2_with fail
          go_roundw
          case rel => exact ⟨j + 1, by omega, HS.out, HJ.out nq, (hK.drewN nq).set 1 _⟩
          case measure =>
            show s.size - plc R _ < s.size - plc R wr
            rw [plr_of (HJ.out nq), HM.out]
            omega
      · have hjX : j = X := by rw [← hj, rn_stop hij (fun h => hgo h.2)]
        have b1 : (0 : Int) ≤ (j : Int) := by omega
        have b2 : (j : Int) ≤ (j : Int) + 1 := by omega
        have b3 : (j : Int) + 1 ≤ (s.size : Int) := by omega
        by_cases ht : tgb (at' s j) = true
        · have hn : ¬ (i < j ∨ UBase.let' (at' s j) = true) := fun h => hgo ⟨ht, h⟩
          have e1 : decide ((i : Int) < (j : Int)) = false := decide_eq_false (by omega)
          have hl : UBase.let' (at' s j) = false := by
            cases e : UBase.let' (at' s j) with
            | false => rfl
            | true => exact absurd (.inr e) hn
          rw [ht] at c2
          rw [hl] at c1
          have hji : j = i := by omega
          subst hji
          clear hE hj hgo cT hn ht hl hij hXi hla
          have HF2 : Hid _ := HF.out
          subst hjX
          go_wp2_with fail
          go_quiet (first | (go_at_call 47; first | exact Calls.quiet_of_same (c2 _) | exact Calls.quiet_of_same (c1 _)))
          have hE3 := HE.out nq
          have hK3 := hK.drewN nq
          generalize wr.drewN nq = w3 at *
          obtain ⟨k0, k1, k2, k3, k4⟩ := hE3.cells
          rcases HF2.out with ⟨-, hU⟩ | ⟨hlt, -, -⟩ | ⟨hlt, -, -⟩
          · have cf := fail_c hE3 (1202, j)
            rw [hU] at cf
            clear hU
            go_wp2_with fail
            refine cf.mono ?_
            rintro e w4 ⟨⟨v, rfl⟩, hE4, hk4⟩
            obtain ⟨k0, k1, k2, k3, k4⟩ := hE4.cells
            have b1 : (0 : Int) ≤ (j : Int) := by omega
            have b3 : (j : Int) ≤ (s.size : Int) := by omega
            go_wp2_with fail
            go_quiet (fail)
            go_wp2_with fail
            go_ret
            exact ⟨by rw [sub_nil s j]; rfl, hE4.drewN _, (hK3.trans hk4).drewN _⟩
          · exact absurd hlt (Nat.lt_irrefl _)
          · exact absurd hlt (Nat.lt_irrefl _)
        · have ht : tgb (at' s j) = false := by simpa using ht
          rw [ht] at c2
          clear hE hj hgo cT ht
          have HF2 : Hid _ := HF.out
          subst hjX
          go_wp2_with fail
          go_quiet (first | (go_at_call 47; first | exact Calls.quiet_of_same (c2 _) | exact Calls.quiet_of_same (c1 _)))
          have hE3 := HE.out nq
          have hK3 := hK.drewN nq
          generalize wr.drewN nq = w3 at *
          obtain ⟨k0, k1, k2, k3, k4⟩ := hE3.cells
          rcases HF2.out with ⟨hji, hU⟩ | ⟨hlt, h32, hU⟩ | ⟨hlt, h32, hU⟩
          · subst hji
            have cf := fail_c hE3 (1202, j)
            rw [hU] at cf
            clear hU
            go_wp2_with fail
            refine cf.mono ?_
            rintro e w4 ⟨⟨v, rfl⟩, hE4, hk4⟩
            obtain ⟨k0, k1, k2, k3, k4⟩ := hE4.cells
            have b1 : (0 : Int) ≤ (j : Int) := by omega
            have b3 : (j : Int) ≤ (s.size : Int) := by omega
            go_wp2_with fail
            go_quiet (fail)
            go_wp2_with fail
            go_ret
            exact ⟨by rw [sub_nil s j]; rfl, hE4.drewN _, (hK3.trans hk4).drewN _⟩
          · have e1 : ((j : Int) == (i : Int)) = false := by simp; omega
            have e2 : decide ((32 : Int) < (j : Int) - (i : Int)) = false := decide_eq_false (by omega)
            have b1 : (0 : Int) ≤ (i : Int) := by omega
            have b2 : (i : Int) ≤ (j : Int) := by omega
            have b3 : (j : Int) ≤ (s.size : Int) := by omega
            rw [hU] at hE3
            clear hU
            go_wp2_with fail
            go_quiet (fail)
            go_wp2_with fail
            go_ret
            exact ⟨rfl, hE3.drewN _, hK3.drewN _⟩
          · have e1 : ((j : Int) == (i : Int)) = false := by simp; omega
            have e2 : decide ((32 : Int) < (j : Int) - (i : Int)) = true := decide_eq_true (by omega)
            have cf := fail_c hE3 (1202, i)
            rw [hU] at cf
            clear hU
            go_wp2_with fail
            refine cf.mono ?_
            rintro e w4 ⟨⟨v, rfl⟩, hE4, hk4⟩
            obtain ⟨k0, k1, k2, k3, k4⟩ := hE4.cells
            have b1 : (0 : Int) ≤ (i : Int) := by omega
            have b2 : (i : Int) ≤ (j : Int) := by omega
            have b3 : (j : Int) ≤ (s.size : Int) := by omega
            go_wp2_with fail
            go_quiet (fail)
            go_wp2_with fail
            go_ret
            exact ⟨rfl, hE4.drewN _, (hK3.trans hk4).drewN _⟩
    · have d0 : decide ((j : Int) < (s.size : Int)) = false := decide_eq_false (by omega)
      have hjX : j = X := by rw [← hj, rn_stop hij (fun h => hjl h.1)]
      have c2 := fun W => cT ⟨#[]⟩ (by decide) W
      have c1 := c2
      clear hE hj cT
      have HF2 : Hid _ := HF.out
      subst hjX
      go_wp2_with fail
      go_quiet (first | (go_at_call 47; first | exact Calls.quiet_of_same (c2 _) | exact Calls.quiet_of_same (c1 _)))
      have hE3 := HE.out nq
      have hK3 := hK.drewN nq
      generalize wr.drewN nq = w3 at *
      obtain ⟨k0, k1, k2, k3, k4⟩ := hE3.cells
      rcases HF2.out with ⟨hji, hU⟩ | ⟨hlt, h32, hU⟩ | ⟨hlt, h32, hU⟩
      · subst hji
        have cf := fail_c hE3 (1202, j)
        rw [hU] at cf
        clear hU
        go_wp2_with fail
        refine cf.mono ?_
        rintro e w4 ⟨⟨v, rfl⟩, hE4, hk4⟩
        obtain ⟨k0, k1, k2, k3, k4⟩ := hE4.cells
        have b1 : (0 : Int) ≤ (j : Int) := by omega
        have b3 : (j : Int) ≤ (s.size : Int) := by omega
        go_wp2_with fail
        go_quiet (fail)
        go_wp2_with fail
        go_ret
        exact ⟨by rw [sub_nil s j]; rfl, hE4.drewN _, (hK3.trans hk4).drewN _⟩
      · have e1 : ((j : Int) == (i : Int)) = false := by simp; omega
        have e2 : decide ((32 : Int) < (j : Int) - (i : Int)) = false := decide_eq_false (by omega)
        have b1 : (0 : Int) ≤ (i : Int) := by omega
        have b2 : (i : Int) ≤ (j : Int) := by omega
        have b3 : (j : Int) ≤ (s.size : Int) := by omega
        rw [hU] at hE3
        clear hU
        go_wp2_with fail
        go_quiet (fail)
        go_wp2_with fail
        go_ret
        exact ⟨rfl, hE3.drewN _, hK3.drewN _⟩
      · have e1 : ((j : Int) == (i : Int)) = false := by simp; omega
        have e2 : decide ((32 : Int) < (j : Int) - (i : Int)) = true := decide_eq_true (by omega)
        have cf := fail_c hE3 (1202, i)
        rw [hU] at cf
        clear hU
        go_wp2_with fail
        refine cf.mono ?_
        rintro e w4 ⟨⟨v, rfl⟩, hE4, hk4⟩
        obtain ⟨k0, k1, k2, k3, k4⟩ := hE4.cells
        have b1 : (0 : Int) ≤ (i : Int) := by omega
        have b2 : (i : Int) ≤ (j : Int) := by omega
        have b3 : (j : Int) ≤ (s.size : Int) := by omega
        go_wp2_with fail
        go_quiet (fail)
        go_wp2_with fail
        go_ret
        exact ⟨rfl, hE4.drewN _, (hK3.trans hk4).drewN _⟩
end Go.Proofs.Ytfglbgnjgapehaa.RNa

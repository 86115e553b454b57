/- The reference's Lex, whole: what it answers is what Lex answers. -/
import Derived.Test.YtfglbgnjgapehaaRTo
import Derived.Test.YtfglbgnjgapehaaRHo
import Derived.Test.YtfglbgnjgapehaaUValid
namespace Go.Proofs.Ytfglbgnjgapehaa.RLx
open Go.RowKit Go.Proofs.Ytfglbgnjgapehaa.UBase Go.Proofs.Ytfglbgnjgapehaa.EPure Go.Proofs.Ytfglbgnjgapehaa.LPure Go.Proofs.Ytfglbgnjgapehaa.LRd Go.Proofs.Ytfglbgnjgapehaa.LSk Go.Proofs.Ytfglbgnjgapehaa.LNm Go.Proofs.Ytfglbgnjgapehaa.LSc Go.Proofs.Ytfglbgnjgapehaa.LIn Go.Proofs.Ytfglbgnjgapehaa.LSn Go.Proofs.Ytfglbgnjgapehaa.LMu Go.Proofs.Ytfglbgnjgapehaa.LTk Go.Proofs.Ytfglbgnjgapehaa.LLy Go.Proofs.Ytfglbgnjgapehaa.LLz Go.Proofs.Ytfglbgnjgapehaa.LCv Go.Proofs.Ytfglbgnjgapehaa.RLd Go.Proofs.Ytfglbgnjgapehaa.RBl Go.Proofs.Ytfglbgnjgapehaa.RTt Go.Proofs.Ytfglbgnjgapehaa.RRc Go.Proofs.Ytfglbgnjgapehaa.RAp Go.Proofs.Ytfglbgnjgapehaa.RAt Go.Proofs.Ytfglbgnjgapehaa.RTp Go.Proofs.Ytfglbgnjgapehaa.RTg Go.Proofs.Ytfglbgnjgapehaa.RTo Go.Proofs.Ytfglbgnjgapehaa.RHo
set_option linter.unusedVariables false

theorem tag_c {w : World} {R : Nat} {s : ByteArray} {i : Nat} {ov : Value} {acc : List Tz} (h : Rl w R s i ov (0, 0)) (ho : To w (R + 1) ov acc) (hacc : acc.length ≤ i) (hi : i < s.size) (h6 : at' s i = 60) :
    Calls Try.prog 20 #[ptr R] w fun r w' => (∃ v, r = .returned v) ∧ Stp w w' R s i false acc := by
  have hp : pre s i [60] = true := pre_sg hi h6
  have hsz := h.sz
  by_cases h47 : pre s (i + 1) [47] = true
  · refine (tag_close h ho (by omega) h47).mono ?_
    rintro e w' ⟨h1, h2⟩
    have e := tok_close h6 hp h47
    exact ⟨h1, Tkn.stp (Nat.le_of_lt hi) (.inr hi) hacc (by rw [e]; rfl) (by rw [e]; exact h2)⟩
  · have h47 : pre s (i + 1) [47] = false := by simpa using h47
    exact tag_open h ho hacc hi h47 (tok_open h6 hp h47)
theorem hole_s {w : World} {R : Nat} {s : ByteArray} {i : Nat} {ov : Value} {acc : List Tz} (h : Rl w R s i ov (0, 0)) (ho : To w (R + 1) ov acc) (hacc : acc.length ≤ i) (hi : i < s.size) (hp : pre s i [123, 123] = true) :
    Calls Try.prog 22 #[ptr R] w fun r w' => (∃ v, r = .returned v) ∧ Stp w w' R s i false acc := by
  have hsz := h.sz
  refine (hole_c h ho (by omega) hp).mono ?_
  rintro e w' ⟨h1, h2⟩
  have e := tok_hole hp
  exact ⟨h1, Tkn.stp (Nat.le_of_lt hi) (.inr hi) hacc (by rw [e]; rfl) (by rw [e]; exact h2)⟩
theorem stp_lp {w wr w' : World} {R : Nat} {s : ByteArray} {j : Nat} {acc : List Tz} (h : Stp wr w' R s j false acc) (hB : Below R w wr) (hj : j ≤ s.size) (hrc : Rc s 0 false [] j false acc) : Lp w w' R s 0 false [] false ∧ fm R s.size w' < s.size + 1 - j := by
  obtain ⟨ov', i', f', h1, h2, h3⟩ := h
  have hla := h1.la
  rcases h3 with ⟨hf, hfl⟩ | ⟨rfl, acc', h4, h5, h6, h7⟩
  · refine ⟨⟨i', ov', f', h1, hB.trans h2, .inl ⟨hf, hrc.fl hfl⟩⟩, ?_⟩
    rw [fm_bad h1 hf]
    omega
  · refine ⟨⟨i', ov', _, h1, hB.trans h2, .inr ⟨rfl, acc', by omega, h5, hrc.trans h6, h7⟩⟩, ?_⟩
    rw [fm_ok h1]
    omega
theorem lxa_bad {s : ByteArray} {f : F} (h1 : s.size ≤ 65536) (h2 : verr s = 0) (hf : f.1 ≠ 0) (h : Fl s 0 false [] f) : lxa s = ([], f) := by
  have e := h (s.size + 1) (by omega)
  unfold lxa
  rw [if_neg (by omega), if_neg (by omega), e, if_neg hf]
theorem lxa_ok {s : ByteArray} {acc : List Tz} (h1 : s.size ≤ 65536) (h2 : verr s = 0) (h : Rc s 0 false [] s.size false acc) : lxa s = (acc, (0, 0)) := by
  obtain ⟨K, hK, e⟩ := h (s.size + 1) (by omega)
  obtain ⟨n, rfl⟩ : ∃ n, K = n + 1 := ⟨K - 1, by omega⟩
  have e2 : lxs s (n + 1) s.size false acc = (acc, (0, 0)) := lxs_end (by simp)
  rw [e2] at e
  unfold lxa
  rw [if_neg (by omega), if_neg (by omega), e, if_pos rfl]
set_option maxRecDepth 20000 in
set_option maxHeartbeats 3200000 in
theorem rlex_c (s : ByteArray) (hs : s.size ≤ 140737488351232) (w : World) :
    Calls Try.prog 8 #[.string s] w fun e w' => ∃ v, e = .returned (.tuple #[v, .int .i64 (lxa s).2.2, .int .i64 (lxa s).2.1]) ∧ To w' w.heap.size v (lxa s).1 ∧ Below w.heap.size w w' := by
  by_cases h1 : 65536 < s.size
  · have e : lxa s = ([], (1201, 0)) := by unfold lxa; rw [if_pos h1]
    rw [e]
    have d : decide ((65536 : Int) < (s.size : Int)) = true := decide_eq_true (by omega)
    clear h1 e
    go_enter Try.func8, Try.ntmps8
    go_wp2_with fail
    go_ret3
    exact ⟨_, rfl, nil_own _ _, Below.refl _ _⟩
  have d : decide ((65536 : Int) < (s.size : Int)) = false := decide_eq_false (by omega)
  have c := UValid.rvalid_c s hs w
  by_cases h2 : verr s = 0
  · have HBad : Hid (∀ f : F, f.1 ≠ 0 → Fl s 0 false [] f → lxa s = ([], f)) := fun f hf h => lxa_bad (by omega) h2 hf h
    have HOk : Hid (∀ acc, Rc s 0 false [] s.size false acc → lxa s = (acc, (0, 0))) := fun acc h => lxa_ok (by omega) h2 h
    have dv : ((verr s : Int) != 0) = false := by simp [h2]
    generalize lxa s = L at *
    generalize verr s = v at *
    generalize vat s = va at *
    obtain ⟨R, hR⟩ : ∃ R, w.heap.size = R := ⟨_, rfl⟩
    obtain ⟨W1, hW1⟩ : ∃ W1, w.alloc (.cells #[.string s, .int .i64 0, .slice none 0 0, .int .i64 0, .int .i64 0] 49) = W1 := ⟨_, rfl⟩
    have hL0 : Rl W1 R s 0 (.slice none 0 0) (0, 0) := ⟨by rw [← hW1, ← hR]; exact heap_alloc_new w _, Nat.zero_le _, by omega⟩
    have hB0 : Below R w W1 := by rw [← hW1, ← hR]; exact (Below.refl _ w).alloc (Nat.le_refl _) _
    have HS : Hid (Lp w W1 R s 0 false [] false) := ⟨0, _, _, hL0, hB0, .inr ⟨rfl, [], Nat.le_refl _, Nat.le_refl _, Rc.refl _ _ _ _, nil_own _ _⟩⟩
    clear hL0 hB0 h2
    rw [hR]
    go_enter Try.func8, Try.ntmps8
    go_wp2_with fail
    refine c.mono ?_
    rintro e w0 ⟨rfl, rfl⟩
    go_wp2_with fail
    try simp only [hW1, hR]
    go_loopw [] (fun wr => Lp w0 wr R s 0 false [] false) (fun wr => fm R s.size wr)
    case atStart => exact HS.out
    case round =>
      clear HS
      obtain ⟨j, ov1, f1, hE, hB, hcase⟩ := hrel
      obtain ⟨k0, k1, k2, k3, k4⟩ := hE.cells
      have hjs := hE.la
      rcases hcase with ⟨hf, hfl⟩ | ⟨rfl, acc1, hij, hl1, hrc, hto⟩
      · have d1 : ((f1.1 : Int) == 0) = false := by simp; omega
        have d2 : ((f1.1 : Int) != 0) = true := by simp; omega
        have HX : Hid (_ ∧ _ ∧ _ ∧ _) := And.intro hE (And.intro hB (And.intro hf hfl))
        clear hE hB hf hfl
        by_cases hjl : j < s.size
        · have d0 : decide ((j : Int) < (s.size : Int)) = true := decide_eq_true (by omega)
          obtain ⟨k0, k1, k2, k3, k4⟩ := HX.out.1.cells
          go_wp2_with fail
          go_quiet (fail)
          go_wp2_with fail
          go_ret3
          rw [HBad.out _ HX.out.2.2.1 HX.out.2.2.2]
          exact ⟨_, rfl, nil_own _ _, (HX.out.2.1.trans ((Kr.refl R wr).drewN nq).below)⟩
        · have d0 : decide ((j : Int) < (s.size : Int)) = false := decide_eq_false (by omega)
          obtain ⟨k0, k1, k2, k3, k4⟩ := HX.out.1.cells
          go_wp2_with fail
          go_quiet (fail)
          go_wp2_with fail
          go_ret3
          rw [HBad.out _ HX.out.2.2.1 HX.out.2.2.2]
          exact ⟨_, rfl, nil_own _ _, (HX.out.2.1.trans ((Kr.refl R wr).drewN nq).below)⟩
      by_cases hjl : j < s.size
      · have d0 : decide ((j : Int) < (s.size : Int)) = true := decide_eq_true (by omega)
        obtain ⟨y, hy⟩ : ∃ y, (s[j]'hjl).toNat = y := ⟨_, rfl⟩
        have hya : at' s j = y := by rw [← hy]; exact at_get s j hjl
        have HM : Hid (fm R s.size wr = s.size + 1 - j) := fm_ok hE
        have HB : Hid (Below R w0 wr) := hB
        have HI : Hid (Rc s 0 false [] j false acc1) := hrc
        have b0 : (0 : Int) ≤ (j : Int) := by omega
        by_cases h6 : y = 60
        · have d6 : ((y : Int) == 60) = true := by simp [h6]
          have cC := tag_c hE hto hl1 hjl (by rw [hya, h6])
          clear hE hB hrc hto hya h6
          go_wp2_with fail
          unfold ptr at cC
          refine cC.mono ?_
          rintro e W9 ⟨⟨v9, rfl⟩, h9⟩
          have HX : Hid _ := stp_lp h9 HB.out hjs HI.out
          clear h9 cC
          go_wp2_with fail
          go_roundw
          case rel => exact HX.out.1
          case measure =>
            show fm R s.size _ < fm R s.size wr
            rw [HM.out]
            exact HX.out.2
        · have d6 : ((y : Int) == 60) = false := by simp; omega
          have cH := here_c hE ⟨#[123, 123]⟩ (by decide)
          have eb : (⟨#[123, 123]⟩ : ByteArray).data.toList = [123, 123] := rfl
          rw [eb] at cH
          unfold ptr at cH
          have HE : Hid (∀ m, Rl (wr.drewN m) R s j ov1 (0, 0) ∧ To (wr.drewN m) (R + 1) ov1 acc1) := fun m => ⟨hE.drewN m, own_kr hto ((Kr.refl R wr).drewN m)⟩
          have HBn : Hid (∀ m, Below R w0 (wr.drewN m)) := fun m => hB.trans ((Kr.refl R wr).drewN m).below
          have HN6 : Hid (at' s j ≠ 60) := by show _ ≠ _; rw [hya]; exact h6
          clear hE hB hrc hto hya h6 eb
          by_cases hp : pre s j [123, 123] = true
          · rw [hp] at cH
            go_wp2_with fail
            refine cH.mono ?_
            rintro e W2 ⟨rfl, n2, hn2⟩
            have hq := HE.out n2
            have HB : Hid (Below R w0 W2) := by show Below _ _ _; rw [hn2]; exact HBn.out n2
            rw [← hn2] at hq
            have cC := hole_s hq.1 hq.2 hl1 hjl hp
            clear hq hn2 HE HBn cH hp
            go_wp2_with fail
            unfold ptr at cC
            refine cC.mono ?_
            rintro e W9 ⟨⟨v9, rfl⟩, h9⟩
            have HX : Hid _ := stp_lp h9 HB.out hjs HI.out
            clear h9 cC
            go_wp2_with fail
            go_roundw
            case rel => exact HX.out.1
            case measure =>
              show fm R s.size _ < fm R s.size wr
              rw [HM.out]
              exact HX.out.2
          · have hp : pre s j [123, 123] = false := by simpa using hp
            rw [hp] at cH
            go_wp2_with fail
            refine cH.mono ?_
            rintro e W2 ⟨rfl, n2, hn2⟩
            have hq := HE.out n2
            have HB : Hid (Below R w0 W2) := by show Below _ _ _; rw [hn2]; exact HBn.out n2
            rw [← hn2] at hq
            have cC := text_s hq.1 hq.2 hl1 hjl HN6.out hp
            clear hq hn2 HE HBn cH hp
            go_wp2_with fail
            unfold ptr at cC
            refine cC.mono ?_
            rintro e W9 ⟨⟨v9, rfl⟩, h9⟩
            have HX : Hid _ := stp_lp h9 HB.out hjs HI.out
            clear h9 cC
            go_wp2_with fail
            go_roundw
            case rel => exact HX.out.1
            case measure =>
              show fm R s.size _ < fm R s.size wr
              rw [HM.out]
              exact HX.out.2
      · have d0 : decide ((j : Int) < (s.size : Int)) = false := decide_eq_false (by omega)
        have hjz : j = s.size := by omega
        subst hjz
        have HX : Hid (_ ∧ _ ∧ _ ∧ _) := And.intro hE (And.intro hB (And.intro hrc hto))
        have hsh := own_shape hto
        clear hE hB hrc hto
        rcases hsh with rfl | ⟨g, cap, rfl⟩
        · go_wp2_with fail
          go_ret3
          rw [HOk.out _ HX.out.2.2.1]
          exact ⟨_, rfl, own_mono HX.out.2.2.2 (Nat.le_succ _), HX.out.2.1⟩
        · go_wp2_with fail
          go_ret3
          rw [HOk.out _ HX.out.2.2.1]
          exact ⟨_, rfl, own_mono HX.out.2.2.2 (Nat.le_succ _), HX.out.2.1⟩
  · have e : lxa s = ([], (1200, vat s)) := by unfold lxa; rw [if_neg h1, if_pos h2]
    rw [e]
    have dv : ((verr s : Int) != 0) = true := by simp; omega
    generalize verr s = v at *
    generalize vat s = va at *
    clear h1 h2 e
    go_enter Try.func8, Try.ntmps8
    go_wp2_with fail
    refine c.mono ?_
    rintro e w0 ⟨rfl, rfl⟩
    go_wp2_with fail
    go_ret3
    exact ⟨_, rfl, nil_own _ _, Below.refl _ _⟩
end Go.Proofs.Ytfglbgnjgapehaa.RLx

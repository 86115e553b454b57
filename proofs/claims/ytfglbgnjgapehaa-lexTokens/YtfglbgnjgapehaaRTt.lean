/- The reference's lexer: a text. -/
import Derived.Test.YtfglbgnjgapehaaRBl
import Derived.Test.YtfglbgnjgapehaaLLy
namespace Go.Proofs.Ytfglbgnjgapehaa.RTt
open Go.RowKit Go.Proofs.Ytfglbgnjgapehaa.UBase Go.Proofs.Ytfglbgnjgapehaa.EPure Go.Proofs.Ytfglbgnjgapehaa.LPure Go.Proofs.Ytfglbgnjgapehaa.LRd Go.Proofs.Ytfglbgnjgapehaa.LSk Go.Proofs.Ytfglbgnjgapehaa.LNm Go.Proofs.Ytfglbgnjgapehaa.LTe Go.Proofs.Ytfglbgnjgapehaa.LSc Go.Proofs.Ytfglbgnjgapehaa.LIn Go.Proofs.Ytfglbgnjgapehaa.LMu Go.Proofs.Ytfglbgnjgapehaa.LTk Go.Proofs.Ytfglbgnjgapehaa.LLy Go.Proofs.Ytfglbgnjgapehaa.LCv Go.Proofs.Ytfglbgnjgapehaa.RLd Go.Proofs.Ytfglbgnjgapehaa.RBl
set_option linter.unusedVariables false

theorem news_ok (w : World) (k : Nat) (n t : ByteArray) (a : Nat) : (∀ j u, ([.int .i64 k, .string n, .string t, .int .i64 a] : List Value)[j]? = some u → (w.alloc (.cells #[.int .i64 k, .string n, .string t, .int .i64 a] 34)).cell? (Addr.add ⟨w.heap.size, 0, none⟩ j) = some u) ∧ ∀ u ∈ ([.int .i64 k, .string n, .string t, .int .i64 a] : List Value), u.oneCell' = true := by
  constructor
  · intro j u hu
    have : (w.alloc (.cells #[.int .i64 k, .string n, .string t, .int .i64 a] 34)).heap[w.heap.size]? = some (.cells #[.int .i64 k, .string n, .string t, .int .i64 a] 34 (0, 0)) := heap_alloc_new w _
    obtain ⟨e0, e1, e2, e3⟩ := LTk.four_box this
    match j with
    | 0 => simp at hu; subst hu; exact e0
    | 1 => simp at hu; subst hu; exact e1
    | 2 => simp at hu; subst hu; exact e2
    | 3 => simp at hu; subst hu; exact e3
    | j + 4 => simp at hu
  · intro u hu
    simp at hu
    rcases hu with rfl | rfl | rfl | rfl <;> rfl
/-- Behind an append: the lexer, the longer row (behind the store too), what lies below. -/
theorem app_box {w w3 : World} {R : Nat} {s : ByteArray} {i k m : Nat} {ov v' : Value} {f : F} {xs ys : List Value} {o : Obj} (h : Rl w R s i ov f) (ho : w.ownsRow (R + 1) 34 4 ov k xs) (hg : (w.alloc o).grownBy w3 ov.ownBlock)
    (hn : w3.ownsRow (R + 1) 34 4 v' m ys) : Rl w3 R s i ov f ∧ (w3.setCell ⟨R, 2, none⟩ v').ownsRow (R + 1) 34 4 v' m ys ∧ Below R w (w3.setCell ⟨R, 2, none⟩ v') := by
  have hne : ∀ j, ov.ownBlock = some j → R + 1 ≤ j := by
    intro j ej
    rcases ho.2 with ⟨rfl, _⟩ | ⟨g, cap, cur, rfl, hb, _, _⟩
    · simp [Value.ownBlock] at ej
    · obtain rfl : g = j := by simpa [Value.ownBlock] using ej
      exact hb
  have hlt := h.lt
  refine ⟨h.keep ((hg.block R (by simp; omega) (fun e => by have := hne R e.symm; omega)).trans (Below.heap_alloc _ _ _ (by omega))), own_kr hn (kr_set w3 2 v'), ?_⟩
  exact (((Below.refl R w).alloc (by omega) o).grown hg (by simp; omega) (fun j ej => by have := hne j ej; omega)).setCell (p := ⟨R, 2, none⟩) (Nat.le_refl _) v'
set_option maxRecDepth 20000 in
set_option maxHeartbeats 3200000 in
theorem text_c {w : World} {R : Nat} {s : ByteArray} {i : Nat} {ov : Value} {f : F} {acc : List Tz} (h : Rl w R s i ov f) (ho : To w (R + 1) ov acc) (hacc : acc.length ≤ 65536) :
    Calls Try.prog 23 #[ptr R] w fun r w' => (∃ v, r = .returned v) ∧ ∃ ov', Rl w' R s (tnd s i) ov' (LTx.xL s i f) ∧ To w' (R + 1) ov' (acc ++ [⟨1, ⟨#[]⟩, LTx.xT s i, i, tnd s i, false, LTx.xL s i f⟩]) ∧ Below R w w' := by
  obtain ⟨k0, k1, k2, k3, k4⟩ := h.cells
  have hsz := h.sz
  have hla := h.la
  have hXa := tnd_ge s i
  have hXs : tnd s i ≤ s.size := tnd_in hla
  obtain ⟨X, HX⟩ : ∃ X, Hid (tnd s i = X) := ⟨_, rfl⟩
  have HL : Hid (LTx.xL s i f = fif (!true || decide ((HBase.ptext (sub s i X)).size ≤ 4096)) (fif (HBase.perr (sub s i X) == 0) f (1204, i + HBase.pat (sub s i X))) (1201, i)) := by
    show _ = _
    unfold LTx.xL LTx.xF LTx.xT
    rw [HX.out]
    rfl
  have HT : Hid (LTx.xT s i = HBase.ptext (sub s i X)) := by show _ = _; unfold LTx.xT; rw [HX.out]
  rw [HX.out] at hXa hXs ⊢
  rw [HL.out, HT.out]
  have HE : Hid (Rl w R s i ov f) := h
  have HO : Hid (To w (R + 1) ov acc) := ho
  clear h ho HL HT
  unfold ptr
  go_enter Try.func23, Try.ntmps23
  go_wp2_with fail
  go_loopw [] (fun wr => ∃ j : Nat, i ≤ j ∧ tnd s j = X ∧ Rl wr R s j ov f ∧ Kr R w wr) (fun wr => s.size - plc R wr)
  case atStart => exact ⟨i, Nat.le_refl _, HX.out, HE.out, Kr.refl _ _⟩
  case round =>
    clear HX HE k0 k1 k2 k3 k4
    obtain ⟨j, hij, hj, hE, hK⟩ := hrel
    obtain ⟨k0, k1, k2, k3, k4⟩ := hE.cells
    have f1 := hE.free 1
    have hlj := hE.la
    have HM : Hid (plc R wr = j) := plr_of hE
    have HE : Hid (∀ m, Rl (wr.drewN m) R s j ov f) := fun m => hE.drewN m
    have cH := fun m => here_c (hE.drewN m) ⟨#[123, 123]⟩ (by decide)
    have eb : (⟨#[123, 123]⟩ : ByteArray).data.toList = [123, 123] := rfl
    rw [eb] at cH
    unfold ptr at cH
    by_cases hgo : j < s.size ∧ at' s j ≠ 60 ∧ pre s j [123, 123] = false
    · obtain ⟨hjl, h6, hp⟩ := hgo
      have d0 : decide ((j : Int) < (s.size : Int)) = true := decide_eq_true (by omega)
      obtain ⟨y, hy⟩ : ∃ y, (s[j]'hjl).toNat = y := ⟨_, rfl⟩
      have hya : at' s j = y := by rw [← hy]; exact at_get s j hjl
      rw [hya] at h6
      have d1 : ((y : Int) != 60) = true := by simp; omega
      have HJ : Hid (∀ m, Rl ((wr.drewN m).setCell ⟨R, 1, none⟩ (.int .i64 ((j : Int) + 1))) R s (j + 1) ov f) := fun m => by
        have := (hE.drewN m).go (j + 1) (by omega)
        rwa [show ((j + 1 : Nat) : Int) = (j : Int) + 1 from by omega] at this
      have HS : Hid (tnd s (j + 1) = X) := by
        show _ = _
        rw [← hj, tnd_step hjl (by rw [hya]; exact h6) hp]
      rw [hp] at cH
      clear hE hj hya hp h6
      go_wp2_with fail
      go_quiet (first | (go_at_call 21; exact Calls.quiet_of (cH _)))
      go_wp2_with fail
      go_roundw
      case rel => exact ⟨j + 1, by omega, HS.out, HJ.out nq, (hK.drewN nq).set 1 _⟩
      case measure =>
        show s.size - plc R _ < s.size - plc R wr
        rw [plr_of (HJ.out nq), HM.out]
        omega
    · have hjX : j = X := by rw [← hj, tnd_stop hgo]
      subst hjX
      by_cases hjl : j < s.size
      · have d0 : decide ((j : Int) < (s.size : Int)) = true := decide_eq_true (by omega)
        obtain ⟨y, hy⟩ : ∃ y, (s[j]'hjl).toNat = y := ⟨_, rfl⟩
        have hya : at' s j = y := by rw [← hy]; exact at_get s j hjl
        by_cases h6 : y = 60
        · have d1 : ((y : Int) != 60) = false := by simp [h6]
          clear hE hj hya h6 hgo
          go_wp2_with fail
          go_quiet (first | (go_at_call 21; exact Calls.quiet_of (cH _)))
          obtain ⟨W1, hW1⟩ : ∃ W1, wr.drewN nq = W1 := ⟨_, rfl⟩
          have hE1 : Rl W1 R s j ov f := by rw [← hW1]; exact HE.out nq
          have HK1 : Hid (Kr R w W1) := by rw [← hW1]; exact hK.drewN nq
          obtain ⟨l0, l1, l2, l3, l4⟩ := hE1.cells
          have cP : ∀ W, Rl W R s j ov f → _ := fun W hW => plain_c hW i i (s.extract i j) true (by omega) (by rw [ByteArray.size_extract]; omega)
          have c1 := cP _ (hE1.drewN 1)
          have c2 := cP _ ((hE1.drewN 1).drewN 1)
          have c3 := cP _ (((hE1.drewN 1).drewN 1).drewN 1)
          have b1 : (0 : Int) ≤ (i : Int) := by omega
          have b2 : (i : Int) ≤ (j : Int) := by omega
          have b3 : (j : Int) ≤ (s.size : Int) := by omega
          have b4 : (0 : Int) ≤ (j : Int) := by omega
          unfold ptr at c1 c2 c3
          try rw [hW1]
          clear hW1 k0 k1 k2 k3 k4 f1 cH cP hE1 HE
          go_wp2_with fail
          try rw [hW1]
          go_region_with (go_at_call 34; first | (refine c1.mono ?_; rintro e w2 ⟨rfl, h2, k2'⟩; have k2'' := ((Kr.refl R W1).drewN 1).trans k2') | (refine c2.mono ?_; rintro e w2 ⟨rfl, h2, k2'⟩; have k2'' := (((Kr.refl R W1).drewN 1).drewN 1).trans k2') | (refine c3.mono ?_; rintro e w2 ⟨rfl, h2, k2'⟩; have k2'' := ((((Kr.refl R W1).drewN 1).drewN 1).drewN 1).trans k2'))
          all_goals
            have hO2 := own_kr HO.out (HK1.out.trans k2'')
            have HB2 : Hid (Below R w w2) := (HK1.out.trans k2'').below
            clear c1 c2 c3 l0 l1 l2 l3 l4 k2' k2'' HK1
            obtain ⟨l0, l1, l2, l3, l4⟩ := h2.cells
            have hlt2 := h2.lt
            have hrow := World.ownsRow.alloc hO2 (.cells #[.int .i64 1, .string ⟨#[]⟩, .string (HBase.ptext (s.extract i j)), .int .i64 i] 34)
            obtain ⟨hnews, hone⟩ := news_ok w2 1 ⟨#[]⟩ (HBase.ptext (s.extract i j)) i
            obtain ⟨ix, hi, hz0, hz1, hz2⟩ := info_parts infoT
            have HF : Hid (_ ∧ _) := And.intro h2 hO2
            go_wp2_with (first
              | (at_builtin; refine wpList_append_own _ rfl _ _ 22 rfl (R + 1) 34 ix (.agg #[.int .i64 0, .string ⟨#[]⟩, .string ⟨#[]⟩, .int .i64 0]) 4 48 Try.underlying22 hi hz0 hz1 hz2 rfl (by decide) _ _ _ rfl hrow ⟨w2.heap.size, 0, none⟩ 1 1 _ rfl rfl hnews hone (by unfold maxLen; omega) (by omega) (by simp; omega) ?_))
            intro v2 w3 hown2 hgrow hnn
            obtain ⟨g2, cap2, rfl⟩ := ownsRow_succ hown2
            obtain ⟨h3, HO3, HB3⟩ := app_box HF.out.1 HF.out.2 hgrow hown2
            obtain ⟨l0, l1, l2, l3, l4⟩ := h3.cells
            have f2 := h3.free 2
            have H3 : Hid (_ ∧ _) := And.intro h3 hown2
            have HB4 : Hid (_ ∧ _) := And.intro HO3 HB3
            clear hown2 hgrow hnn hrow hnews hone HF h3 HO3 HB3
            go_wp2_with fail
            go_end0
            refine ⟨⟨_, rfl⟩, _, H3.out.1.out _, ?_, HB2.out.trans HB4.out.2⟩
            have := HB4.out.1
            unfold To
            rw [List.length_append, flT_snoc]
            exact this
        · have d1 : ((y : Int) != 60) = true := by simp; omega
          have hp : pre s j [123, 123] = true := by
            cases e : pre s j [123, 123] with
            | true => rfl
            | false => exact absurd ⟨hjl, by rw [hya]; exact h6, e⟩ hgo
          rw [hp] at cH
          clear hE hj hya h6 hgo hp
          go_wp2_with fail
          go_quiet (first | (go_at_call 21; exact Calls.quiet_of (cH _)))
          obtain ⟨W1, hW1⟩ : ∃ W1, wr.drewN nq = W1 := ⟨_, rfl⟩
          have hE1 : Rl W1 R s j ov f := by rw [← hW1]; exact HE.out nq
          have HK1 : Hid (Kr R w W1) := by rw [← hW1]; exact hK.drewN nq
          obtain ⟨l0, l1, l2, l3, l4⟩ := hE1.cells
          have cP : ∀ W, Rl W R s j ov f → _ := fun W hW => plain_c hW i i (s.extract i j) true (by omega) (by rw [ByteArray.size_extract]; omega)
          have c1 := cP _ (hE1.drewN 1)
          have c2 := cP _ ((hE1.drewN 1).drewN 1)
          have c3 := cP _ (((hE1.drewN 1).drewN 1).drewN 1)
          have b1 : (0 : Int) ≤ (i : Int) := by omega
          have b2 : (i : Int) ≤ (j : Int) := by omega
          have b3 : (j : Int) ≤ (s.size : Int) := by omega
          have b4 : (0 : Int) ≤ (j : Int) := by omega
          unfold ptr at c1 c2 c3
          try rw [hW1]
          clear hW1 k0 k1 k2 k3 k4 f1 cH cP hE1 HE
          go_wp2_with fail
          try rw [hW1]
          go_region_with (go_at_call 34; first | (refine c1.mono ?_; rintro e w2 ⟨rfl, h2, k2'⟩; have k2'' := ((Kr.refl R W1).drewN 1).trans k2') | (refine c2.mono ?_; rintro e w2 ⟨rfl, h2, k2'⟩; have k2'' := (((Kr.refl R W1).drewN 1).drewN 1).trans k2') | (refine c3.mono ?_; rintro e w2 ⟨rfl, h2, k2'⟩; have k2'' := ((((Kr.refl R W1).drewN 1).drewN 1).drewN 1).trans k2'))
          all_goals
            have hO2 := own_kr HO.out (HK1.out.trans k2'')
            have HB2 : Hid (Below R w w2) := (HK1.out.trans k2'').below
            clear c1 c2 c3 l0 l1 l2 l3 l4 k2' k2'' HK1
            obtain ⟨l0, l1, l2, l3, l4⟩ := h2.cells
            have hlt2 := h2.lt
            have hrow := World.ownsRow.alloc hO2 (.cells #[.int .i64 1, .string ⟨#[]⟩, .string (HBase.ptext (s.extract i j)), .int .i64 i] 34)
            obtain ⟨hnews, hone⟩ := news_ok w2 1 ⟨#[]⟩ (HBase.ptext (s.extract i j)) i
            obtain ⟨ix, hi, hz0, hz1, hz2⟩ := info_parts infoT
            have HF : Hid (_ ∧ _) := And.intro h2 hO2
            go_wp2_with (first
              | (at_builtin; refine wpList_append_own _ rfl _ _ 22 rfl (R + 1) 34 ix (.agg #[.int .i64 0, .string ⟨#[]⟩, .string ⟨#[]⟩, .int .i64 0]) 4 48 Try.underlying22 hi hz0 hz1 hz2 rfl (by decide) _ _ _ rfl hrow ⟨w2.heap.size, 0, none⟩ 1 1 _ rfl rfl hnews hone (by unfold maxLen; omega) (by omega) (by simp; omega) ?_))
            intro v2 w3 hown2 hgrow hnn
            obtain ⟨g2, cap2, rfl⟩ := ownsRow_succ hown2
            obtain ⟨h3, HO3, HB3⟩ := app_box HF.out.1 HF.out.2 hgrow hown2
            obtain ⟨l0, l1, l2, l3, l4⟩ := h3.cells
            have f2 := h3.free 2
            have H3 : Hid (_ ∧ _) := And.intro h3 hown2
            have HB4 : Hid (_ ∧ _) := And.intro HO3 HB3
            clear hown2 hgrow hnn hrow hnews hone HF h3 HO3 HB3
            go_wp2_with fail
            go_end0
            refine ⟨⟨_, rfl⟩, _, H3.out.1.out _, ?_, HB2.out.trans HB4.out.2⟩
            have := HB4.out.1
            unfold To
            rw [List.length_append, flT_snoc]
            exact this
      · have d0 : decide ((j : Int) < (s.size : Int)) = false := decide_eq_false (by omega)
        clear hE hj hgo
        go_wp2_with fail
        go_quiet (first | (go_at_call 21; exact Calls.quiet_of (cH _)))
        obtain ⟨W1, hW1⟩ : ∃ W1, wr.drewN nq = W1 := ⟨_, rfl⟩
        have hE1 : Rl W1 R s j ov f := by rw [← hW1]; exact HE.out nq
        have HK1 : Hid (Kr R w W1) := by rw [← hW1]; exact hK.drewN nq
        obtain ⟨l0, l1, l2, l3, l4⟩ := hE1.cells
        have cP : ∀ W, Rl W R s j ov f → _ := fun W hW => plain_c hW i i (s.extract i j) true (by omega) (by rw [ByteArray.size_extract]; omega)
        have c1 := cP _ (hE1.drewN 1)
        have c2 := cP _ ((hE1.drewN 1).drewN 1)
        have c3 := cP _ (((hE1.drewN 1).drewN 1).drewN 1)
        have b1 : (0 : Int) ≤ (i : Int) := by omega
        have b2 : (i : Int) ≤ (j : Int) := by omega
        have b3 : (j : Int) ≤ (s.size : Int) := by omega
        have b4 : (0 : Int) ≤ (j : Int) := by omega
        unfold ptr at c1 c2 c3
        try rw [hW1]
        clear hW1 k0 k1 k2 k3 k4 f1 cH cP hE1 HE
        go_wp2_with fail
        try rw [hW1]
        go_region_with (go_at_call 34; first | (refine c1.mono ?_; rintro e w2 ⟨rfl, h2, k2'⟩; have k2'' := ((Kr.refl R W1).drewN 1).trans k2') | (refine c2.mono ?_; rintro e w2 ⟨rfl, h2, k2'⟩; have k2'' := (((Kr.refl R W1).drewN 1).drewN 1).trans k2') | (refine c3.mono ?_; rintro e w2 ⟨rfl, h2, k2'⟩; have k2'' := ((((Kr.refl R W1).drewN 1).drewN 1).drewN 1).trans k2'))
        all_goals
          have hO2 := own_kr HO.out (HK1.out.trans k2'')
          have HB2 : Hid (Below R w w2) := (HK1.out.trans k2'').below
          clear c1 c2 c3 l0 l1 l2 l3 l4 k2' k2'' HK1
          obtain ⟨l0, l1, l2, l3, l4⟩ := h2.cells
          have hlt2 := h2.lt
          have hrow := World.ownsRow.alloc hO2 (.cells #[.int .i64 1, .string ⟨#[]⟩, .string (HBase.ptext (s.extract i j)), .int .i64 i] 34)
          obtain ⟨hnews, hone⟩ := news_ok w2 1 ⟨#[]⟩ (HBase.ptext (s.extract i j)) i
          obtain ⟨ix, hi, hz0, hz1, hz2⟩ := info_parts infoT
          have HF : Hid (_ ∧ _) := And.intro h2 hO2
          go_wp2_with (first
            | (at_builtin; refine wpList_append_own _ rfl _ _ 22 rfl (R + 1) 34 ix (.agg #[.int .i64 0, .string ⟨#[]⟩, .string ⟨#[]⟩, .int .i64 0]) 4 48 Try.underlying22 hi hz0 hz1 hz2 rfl (by decide) _ _ _ rfl hrow ⟨w2.heap.size, 0, none⟩ 1 1 _ rfl rfl hnews hone (by unfold maxLen; omega) (by omega) (by simp; omega) ?_))
          intro v2 w3 hown2 hgrow hnn
          obtain ⟨g2, cap2, rfl⟩ := ownsRow_succ hown2
          obtain ⟨h3, HO3, HB3⟩ := app_box HF.out.1 HF.out.2 hgrow hown2
          obtain ⟨l0, l1, l2, l3, l4⟩ := h3.cells
          have f2 := h3.free 2
          have H3 : Hid (_ ∧ _) := And.intro h3 hown2
          have HB4 : Hid (_ ∧ _) := And.intro HO3 HB3
          clear hown2 hgrow hnn hrow hnews hone HF h3 HO3 HB3
          go_wp2_with fail
          go_end0
          refine ⟨⟨_, rfl⟩, _, H3.out.1.out _, ?_, HB2.out.trans HB4.out.2⟩
          have := HB4.out.1
          unfold To
          rw [List.length_append, flT_snoc]
          exact this
end Go.Proofs.Ytfglbgnjgapehaa.RTt

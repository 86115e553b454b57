/- Templates: what stands where a token says it stands; the places of faults (no walk). -/
import Derived.Test.YtfglbgnjgapehaaLLz
namespace Go.Proofs.Ytfglbgnjgapehaa.LCv
open Go.RowKit Go.Proofs.Ytfglbgnjgapehaa.UBase Go.Proofs.Ytfglbgnjgapehaa.EPure Go.Proofs.Ytfglbgnjgapehaa.LPure Go.Proofs.Ytfglbgnjgapehaa.LRd Go.Proofs.Ytfglbgnjgapehaa.LSk Go.Proofs.Ytfglbgnjgapehaa.LNm Go.Proofs.Ytfglbgnjgapehaa.LUp Go.Proofs.Ytfglbgnjgapehaa.LTe Go.Proofs.Ytfglbgnjgapehaa.LPl Go.Proofs.Ytfglbgnjgapehaa.LSc Go.Proofs.Ytfglbgnjgapehaa.LOc Go.Proofs.Ytfglbgnjgapehaa.LEn Go.Proofs.Ytfglbgnjgapehaa.LIn Go.Proofs.Ytfglbgnjgapehaa.LMu Go.Proofs.Ytfglbgnjgapehaa.LTk Go.Proofs.Ytfglbgnjgapehaa.LLz
set_option linter.unusedVariables false

theorem len_l (s : ByteArray) : s.data.toList.length = s.size := Array.length_toList
theorem pre_iff (s : ByteArray) (i : Nat) (x : List UInt8) : pre s i x = true ↔ i + x.length ≤ s.size ∧ x <+: s.data.toList.drop i := by
  unfold pre
  rw [Bool.and_eq_true, decide_eq_true_eq, beq_iff_eq, List.prefix_iff_eq_take]
  exact and_congr_right fun _ => eq_comm
theorem pre_cat {s : ByteArray} {i : Nat} {x y : List UInt8} (hx : pre s i x = true) (hy : pre s (i + x.length) y = true) : pre s i (x ++ y) = true := by
  rw [pre_iff] at *
  obtain ⟨h1, t, ht⟩ := hx
  obtain ⟨h2, u, hu⟩ := hy
  refine ⟨by simp; omega, u, ?_⟩
  rw [← List.drop_drop, ← ht, List.drop_left] at hu
  rw [← ht, ← hu]
  simp
theorem sub_size {s : ByteArray} {i j : Nat} (hj : j ≤ s.size) : (sub s i j).size = j - i := by
  unfold sub
  rw [ByteArray.size_extract]
  omega
theorem sub_list {s : ByteArray} {i j : Nat} (hj : j ≤ s.size) : (sub s i j).data.toList = (s.data.toList.drop i).take (j - i) := by
  unfold sub
  simp [ByteArray.data_extract, Array.toList_extract, List.extract_eq_take_drop]
theorem pre_sub {s : ByteArray} {i j : Nat} (h : i ≤ j) (hj : j ≤ s.size) : pre s i (sub s i j).data.toList = true := by
  have hl : (sub s i j).data.toList.length = j - i := (len_l _).trans (sub_size hj)
  rw [pre_iff, hl]
  refine ⟨by omega, ?_⟩
  rw [sub_list hj]
  exact List.take_prefix _ _
theorem sub_len {s : ByteArray} {i j : Nat} (hj : j ≤ s.size) : (sub s i j).data.toList.length = j - i := (len_l _).trans (sub_size hj)
theorem mpl_in {s : ByteArray} {x : List UInt8} {i : Nat} (h : i ≤ s.size) : mpl s x i ≤ s.size := by
  unfold mpl
  split
  · rename_i hp; exact ((pre_iff _ _ _).1 hp).1
  · exact h
theorem mpl_t {s : ByteArray} {x : List UInt8} {i : Nat} (h : pre s i x = true) : mpl s x i = i + x.length := by unfold mpl; rw [if_pos h]
theorem upl_in {s : ByteArray} {x : List UInt8} {i : Nat} (h : i ≤ s.size) : upl s i x ≤ s.size := by
  unfold upl
  split
  · rename_i hp; exact ux_room h hp
  · exact h
theorem fif_zero {c : Bool} {f e : F} (h : (fif c f e).1 = 0) (he : e.1 ≠ 0) : c = true ∧ f.1 = 0 := by
  unfold fif rf at h
  split at h
  · exact ⟨by assumption, h⟩
  · split at h
    · exact absurd h he
    · contradiction
theorem fl_rf {n : Nat} {f e : F} (hf : f.2 ≤ n) (he : e.2 ≤ n) : (rf f e).2 ≤ n := by unfold rf; split <;> assumption
theorem fl_fif {n : Nat} {c : Bool} {f e : F} (hf : f.2 ≤ n) (he : e.2 ≤ n) : (fif c f e).2 ≤ n := by
  unfold fif
  split
  · exact hf
  · exact fl_rf hf he
theorem pl_in : ∀ (f : Nat) (l : List UInt8) (p : Nat) (acc : List UInt8), (HBase.pl f l p acc).2.1 ≤ p + l.length
  | 0, _, _, _ => Nat.zero_le _
  | f + 1, [], _, _ => Nat.zero_le _
  | f + 1, c :: r, p, acc => by
    by_cases h : c.toNat = 38
    · cases hb : HBase.hit (c :: r) with
      | none => rw [HBase.pl_none h hb]; simp
      | some b =>
        rw [HBase.pl_hit h hb]
        by_cases hk : (HBase.ent b).length < (c :: r).length
        · have := pl_in f ((c :: r).drop (HBase.ent b).length) (p + (HBase.ent b).length) (acc ++ [UInt8.ofNat b])
          rw [List.length_drop] at this
          omega
        · rw [List.drop_of_length_le (by omega), HBase.pl_end]
          exact Nat.zero_le _
    · rw [HBase.pl_byte h]
      have := pl_in f r (p + 1) (acc ++ [c])
      simp only [List.length_cons]
      omega
theorem pat_in (s : ByteArray) : HBase.pat s ≤ s.size := by
  have := pl_in s.size s.data.toList 0 []
  rw [len_l, Nat.zero_add] at this
  exact this
theorem pl_acc : ∀ (f : Nat) (l : List UInt8) (p : Nat) (acc : List UInt8), (HBase.pl f l p acc).2.2 = 0 → acc <+: (HBase.pl f l p acc).1
  | 0, _, _, _, _ => List.prefix_refl _
  | f + 1, [], _, _, _ => List.prefix_refl _
  | f + 1, c :: r, p, acc, h0 => by
    by_cases h : c.toNat = 38
    · cases hb : HBase.hit (c :: r) with
      | none => rw [HBase.pl_none h hb] at h0; cases h0
      | some b =>
        rw [HBase.pl_hit h hb] at h0 ⊢
        exact (List.prefix_append _ _).trans (pl_acc _ _ _ _ h0)
    · rw [HBase.pl_byte h] at h0 ⊢
      exact (List.prefix_append _ _).trans (pl_acc _ _ _ _ h0)
theorem ptext_ne {s : ByteArray} (hs : 0 < s.size) (h0 : HBase.perr s = 0) : HBase.ptext s ≠ ⟨#[]⟩ := by
  intro he
  have hn : (HBase.plain s).1 = [] := by
    have := congrArg (fun x : ByteArray => x.data.toList) he
    simpa [HBase.ptext] using this
  unfold HBase.perr at h0
  unfold HBase.plain at h0 hn
  obtain ⟨n, hn'⟩ : ∃ n, s.size = n + 1 := ⟨s.size - 1, by omega⟩
  cases hl : s.data.toList with
  | nil => have : s.data.toList.length = s.size := by simp
           rw [hl] at this; simp at this; omega
  | cons c r =>
    rw [hl, hn'] at h0 hn
    by_cases h : c.toNat = 38
    · cases hb : HBase.hit (c :: r) with
      | none => rw [HBase.pl_none h hb] at h0; cases h0
      | some b =>
        rw [HBase.pl_hit h hb] at h0 hn
        have := (pl_acc _ _ _ _ h0).length_le
        rw [hn] at this
        simp at this
    · rw [HBase.pl_byte h] at h0 hn
      have := (pl_acc _ _ _ _ h0).length_le
      rw [hn] at this
      simp at this
/-- What stands at a token's place. -/
def Bg (s : ByteArray) (x : Tz) : Prop :=
  (x.k = 1 ∧ at' s x.a ≠ 60 ∧ pre s x.a [123, 123] = false ∧ x.t ≠ ⟨#[]⟩) ∨ (x.k = 2 ∧ pre s x.a ([123, 123] ++ x.t.data.toList ++ [125, 125]) = true) ∨ (x.k = 3 ∧ pre s x.a ([60] ++ x.n.data.toList) = true) ∨
  (x.k = 4 ∧ pre s x.a (x.n.data.toList ++ [61, 34]) = true) ∨ (x.k = 5 ∧ pre s x.a ([58] ++ x.n.data.toList ++ [61, 34]) = true) ∨ (x.k = 6 ∧ pre s x.a [62] = true) ∨ (x.k = 7 ∧ pre s x.a [47, 62] = true) ∨ (x.k = 8 ∧ pre s x.a ([60, 47] ++ x.n.data.toList) = true)
theorem at_sixty {s : ByteArray} {i : Nat} (h : i < s.size) (hp : ¬ pre s i [60] = true) : at' s i ≠ 60 := fun h6 => hp (pre_one h h6)
theorem ext_list {s : ByteArray} {i : Nat} : (s.extract i s.size).data.toList = s.data.toList.drop i := by
  have h := sub_list (s := s) (i := i) (Nat.le_refl s.size)
  unfold sub at h
  rw [h, List.take_of_length_le (by rw [List.length_drop, len_l]; omega)]
theorem pre_occ {s : ByteArray} {i : Nat} {x : List UInt8} : pre s i x = (decide (i + x.length ≤ s.size) && x.isPrefixOf (s.data.toList.drop i)) := by
  rw [Bool.eq_iff_iff, pre_iff, Bool.and_eq_true, decide_eq_true_eq, List.isPrefixOf_iff_prefix]
/-- What the search for a sign finds: the first place, or none. -/
theorem ux_spec {s : ByteArray} {i : Nat} {x : List UInt8} (hi : i ≤ s.size) (hx : 0 < x.length) : (¬ 0 ≤ ux s i x ∧ ∀ j, i ≤ j → pre s j x = false) ∨ ∃ k : Nat, ux s i x = k ∧ pre s (i + k) x = true ∧ ∀ j, i ≤ j → j < i + k → pre s j x = false := by
  unfold ux
  rw [ext_list]
  have hl : (s.data.toList.drop i).length = s.size - i := by rw [List.length_drop, len_l]
  rcases Lib.index_spec (s.data.toList.drop i) x with ⟨h1, h2⟩ | ⟨k, h1, h2, h3, h4⟩
  · refine .inl ⟨by omega, fun j hj => ?_⟩
    rw [pre_occ, Bool.and_eq_false_iff]
    by_cases hs : j ≤ s.size
    · have := h2 (j - i) (by omega)
      unfold Lib.occAt at this
      rw [List.drop_drop, show i + (j - i) = j by omega] at this
      exact .inr this
    · exact .inl (decide_eq_false (by omega))
  · refine .inr ⟨k, h1, ?_, fun j hj hk => ?_⟩
    · unfold Lib.occAt at h3
      rw [List.drop_drop] at h3
      rw [pre_occ, Bool.and_eq_true, decide_eq_true_eq]
      refine ⟨?_, h3⟩
      have := (List.isPrefixOf_iff_prefix.1 h3).length_le
      rw [List.length_drop, len_l] at this
      omega
    · have := h4 (j - i) (by omega)
      unfold Lib.occAt at this
      rw [List.drop_drop, show i + (j - i) = j by omega] at this
      rw [pre_occ, this, Bool.and_false]
theorem ux_at {s : ByteArray} {i : Nat} {x : List UInt8} (hi : i ≤ s.size) (hx : 0 < x.length) (h : 0 ≤ ux s i x) : pre s (i + (ux s i x).toNat) x = true := by
  rcases ux_spec hi hx with ⟨h1, -⟩ | ⟨k, h1, h2, -⟩
  · exact absurd h h1
  · rw [h1]; exact h2
structure Tg (s : ByteArray) (i : Nat) (b : Bool) (x : Tz) : Prop where
  bg : Bg s x
  ge : i ≤ x.a
  lt : x.a < x.i
  le : x.i ≤ s.size
  eq : b = false → x.a = i
set_option maxHeartbeats 1600000 in
theorem tok_tg {s : ByteArray} {i : Nat} {b : Bool} (hi : i ≤ s.size) (hc : b = true ∨ i < s.size) (hf : (LSn.tok s i b (0, 0)).f.1 = 0) : Tg s i b (LSn.tok s i b (0, 0)) := by
  unfold LSn.tok at *
  by_cases hb : b = true
  · rw [if_pos hb] at hf ⊢
    have hY := skp_ge isb s i
    have hYs : skp isb s i ≤ s.size := skp_in hi
    have nb : b = false → ∀ q, q = i := fun h => by rw [hb] at h; cases h
    generalize skp isb s i = Y at *
    have hE : (pre s Y [62] = true ∨ pre s Y [47] = true) → (LSn.tkE s Y (0, 0)).f.1 = 0 → Tg s i b (LSn.tkE s Y (0, 0)) := by
      intro hor hf
      obtain ⟨h1, -⟩ := fif_zero (hf : (fif (pre s (mpl s [47] Y) [62]) (0, 0) (1202, mpl s [47] Y)).1 = 0) (by simp)
      refine ⟨?_, hY, end_gt hor, mpl_in (mpl_in hYs), fun h => nb h _⟩
      unfold Bg LSn.tkE eK
      dsimp only
      by_cases p1 : pre s Y [47] = true
      · rw [if_pos p1]
        rw [mpl_t p1] at h1
        exact .inr (.inr (.inr (.inr (.inr (.inr (.inl ⟨rfl, pre_cat (x := [47]) (y := [62]) p1 h1⟩))))))
      · rw [if_neg p1]
        exact .inr (.inr (.inr (.inr (.inr (.inl ⟨rfl, hor.resolve_right p1⟩)))))
    by_cases p0 : pre s Y [62] = true
    · rw [if_pos p0] at hf ⊢; exact hE (.inl p0) hf
    rw [if_neg p0] at hf ⊢
    by_cases p1 : pre s Y [47] = true
    · rw [if_pos p1] at hf ⊢; exact hE (.inr p1) hf
    rw [if_neg p1] at hf ⊢
    by_cases hap : i < Y
    · rw [if_pos hap] at hf ⊢
      have h7 : (LAt.f7 s Y (0, 0)).1 = 0 := hf
      have h6 : (LAt.f6 s Y (0, 0)).1 = 0 := by
        unfold LAt.f7 at h7
        split at h7
        · exact h7
        · exact (fif_zero h7 (by simp)).2
      obtain ⟨-, h5⟩ := fif_zero (h6 : (fif _ _ _).1 = 0) (by simp)
      obtain ⟨hu, h4⟩ := fif_zero (h5 : (fif _ _ _).1 = 0) (by simp)
      obtain ⟨q4, h3⟩ := fif_zero (h4 : (fif _ _ _).1 = 0) (by simp)
      obtain ⟨q3, h2⟩ := fif_zero (h3 : (fif _ _ _).1 = 0) (by simp)
      have i1 : LAt.a1 s Y ≤ s.size := mpl_in hYs
      have g1 : Y ≤ LAt.a1 s Y := mpl_ge s [58] Y
      have i2 : LAt.a2 s Y ≤ s.size := skp_in i1
      have g2 : LAt.a1 s Y ≤ LAt.a2 s Y := skp_ge tgb s _
      have e3 : LAt.a3 s Y = LAt.a2 s Y + 1 := mpl_t q3
      have e4 : LAt.a4 s Y = LAt.a3 s Y + 1 := mpl_t q4
      have i4 : LAt.a4 s Y ≤ s.size := mpl_in (mpl_in i2)
      have g5 : LAt.a4 s Y ≤ LAt.a5 s Y := upl_ge s _ [34]
      have hn : pre s (LAt.a1 s Y) ((nT s (LAt.a1 s Y)).data.toList ++ [61, 34]) = true := by
        refine pre_cat (pre_sub g2 i2) ?_
        have hlen : (nT s (LAt.a1 s Y)).data.toList.length = LAt.a2 s Y - LAt.a1 s Y := sub_len i2
        rw [hlen, show LAt.a1 s Y + (LAt.a2 s Y - LAt.a1 s Y) = LAt.a2 s Y by omega]
        exact pre_cat (x := [61]) (y := [34]) q3 (by show pre s (LAt.a2 s Y + 1) [34] = true; rw [← e3]; exact q4)
      refine ⟨?_, hY, (by show Y < LAt.a5 s Y; omega), upl_in i4, fun h => nb h _⟩
      unfold Bg LSn.tkA LAt.aK
      dsimp only
      by_cases p5 : pre s Y [58] = true
      · rw [if_pos p5]
        have e1 : LAt.a1 s Y = Y + 1 := mpl_t p5
        refine .inr (.inr (.inr (.inr (.inl ⟨rfl, ?_⟩))))
        rw [List.append_assoc]
        exact pre_cat p5 (by rw [e1] at hn ⊢; exact hn)
      · rw [if_neg p5]
        have e1 : LAt.a1 s Y = Y := by unfold LAt.a1 mpl; rw [if_neg p5]
        refine .inr (.inr (.inr (.inl ⟨rfl, ?_⟩)))
        rw [e1] at hn ⊢
        exact hn
    · rw [if_neg hap] at hf
      exfalso
      unfold LSn.tkN rf at hf
      simp at hf
  · rw [if_neg hb] at hf ⊢
    have hlt : i < s.size := hc.resolve_left hb
    by_cases p0 : pre s i [123, 123] = true
    · rw [if_pos p0] at hf ⊢
      have hr : i + 2 ≤ s.size := ((pre_iff _ _ _).1 p0).1
      obtain ⟨hu, -⟩ := fif_zero (hf : (fif (decide (0 ≤ ux s (i + 2) [125, 125])) (0, 0) (1205, i)).1 = 0) (by simp)
      have hu : 0 ≤ ux s (i + 2) [125, 125] := of_decide_eq_true hu
      have hq := ux_room hr hu
      have hg := upl_ge s (i + 2) [125, 125]
      refine ⟨?_, Nat.le_refl _, (by show i < upl s (i + 2) [125, 125]; omega), upl_in hr, fun _ => rfl⟩
      unfold Bg LSn.tkI
      dsimp only
      refine .inr (.inl ⟨rfl, ?_⟩)
      rw [List.append_assoc]
      refine pre_cat p0 ?_
      unfold utx
      rw [if_pos hu]
      simp only [List.length_cons, List.length_nil] at hq ⊢
      refine pre_cat (pre_sub (by omega) (by omega)) ?_
      rw [sub_len (by omega), show i + (0 + 1 + 1) + (i + 2 + (ux s (i + 2) [125, 125]).toNat - (i + 2)) = i + 2 + (ux s (i + 2) [125, 125]).toNat by omega]
      exact ux_at hr (by simp) hu
    rw [if_neg p0] at hf ⊢
    by_cases p1 : pre s i [60, 47] = true
    · rw [if_pos p1] at hf ⊢
      have hr : i + 2 ≤ s.size := ((pre_iff _ _ _).1 p1).1
      have h1 := skp_ge tgb s (i + 2)
      have h2 : skp tgb s (i + 2) ≤ s.size := skp_in hr
      have h3 := skp_ge isb s (skp tgb s (i + 2))
      have h4 := mpl_ge s [62] (skp isb s (skp tgb s (i + 2)))
      refine ⟨?_, Nat.le_refl _, (by show i < mpl s [62] (skp isb s (skp tgb s (i + 2))); omega), mpl_in (skp_in h2), fun _ => rfl⟩
      exact .inr (.inr (.inr (.inr (.inr (.inr (.inr ⟨rfl, pre_cat p1 (pre_sub h1 h2)⟩))))))
    rw [if_neg p1] at hf ⊢
    by_cases p2 : pre s i [60] = true
    · rw [if_pos p2] at hf ⊢
      have h1 := skp_ge tgb s (i + 1)
      have h2 : skp tgb s (i + 1) ≤ s.size := skp_in (by omega)
      refine ⟨?_, Nat.le_refl _, (by show i < skp tgb s (i + 1); omega), h2, fun _ => rfl⟩
      exact .inr (.inr (.inl ⟨rfl, pre_cat p2 (pre_sub h1 h2)⟩))
    rw [if_neg p2] at hf ⊢
    have h6 := at_sixty hlt p2
    have hp : pre s i [123, 123] = false := by simpa using p0
    have ht : i < tnd s i := by rw [tnd_step hlt h6 hp]; exact tnd_ge s (i + 1)
    have hti : tnd s i ≤ s.size := tnd_in hi
    obtain ⟨-, h3⟩ := fif_zero (hf : (fif (decide ((LTx.xT s i).size ≤ 4096)) (LTx.xF s i (0, 0)) (1201, i)).1 = 0) (by simp)
    obtain ⟨h4, -⟩ := fif_zero (h3 : (fif (HBase.perr (sub s i (tnd s i)) == 0) (0, 0) (1204, i + HBase.pat (sub s i (tnd s i)))).1 = 0) (by simp)
    exact ⟨.inl ⟨rfl, h6, hp, ptext_ne (by rw [sub_size hti]; omega) (by simpa using h4)⟩, Nat.le_refl _, ht, hti, fun _ => rfl⟩
theorem utx_in {s : ByteArray} {i : Nat} {x : List UInt8} (h : i ≤ s.size) : i + (utx s i x).size ≤ s.size := by
  unfold utx
  split
  · rename_i hu
    have := ux_room h hu
    rw [sub_size (by omega)]
    omega
  · exact h
set_option maxHeartbeats 1600000 in
theorem tok_fl {s : ByteArray} {i : Nat} (b : Bool) (hi : i ≤ s.size) : (LSn.tok s i b (0, 0)).f.2 ≤ s.size := by
  have h0 : ((0, 0) : F).2 ≤ s.size := Nat.zero_le _
  have hYs : skp isb s i ≤ s.size := skp_in hi
  unfold LSn.tok
  split
  · generalize skp isb s i = Y at *
    split
    · exact fl_fif h0 (mpl_in hYs)
    split
    · exact fl_fif h0 (mpl_in hYs)
    split
    · have i1 : LAt.a1 s Y ≤ s.size := mpl_in hYs
      have i2 : LAt.a2 s Y ≤ s.size := skp_in i1
      have i3 : LAt.a3 s Y ≤ s.size := mpl_in i2
      have i4 : LAt.a4 s Y ≤ s.size := mpl_in i3
      have hw : LAt.a4 s Y + HBase.pat (LAt.aW s Y) ≤ s.size := by
        have h1 := utx_in (x := [34]) i4
        have h2 := pat_in (LAt.aW s Y)
        unfold LAt.aW at h2 ⊢
        omega
      have h2 : (LAt.f2 s Y (0, 0)).2 ≤ s.size := fl_fif h0 i1
      have h3 : (LAt.f3 s Y (0, 0)).2 ≤ s.size := fl_fif h2 i2
      have h4 : (LAt.f4 s Y (0, 0)).2 ≤ s.size := fl_fif h3 i3
      have h5 : (LAt.f5 s Y (0, 0)).2 ≤ s.size := fl_fif h4 i3
      have h6 : (LAt.f6 s Y (0, 0)).2 ≤ s.size := fl_fif h5 hw
      show (LAt.f7 s Y (0, 0)).2 ≤ s.size
      unfold LAt.f7
      split
      · exact h6
      · exact fl_fif h6 i3
    · exact fl_rf h0 hi
  split
  · exact fl_fif h0 hi
  split
  · rename_i p1
    have hr : i + 2 ≤ s.size := ((pre_iff _ _ _).1 p1).1
    exact fl_fif (fl_fif h0 hr) (skp_in (skp_in hr))
  split
  · rename_i p2
    exact fl_fif h0 ((pre_iff _ _ _).1 p2).1
  · have hti : tnd s i ≤ s.size := tnd_in hi
    have hg := tnd_ge s i
    have h1 := pat_in (sub s i (tnd s i))
    rw [sub_size hti] at h1
    exact fl_fif (fl_fif h0 (by show i + HBase.pat (sub s i (tnd s i)) ≤ s.size; omega)) hi
/-- Tokens that rise, each where it says. -/
structure Cv (s : ByteArray) (i : Nat) (acc : List Tz) : Prop where
  bg : ∀ j (h : j < acc.length), Bg s acc[j]
  lt : ∀ j (h : j < acc.length), acc[j].a < i
  up : ∀ j (h : j + 1 < acc.length), acc[j].a < acc[j + 1].a
  zero : ∀ h : 0 < acc.length, acc[0].a = 0
theorem Cv.more {s : ByteArray} {i : Nat} {b : Bool} {acc : List Tz} {x : Tz} (h : Cv s i acc) (hx : Tg s i b x) (h0 : acc = [] → i = 0 ∧ b = false) : Cv s x.i (acc ++ [x]) := by
  have hge := hx.ge
  have hlt := hx.lt
  refine ⟨fun j hj => ?_, fun j hj => ?_, fun j hj => ?_, fun hj => ?_⟩
  · by_cases hl : j < acc.length
    · rw [List.getElem_append_left hl]; exact h.bg j hl
    · have : j = acc.length := by simp at hj; omega
      subst this
      simpa using hx.bg
  · by_cases hl : j < acc.length
    · rw [List.getElem_append_left hl]; have := h.lt j hl; omega
    · have : j = acc.length := by simp at hj; omega
      subst this
      simpa using hlt
  · have hj' : j < acc.length := by simp at hj; omega
    rw [List.getElem_append_left hj']
    by_cases hl : j + 1 < acc.length
    · rw [List.getElem_append_left hl]; exact h.up j hl
    · have hje : j + 1 = acc.length := by omega
      have := h.lt j hj'
      rw [List.getElem_append_right (by omega)]
      simp only [hje, Nat.sub_self, List.getElem_cons_zero]
      omega
  · cases acc with
    | nil =>
      obtain ⟨e1, e2⟩ := h0 rfl
      have := hx.eq e2
      simpa [e1] using this
    | cons y ys => exact h.zero (by simp)
theorem lxs_cv (s : ByteArray) : ∀ (n i : Nat) (b : Bool) (acc : List Tz), s.size + 1 ≤ n + i → i ≤ s.size → Cv s i acc → (acc = [] → i = 0 ∧ b = false) →
    (lxs s n i b acc).2.2 ≤ s.size ∧ ((lxs s n i b acc).2.1 = 0 → Cv s s.size (lxs s n i b acc).1 ∧ (0 < s.size → 0 < (lxs s n i b acc).1.length)) := by
  intro n
  induction n with
  | zero => intro i b acc h1 h2; omega
  | succ n ih =>
    intro i b acc hn hi hC h0
    by_cases hc : b = true ∨ i < s.size
    · by_cases hf : (LSn.tok s i b (0, 0)).f.1 = 0
      · have ht := tok_tg hi hc hf
        have h1 := ht.ge
        have h2 := ht.lt
        rw [lxs_more hc hf]
        exact ih _ _ _ (by omega) ht.le (hC.more ht h0) (fun h => by simp at h)
      · rw [lxs_bad hc hf]
        exact ⟨tok_fl b hi, fun h => absurd h hf⟩
    · rw [lxs_end hc]
      have hi' : i = s.size := by simp at hc; omega
      refine ⟨Nat.zero_le _, fun _ => ⟨hi' ▸ hC, fun hs => ?_⟩⟩
      cases acc with
      | nil => have := (h0 rfl).1; omega
      | cons y ys => simp
theorem bad_lt (s : ByteArray) : ∀ (m i k : Nat), s.size - i ≤ m → bad s i = some k → k < s.size := by
  intro m
  induction m with
  | zero =>
    intro i k hm h
    rw [bad_end (by omega)] at h
    cases h
  | succ m ih =>
    intro i k hm h
    by_cases hi : i < s.size
    · by_cases hl : len s i = 0
      · rw [bad_here hi hl] at h
        cases h
        exact hi
      · rw [bad_step hi hl] at h
        exact ih _ _ (by omega) h
    · rw [bad_end hi] at h
      cases h
theorem vat_in (s : ByteArray) : vat s ≤ s.size := by
  unfold vat
  cases h : bad s 0 with
  | none => exact Nat.zero_le _
  | some k => exact Nat.le_of_lt (bad_lt s _ 0 k (Nat.le_refl _) h)
theorem lxa_in (s : ByteArray) : (lxa s).2.2 ≤ s.size := by
  have h := (lxs_cv s (s.size + 1) 0 false [] (by omega) (Nat.zero_le _) ⟨by simp, by simp, by simp, by simp⟩ (fun _ => ⟨rfl, rfl⟩)).1
  unfold lxa
  split
  · exact Nat.zero_le _
  split
  · exact vat_in s
  split
  · exact Nat.zero_le _
  · exact h
theorem lxa_nil {s : ByteArray} (h : (lxa s).2.1 ≠ 0) : (lxa s).1 = [] := by
  unfold lxa at *
  split at h
  · rename_i h1; rw [if_pos h1]
  · rename_i h1
    rw [if_neg h1]
    split at h
    · rename_i h2; rw [if_pos h2]
    · rename_i h2
      rw [if_neg h2]
      split at h
      · exact absurd rfl h
      · rename_i h3; rw [if_neg h3]
theorem lxa_cv {s : ByteArray} (h : (lxa s).2.1 = 0) : Cv s s.size (lxa s).1 ∧ (0 < s.size → 0 < (lxa s).1.length) ∧ s.size ≤ 65536 ∧ (lxa s).2.2 = 0 := by
  have h2 := (lxs_cv s (s.size + 1) 0 false [] (by omega) (Nat.zero_le _) ⟨by simp, by simp, by simp, by simp⟩ (fun _ => ⟨rfl, rfl⟩)).2
  unfold lxa at *
  split at h
  · cases h
  · rename_i h1
    rw [if_neg h1]
    split at h
    · cases h
    · rename_i h4
      rw [if_neg h4]
      split at h
      · rename_i h3
        rw [if_pos h3]
        exact ⟨(h2 h3).1, (h2 h3).2, by omega, rfl⟩
      · rename_i h3; exact absurd h h3
end Go.Proofs.Ytfglbgnjgapehaa.LCv

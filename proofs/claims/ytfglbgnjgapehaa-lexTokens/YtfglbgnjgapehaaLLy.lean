/- Templates: Lex, whole. -/
import Derived.Test.YtfglbgnjgapehaaLLx
import Derived.Test.YtfglbgnjgapehaaLTk
namespace Go.Proofs.Ytfglbgnjgapehaa.LLy
open Go.RowKit Go.Shelf Go.Proofs.Ytfglbgnjgapehaa.UBase Go.Proofs.Ytfglbgnjgapehaa.EPure Go.Proofs.Ytfglbgnjgapehaa.LPure Go.Proofs.Ytfglbgnjgapehaa.LRd Go.Proofs.Ytfglbgnjgapehaa.LSk Go.Proofs.Ytfglbgnjgapehaa.LNm Go.Proofs.Ytfglbgnjgapehaa.LSc Go.Proofs.Ytfglbgnjgapehaa.LIn Go.Proofs.Ytfglbgnjgapehaa.LSn Go.Proofs.Ytfglbgnjgapehaa.LMu Go.Proofs.Ytfglbgnjgapehaa.LRw Go.Proofs.Ytfglbgnjgapehaa.LQt Go.Proofs.Ytfglbgnjgapehaa.LTk
set_option linter.unusedVariables false
attribute [local go_sem] Oper.semAt_some

theorem info_parts {t : TypeId} {z : Value} {s b : Nat} (h : (Try.prog.info? t).map (fun i => (i.zero, i.size, i.bytes)) = some (some z, s, b)) : ∃ i, Try.prog.info? t = some i ∧ i.zero = some z ∧ i.size = s ∧ i.bytes = b := by
  cases e : Try.prog.info? t with
  | none => rw [e] at h; simp at h
  | some i =>
    rw [e] at h
    simp at h
    exact ⟨i, rfl, h.1, h.2.1, h.2.2⟩
theorem infoT : (Try.prog.info? 34).map (fun i => (i.zero, i.size, i.bytes)) = some (some (.agg #[.int .i64 0, .string ⟨#[]⟩, .string ⟨#[]⟩, .int .i64 0]), 4, 48) := by kernel_rfl
/-- A token's four cells; a row of tokens of one's own. -/
def tkc (x : Tz) : List Value := [.int .i64 x.k, .string x.n, .string x.t, .int .i64 x.a]
def flT : List Tz → List Value
  | [] => []
  | x :: xs => tkc x ++ flT xs
theorem flT_snoc (xs : List Tz) (x : Tz) : flT (xs ++ [x]) = flT xs ++ tkc x := by
  induction xs with
  | nil => simp [flT]
  | cons y ys ih => simp [flT, ih]
theorem flT_len (xs : List Tz) : (flT xs).length = xs.length * 4 := by
  induction xs with
  | nil => rfl
  | cons y ys ih => simp [flT, tkc, ih]; omega
def To (w : World) (B : Nat) (v : Value) (xs : List Tz) : Prop := w.ownsRow B 34 4 v xs.length (flT xs)
theorem nil_own (w : World) (B : Nat) : w.ownsRow B 34 4 (.slice none 0 0) 0 [] := ⟨rfl, .inl ⟨rfl, rfl⟩⟩
theorem own_kr {R : Nat} {X Y : World} {v : Value} {k : Nat} {xs : List Value} (h : X.ownsRow (R + 1) 34 4 v k xs) (hk : Kr R X Y) : Y.ownsRow (R + 1) 34 4 v k xs := by
  obtain ⟨h1, h2⟩ := h
  refine ⟨h1, ?_⟩
  rcases h2 with h2 | ⟨g, cap, cur, rfl, hg, hh, h3⟩
  · exact .inl h2
  · exact .inr ⟨g, cap, cur, rfl, hg, (hk.other g (by omega) (Array.getElem?_eq_some_iff.1 hh).1).trans hh, h3⟩
theorem own_mono {B B' : Nat} {X : World} {v : Value} {k : Nat} {xs : List Value} (h : X.ownsRow B 34 4 v k xs) (hB : B' ≤ B) : X.ownsRow B' 34 4 v k xs := by
  obtain ⟨h1, h2⟩ := h
  refine ⟨h1, ?_⟩
  rcases h2 with h2 | ⟨g, cap, cur, rfl, hg, h3⟩
  · exact .inl h2
  · exact .inr ⟨g, cap, cur, rfl, by omega, h3⟩
theorem own_shape {B : Nat} {X : World} {v : Value} {k : Nat} {xs : List Value} (h : X.ownsRow B 34 4 v k xs) : v = .slice none 0 0 ∨ ∃ g cap, v = .slice (some ⟨g, 0, none⟩) k cap := by
  obtain ⟨-, ⟨h2, -⟩ | ⟨g, cap, cur, h2, -⟩⟩ := h
  · exact .inl h2
  · exact .inr ⟨g, cap, h2⟩
theorem lxs_fz (s : ByteArray) : ∀ (n i : Nat) (b : Bool) (acc : List Tz), Fz (lxs s n i b acc).2 := by
  intro n
  induction n with
  | zero => intro i b acc; exact fun _ => rfl
  | succ n ih =>
    intro i b acc
    by_cases hc : b = true ∨ i < s.size
    · by_cases hf : (LSn.tok s i b (0, 0)).f.1 = 0
      · rw [lxs_more hc hf]; exact ih _ _ _
      · rw [lxs_bad hc hf]; exact fun h => absurd h hf
    · rw [lxs_end hc]; exact fun _ => rfl
/-- What a round's variables are. -/
def Axt (R : Nat) (fr : Tz → Nat → Act) (x : Tz) (a' : Act) (W : World) : Prop := ∃ A, a' = fr x A ∧ W.heap[A]? = some (.cells #[.int .i64 x.k, .string x.n, .string x.t, .int .i64 x.a] 34 (0, 0)) ∧ R + 2 ≤ A
theorem axt_own (R n : Nat) (fr : Tz → Nat → Act) (x : Tz) (a' : Act) : OwnFrom n (fun (_ : Unit) W => Axt R fr x a' W) := by
  rintro - W W' row ⟨A, e, h, hA⟩ hg hr
  refine ⟨A, e, (hg.block A (Array.getElem?_eq_some_iff.1 h).1 fun e' => ?_).trans h, hA⟩
  obtain ⟨-, o, ho, hc⟩ := hr A e'.symm
  rw [h] at ho
  cases ho
  cases hc
set_option maxRecDepth 100000 in
set_option maxHeartbeats 4000000 in
theorem lex_ok (s : ByteArray) (h1 : s.size ≤ 65536) (h2 : UBase.verr s = 0) (w : World) (hg : Gm w) (h0 : 0 < w.heap.size) :
    Calls Try.prog 7 #[.string s] w fun e w' => ∃ v, e = .returned (.tuple #[v, .int .i64 (lxs s (s.size + 1) 0 false []).2.2, .int .i64 (lxs s (s.size + 1) 0 false []).2.1]) ∧
      ((lxs s (s.size + 1) 0 false []).2.1 = 0 → To w' w.heap.size v (lxs s (s.size + 1) 0 false []).1) ∧ ((lxs s (s.size + 1) 0 false []).2.1 ≠ 0 → v = .slice none 0 0) ∧ Below w.heap.size w w' := by
  have c := UOwn.valid_c s (by omega) w
  have d : ((UBase.verr s : Int) != 0) = false := by simp; omega
  have Hg : Hid (Gm w) := hg
  obtain ⟨ix, hi, hz0, hz1, hz2⟩ := info_parts infoT
  generalize UBase.vat s = a at *
  generalize UBase.verr s = v at *
  clear h2 hg
  have Hfz : Hid (Fz (lxs s (s.size + 1) 0 false []).2) := lxs_fz s (s.size + 1) 0 false []
  obtain ⟨⟨xs0, fc, fp⟩, hX⟩ : ∃ X, lxs s (s.size + 1) 0 false [] = X := ⟨_, rfl⟩
  rw [hX] at Hfz ⊢
  have HX : Hid (lxs s (s.size + 1) 0 false [] = (xs0, fc, fp)) := hX
  clear hX
  dsimp only
  refine (callsIn_wide (n := 6)).1 ?_
  refine callsIn_of_wp_marks Try.func7 rfl trivial ?_ rfl
  simp only [Try.ntmps7, List.size_toArray, List.length_cons, List.length_nil, Nat.reduceAdd, Nat.reduceSub, Array.replicate_succ, Array.replicate_zero, List.push_toArray, List.append_toArray, List.nil_append, List.cons_append]
  gi_wp2_with fail
  refine ⟨trivial, ?_⟩
  refine (callsIn_wide.2 c).mono ?_
  rintro e w1 ⟨rfl, p, hp⟩
  have hb1 : Below w.heap.size w w1 := by rw [hp]; exact (Below.refl _ w).alloc (Nat.le_refl _) _
  have hs1 := hb1.size
  clear hp c
  gi_wp2_with fail
  obtain ⟨R, hR⟩ : ∃ R, w1.heap.size = R := ⟨_, rfl⟩
  obtain ⟨W0, hW0⟩ : ∃ W0, (w1.alloc (.cells #[.string s, .int .i64 0, .bool false, .int .i64 0, .int .i64 0] 43)).alloc (.cells #[.slice none 0 0] 22) = W0 := ⟨_, rfl⟩
  have hsz : W0.heap.size = R + 2 := by rw [← hW0, ← hR]; simp
  have hB0 : Below w.heap.size w W0 := by
    rw [← hW0]
    exact (hb1.alloc (by omega) _).alloc (by simp; omega) _
  have hL0 : Lr W0 R s 0 false (0, 0) := ⟨by
    rw [← hW0, ← hR]
    exact (Below.heap_alloc _ _ _ (by simp)).trans (heap_alloc_new w1 _), Nat.zero_le _, h1⟩
  have hbx : Boxed W0 (R + 1) 22 (.slice none 0 0) := by
    have := Boxed.new (w1.alloc (.cells #[.string s, .int .i64 0, .bool false, .int .i64 0, .int .i64 0] 43)) 22 (.slice none 0 0)
    rw [World.size_alloc] at this
    rw [← hW0, ← hR]
    exact this
  have hg0 : Gm W0 := gm_below Hg.out h0 hB0
  have hwR : w.heap.size ≤ R := by omega
  have hnil : W0.ownsRow (R + 1) 34 4 (.slice none 0 0) 0 [] := nil_own _ _
  have hseq := tokens_gives (m := 5) (by omega) hL0 hg0
  rw [HX.out] at hseq
  dsimp only at hseq
  clear HX
  try rw [hW0]
  rw [hR]
  clear hW0 hR hb1 hs1
  refine range_own (α := Tz) rfl (by omega) (gf := 17) (fs := #[ptr R]) rfl trivial (enters_of Try.func17 (by kernel_rfl) rfl) hseq
    (fun X Y k o hk hl ho => (hk.other k (by omega) (Array.getElem?_eq_some_iff.1 ho).1).trans ho) (fun {_ _ _} h k => Kp.trans h k) (Kp.book (by omega)) (fun _ => rfl)
    (fun pre W => (∃ v, Boxed W (R + 1) 22 v ∧ W.ownsRow (R + 1) 34 4 v pre.length (flT pre) ∧ True) ∧ Below w.heap.size w W)
    (OwnFrom.and (Own.from (holdsRow_own _ _ _ _ _ _ _ _) _) (ownFrom_below (Nat.le_refl _) (by omega)))
    (fun xs W W' row ⟨i, b, hL, hx⟩ hg' hr => ⟨i, b, hL.keep (hg'.block R hL.lt (fun e' => by obtain ⟨h5, -⟩ := hr R e'.symm; omega)), hx⟩)
    (fun xs X Y ⟨⟨v, hb, ho, _⟩, hB⟩ hk => ⟨⟨v, (hk.other _ (by omega) hb.lt).trans hb, own_kr ho hk, trivial⟩, hB.trans (hk.below.mono (by omega))⟩)
    ⟨⟨_, hbx, hnil, trivial⟩, hB0⟩
    (Axt R (fun x A => { tmps := #[.string s, undef, .slice none 0 0, .int .i64 0, .int .i64 0, .int .i64 a, .int .i64 v, .pointer (some ⟨R, 0, none⟩), .pointer (some ⟨R + 1, 0, none⟩), .pointer (some ⟨A, 0, none⟩), .string s, .int .i64 s.size, .bool (decide ((65536 : Int) < s.size)), .tuple #[.int .i64 a, .int .i64 v], .string s, .tuple #[.int .i64 a, .int .i64 v], .int .i64 a, .int .i64 v, .int .i64 v, .bool false, undef, .string s, .agg #[.string s, .int .i64 0, .bool false, .int .i64 0, .int .i64 0], .func (Fn.func 17) #[.pointer (some ⟨R, 0, none⟩)] #[], .agg #[.int .i64 x.k, .string x.n, .string x.t, .int .i64 x.a], undef, undef, undef, undef, undef, undef, undef, undef, undef, undef, undef, undef], defers := [] }))
    (axt_own _ _ _) ?assign ?body ?done
  case assign =>
    rintro l pre x W K hI hK
    have hWs : R + 1 < W.heap.size := by
      obtain ⟨⟨v', hb, -, -⟩, -⟩ := hI
      exact hb.lt
    have HK : Hid (∀ a' W', KeepsFrom W0.heap.size W W' → Kp R W W' → _ → _ → K a' W') := hK
    have HI := hI
    clear hK
    unfold enc tv
    gi_wp2
    refine HK.out _ _ ((KeepsOthers.alloc W _).from _) ⟨by simp, Below.heap_alloc _ _ _ (by omega), Below.heap_alloc _ _ _ (by omega)⟩ ?_ ⟨W.heap.size, rfl, heap_alloc_new W _, by omega⟩
    obtain ⟨⟨v', hb, ho, -⟩, hB⟩ := HI
    exact ⟨⟨v', hb.alloc _, World.ownsRow.alloc ho _, trivial⟩, hB.alloc (by omega) _⟩
  case body =>
    rintro l pre x _ W ⟨⟨v', hb, ho, -⟩, hB⟩ ⟨A, rfl, hA, hAR⟩ hlen
    have hWs : R + 1 < W.heap.size := hb.lt
    have kb := hb.cell
    have fb := hb.frozen
    obtain ⟨d0, d1, d2, d3⟩ := LTk.four_box hA
    have hrow := World.ownsRow.alloc ho (.cells #[.int .i64 x.k, .string x.n, .string x.t, .int .i64 x.a] 34)
    have hnews : ∀ j u, (tkc x)[j]? = some u → (W.alloc (.cells #[.int .i64 x.k, .string x.n, .string x.t, .int .i64 x.a] 34)).cell? (Addr.add ⟨W.heap.size, 0, none⟩ j) = some u := by
      intro j u hu
      have : (W.alloc (.cells #[.int .i64 x.k, .string x.n, .string x.t, .int .i64 x.a] 34)).heap[W.heap.size]? = some (.cells #[.int .i64 x.k, .string x.n, .string x.t, .int .i64 x.a] 34 (0, 0)) := heap_alloc_new W _
      obtain ⟨e0, e1, e2, e3⟩ := LTk.four_box this
      match j with
      | 0 => simp [tkc] at hu; subst hu; exact e0
      | 1 => simp [tkc] at hu; subst hu; exact e1
      | 2 => simp [tkc] at hu; subst hu; exact e2
      | 3 => simp [tkc] at hu; subst hu; exact e3
      | j + 4 => simp [tkc] at hu
    have hone : ∀ u ∈ tkc x, u.oneCell' = true := by
      intro u hu
      simp [tkc] at hu
      rcases hu with rfl | rfl | rfl | rfl <;> rfl
    have HF : Hid (∀ {w2 : World} {v2 : Value}, w2.ownsRow (R + 1) 34 4 v2 (pre.length + 1) (flT pre ++ tkc x) → (W.alloc (.cells #[.int .i64 x.k, .string x.n, .string x.t, .int .i64 x.a] 34)).grownBy w2 v'.ownBlock → _) := fun h5 h6 => Boxed.appended hb (by decide) ho (by omega) (Nat.le_refl _) h5 h6
    have HB : Hid (Below w.heap.size w W) := hB
    clear hB hA
    gi_wp2_with (first
      | (gi_at_builtin; refine wpListIn_append_own _ rfl _ _ 22 rfl (R + 1) 34 ix (.agg #[.int .i64 0, .string ⟨#[]⟩, .string ⟨#[]⟩, .int .i64 0]) 4 48 Try.underlying22 hi hz0 hz1 hz2 rfl (by decide) _ _ _ rfl hrow ⟨W.heap.size, 0, none⟩ 1 1 (tkc x) rfl rfl hnews hone (by unfold maxLen; omega) (by omega) (by simp; omega) ?_))
    intro v2 w2 hown2 hgrow hnn
    obtain ⟨b1, b2, b3, b4, b5⟩ := HF.out hown2 hgrow
    obtain ⟨g2, cap2, rfl⟩ := ownsRow_succ hown2
    have kb2 := b1.cell
    have fb2 := b1.frozen
    clear hown2 hgrow hnn hrow hnews hone kb fb d0 d1 d2 d3
    gi_wp2
    refine ⟨b4.from _, ⟨b5.size, b5.block _ (by omega), b5.block _ (by omega)⟩, ⟨_, b2, ?_, trivial⟩, HB.out.trans (b5.mono (by omega))⟩
    rw [List.length_append, flT_snoc]
    exact b3
  case done =>
    rintro D xs W hD ⟨i, b, hL, rfl⟩ ⟨⟨v', hb, ho, -⟩, hB⟩ hK
    have kb := hb.cell
    obtain ⟨k0, k1, k2, k3, k4⟩ := hL.cells
    have cf := (callsIn_wide (n := 6 - 1)).2 (failed_c hL)
    have HO : Hid (To W w.heap.size v' xs) := own_mono ho (by omega)
    have hfz := Hfz.out
    have hvs : v' = .slice none 0 0 ∨ ∃ g cap, v' = .slice (some ⟨g, 0, none⟩) xs.length cap := own_shape ho
    clear ho hb Hfz
    gi_wp2_with fail
    refine ⟨trivial, ?_⟩
    refine cf.mono ?_
    rintro e w3 ⟨rfl, rfl⟩
    clear cf
    by_cases hf : fc = 0
    · have e0 : ((fc : Int) != 0) = false := by simp [hf]
      rw [e0]
      have hfp : fp = 0 := congrArg Prod.snd (hfz hf)
      subst hf hfp
      have HD : Hid (Below w.heap.size w (w3.putObj D (.deferred none))) := hB.trans (belowK_b (w := w) (Nat.le_refl _) w3 D _ _ (by have := hB0.size; omega) hK rfl rfl)
      clear hB k0 k1 k2 k3 k4 hfz hseq hnil hbx
      rcases hvs with rfl | ⟨g, cap, rfl⟩
      · gi_wp2_with fail
        refine ⟨by simp, .inl ⟨_, _, rfl, run_takeDeferred hK, ?_⟩⟩
        refine ⟨_, ?_, _, rfl, ownsRow_putObj HO.out _ hK rfl, HD.out⟩
        simp [results, Try.f7, go_sem]
      · gi_wp2_with fail
        refine ⟨by simp, .inl ⟨_, _, rfl, run_takeDeferred hK, ?_⟩⟩
        refine ⟨_, ?_, _, rfl, ownsRow_putObj HO.out _ hK rfl, HD.out⟩
        simp [results, Try.f7, go_sem]
    · have e0 : ((fc : Int) != 0) = true := by simp; omega
      rw [e0]
      have HD : Hid (∀ m, Below w.heap.size w ((w3.drewN m).putObj D (.deferred none))) := fun m => (⟨hB.os, hB.tape, hB.output, hB.size, hB.block⟩ : Below w.heap.size w (w3.drewN m)).trans (belowK_b (w := w) (Nat.le_refl _) (w3.drewN m) D _ _ (by have := hB0.size; omega) hK rfl rfl)
      have hmx : Try.prog.follows .mixedOrders = true := by kernel_rfl
      clear hB HO hvs hfz hseq hnil hbx
      gi_wp2_with fail
      refine region_quiet (by kernel_rfl) hmx (by kernel_rfl) ?_
      repeat (gi_big_quiet_step (fail))
      refine wpQuietIn_nil ?_
      intro _ hw'
      obtain ⟨nq, hw''⟩ := hw'
      subst hw''
      gi_wp2_with fail
      refine ⟨by simp, .inl ⟨_, _, rfl, run_takeDeferred (w := w3.drewN nq) hK, ?_⟩⟩
      refine ⟨_, ?_, _, rfl, fun h => absurd h hf, fun _ => rfl, HD.out nq⟩
      simp [results, Try.f7, go_sem]
end Go.Proofs.Ytfglbgnjgapehaa.LLy

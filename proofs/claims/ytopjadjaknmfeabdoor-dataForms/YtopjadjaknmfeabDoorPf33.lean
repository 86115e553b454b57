import Derived.Test.YtopjadjaknmfeabDoorPf18
import Derived.Test.YtopjadjaknmfeabDoorPf28
import Derived.Test.YtopjadjaknmfeabDoorPf31
import Derived.Test.YtopjadjaknmfeabDoorPf32
namespace Go.Proofs.YtopjadjaknmfeabDoor.PGd
open Go.RowKit Go.Proofs.YtopjadjaknmfeabDoor.Base Go.Proofs.YtopjadjaknmfeabDoor.UBase Go.Proofs.YtopjadjaknmfeabDoor.Spec Go.Proofs.YtopjadjaknmfeabDoor.Sums Go.Proofs.YtopjadjaknmfeabDoor.Nums Go.Proofs.YtopjadjaknmfeabDoor.Dec Go.Proofs.YtopjadjaknmfeabDoor.RBt Go.Proofs.YtopjadjaknmfeabDoor.RBv Go.Proofs.YtopjadjaknmfeabDoor.SpecIn Go.Proofs.YtopjadjaknmfeabDoor.Shf Go.Proofs.YtopjadjaknmfeabDoor.WRow Go.Proofs.YtopjadjaknmfeabDoor.WChk Go.Proofs.YtopjadjaknmfeabDoor.Pure Go.Proofs.YtopjadjaknmfeabDoor.Names Go.Proofs.YtopjadjaknmfeabDoor.Fault Go.Proofs.YtopjadjaknmfeabDoor.Walk Go.Proofs.YtopjadjaknmfeabDoor.Measure Go.Proofs.YtopjadjaknmfeabDoor.UValid Go.Proofs.YtopjadjaknmfeabDoor.WPrt
set_option linter.unusedVariables false
theorem bad_join {s t : ByteArray} : ∀ (k i : Nat), s.size - i ≤ k → i ≤ s.size → bad s i = none → bad t 0 = none → bad (s ++ t) i = none := by
  have key : ∀ (k j : Nat), t.size - j ≤ k → bad t j = none → bad (s ++ t) (s.size + j) = none := by
    intro k
    induction k with
    | zero => intro j hj _; exact bad_end (by simp; omega)
    | succ k ih =>
      intro j hj hb
      by_cases hlt : j < t.size
      · have hl : len t j ≠ 0 := fun e => by rw [bad_here hlt e] at hb; cases hb
        have hin := len_in hlt
        have hag := (len_agree (s := s ++ t) (t := t) (i := s.size + j) (k := j) hl (fun m hm => by rw [Nat.add_assoc]; exact at_append_right s t (j + m))).1
        rw [bad_step hlt hl] at hb
        rw [bad_step (by simp; omega) (by rw [hag]; exact hl), hag, Nat.add_assoc]
        exact ih _ (by omega) hb
      · exact bad_end (by simp; omega)
  intro k
  induction k with
  | zero =>
    intro i hi hle hs ht
    have : i = s.size := by omega
    subst this
    exact key _ 0 (Nat.le_refl _) ht
  | succ k ih =>
    intro i hi hle hs ht
    by_cases hlt : i < s.size
    · have hl : len s i ≠ 0 := fun e => by rw [bad_here hlt e] at hs; cases hs
      have hin := len_in hlt
      have hag := (len_agree (s := s ++ t) (t := s) (i := i) (k := i) hl (fun m hm => at_append_left s t _ (by omega))).1
      rw [bad_step hlt hl] at hs
      rw [bad_step (by simp; omega) (by rw [hag]; exact hl), hag]
      exact ih _ (by omega) (by omega) hs ht
    · have : i = s.size := by omega
      subst this
      exact key _ 0 (Nat.le_refl _) ht
theorem bad_one (L : List UInt8) (h : len ⟨L.toArray⟩ 0 = L.length) (hne : L ≠ []) : bad ⟨L.toArray⟩ 0 = none := by
  have hs : (⟨L.toArray⟩ : ByteArray).size = L.length := by show L.toArray.size = _; simp
  have hp := List.length_pos_iff.2 hne
  rw [bad_step (by omega) (by omega), h]
  exact bad_end (by omega)
theorem at_list (L : List UInt8) (j : Nat) : at' ⟨L.toArray⟩ j = (L.getD j 0).toNat := by
  unfold at'
  simp only [ByteArray.get!]
  by_cases h : j < L.length
  · simp [h]
  · have h' : ¬ j < L.toArray.size := by simpa using h
    rw [getElem!_neg (c := L.toArray) (i := j) h']
    simp [List.getD, List.getElem?_eq_none (Nat.le_of_not_lt h)]
    rfl
theorem toU8 {z : Int} (h : 0 ≤ z ∧ z < 256) : (z.toNat.toUInt8).toNat = z.toNat := by
  rw [UInt8.toNat_ofNat']
  omega
theorem bad_enc (r : Int) : bad ⟨(Lib.encodeRune r).toArray⟩ 0 = none := by
  have key : ∀ zs : List Int, Lib.encodeRuneZ r = zs → zs ≠ [] → len4 ((zs.getD 0 0).toNat) ((zs.getD 1 0).toNat) ((zs.getD 2 0).toNat) ((zs.getD 3 0).toNat) = zs.length → bad ⟨(Lib.encodeRune r).toArray⟩ 0 = none := by
    intro zs e hne hl
    have hb := Lib.encodeRuneZ_byte r
    rw [e] at hb
    unfold Lib.encodeRune
    rw [e]
    refine bad_one _ ?_ (by simpa using hne)
    have hg : ∀ j, ((zs.map fun x : Int => x.toNat.toUInt8).getD j 0).toNat = (zs.getD j 0).toNat := by
      intro j
      simp only [List.getD_eq_getElem?_getD, List.getElem?_map]
      by_cases hj : j < zs.length
      · rw [List.getElem?_eq_getElem hj]
        simp only [Option.map_some, Option.getD_some]
        exact toU8 (hb _ (List.getElem_mem hj))
      · rw [List.getElem?_eq_none (by omega)]
        rfl
    rw [len_eq]
    simp only [at_list, hg, Nat.zero_add]
    rw [hl, List.length_map]
  by_cases h1 : 0 ≤ r ∧ r ≤ 127
  · refine key _ (Lib.encodeRuneZ_one h1.1 h1.2) (by simp) ?_
    simp only [List.getD_cons_zero, List.length_singleton]
    rw [len4, if_pos (by omega)]
  by_cases h2 : 128 ≤ r ∧ r ≤ 2047
  · refine key _ (Lib.encodeRuneZ_two h2.1 h2.2) (by simp) ?_
    simp only [List.getD_cons_zero, List.getD_cons_succ, List.length_cons, List.length_nil]
    rw [len4, if_neg (by omega), if_pos (by omega)]
  by_cases h3 : (2048 ≤ r ∧ r < 55296) ∨ (57343 < r ∧ r ≤ 65535)
  · refine key _ (Lib.encodeRuneZ_three h3) (by simp) ?_
    simp only [List.getD_cons_zero, List.getD_cons_succ, List.length_cons, List.length_nil]
    rw [len4, if_neg (by omega), if_neg (by omega), if_pos (by omega), if_neg (by omega)]
  by_cases h4 : 65536 ≤ r ∧ r ≤ 1114111
  · refine key _ (Lib.encodeRuneZ_four h4.1 h4.2) (by simp) ?_
    simp only [List.getD_cons_zero, List.getD_cons_succ, List.length_cons, List.length_nil]
    rw [len4, if_neg (by omega), if_neg (by omega), if_neg (by omega), if_pos (by omega), if_neg (by omega)]
  · refine key _ (Lib.encodeRuneZ_bad (by omega)) (by simp) ?_
    decide
theorem app_list (A M : List UInt8) : (⟨(A ++ M).toArray⟩ : ByteArray) = ⟨A.toArray⟩ ++ ⟨M.toArray⟩ := by
  apply ByteArray.ext
  rw [ByteArray.data_append]
  simp
theorem txl_valid {s : ByteArray} : ∀ (f i j : Nat) (A L : List UInt8), bad ⟨A.toArray⟩ 0 = none → txl s f i A = .ok (L, j) → bad ⟨L.toArray⟩ 0 = none
  | 0, i, j, A, L, _, hn => by rw [txl] at hn; cases hn
  | f + 1, i, j, A, L, hA, hn => by
    rw [txl] at hn
    split at hn
    · cases hn; exact hA
    · cases hc : chr s i with
      | error x => rw [hc] at hn; cases hn
      | ok y =>
        obtain ⟨x, m⟩ := y
        rw [hc] at hn
        dsimp only at hn
        refine txl_valid f m j _ L ?_ hn
        rw [app_list]
        exact bad_join _ 0 (Nat.le_refl _) (Nat.zero_le _) hA (bad_enc _)
theorem tg_of {t : ByteArray} (h1 : bad t 0 = none) (h2 : t.size ≤ 4096) : tg t = true := by
  unfold tg verr
  rw [if_pos h1]
  simp [h2]
theorem txt_good {s : ByteArray} {i j : Nat} {t : ByteArray} (h : txt s i = .ok (t, j)) : tg t = true := by
  have h4 := (txt_in h).2.2.1
  refine tg_of ?_ h4
  unfold txt at h
  split at h
  · cases ht : txl s (s.size + 1) (i + 1) [] with
    | error x => rw [ht] at h; cases h
    | ok y =>
      obtain ⟨L, m⟩ := y
      rw [ht] at h
      dsimp only at h
      split at h
      · cases h
      · cases h
        exact txl_valid _ _ _ [] L (bad_end (by decide)) ht
  · cases h
theorem tg_none : tg ⟨#[]⟩ = true := tg_of (bad_end (by decide)) (by decide)
theorem plL_mem {d : Nat} {x : Nat × C} : ∀ {l : List C}, x ∈ plL d l → ∃ c ∈ l, x ∈ pl d c
  | [], h => by rw [plL_nil] at h; cases h
  | c :: cs, h => by
    rw [plL_cons, List.mem_append] at h
    rcases h with h | h
    · exact ⟨c, List.mem_cons_self, h⟩
    · obtain ⟨c', h1, h2⟩ := plL_mem h
      exact ⟨c', List.mem_cons_of_mem _ h1, h2⟩
theorem G.mk {d : Nat} {k : Int} {b : Bool} {i : Int} {s : ByteArray} {n : List ByteArray} {l : List C} (hk : 1 ≤ k ∧ k ≤ 6) (hf : fm (.mk k b i s n l) = true) (hd : d ≤ 24) (hi : -9223372036854775808 ≤ i ∧ i ≤ 9223372036854775807) (hl : ∀ c ∈ l, G (d + 1) c) : G d (.mk k b i s n l) := by
  intro x hx
  rw [pl] at hx
  rcases List.mem_cons.1 hx with rfl | hx
  · exact ⟨⟨⟨hk, hf⟩, hd⟩, hi⟩
  · obtain ⟨c, h1, h2⟩ := plL_mem hx
    exact hl c h1 x h2
def VG (v : V) (s : ByteArray) (d : Nat) : Prop := ∀ i b c j b', v i b = .ok (c, j, b') → G d c ∧ b' = b + (pl d c).length
theorem lst_good {v : V} {s : ByteArray} {d : Nat} (hv : VG v s d) : ∀ (f i b j b' : Nat) (A l : List C), lst v s f i b A = .ok (l, j, b') → ∃ l', l = A ++ l' ∧ (∀ c ∈ l', G d c) ∧ b' = b + (plL d l').length
  | 0, i, b, j, b', A, l, hn => by rw [lst] at hn; cases hn
  | f + 1, i, b, j, b', A, l, hn => by
    rw [lst] at hn
    cases hc : v i b with
    | error x => rw [hc] at hn; cases hn
    | ok y =>
      obtain ⟨c, m, b2⟩ := y
      rw [hc] at hn
      dsimp only at hn
      obtain ⟨g1, g2⟩ := hv _ _ _ _ _ hc
      split at hn
      · cases hn
        refine ⟨[c], rfl, fun x hx => ?_, ?_⟩
        · rw [List.mem_singleton] at hx
          rw [hx]
          exact g1
        · rw [plL_cons, plL_nil, List.append_nil]
          exact g2
      · split at hn
        · obtain ⟨l', e1, e2, e3⟩ := lst_good hv f _ _ _ _ _ _ hn
          refine ⟨c :: l', by rw [e1, List.append_assoc]; rfl, fun x hx => ?_, ?_⟩
          · rcases List.mem_cons.1 hx with rfl | hx
            · exact g1
            · exact e2 x hx
          · rw [plL_cons, List.length_append]
            omega
        · cases hn
theorem rcd_good {v : V} {s : ByteArray} {d : Nat} (hv : VG v s d) : ∀ (f i b j b' : Nat) (N N' : List ByteArray) (A l : List C), rcd v s f i b N A = .ok (N', l, j, b') → N.Nodup → ∃ n' l', N' = N ++ n' ∧ l = A ++ l' ∧ n'.length = l'.length ∧ (∀ t ∈ n', tg t = true) ∧ N'.Nodup ∧ (∀ c ∈ l', G d c) ∧ b' = b + (plL d l').length
  | 0, i, b, j, b', N, N', A, l, hn, _ => by rw [rcd] at hn; cases hn
  | f + 1, i, b, j, b', N, N', A, l, hn, hnd => by
    rw [rcd] at hn
    cases ht : txt s i with
    | error x => rw [ht] at hn; cases hn
    | ok y =>
      obtain ⟨t, m⟩ := y
      rw [ht] at hn
      dsimp only at hn
      have htg := txt_good ht
      split at hn
      · cases hn
      · next hh =>
        have hnd2 : (N ++ [t]).Nodup := by
          rw [List.nodup_append]
          refine ⟨hnd, by simp, fun a ha b hb => ?_⟩
          rw [List.mem_singleton] at hb
          rintro rfl
          subst hb
          exact hh (has_iff.2 ha)
        split at hn
        · cases hc : v (blk s m + 1) b with
          | error x => rw [hc] at hn; cases hn
          | ok y =>
            obtain ⟨c, m2, b2⟩ := y
            rw [hc] at hn
            dsimp only at hn
            obtain ⟨g1, g2⟩ := hv _ _ _ _ _ hc
            split at hn
            · cases hn
              refine ⟨[t], [c], rfl, rfl, rfl, fun x hx => ?_, hnd2, fun x hx => ?_, ?_⟩
              · rw [List.mem_singleton] at hx
                rw [hx]
                exact htg
              · rw [List.mem_singleton] at hx
                rw [hx]
                exact g1
              · rw [plL_cons, plL_nil, List.append_nil]
                exact g2
            · split at hn
              · obtain ⟨n', l', e1, e2, e3, e4, e5, e6, e7⟩ := rcd_good hv f _ _ _ _ _ _ _ _ hn hnd2
                refine ⟨t :: n', c :: l', by rw [e1, List.append_assoc]; rfl, by rw [e2, List.append_assoc]; rfl, by simp [e3], fun x hx => ?_, e5, fun x hx => ?_, ?_⟩
                · rcases List.mem_cons.1 hx with rfl | hx
                  · exact htg
                  · exact e4 x hx
                · rcases List.mem_cons.1 hx with rfl | hx
                  · exact g1
                  · exact e6 x hx
                · rw [plL_cons, List.length_append]
                  omega
              · cases hn
        · cases hn
theorem one_good {v : V} {s : ByteArray} {d : Nat} (hd : d ≤ 24) (hv : VG v s (d + 1)) {i b j b' : Nat} {c : C} (hn : one v s i b = .ok (c, j, b')) : G d c ∧ b' + 1 = b + (pl d c).length := by
  unfold one at hn
  split at hn
  · cases hw : wd s [110, 117, 108, 108] i with
    | error x => rw [hw] at hn; cases hn
    | ok m =>
      rw [hw] at hn
      cases hn
      exact ⟨G.mk (by omega) (by simp [fm, C.k, C.b, C.i, C.s, C.n, C.l, pu, tg_none]) hd (by omega) (fun c hc => by cases hc), by rw [pl, plL_nil]; rfl⟩
  split at hn
  · cases hw : wd s [116, 114, 117, 101] i with
    | error x => rw [hw] at hn; cases hn
    | ok m =>
      rw [hw] at hn
      cases hn
      exact ⟨G.mk (by omega) (by simp [fm, C.k, C.b, C.i, C.s, C.n, C.l, pu, tg_none]) hd (by omega) (fun c hc => by cases hc), by rw [pl, plL_nil]; rfl⟩
  split at hn
  · cases hw : wd s [102, 97, 108, 115, 101] i with
    | error x => rw [hw] at hn; cases hn
    | ok m =>
      rw [hw] at hn
      cases hn
      exact ⟨G.mk (by omega) (by simp [fm, C.k, C.b, C.i, C.s, C.n, C.l, pu, tg_none]) hd (by omega) (fun c hc => by cases hc), by rw [pl, plL_nil]; rfl⟩
  split at hn
  · cases ht : txt s i with
    | error x => rw [ht] at hn; cases hn
    | ok y =>
      obtain ⟨t, m⟩ := y
      rw [ht] at hn
      cases hn
      exact ⟨G.mk (by omega) (by simp [fm, C.k, C.b, C.i, C.s, C.n, C.l, pu, txt_good ht]) hd (by omega) (fun c hc => by cases hc), by rw [pl, plL_nil]; rfl⟩
  split at hn
  · unfold lis at hn
    split at hn
    · cases hn
      exact ⟨G.mk (by omega) (by simp [fm, C.k, C.b, C.i, C.s, C.n, C.l, pu, tg_none]) hd (by omega) (fun c hc => by cases hc), by rw [pl, plL_nil]; rfl⟩
    · cases hl : lst v s (s.size + 1) (blk s (i + 1)) b [] with
      | error x => rw [hl] at hn; cases hn
      | ok y =>
        obtain ⟨l, m, b2⟩ := y
        rw [hl] at hn
        obtain ⟨l', e1, e2, e3⟩ := lst_good hv _ _ _ _ _ _ _ hl
        rw [List.nil_append] at e1
        subst e1
        cases hn
        exact ⟨G.mk (by omega) (by simp [fm, C.k, C.b, C.i, C.s, C.n, C.l, pu, tg_none]) hd (by omega) e2, by rw [pl, List.length_cons]; omega⟩
  split at hn
  · unfold Spec.rec at hn
    split at hn
    · cases hn
      exact ⟨G.mk (by omega) (by simp [fm, C.k, C.b, C.i, C.s, C.n, C.l, pu, tg_none, nmb, nd]) hd (by omega) (fun c hc => by cases hc), by rw [pl, plL_nil]; rfl⟩
    · cases hl : rcd v s (s.size + 1) (blk s (i + 1)) b [] [] with
      | error x => rw [hl] at hn; cases hn
      | ok y =>
        obtain ⟨n, l, m, b2⟩ := y
        rw [hl] at hn
        obtain ⟨n', l', e1, e2, e3, e4, e5, e6, e7⟩ := rcd_good hv _ _ _ _ _ _ _ _ _ hl List.nodup_nil
        rw [List.nil_append] at e1 e2
        subst e1 e2
        cases hn
        have hnm : nmb n l.length = true := by
          unfold nmb
          rw [Bool.and_eq_true, Bool.and_eq_true]
          exact ⟨⟨decide_eq_true e3, List.all_eq_true.2 e4⟩, nd_iff.2 e5⟩
        exact ⟨G.mk (by omega) (by simp [fm, C.k, C.b, C.i, C.s, C.n, C.l, pu, tg_none, hnm]) hd (by omega) e6, by rw [pl, List.length_cons]; omega⟩
  · cases hm : nm s i with
    | error x => rw [hm] at hn; cases hn
    | ok y =>
      obtain ⟨x, m⟩ := y
      rw [hm] at hn
      obtain ⟨-, -, r1, r2⟩ := nm_in hm
      cases hn
      exact ⟨G.mk (by omega) (by simp [fm, C.k, C.b, C.i, C.s, C.n, C.l, pu, tg_none]) hd ⟨r1, r2⟩ (fun c hc => by cases hc), by rw [pl, plL_nil]; rfl⟩
theorem vl_good (s : ByteArray) : ∀ n d, n + d = 25 → VG (vl s n) s d := by
  intro n
  induction n with
  | zero =>
    intro d hd i b c j b' hr
    rw [vl] at hr
    split at hr <;> cases hr
  | succ n ih =>
    intro d hd i b c j b' hr
    rw [vl] at hr
    split at hr
    · split at hr
      · cases hr
      · obtain ⟨h1, h2⟩ := one_good (by omega) (ih (d + 1) (by omega)) hr
        exact ⟨h1, by omega⟩
    · cases hr
theorem ms_zero : ∀ (L : List (Nat × C)) (D k : Nat), (∀ x ∈ L, ((1 ≤ x.2.k ∧ x.2.k ≤ 6) ∧ fm x.2 = true) ∧ x.1 ≤ 24) → k + L.length ≤ 16384 → (ms D k L).2.2 = 0
  | [], D, k, _, _ => by rw [ms]
  | (d, c) :: r, D, k, h, hl => by
    have h0 := h (d, c) List.mem_cons_self
    dsimp only at h0
    rw [List.length_cons] at hl
    have hft : ft c (d : Nat) (k + 1 : Nat) = 0 := by
      unfold ft
      rw [if_neg (by omega), if_neg (by omega), if_neg (by omega), if_pos h0.1.2]
    rw [ms, if_pos hft]
    exact ms_zero r _ _ (fun x hx => h x (List.mem_cons_of_mem _ hx)) (by omega)
/-- A value that was read checks, part for part. -/
theorem prs_good {s : ByteArray} {c : C} (h : prs s = .ok c) : G 1 c ∧ (pl 1 c).length ≤ 16384 ∧ WPrt.pe c = 0 := by
  obtain ⟨-, j, b', hv, -, hb, -⟩ := prs_parts h
  obtain ⟨g1, g2⟩ := vl_good s 24 1 rfl _ _ _ _ _ hv
  have hl : (pl 1 c).length ≤ 16384 := by omega
  exact ⟨g1, hl, ms_zero _ _ _ (fun x hx => (g1 x hx).1) (by omega)⟩
end Go.Proofs.YtopjadjaknmfeabDoor.PGd
namespace Go.Proofs.YtopjadjaknmfeabDoor.ErrIn
open Go.RowKit Go.Proofs.YtopjadjaknmfeabDoor.Base Go.Proofs.YtopjadjaknmfeabDoor.UBase Go.Proofs.YtopjadjaknmfeabDoor.Spec Go.Proofs.YtopjadjaknmfeabDoor.Sums Go.Proofs.YtopjadjaknmfeabDoor.Nums Go.Proofs.YtopjadjaknmfeabDoor.Dec Go.Proofs.YtopjadjaknmfeabDoor.RBt Go.Proofs.YtopjadjaknmfeabDoor.SpecIn Go.Proofs.YtopjadjaknmfeabDoor.Shf
set_option linter.unusedVariables false
variable {s : ByteArray}
theorem hcn_in : ∀ (n i : Nat), i ≤ s.size → i + hcn s n i ≤ s.size
  | 0, i, h => by rw [hcn]; omega
  | n + 1, i, h => by
    rw [hcn]
    split
    · next e =>
      have := at_in (hxd_ne e)
      have := hcn_in n (i + 1) (by omega)
      omega
    · omega
theorem unt_in {i : Nat} (hi : i + 2 ≤ s.size) : (∀ x j, unt s i = .ok (x, j) → j ≤ s.size) ∧ ∀ e p, unt s i = .error (e, p) → p ≤ s.size ∧ 600 ≤ e := by
  have h1 := hcn_in (s := s) 4 (i + 2) hi
  have h0 := hcn_le s 4 (i + 2)
  unfold unt
  split
  · exact ⟨fun x j h => (by cases h), fun e p h => by cases h; exact ⟨h1, by omega⟩⟩
  · split
    · exact ⟨fun x j h => (by cases h; omega), fun e p h => by cases h⟩
    · split
      · next h4 =>
        obtain ⟨-, hl⟩ := h4
        unfold low at hl
        simp only [Bool.and_eq_true, decide_eq_true_eq] at hl
        have l1 := at_in (s := s) (i := i + 6 + 1) (by omega)
        have l2 := hcn_in (s := s) 4 (i + 6 + 2) (by omega)
        refine ⟨fun x j h => ?_, fun e p h => by cases h⟩
        have h' := (Prod.mk.inj (Except.ok.inj h)).2
        omega
      · exact ⟨fun x j h => (by cases h), fun e p h => by cases h; exact ⟨by omega, by omega⟩⟩
theorem chr_in {i : Nat} (hi : i ≤ s.size) : (∀ x j, chr s i = .ok (x, j) → j ≤ s.size) ∧ ∀ e p, chr s i = .error (e, p) → p ≤ s.size ∧ 600 ≤ e := by
  unfold chr
  split
  · next h92 =>
    have hlt := at_in (s := s) (i := i) (by omega)
    unfold esc
    split
    · next h117 => exact unt_in (by have := at_in (s := s) (i := i + 1) (by omega); omega)
    · cases hl : ltr (UBase.at' s (i + 1)) with
      | none => exact ⟨fun x j h => (by cases h), fun e p h => by cases h; exact ⟨by omega, by omega⟩⟩
      | some y =>
        have hne : UBase.at' s (i + 1) ≠ 0 := fun e0 => by rw [e0] at hl; simp [ltr] at hl
        have := at_in hne
        exact ⟨fun x j h => (by cases h; omega), fun e p h => by cases h⟩
  · split
    · exact ⟨fun x j h => (by cases h), fun e p h => by cases h; exact ⟨hi, by omega⟩⟩
    · next h32 =>
      have hlt : i < s.size := at_in (by omega)
      have := len_in hlt
      exact ⟨fun x j h => (by cases h; omega), fun e p h => by cases h⟩
theorem txl_err : ∀ (f i : Nat) (A : List UInt8) (e p : Nat), i ≤ s.size → txl s f i A = .error (e, p) → p ≤ s.size ∧ 600 ≤ e
  | 0, i, A, e, p, hi, h => by rw [txl] at h; cases h; exact ⟨hi, by omega⟩
  | f + 1, i, A, e, p, hi, h => by
    rw [txl] at h
    split at h
    · cases h
    · cases hc : chr s i with
      | error x => rw [hc] at h; cases h; exact (chr_in hi).2 _ _ hc
      | ok y =>
        obtain ⟨x, m⟩ := y
        rw [hc] at h
        exact txl_err f m _ e p ((chr_in hi).1 _ _ hc) h
theorem txt_err {i e p : Nat} (hi : i ≤ s.size) (h : txt s i = .error (e, p)) : p ≤ s.size ∧ 600 ≤ e := by
  unfold txt at h
  split at h
  · next h34 =>
    have hlt := at_in (s := s) (i := i) (by omega)
    cases ht : txl s (s.size + 1) (i + 1) [] with
    | error x => rw [ht] at h; cases h; exact txl_err _ _ _ _ _ (by omega) ht
    | ok y =>
      obtain ⟨L, m⟩ := y
      rw [ht] at h
      dsimp only at h
      split at h
      · cases h; exact ⟨hi, by omega⟩
      · cases h
  · cases h; exact ⟨hi, by omega⟩
theorem wd_err : ∀ (cs : List Nat) (i e p : Nat), (∀ c ∈ cs, c ≠ 0) → i ≤ s.size → wd s cs i = .error (e, p) → p ≤ s.size ∧ 600 ≤ e
  | [], i, e, p, _, hi, h => by rw [wd] at h; cases h
  | c :: cs, i, e, p, hc, hi, h => by
    rw [wd] at h
    split at h
    · next e0 =>
      have := at_in (s := s) (i := i) (by have := hc c List.mem_cons_self; omega)
      exact wd_err cs (i + 1) e p (fun x hx => hc x (List.mem_cons_of_mem _ hx)) (by omega) h
    · cases h; exact ⟨hi, by omega⟩
theorem nm_err {i e p : Nat} (hi : i ≤ s.size) (h : nm s i = .error (e, p)) : p ≤ s.size ∧ 600 ≤ e := by
  have hs : sgn s i ≤ s.size := by
    unfold sgn
    split
    · have := at_in (s := s) (i := i) (by omega); omega
    · exact hi
  unfold nm at h
  split at h
  · cases h; exact ⟨hs, by omega⟩
  · next hd =>
    have hlt : sgn s i < s.size := at_in (dig_ne (by simpa using hd))
    have hge : i ≤ sgn s i := by unfold sgn; split <;> omega
    split at h
    · split at h
      · cases h; exact ⟨hs, by omega⟩
      · split at h
        · cases h; exact ⟨by omega, by omega⟩
        · cases h
    · unfold rd at h
      split at h
      · cases h
      · cases h; exact ⟨hi, by omega⟩
def VE (v : V) (s : ByteArray) : Prop := ∀ i b e p, i ≤ s.size → v i b = .error (e, p) → p ≤ s.size ∧ 600 ≤ e
theorem lst_err {v : V} (hi : VIn v s) (hv : VE v s) : ∀ (f i b : Nat) (A : List C) (e p : Nat), i ≤ s.size → lst v s f i b A = .error (e, p) → p ≤ s.size ∧ 600 ≤ e
  | 0, i, b, A, e, p, hle, h => by rw [lst] at h; cases h; exact ⟨hle, by omega⟩
  | f + 1, i, b, A, e, p, hle, h => by
    rw [lst] at h
    cases hc : v i b with
    | error x => rw [hc] at h; cases h; exact hv _ _ _ _ hle hc
    | ok y =>
      obtain ⟨c, m, b2⟩ := y
      rw [hc] at h
      dsimp only at h
      have hm := (hi _ _ _ _ _ hle hc).2.1
      have hb := blk_in hm
      split at h
      · cases h
      · split at h
        · next e44 =>
          have := at_in (s := s) (i := blk s m) (by omega)
          exact lst_err hi hv f _ _ _ _ _ (blk_in (by omega)) h
        · cases h; exact ⟨hb, by omega⟩
theorem rcd_err {v : V} (hi : VIn v s) (hv : VE v s) : ∀ (f i b : Nat) (N : List ByteArray) (A : List C) (e p : Nat), i ≤ s.size → rcd v s f i b N A = .error (e, p) → p ≤ s.size ∧ 600 ≤ e
  | 0, i, b, N, A, e, p, hle, h => by rw [rcd] at h; cases h; exact ⟨hle, by omega⟩
  | f + 1, i, b, N, A, e, p, hle, h => by
    rw [rcd] at h
    cases ht : txt s i with
    | error x => rw [ht] at h; cases h; exact txt_err hle ht
    | ok y =>
      obtain ⟨t, m⟩ := y
      rw [ht] at h
      dsimp only at h
      have hm := (txt_in ht).2.1
      have hb := blk_in hm
      split at h
      · cases h; exact ⟨hle, by omega⟩
      · split at h
        · next e58 =>
          have hlt := at_in (s := s) (i := blk s m) (by omega)
          cases hc : v (blk s m + 1) b with
          | error x => rw [hc] at h; cases h; exact hv _ _ _ _ (by omega) hc
          | ok y =>
            obtain ⟨c, m2, b2⟩ := y
            rw [hc] at h
            dsimp only at h
            have hm2 := (hi _ _ _ _ _ (by omega) hc).2.1
            have hb2 := blk_in hm2
            split at h
            · cases h
            · split at h
              · next e44 =>
                have := at_in (s := s) (i := blk s m2) (by omega)
                exact rcd_err hi hv f _ _ _ _ _ _ (blk_in (by omega)) h
              · cases h; exact ⟨hb2, by omega⟩
        · cases h; exact ⟨hb, by omega⟩
theorem vl_err (s : ByteArray) : ∀ n, VE (vl s n) s := by
  intro n
  induction n with
  | zero =>
    intro i b e p hi h
    have hb := blk_in hi
    rw [vl] at h
    split at h <;> (cases h; exact ⟨hb, by omega⟩)
  | succ n ih =>
    intro i b e p hi h
    have hb := blk_in hi
    rw [vl] at h
    split at h
    · next hbeg =>
      have hlt := at_in (beg_ne hbeg)
      split at h
      · cases h; exact ⟨hb, by omega⟩
      · unfold one at h
        split at h
        · cases hw : wd s [110, 117, 108, 108] (blk s i) with
          | error x => rw [hw] at h; cases h; exact wd_err _ _ _ _ (by simp) hb hw
          | ok m => rw [hw] at h; cases h
        split at h
        · cases hw : wd s [116, 114, 117, 101] (blk s i) with
          | error x => rw [hw] at h; cases h; exact wd_err _ _ _ _ (by simp) hb hw
          | ok m => rw [hw] at h; cases h
        split at h
        · cases hw : wd s [102, 97, 108, 115, 101] (blk s i) with
          | error x => rw [hw] at h; cases h; exact wd_err _ _ _ _ (by simp) hb hw
          | ok m => rw [hw] at h; cases h
        split at h
        · cases ht : txt s (blk s i) with
          | error x => rw [ht] at h; cases h; exact txt_err hb ht
          | ok y => rw [ht] at h; cases h
        split at h
        · unfold lis at h
          split at h
          · cases h
          · cases hl : lst (vl s n) s (s.size + 1) (blk s (blk s i + 1)) (b + 1) [] with
            | error x => rw [hl] at h; cases h; exact lst_err (vl_in s n) ih _ _ _ _ _ _ (blk_in (by omega)) hl
            | ok y => rw [hl] at h; cases h
        split at h
        · unfold Spec.rec at h
          split at h
          · cases h
          · cases hl : rcd (vl s n) s (s.size + 1) (blk s (blk s i + 1)) (b + 1) [] [] with
            | error x => rw [hl] at h; cases h; exact rcd_err (vl_in s n) ih _ _ _ _ _ _ _ (blk_in (by omega)) hl
            | ok y => rw [hl] at h; cases h
        · cases hm : nm s (blk s i) with
          | error x => rw [hm] at h; cases h; exact nm_err hb hm
          | ok y => rw [hm] at h; cases h
    · cases h; exact ⟨hb, by omega⟩
theorem prs_err {s : ByteArray} {e p : Nat} (h : prs s = .error (e, p)) : p ≤ s.size ∧ 600 ≤ e := by
  unfold prs at h
  split at h
  · cases h; exact ⟨by omega, by omega⟩
  · cases hv : vl s 24 0 0 with
    | error x => rw [hv] at h; cases h; exact vl_err s 24 _ _ _ _ (Nat.zero_le _) hv
    | ok y =>
      obtain ⟨c, j, b'⟩ := y
      rw [hv] at h
      dsimp only at h
      split at h
      · cases h; exact ⟨by omega, by omega⟩
      · cases h
end Go.Proofs.YtopjadjaknmfeabDoor.ErrIn
namespace Go.Proofs.YtopjadjaknmfeabDoor.FPl
open Go.RowKit Go.Proofs.YtopjadjaknmfeabDoor.Base Go.Proofs.YtopjadjaknmfeabDoor.UBase Go.Proofs.YtopjadjaknmfeabDoor.Spec Go.Proofs.YtopjadjaknmfeabDoor.Byts Go.Proofs.YtopjadjaknmfeabDoor.Rdr Go.Proofs.YtopjadjaknmfeabDoor.WPk Go.Proofs.YtopjadjaknmfeabDoor.WRow Go.Proofs.YtopjadjaknmfeabDoor.WPrt Go.Proofs.YtopjadjaknmfeabDoor.Digits Go.Proofs.YtopjadjaknmfeabDoor.Shallow Go.Proofs.YtopjadjaknmfeabDoor.Aw Go.Proofs.YtopjadjaknmfeabDoor.Prs Go.Proofs.YtopjadjaknmfeabDoor.SameV Go.Proofs.YtopjadjaknmfeabDoor.Measure Go.Proofs.YtopjadjaknmfeabDoor.Walk Go.Proofs.YtopjadjaknmfeabDoor.FBy Go.Proofs.YtopjadjaknmfeabDoor.FSm
set_option linter.unusedVariables false
theorem sz_list (L : List UInt8) : (⟨L.toArray⟩ : ByteArray).size = L.length := by show L.toArray.size = _; simp
theorem ba_list (s : ByteArray) : (⟨s.data.toList.toArray⟩ : ByteArray) = s := by
  apply ByteArray.ext
  simp
theorem at_mid (A M : List UInt8) (s : ByteArray) : ∀ j, j < s.size → at' ⟨(A ++ s.data.toList ++ M).toArray⟩ (A.length + j) = at' s j := by
  intro j hj
  have e : (⟨(A ++ s.data.toList ++ M).toArray⟩ : ByteArray) = ⟨A.toArray⟩ ++ (s ++ ⟨M.toArray⟩) := by
    rw [List.append_assoc, PGd.app_list, PGd.app_list, ba_list]
  rw [e]
  have := at_append_right ⟨A.toArray⟩ (s ++ ⟨M.toArray⟩) j
  rw [sz_list] at this
  rw [this, at_append_left _ _ _ hj]
theorem at_end (A M : List UInt8) (s : ByteArray) (j : Nat) : at' ⟨(A ++ s.data.toList ++ M).toArray⟩ (A.length + s.size + j) = at' ⟨M.toArray⟩ j := by
  have e : (⟨(A ++ s.data.toList ++ M).toArray⟩ : ByteArray) = (⟨A.toArray⟩ ++ s) ++ ⟨M.toArray⟩ := by
    rw [PGd.app_list, PGd.app_list, ba_list]
  rw [e]
  have := at_append_right (⟨A.toArray⟩ ++ s) ⟨M.toArray⟩ j
  rw [ByteArray.size_append, sz_list] at this
  exact this
theorem at_head (A M : List UInt8) (s : ByteArray) (j : Nat) (hj : j < A.length) : at' ⟨(A ++ s.data.toList ++ M).toArray⟩ j = at' ⟨A.toArray⟩ j := by
  have e : (⟨(A ++ s.data.toList ++ M).toArray⟩ : ByteArray) = ⟨A.toArray⟩ ++ (s ++ ⟨M.toArray⟩) := by
    rw [List.append_assoc, PGd.app_list, PGd.app_list, ba_list]
  rw [e]
  exact at_append_left _ _ _ (by rw [sz_list]; exact hj)
theorem len_all (A M : List UInt8) (s : ByteArray) : (⟨(A ++ s.data.toList ++ M).toArray⟩ : ByteArray).size = A.length + s.size + M.length := by
  rw [sz_list]
  simp
  omega
theorem read_blanks {s : ByteArray} {c : C} (h : prs s = .ok c) (hs : s.size ≤ 65527) : prs ⟨([32, 10, 9, 13] ++ s.data.toList ++ [32, 9]).toArray⟩ = .ok c := by
  have hsz := len_all [32, 10, 9, 13] [32, 9] s
  refine Shf.prs_blanks (k := 4) h ⟨at_mid [32, 10, 9, 13] [32, 9] s, ?_, ?_⟩ ?_ (fun j hj => ?_) (fun j h1 h2 => ?_)
  · rw [hsz]; simp
  · have := at_end [32, 10, 9, 13] [32, 9] s 0
    rw [Nat.add_zero] at this
    rw [show 4 + s.size = ([32, 10, 9, 13] : List UInt8).length + s.size from rfl, this]
    decide
  · rw [hsz]; simp; omega
  · rw [at_head [32, 10, 9, 13] [32, 9] s j hj]
    match j, hj with
    | 0, _ | 1, _ | 2, _ | 3, _ => rfl
  · rw [hsz] at h2
    have h2 : j < 4 + s.size + 2 := h2
    obtain ⟨m, rfl⟩ : ∃ m, j = 4 + s.size + m := ⟨j - (4 + s.size), by omega⟩
    rw [show 4 + s.size + m = ([32, 10, 9, 13] : List UInt8).length + s.size + m from rfl, at_end [32, 10, 9, 13] [32, 9] s m]
    have hm : m < 2 := by omega
    match m, hm with
    | 0, _ | 1, _ => rfl
theorem read_behind {s : ByteArray} {c : C} (h : prs s = .ok c) (hs : s.size ≤ 65527) : prs ⟨(s.data.toList ++ [93]).toArray⟩ = .error (600, s.size) := by
  have hsz := len_all [] [93] s
  have hm := at_mid [] [93] s
  have he := at_end [] [93] s 0
  simp only [List.nil_append, List.length_nil, Nat.zero_add, Nat.add_zero] at hsz hm he
  have e93 : at' ⟨[(93 : UInt8)].toArray⟩ 0 = 93 := rfl
  rw [e93] at he
  have hl : [(93 : UInt8)].length = 1 := rfl
  refine Shf.prs_behind h ⟨fun j hj => by rw [Nat.zero_add]; exact hm j hj, by omega, by rw [Nat.zero_add, he]; decide⟩ (by omega) (by omega) (by rw [he]; decide)
end Go.Proofs.YtopjadjaknmfeabDoor.FPl
namespace Go.Proofs.YtopjadjaknmfeabDoor.WForms
open Go.RowKit Go.Proofs.YtopjadjaknmfeabDoor.Base Go.Proofs.YtopjadjaknmfeabDoor.UBase Go.Proofs.YtopjadjaknmfeabDoor.Spec Go.Proofs.YtopjadjaknmfeabDoor.Byts Go.Proofs.YtopjadjaknmfeabDoor.Rdr Go.Proofs.YtopjadjaknmfeabDoor.WPk Go.Proofs.YtopjadjaknmfeabDoor.WRow Go.Proofs.YtopjadjaknmfeabDoor.WPrt Go.Proofs.YtopjadjaknmfeabDoor.Digits Go.Proofs.YtopjadjaknmfeabDoor.Shallow Go.Proofs.YtopjadjaknmfeabDoor.Aw Go.Proofs.YtopjadjaknmfeabDoor.Prs Go.Proofs.YtopjadjaknmfeabDoor.SameV Go.Proofs.YtopjadjaknmfeabDoor.Measure Go.Proofs.YtopjadjaknmfeabDoor.Walk Go.Proofs.YtopjadjaknmfeabDoor.FBy Go.Proofs.YtopjadjaknmfeabDoor.FSm Go.Proofs.YtopjadjaknmfeabDoor.FPl
set_option linter.unusedVariables false
set_option maxRecDepth 20000 in
set_option maxHeartbeats 3200000 in
theorem walk_bad {v : Value} {s : ByteArray} {w : World} {e0 p0 : Nat} (h : Byt w w.heap.size v s) (hl : s.size ≤ 140737488351232) (ht : T6 w) (hr : prs s = .error (e0, p0)) : Calls Tryd.prog 4 #[v] w fun e w' => e = .returned (.bool true) ∧ Below w.heap.size w w' := by
  obtain ⟨hp0, he0⟩ := ErrIn.prs_err hr
  have hv := h
  obtain ⟨a, cap, rfl, -⟩ := h
  have HV : Hid (∀ w', Below w.heap.size w w' → Byt w' w'.heap.size (.slice a s.size cap) s) := fun w' hb => byt_below hv hb
  have HT : Hid (∀ w', Below w.heap.size w w' → T6 w') := fun w' hb => ht.later hb
  have caw := AwV.awake_c w ht
  have HS : Hid (s.size ≤ 140737488351232) := hl
  have hd1 : decide ((p0 : Int) ≤ (s.size : Int)) = true := decide_eq_true (by omega)
  have hd0 : ((e0 : Int) == 0) = false := by simp; omega
  clear hv ht hl
  generalize hN : s.size = N at *
  go_enter Tryd.func4, Tryd.ntmps4
  go_wp2_with fail
  refine caw.mono ?_
  rintro e w1 ⟨rfl, b1⟩
  have cc := copyB_c (s := s) (v := .slice a N cap) (w := w1) (HV.out w1 b1) (by rw [hN]; exact HS.out)
  clear caw
  go_wp2_with fail
  refine cc.mono ?_
  rintro e w2 ⟨u, rfl, ho, b2⟩
  have B2 := nx b1 b2
  have hbu := byt_own ho
  rw [ba_list] at hbu
  obtain ⟨ua, uc, eu⟩ := own_shape ho
  rw [show s.data.toList.length = N by simp [hN]] at eu
  subst eu
  have cp := parse_any hbu (HT.out w2 B2)
  rw [hr] at cp
  clear cc ho hbu
  go_wp2_with fail
  refine cp.mono ?_
  rintro e w3 ⟨b3, rfl⟩
  clear cp hr
  go_wp2_with (first | (go_at_call 10; refine (numF _ _).mono ?_; rintro e w' ⟨rfl, rfl⟩))
  go_ret
  exact ⟨rfl, (nx B2 b3).alloc (nx B2 b3).size _⟩
set_option maxRecDepth 20000 in
set_option maxHeartbeats 6400000 in
theorem walk_ok {v : Value} {s : ByteArray} {w : World} {c : C} (h : Byt w w.heap.size v s) (hl : s.size ≤ 140737488351232) (ht : T6 w) (hr : prs s = .ok c) : Calls Tryd.prog 4 #[v] w fun e w' => e = .returned (.bool true) ∧ Below w.heap.size w w' := by
  obtain ⟨hg, hn, hE⟩ := PGd.prs_good hr
  have hv := h
  obtain ⟨a, cap, rfl, hlc, hcm, hnil, hcell⟩ := h
  have hpos : 0 < s.size := by
    obtain ⟨-, j, b', hvl, hj, -⟩ := Shf.prs_parts hr
    have := (SpecIn.vl_in s 24 0 0 c j b' (Nat.zero_le _) hvl).1
    omega
  obtain ⟨g, o, rfl, hgl, hc⟩ : ∃ g o, a = some ⟨g, o, none⟩ ∧ g < w.heap.size ∧ ∀ j, j < s.size → w.cell? ⟨g, o + j, none⟩ = some (.int .u8 (at' s j : Nat)) := by
    rcases hcell with h0 | h1
    · omega
    · exact h1
  obtain ⟨k, hk⟩ : ∃ k, c.k = k := ⟨_, rfl⟩
  obtain ⟨bo, hbo⟩ : ∃ b, c.b = b := ⟨_, rfl⟩
  obtain ⟨i, hi⟩ : ∃ i, c.i = i := ⟨_, rfl⟩
  obtain ⟨t, ht'⟩ : ∃ s, c.s = s := ⟨_, rfl⟩
  have HV : Hid (∀ w', Below w.heap.size w w' → Byt w' w'.heap.size (.slice (some ⟨g, o, none⟩) s.size cap) s) := fun w' hb => byt_below hv hb
  have HT : Hid (∀ w', Below w.heap.size w w' → T6 w') := fun w' hb => ht.later hb
  have HC : Hid (∀ w', Below w.heap.size w w' → ∀ j, j < s.size → w'.cell? ⟨g, o + j, none⟩ = some (.int .u8 (at' s j : Nat))) := fun w' hb j hj => (World.cell?_of_block (w := w) (hb.block g hgl)).trans (hc j hj)
  have HS : Hid (s.size ≤ 140737488351232 ∧ 0 < s.size) := ⟨hl, hpos⟩
  have HR : Hid (prs s = .ok c) := hr
  have caw := AwV.awake_c w ht
  clear hv ht hl hcell hc hnil hlc hcm hgl hpos hg hn
  generalize hN : s.size = N at *
  go_enter Tryd.func4, Tryd.ntmps4
  go_wp2_with fail
  refine caw.mono ?_
  rintro e w1 ⟨rfl, b1⟩
  have cc := copyB_c (s := s) (v := .slice (some ⟨g, o, none⟩) N cap) (w := w1) (HV.out w1 b1) (by rw [hN]; exact HS.out.1)
  clear caw
  go_wp2_with fail
  refine cc.mono ?_
  rintro e w2 ⟨u, rfl, ho, b2⟩
  have B2 := nx b1 b2
  have hbu := byt_own ho
  rw [ba_list] at hbu
  obtain ⟨ua, uc, eu⟩ := own_shape ho
  rw [show s.data.toList.length = N by simp [hN]] at eu
  subst eu
  have cp := parse_any hbu (HT.out w2 B2)
  rw [hr] at cp
  clear cc ho hbu hr
  go_wp2_with fail
  refine cp.mono ?_
  rintro e w3 ⟨b3, x, rfl, hfs1⟩
  have hx1 := hfs1.in.weak (fun _ _ => trivial) (S' := All) false id 24 (Nat.le_refl _)
  clear cp hfs1
  have B3 := nx B2 b3
  · skip
    obtain ⟨y0, y1, y2, y3, y4, y5, rfl, -⟩ := hx1.six
    obtain ⟨a1, l1, q1, d1, m1, r1, rfl, rfl, rfl, rfl, rfl, rfl⟩ := hx1.kinds
    rw [hk, hbo, hi, ht'] at hx1
    rw [hk, hbo, hi, ht']
    obtain ⟨W4, hW4⟩ : ∃ W4, w3.alloc (.cells #[.int .i64 k, .bool bo, .int .i64 i, .string t, .slice a1 l1 q1, .slice d1 m1 r1] 25) = W4 := ⟨_, rfl⟩
    have bW4 : Below w3.heap.size w3 W4 := by rw [← hW4]; exact (Below.refl _ w3).alloc (Nat.le_refl _) _
    have sW4 : w3.heap.size < W4.heap.size := by rw [← hW4]; simp
    have xW4 : W4.heap[w3.heap.size]? = some (.cells #[.int .i64 k, .bool bo, .int .i64 i, .string t, .slice a1 l1 q1, .slice d1 m1 r1] 25 (0, 0)) := by rw [← hW4, heap_alloc_new]
    have HX1 : Hid (∀ w', Below W4.heap.size W4 w' → In false All w' 24 (.agg #[.int .i64 k, .bool bo, .int .i64 i, .string t, .slice a1 l1 q1, .slice d1 m1 r1]) c) := fun w' hb' => (hx1.below bW4).below hb'
    have HL1 : Hid (∀ w', Below W4.heap.size W4 w' → In false (Lo w'.heap.size) w' 24 (.agg #[.int .i64 k, .bool bo, .int .i64 i, .string t, .slice a1 l1 q1, .slice d1 m1 r1]) c) := fun w' hb' => (Fresh.In.low ((hx1.below bW4).below hb')).weak (fun g hg => hg) false id 24 (Nat.le_refl _)
    have HB1 : Hid (∀ w', Below W4.heap.size W4 w' → w'.heap[w3.heap.size]? = some (.cells #[.int .i64 k, .bool bo, .int .i64 i, .string t, .slice a1 l1 q1, .slice d1 m1 r1] 25 (0, 0))) := fun w' hb' => (hb'.block _ sW4).trans xW4

    have B4 := nx B3 bW4
    have hdep : dep c ≤ 4096 := Nat.le_trans (dep_in 24 _ _ hx1) (by omega)
    have cck := check_c (HX1.out W4 (Below.refl _ _)) hdep
    rw [show (ms 0 0 (pl 1 c)).2.2 = pe c from rfl, hE] at cck
    obtain ⟨k0, k1, k2, k3, k4, k5⟩ := six_box xW4
    clear hx1 xW4
    go_wp2_with (first | (go_at_call 10; refine (numF _ _).mono ?_; rintro e w' ⟨rfl, rfl⟩) | fail)
    refine cck.mono ?_
    rintro e w5 ⟨rfl, b5⟩
    clear cck k0 k1 k2 k3 k4 k5 hW4
    have B5 := nx B4 b5
    obtain ⟨k0, k1, k2, k3, k4, k5⟩ := six_box (HB1.out w5 b5)
    have cpr := print_c (HL1.out w5 b5) hdep (HT.out w5 B5).tab
    rw [hE] at cpr
    go_wp2_with fail
    refine cpr.mono ?_
    rintro e w6 ⟨vp, rfl, b6, hp⟩
    clear cpr k0 k1 k2 k3 k4 k5
    have hp : Byts.Own w6 w5.heap.size vp (pv c) := by
      rcases hp with ⟨-, hp⟩ | ⟨h, -⟩
      · exact hp.own
      · exact (h (by trivial)).elim
    have B6 := nx B5 b6
    obtain ⟨pa, pc, rfl⟩ := own_shape hp
    have HP : Hid (Byts.Own w6 w5.heap.size (.slice pa (pv c).length pc) (pv c)) := hp
    have HG : Hid (RBv.G 1 c ∧ (pl 1 c).length ≤ 16384) := by
      obtain ⟨h1, h2, -⟩ := PGd.prs_good HR.out
      exact ⟨h1, h2⟩
    clear hp
    by_cases hbig : (pv c).length ≤ 65536 ∧ N ≤ 65527
    · obtain ⟨hL, hNs⟩ := hbig
      have hbp := byt_own HP.out
      have cp2 := parse_any hbp (HT.out w6 B6)
      rw [RBv.prs_back HG.out.1 HG.out.2 hL] at cp2
      have hd1 : decide ((65536 : Int) < ((pv c).length : Int)) = false := decide_eq_false (by omega)
      have hd2 : decide ((65527 : Int) < (N : Int)) = false := decide_eq_false (by omega)
      have HLL : Hid ((pv c).length ≤ 65536 ∧ N ≤ 65527) := ⟨hL, hNs⟩
      clear hbp hL hNs
      generalize hPL : (pv c).length = PL at *
      go_wp2_with (first | (go_at_call 10; refine (numF _ _).mono ?_; rintro e w' ⟨rfl, rfl⟩) | fail)
      refine cp2.mono ?_
      rintro e w7 ⟨b7, x, rfl, hfs2⟩
      have hx2 := hfs2.in.weak (fun _ _ => trivial) (S' := All) false id 24 (Nat.le_refl _)
      clear cp2 hfs2
      have B7 := nx B6 b7
      obtain ⟨y0, y1, y2, y3, y4, y5, rfl, -⟩ := hx2.six
      obtain ⟨a2, l2, q2, d2, m2, r2, rfl, rfl, rfl, rfl, rfl, rfl⟩ := hx2.kinds
      rw [hk, hbo, hi, ht'] at hx2
      rw [hk, hbo, hi, ht']
      obtain ⟨W8, hW8⟩ : ∃ W8, w7.alloc (.cells #[.int .i64 k, .bool bo, .int .i64 i, .string t, .slice a2 l2 q2, .slice d2 m2 r2] 25) = W8 := ⟨_, rfl⟩
      have bW8 : Below w7.heap.size w7 W8 := by rw [← hW8]; exact (Below.refl _ w7).alloc (Nat.le_refl _) _
      have sW8 : w7.heap.size < W8.heap.size := by rw [← hW8]; simp
      have xW8 : W8.heap[w7.heap.size]? = some (.cells #[.int .i64 k, .bool bo, .int .i64 i, .string t, .slice a2 l2 q2, .slice d2 m2 r2] 25 (0, 0)) := by rw [← hW8, heap_alloc_new]
      have HX2 : Hid (∀ w', Below W8.heap.size W8 w' → In false All w' 24 (.agg #[.int .i64 k, .bool bo, .int .i64 i, .string t, .slice a2 l2 q2, .slice d2 m2 r2]) c) := fun w' hb' => (hx2.below bW8).below hb'
      have HL2 : Hid (∀ w', Below W8.heap.size W8 w' → In false (Lo w'.heap.size) w' 24 (.agg #[.int .i64 k, .bool bo, .int .i64 i, .string t, .slice a2 l2 q2, .slice d2 m2 r2]) c) := fun w' hb' => (Fresh.In.low ((hx2.below bW8).below hb')).weak (fun g hg => hg) false id 24 (Nat.le_refl _)
      have HB2 : Hid (∀ w', Below W8.heap.size W8 w' → w'.heap[w7.heap.size]? = some (.cells #[.int .i64 k, .bool bo, .int .i64 i, .string t, .slice a2 l2 q2, .slice d2 m2 r2] 25 (0, 0))) := fun w' hb' => (hb'.block _ sW8).trans xW8

      have B8 := nx B7 bW8
      obtain ⟨k0, k1, k2, k3, k4, k5⟩ := six_box xW8
      have cpr := print_c (HL2.out W8 (Below.refl _ _)) hdep (HT.out W8 B8).tab
      rw [hE] at cpr
      clear hx2 xW8
      go_wp2_with fail
      refine cpr.mono ?_
      rintro e w9 ⟨vq, rfl, b9, hq⟩
      clear cpr k0 k1 k2 k3 k4 k5 hW8
      have hq : Byts.Own w9 W8.heap.size vq (pv c) := by
        rcases hq with ⟨-, hq⟩ | ⟨h, -⟩
        · exact hq.own
        · exact (h (by trivial)).elim
      have B9 := nx B8 b9
      obtain ⟨qa, qc, rfl⟩ := own_shape hq
      rw [hPL] at hq
      rw [hPL]
      have HQ : Hid (Byts.Own w9 W8.heap.size (.slice qa PL qc) (pv c)) := hq
      clear hq
      obtain ⟨W10, hW10⟩ : ∃ W10, w9.alloc (.cells bl4 5 (4, 5)) = W10 := ⟨_, rfl⟩
      have cv := Lib.run_convert_bytes_const (P := Tryd.prog) w9 30 5 bl4 4 4 Tryd.underlying30 Tryd.underlying5
      rw [show w9.alloc (.cells bl4 5 (bl4.size, bl4.size + 1)) = W10 from hW10] at cv
      have b10 : Below w9.heap.size w9 W10 := by rw [← hW10]; exact (Below.refl _ w9).alloc (Nat.le_refl _) _
      have B10 := nx B9 b10
      have hx10 : W10.heap[w9.heap.size]? = some (.cells bl4 5 (4, 5)) := by rw [← hW10]; exact heap_alloc_new w9 _
      obtain ⟨v11, w11, hr11, ho11, b11⟩ := blank_run (w := w) (cap := cap) hx10 (fun j hj => HC.out W10 B10 j (by omega)) (by rw [hN]; exact HS.out.2) (by have := HLL.out.2; omega) 30
      rw [hN] at hr11
      have hl11 : ([32, 10, 9, 13] ++ s.data.toList : List UInt8).length = N + 4 := by simp; omega
      obtain ⟨ra, rc, rfl⟩ := own_shape ho11
      rw [hl11] at hr11
      have HO11 : Hid (Byts.Own w11 W10.heap.size (.slice ra (N + 4) rc) ([32, 10, 9, 13] ++ s.data.toList)) := by rw [← hl11]; exact ho11
      have hown11 : w11.ownsRow W10.heap.size 5 1 (.slice ra (N + 4) rc) (N + 4) (Lib.byteCells ([32, 10, 9, 13] ++ s.data.toList)) := by have := HO11.out; unfold Byts.Own at this; rw [hl11] at this; exact this
      have HLN : Hid (([32, 10, 9, 13] ++ s.data.toList : List UInt8).length = N + 4) := hl11
      obtain ⟨i0, hi0, hz0, hz1, hz2⟩ := info_parts Byts.info5
      have hN6 : N ≤ 65527 := HLL.out.2
      have hs11 := b11.size
      unfold bl4 at cv
      clear ho11 hl11 hW10 hx10
      go_wp2_with (first
        | (at_builtin; refine wpList_append_run rfl _ _ 30 30 rfl _ _ _ rfl rfl hr11 ?_)
        | (at_builtin; refine Lib.wpList_append_own_string _ rfl _ _ 30 9 rfl W10.heap.size 5 i0 Tryd.underlying30 Tryd.underlying9 hi0 hz0 hz1 hz2 _ _ _ rfl hown11 ⟨#[32, 9]⟩ rfl (by unfold maxLen; show N + 4 + 2 ≤ _; omega) (by show N + 4 + 2 ≤ _; omega) (by omega) ?_))
      intro v12 w12 hown12 hgrow12 _
      have hlt12 := World.ownsRow.lt hown11
      have b12 : Below W10.heap.size W10 w12 := (b11.grown hgrow12 (by omega) (fun k hk => (hlt12 k hk).1))
      have ho12 : Byts.Own w12 W10.heap.size v12 ([32, 10, 9, 13] ++ s.data.toList ++ [32, 9]) := by
        unfold Byts.Own
        rw [Lib.byteCells_append, List.length_append, HLN.out]
        exact hown12
      have hl12 : ([32, 10, 9, 13] ++ s.data.toList ++ [32, 9] : List UInt8).length = N + 6 := by rw [List.length_append, HLN.out]; rfl
      have hb12 := byt_own ho12
      obtain ⟨za, zc, ez⟩ := own_shape ho12
      rw [hl12] at ez
      subst ez
      have B12 := nx B10 b12
      have cp3 := parse_any hb12 (HT.out w12 B12)
      rw [read_blanks HR.out (by omega)] at cp3
      clear hown12 hgrow12 hlt12 ho12 hl12 hb12 hown11 hr11 HO11 HLN cv b11 hs11 hi0 hz0 hz1 hz2
      go_wp2_with fail
      refine cp3.mono ?_
      rintro e w13 ⟨b13, x, rfl, hfs3⟩
      have hx3 := hfs3.in.weak (fun _ _ => trivial) (S' := All) false id 24 (Nat.le_refl _)
      clear cp3 hfs3
      have B13 := nx B12 b13
      obtain ⟨y0, y1, y2, y3, y4, y5, rfl, -⟩ := hx3.six
      obtain ⟨a3, l3, q3, d3, m3, r3, rfl, rfl, rfl, rfl, rfl, rfl⟩ := hx3.kinds
      rw [hk, hbo, hi, ht'] at hx3
      rw [hk, hbo, hi, ht']
      obtain ⟨W14, hW14⟩ : ∃ W14, w13.alloc (.cells #[.int .i64 k, .bool bo, .int .i64 i, .string t, .slice a3 l3 q3, .slice d3 m3 r3] 25) = W14 := ⟨_, rfl⟩
      have bW14 : Below w13.heap.size w13 W14 := by rw [← hW14]; exact (Below.refl _ w13).alloc (Nat.le_refl _) _
      have sW14 : w13.heap.size < W14.heap.size := by rw [← hW14]; simp
      have xW14 : W14.heap[w13.heap.size]? = some (.cells #[.int .i64 k, .bool bo, .int .i64 i, .string t, .slice a3 l3 q3, .slice d3 m3 r3] 25 (0, 0)) := by rw [← hW14, heap_alloc_new]
      have HX3 : Hid (∀ w', Below W14.heap.size W14 w' → In false All w' 24 (.agg #[.int .i64 k, .bool bo, .int .i64 i, .string t, .slice a3 l3 q3, .slice d3 m3 r3]) c) := fun w' hb' => (hx3.below bW14).below hb'
      have HB3 : Hid (∀ w', Below W14.heap.size W14 w' → w'.heap[w13.heap.size]? = some (.cells #[.int .i64 k, .bool bo, .int .i64 i, .string t, .slice a3 l3 q3, .slice d3 m3 r3] 25 (0, 0))) := fun w' hb' => (hb'.block _ sW14).trans xW14
      have B14 := nx B13 bW14
      have cc := copyB_c (s := s) (v := .slice (some ⟨g, o, none⟩) N cap) (w := W14) (HV.out W14 B14) (by rw [hN]; exact HS.out.1)
      clear hx3 xW14
      go_wp2_with fail
      refine cc.mono ?_
      rintro e w15 ⟨u, rfl, ho15, b15⟩
      clear cc hW14
      obtain ⟨i0, hi0, hz0, hz1, hz2⟩ := info_parts Byts.info5
      have hsl : s.data.toList.length = N := by simp [hN]
      obtain ⟨ua2, uc2, eu2⟩ := own_shape ho15
      rw [hsl] at eu2
      subst eu2
      have hown15 : w15.ownsRow W14.heap.size 5 1 (.slice ua2 N uc2) N (Lib.byteCells s.data.toList) := by have := ho15; unfold Byts.Own at this; rw [hsl] at this; exact this
      have HSL : Hid (s.data.toList.length = N) := hsl
      have hs15 := b15.size
      clear ho15 hsl
      go_wp2_with (first
        | (at_builtin; refine Lib.wpList_append_own_string _ rfl _ _ 30 9 rfl W14.heap.size 5 i0 Tryd.underlying30 Tryd.underlying9 hi0 hz0 hz1 hz2 _ _ _ rfl hown15 ⟨#[93]⟩ rfl (by unfold maxLen; show N + 1 ≤ _; omega) (by show N + 1 ≤ _; omega) (by omega) ?_))
      intro v16 w16 hown16 hgrow16 _
      have hlt16 := World.ownsRow.lt hown15
      have b16 : Below W14.heap.size W14 w16 := (b15.grown hgrow16 (by omega) (fun k hk => (hlt16 k hk).1))
      have ho16 : Byts.Own w16 W14.heap.size v16 (s.data.toList ++ [93]) := by
        unfold Byts.Own
        rw [Lib.byteCells_append, List.length_append, HSL.out]
        exact hown16
      have hl16 : (s.data.toList ++ [93] : List UInt8).length = N + 1 := by rw [List.length_append, HSL.out]; rfl
      have hb16 := byt_own ho16
      obtain ⟨ea, ec, ee⟩ := own_shape ho16
      rw [hl16] at ee
      subst ee
      have B16 := nx B14 b16
      have cp4 := parse_any hb16 (HT.out w16 B16)
      rw [read_behind HR.out (by omega)] at cp4
      rw [hN] at cp4
      clear hown16 hgrow16 hlt16 ho16 hl16 hb16 hown15 b15 hs15 hi0 hz0 hz1 hz2
      go_wp2_with fail
      refine cp4.mono ?_
      rintro e w17 ⟨b17, rfl⟩
      clear cp4
      have B17 := nx B16 b17
      obtain ⟨W18, hW18⟩ : ∃ W18, w17.alloc (.cells #[.int .i64 0, .bool false, .int .i64 0, .string ⟨#[]⟩, .slice none 0 0, .slice none 0 0] 25) = W18 := ⟨_, rfl⟩
      have b18 : Below w17.heap.size w17 W18 := by rw [← hW18]; exact (Below.refl _ w17).alloc (Nat.le_refl _) _
      have B18 := nx B17 b18
      have b1418 : Below W14.heap.size W14 W18 := nx b16 (nx b17 b18)
      have b818 : Below W8.heap.size W8 W18 := nx (nx (nx (nx b9 b10) b12) (nx b13 bW14)) b1418
      have b618 : Below w6.heap.size w6 W18 := nx (nx b7 bW8) b818
      have b418 : Below W4.heap.size W4 W18 := nx (nx b5 b6) b618
      have b918 : Below w9.heap.size w9 W18 := nx (nx (nx b10 b12) (nx b13 bW14)) b1418
      obtain ⟨f0, f1, f2, f3, f4, f5⟩ := six_box (HB1.out W18 b418)
      obtain ⟨g0, g1, g2, g3, g4, g5⟩ := six_box (HB2.out W18 b818)
      have cs1 := sameV_c 24 _ _ c W18 (HX2.out W18 b818) (HX1.out W18 b418)
      have HS1 : Hid (∀ w19, Below W18.heap.size W18 w19 → (Calls Tryd.prog 15 #[.slice pa PL pc, .slice qa PL qc] w19 fun e w' => e = .returned (.bool true) ∧ w19 = w') ∧ (Calls Tryd.prog 12 #[.agg #[.int .i64 k, .bool bo, .int .i64 i, .string t, .slice a3 l3 q3, .slice d3 m3 r3], .agg #[.int .i64 k, .bool bo, .int .i64 i, .string t, .slice a1 l1 q1, .slice d1 m1 r1]] w19 fun e w' => e = .returned (.bool true) ∧ Below w19.heap.size w19 w') ∧ w19.heap[w13.heap.size]? = some (.cells #[.int .i64 k, .bool bo, .int .i64 i, .string t, .slice a3 l3 q3, .slice d3 m3 r3] 25 (0, 0)) ∧ w19.heap[w3.heap.size]? = some (.cells #[.int .i64 k, .bool bo, .int .i64 i, .string t, .slice a1 l1 q1, .slice d1 m1 r1] 25 (0, 0))) := by
        intro w19 b19
        refine ⟨?_, sameV_c 24 _ _ c w19 (HX3.out w19 (nx b1418 b19)) (HX1.out w19 (nx b418 b19)), HB3.out w19 (nx b1418 b19), HB1.out w19 (nx b418 b19)⟩
        have h1 := own_later HP.out (nx b618 b19)
        have h2 := own_later HQ.out (nx b918 b19)
        refine (sameB_c (rd_own h1) (rd_own h2)).mono ?_
        rintro e w' ⟨rfl, rfl⟩
        exact ⟨by simp, rfl⟩
      have hdN : ((N : Int) == (N : Int)) = true := by simp
      subst hW18
      clear HX1 HX2 HX3 HB1 HB2 HB3 HL1 HL2 HP HQ HV HC HR HT HS HG HLL HSL hk hbo hi ht' hE hdep hd1 hd2 hPL hN6
      go_wp2_with (first
        | (go_at_call 10; refine (numF _ _).mono ?_; rintro e w' ⟨rfl, rfl⟩)
        | (go_at_call 15; refine cb.mono ?_; rintro e w' ⟨rfl, hw'⟩; subst hw')
        | (refine cs2.mono ?_; rintro e w20 ⟨rfl, b20⟩)
        | (refine cs1.mono ?_; rintro e w19 ⟨rfl, b19⟩; obtain ⟨cb, cs2, z1, z2⟩ := HS1.out w19 b19; obtain ⟨j0, j1, j2, j3, j4, j5⟩ := six_box z1; obtain ⟨o0, o1, o2, o3, o4, o5⟩ := six_box z2; clear z1 z2 cs1))
      go_ret
      exact ⟨rfl, nx B18 (nx b19 b20)⟩
    · have hd3 : (pv c).length ≤ 900000000 := (WChk.chk (HX1.out W4 (Below.refl _ _)) hE).2
      generalize hPL : (pv c).length = PL at *
      clear HX1 HB1 HL1 HP HV HC HR HT HS HG hk hbo hi ht' hE hdep hPL
      by_cases h1 : PL ≤ 65536
      · have hd1 : decide ((65536 : Int) < (PL : Int)) = false := decide_eq_false (by omega)
        have hd2 : decide ((65527 : Int) < (N : Int)) = true := decide_eq_true (by omega)
        clear hbig
        go_wp2_with (first | (go_at_call 10; refine (numF _ _).mono ?_; rintro e w' ⟨rfl, rfl⟩))
        go_ret
        exact ⟨rfl, B6⟩
      · have hd1 : decide ((65536 : Int) < (PL : Int)) = true := decide_eq_true (by omega)
        clear hbig
        go_wp2_with (first | (go_at_call 10; refine (numF _ _).mono ?_; rintro e w' ⟨rfl, rfl⟩))
        go_ret
        exact ⟨rfl, B6⟩
theorem walk {v : Value} {s : ByteArray} {w : World} (h : Byt w w.heap.size v s) (hl : s.size ≤ 140737488351232) (ht : T6 w) : Calls Tryd.prog 4 #[v] w fun e w' => e = .returned (.bool true) ∧ Below w.heap.size w w' := by
  cases hr : prs s with
  | error x =>
    obtain ⟨e0, p0⟩ := x
    exact walk_bad h hl ht hr
  | ok c => exact walk_ok h hl ht hr
end Go.Proofs.YtopjadjaknmfeabDoor.WForms

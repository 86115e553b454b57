import Derived.Test.YtopjadjaknmfeabDoorPf19
import Derived.Test.YtopjadjaknmfeabDoorPf20
namespace Go.Proofs.YtopjadjaknmfeabDoor.Shf
open Go.RowKit Go.Proofs.YtopjadjaknmfeabDoor.Base Go.Proofs.YtopjadjaknmfeabDoor.UBase Go.Proofs.YtopjadjaknmfeabDoor.Spec Go.Proofs.YtopjadjaknmfeabDoor.Sums Go.Proofs.YtopjadjaknmfeabDoor.Nums Go.Proofs.YtopjadjaknmfeabDoor.Dec Go.Proofs.YtopjadjaknmfeabDoor.RBt Go.Proofs.YtopjadjaknmfeabDoor.SpecIn
set_option linter.unusedVariables false
/-- s stands in u from k on, no digit behind it. -/
structure Sh (s u : ByteArray) (k : Nat) : Prop where
  at' : ∀ j, j < s.size → UBase.at' u (k + j) = UBase.at' s j
  le : k + s.size ≤ u.size
  nd : dig (UBase.at' u (k + s.size)) = false
variable {s u : ByteArray} {k : Nat}
theorem Sh.of (h : Sh s u k) {j x : Nat} (hx : UBase.at' s j = x) (h0 : x ≠ 0) : UBase.at' u (k + j) = x := by
  rw [h.at' j (at_in (by omega)), hx]
theorem Sh.get (h : Sh s u k) {j : Nat} (h0 : UBase.at' s j ≠ 0) : UBase.at' u (k + j) = UBase.at' s j := h.of rfl h0
theorem blk_sh (h : Sh s u k) : ∀ (n i : Nat), s.size - i ≤ n → blk s i < s.size → blk u (k + i) = k + blk s i := by
  intro n
  induction n with
  | zero =>
    intro i hi hb
    have := blk_ge s i
    omega
  | succ n ih =>
    intro i hi hb
    have hge := blk_ge s i
    have hlt : i < s.size := by omega
    cases hc : isb (UBase.at' s i) with
    | true =>
      rw [blk_step hlt hc] at hb ⊢
      rw [blk_step (by have := h.le; omega) (by rw [h.at' i hlt]; exact hc), Nat.add_assoc, ih (i + 1) (by omega) hb]
    | false =>
      rw [blk_stop hc, blk_stop (by rw [h.at' i hlt]; exact hc)]
theorem blk_at (h : Sh s u k) {i x : Nat} (hx : UBase.at' s (blk s i) = x) (h0 : x ≠ 0) : blk u (k + i) = k + blk s i ∧ UBase.at' u (k + blk s i) = x :=
  ⟨blk_sh h _ i (Nat.le_refl _) (at_in (by omega)), h.of hx h0⟩
theorem wd_sh (h : Sh s u k) : ∀ (cs : List Nat) {i j : Nat}, (∀ c ∈ cs, c ≠ 0) → wd s cs i = .ok j → wd u cs (k + i) = .ok (k + j)
  | [], i, j, _, hw => by
    rw [wd] at hw ⊢
    cases hw
    rfl
  | c :: cs, i, j, hc, hw => by
    rw [wd] at hw ⊢
    split at hw
    · next e =>
      rw [if_pos (h.of e (hc c List.mem_cons_self)), Nat.add_assoc]
      exact wd_sh h cs (fun x hx => hc x (List.mem_cons_of_mem _ hx)) hw
    · cases hw
theorem dgs_sh (h : Sh s u k) : ∀ (n i : Nat), s.size - i ≤ n → i ≤ s.size → dgs u (k + i) = k + dgs s i := by
  intro n
  induction n with
  | zero =>
    intro i hi hle
    have : i = s.size := by omega
    subst this
    rw [dgs_stop h.nd, dgs_end (by omega)]
  | succ n ih =>
    intro i hi hle
    by_cases hlt : i < s.size
    · cases hc : dig (UBase.at' s i) with
      | true =>
        rw [dgs_step hlt hc, dgs_step (by have := h.le; omega) (by rw [h.at' i hlt]; exact hc), Nat.add_assoc, ih (i + 1) (by omega) (by omega)]
      | false => rw [dgs_stop hc, dgs_stop (by rw [h.at' i hlt]; exact hc)]
    · have : i = s.size := by omega
      subst this
      rw [dgs_stop h.nd, dgs_end (by omega)]
theorem dig_ne {c : Nat} (h : dig c = true) : c ≠ 0 := by
  rintro rfl
  exact absurd h (by decide)
theorem dig_sh (h : Sh s u k) {j : Nat} (hj : j ≤ s.size) : dig (UBase.at' u (k + j)) = dig (UBase.at' s j) := by
  by_cases hlt : j < s.size
  · rw [h.at' j hlt]
  · have : j = s.size := by omega
    subst this
    rw [h.nd, at_out _ _ (by omega)]
    rfl
theorem bs_sh (h : Sh s u k) {i j : Nat} (hj : j ≤ s.size) : u.extract (k + i) (k + j) = s.extract i j := by
  have hle := h.le
  apply ByteArray.ext_getElem
  · simp
    omega
  · intro m h1 h2
    have hm : m < j - i := by
      simp at h2
      omega
    rw [ByteArray.getElem_extract, ByteArray.getElem_extract]
    have e := h.at' (i + m) (by omega)
    rw [at_get _ _ (by omega), at_get _ _ (by omega)] at e
    have e2 := UInt8.toNat_inj.1 e
    simp only [Nat.add_assoc] at e2 ⊢
    exact e2
theorem nm_sh (h : Sh s u k) {i j : Nat} {x : Int} (hn : nm s i = .ok (x, j)) : nm u (k + i) = .ok (x, k + j) := by
  have hd : dig (UBase.at' s (sgn s i)) = true := by
    cases hc : dig (UBase.at' s (sgn s i)) with
    | true => rfl
    | false => rw [nm, hc, if_pos rfl] at hn; cases hn
  have hlt : sgn s i < s.size := at_in (dig_ne hd)
  have hs : sgn u (k + i) = k + sgn s i := by
    unfold sgn at hlt ⊢
    by_cases e : UBase.at' s i = 45
    · rw [if_pos e, if_pos (h.of e (by decide)), Nat.add_assoc]
    · rw [if_neg e] at hlt
      rw [if_neg e, if_neg (by rw [h.at' i hlt]; exact e)]
  have hge : i ≤ sgn s i := by unfold sgn; split <;> omega
  rw [nm, hd, if_neg (by simp)] at hn
  rw [nm, hs, h.at' _ hlt, hd, if_neg (by simp)]
  by_cases e48 : UBase.at' s (sgn s i) = 48
  · rw [if_pos e48] at hn ⊢
    by_cases e1 : i < sgn s i
    · rw [if_pos e1] at hn; cases hn
    · rw [if_neg e1] at hn
      have ei : sgn s i = i := by omega
      rw [if_neg (by omega), Nat.add_assoc, dig_sh h (by omega)]
      split at hn
      · cases hn
      · next e2 =>
        rw [if_neg e2]
        cases hn
        rfl
  · rw [if_neg e48] at hn ⊢
    have hle := dgs_in (s := s) (i := sgn s i) (by omega)
    rw [dgs_sh h _ _ (Nat.le_refl _) (by omega)]
    unfold rd at hn ⊢
    rw [bs_sh h hle]
    split at hn
    · next e =>
      rw [if_pos e]
      cases hn
      rfl
    · cases hn
theorem hxd_ne {c : Nat} (h : hxd c = true) : c ≠ 0 := by
  rintro rfl
  exact absurd h (by decide)
theorem hcn_sh (h : Sh s u k) : ∀ (n i : Nat), hcn s n i = n → hcn u n (k + i) = n ∧ ∀ j, j < n → UBase.at' u (k + (i + j)) = UBase.at' s (i + j)
  | 0, i, _ => ⟨rfl, fun j hj => by omega⟩
  | n + 1, i, hc => by
    rw [hcn] at hc
    split at hc
    · next e =>
      obtain ⟨h1, h2⟩ := hcn_sh h n (i + 1) (by omega)
      have e0 := h.get (hxd_ne e)
      refine ⟨?_, fun j hj => ?_⟩
      · rw [hcn, e0, if_pos e, Nat.add_assoc, h1]
      · cases j with
        | zero => exact e0
        | succ j =>
          have := h2 j (by omega)
          rw [show i + 1 + j = i + (j + 1) by omega] at this
          exact this
    · omega
theorem hvl_sh (h : Sh s u k) {i : Nat} (hc : hcn s 4 i = 4) : hvl u (k + i) = hvl s i := by
  have h2 := (hcn_sh h 4 i hc).2
  unfold hvl
  have e0 := h2 0 (by omega)
  have e1 := h2 1 (by omega)
  have e2 := h2 2 (by omega)
  have e3 := h2 3 (by omega)
  simp only [Nat.add_assoc, Nat.add_zero] at *
  rw [e0, e1, e2, e3]
theorem hcn_le (s : ByteArray) : ∀ (n i : Nat), hcn s n i ≤ n
  | 0, i => by rw [hcn]; omega
  | n + 1, i => by
    rw [hcn]
    have := hcn_le s n (i + 1)
    split <;> omega
theorem unt_sh (h : Sh s u k) {i j x : Nat} (hn : unt s i = .ok (x, j)) : unt u (k + i) = .ok (x, k + j) := by
  unfold unt at hn
  split at hn
  · cases hn
  · next h4 =>
    have hc : hcn s 4 (i + 2) = 4 := by have := hcn_le s 4 (i + 2); omega
    have hc' := (hcn_sh h 4 (i + 2) hc).1
    have hv := hvl_sh h hc
    unfold unt
    simp only [Nat.add_assoc] at *
    rw [hc', hv, if_neg (by omega)]
    split at hn
    · next e =>
      rw [if_pos e]
      cases hn
      rfl
    · next e =>
      rw [if_neg e]
      split at hn
      · next e2 =>
        obtain ⟨e2, hlow⟩ := e2
        have hlow' := hlow
        unfold low at hlow'
        simp only [Bool.and_eq_true, decide_eq_true_eq, Nat.add_assoc] at hlow'
        obtain ⟨l1, l2, l3, l4, l5⟩ := hlow'
        have m3 := (hcn_sh h 4 (i + (6 + 2)) l3).1
        have m4 := hvl_sh h l3
        have hl : low u (k + (i + 6)) = true := by
          unfold low
          simp only [Bool.and_eq_true, decide_eq_true_eq, Nat.add_assoc]
          refine ⟨h.of l1 (by decide), h.of l2 (by decide), m3, ?_, ?_⟩
          · rw [m4]; exact l4
          · rw [m4]; exact l5
        rw [if_pos ⟨e2, hl⟩]
        rw [show i + (6 + 2) = i + 8 by omega] at m4
        have hn' := Except.ok.inj hn
        rw [Prod.mk.injEq] at hn'
        rw [m4, hn'.1, ← hn'.2]
      · cases hn
theorem esc_sh (h : Sh s u k) {i j x : Nat} (hn : esc s i = .ok (x, j)) : esc u (k + i) = .ok (x, k + j) := by
  unfold esc at hn ⊢
  rw [Nat.add_assoc]
  by_cases e : UBase.at' s (i + 1) = 117
  · rw [if_pos e] at hn
    rw [if_pos (h.of e (by decide))]
    exact unt_sh h hn
  · rw [if_neg e] at hn
    have hne : UBase.at' s (i + 1) ≠ 0 := fun e0 => by
      rw [e0] at hn
      exact absurd hn (by simp [ltr])
    rw [h.get hne, if_neg e]
    cases hl : ltr (UBase.at' s (i + 1)) with
    | none => rw [hl] at hn; cases hn
    | some y =>
      rw [hl] at hn
      cases hn
      simp only [Nat.add_assoc]
theorem chr_sh (h : Sh s u k) {i j x : Nat} (hi : i < s.size) (hn : chr s i = .ok (x, j)) : chr u (k + i) = .ok (x, k + j) := by
  unfold chr at hn ⊢
  rw [h.at' i hi]
  by_cases e : UBase.at' s i = 92
  · rw [if_pos e] at hn ⊢
    exact esc_sh h hn
  · rw [if_neg e] at hn ⊢
    split at hn
    · cases hn
    · next e2 =>
      have hl : len s i ≠ 0 := fun e0 => e2 (.inr e0)
      have hin := len_in hi
      obtain ⟨g1, g2⟩ := len_agree (s := u) (t := s) (i := k + i) (k := i) hl (fun m hm => by rw [Nat.add_assoc]; exact h.at' _ (by omega))
      rw [g1, g2, if_neg e2]
      cases hn
      simp only [Nat.add_assoc]
theorem txl_sh (h : Sh s u k) : ∀ (f f' i j : Nat) (A L : List UInt8), f ≤ f' → txl s f i A = .ok (L, j) → txl u f' (k + i) A = .ok (L, k + j)
  | 0, _, i, j, A, L, _, hn => by rw [txl] at hn; cases hn
  | f + 1, 0, i, j, A, L, hf, hn => by omega
  | f + 1, f' + 1, i, j, A, L, hf, hn => by
    rw [txl] at hn ⊢
    by_cases e : UBase.at' s i = 34
    · rw [if_pos e] at hn
      rw [if_pos (h.of e (by decide))]
      cases hn
      rw [Nat.add_assoc]
    · rw [if_neg e] at hn
      cases hc : chr s i with
      | error x => rw [hc] at hn; cases hn
      | ok y =>
        obtain ⟨x, m⟩ := y
        rw [hc] at hn
        dsimp only at hn
        have hi : i < s.size := by
          refine Decidable.byContradiction fun hge => ?_
          have h0 := at_out s i hge
          unfold chr at hc
          rw [h0, if_neg (by decide), if_pos (.inl (by decide))] at hc
          cases hc
        rw [if_neg (by rw [h.at' i hi]; exact e), chr_sh h hi hc]
        dsimp only
        exact txl_sh h f f' m j _ L (by omega) hn
theorem txt_sh (h : Sh s u k) {i j : Nat} {t : ByteArray} (hn : txt s i = .ok (t, j)) : txt u (k + i) = .ok (t, k + j) := by
  unfold txt at hn ⊢
  by_cases e : UBase.at' s i = 34
  · rw [if_pos e] at hn
    rw [if_pos (h.of e (by decide))]
    cases ht : txl s (s.size + 1) (i + 1) [] with
    | error x => rw [ht] at hn; cases hn
    | ok y =>
      obtain ⟨L, m⟩ := y
      rw [ht] at hn
      dsimp only at hn
      rw [Nat.add_assoc, txl_sh h _ (u.size + 1) _ _ _ _ (by have := h.le; omega) ht]
      dsimp only
      split at hn
      · cases hn
      · next e2 =>
        rw [if_neg e2]
        cases hn
        rfl
  · rw [if_neg e] at hn; cases hn
def VSh (v v' : V) (k : Nat) : Prop := ∀ i b c j b', v i b = .ok (c, j, b') → v' (k + i) b = .ok (c, k + j, b')
/-- What is read begins at a byte. -/
def Nz (v : V) (s : ByteArray) : Prop := ∀ y b r, v y b = .ok r → UBase.at' s (blk s y) ≠ 0
theorem Nz.lt {v : V} (h : Nz v s) {y b : Nat} {r : C × Nat × Nat} (hr : v (blk s y) b = .ok r) : blk s y < s.size := by
  have := h _ _ _ hr
  rw [blk_blk] at this
  exact at_in this
theorem lst_sh (h : Sh s u k) {v v' : V} (hz : Nz v s) (hv : VSh v v' k) : ∀ (f f' i b j b' : Nat) (A l : List C), f ≤ f' → lst v s f i b A = .ok (l, j, b') → lst v' u f' (k + i) b A = .ok (l, k + j, b')
  | 0, _, i, b, j, b', A, l, _, hn => by rw [lst] at hn; cases hn
  | f + 1, 0, i, b, j, b', A, l, hf, hn => by omega
  | f + 1, f' + 1, i, b, j, b', A, l, hf, hn => by
    rw [lst] at hn ⊢
    cases hc : v i b with
    | error x => rw [hc] at hn; cases hn
    | ok y =>
      obtain ⟨c, m, b2⟩ := y
      rw [hc] at hn
      dsimp only at hn
      rw [hv i b c m b2 hc]
      dsimp only
      by_cases e : UBase.at' s (blk s m) = 93
      · obtain ⟨q1, q2⟩ := blk_at h e (by decide)
        rw [if_pos e] at hn
        rw [q1, if_pos q2]
        cases hn
        rw [Nat.add_assoc]
      · rw [if_neg e] at hn
        by_cases e2 : UBase.at' s (blk s m) = 44
        · obtain ⟨q1, q2⟩ := blk_at h e2 (by decide)
          rw [if_pos e2] at hn
          rw [q1, if_neg (by omega), if_pos q2, Nat.add_assoc]
          have hlt : blk s (blk s m + 1) < s.size := by
            refine Decidable.byContradiction fun hge => ?_
            cases f with
            | zero => rw [lst] at hn; cases hn
            | succ f =>
              rw [lst] at hn
              cases hc2 : v (blk s (blk s m + 1)) b2 with
              | error x => rw [hc2] at hn; cases hn
              | ok y => exact hge (hz.lt hc2)
          rw [blk_sh h _ _ (Nat.le_refl _) hlt]
          exact lst_sh h hz hv f f' _ _ _ _ _ _ (by omega) hn
        · rw [if_neg e2] at hn; cases hn
theorem rcd_sh (h : Sh s u k) {v v' : V} (hv : VSh v v' k) : ∀ (f f' i b j b' : Nat) (N N' : List ByteArray) (A l : List C), f ≤ f' → rcd v s f i b N A = .ok (N', l, j, b') → rcd v' u f' (k + i) b N A = .ok (N', l, k + j, b')
  | 0, _, i, b, j, b', N, N', A, l, _, hn => by rw [rcd] at hn; cases hn
  | f + 1, 0, i, b, j, b', N, N', A, l, hf, hn => by omega
  | f + 1, f' + 1, i, b, j, b', N, N', A, l, hf, hn => by
    rw [rcd] at hn ⊢
    cases ht : txt s i with
    | error x => rw [ht] at hn; cases hn
    | ok y =>
      obtain ⟨t, m⟩ := y
      rw [ht] at hn
      dsimp only at hn
      rw [txt_sh h ht]
      dsimp only
      by_cases eh : has t N = true
      · rw [if_pos eh] at hn; cases hn
      · rw [if_neg eh] at hn ⊢
        by_cases e58 : UBase.at' s (blk s m) = 58
        · obtain ⟨q1, q2⟩ := blk_at h e58 (by decide)
          rw [if_pos e58] at hn
          rw [q1, if_pos q2, Nat.add_assoc]
          cases hc : v (blk s m + 1) b with
          | error x => rw [hc] at hn; cases hn
          | ok y =>
            obtain ⟨c, m2, b2⟩ := y
            rw [hc] at hn
            dsimp only at hn
            rw [hv _ _ _ _ _ hc]
            dsimp only
            by_cases e : UBase.at' s (blk s m2) = 125
            · obtain ⟨q1, q2⟩ := blk_at h e (by decide)
              rw [if_pos e] at hn
              rw [q1, if_pos q2]
              cases hn
              rw [Nat.add_assoc]
            · rw [if_neg e] at hn
              by_cases e2 : UBase.at' s (blk s m2) = 44
              · obtain ⟨q1, q2⟩ := blk_at h e2 (by decide)
                rw [if_pos e2] at hn
                rw [q1, if_neg (by omega), if_pos q2, Nat.add_assoc]
                have hlt : blk s (blk s m2 + 1) < s.size := by
                  refine Decidable.byContradiction fun hge => ?_
                  cases f with
                  | zero => rw [rcd] at hn; cases hn
                  | succ f =>
                    rw [rcd] at hn
                    have h0 := at_out s _ hge
                    have : txt s (blk s (blk s m2 + 1)) = .error (600, blk s (blk s m2 + 1)) := by rw [txt, h0, if_neg (by decide)]
                    rw [this] at hn
                    cases hn
                rw [blk_sh h _ _ (Nat.le_refl _) hlt]
                exact rcd_sh h hv f f' _ _ _ _ _ _ _ _ (by omega) hn
              · rw [if_neg e2] at hn; cases hn
        · rw [if_neg e58] at hn; cases hn
theorem one_sh (h : Sh s u k) {v v' : V} (hz : Nz v s) (hv : VSh v v' k) {i b j b' : Nat} {c : C} (hi : UBase.at' s i ≠ 0) (hn : one v s i b = .ok (c, j, b')) : one v' u (k + i) b = .ok (c, k + j, b') := by
  have hsz := h.le
  unfold one at hn ⊢
  rw [h.get hi]
  by_cases e1 : UBase.at' s i = 110
  · rw [if_pos e1] at hn ⊢
    cases hw : wd s [110, 117, 108, 108] i with
    | error x => rw [hw] at hn; cases hn
    | ok m =>
      rw [hw] at hn
      rw [wd_sh h _ (by simp) hw]
      cases hn
      rfl
  rw [if_neg e1] at hn ⊢
  by_cases e2 : UBase.at' s i = 116
  · rw [if_pos e2] at hn ⊢
    cases hw : wd s [116, 114, 117, 101] i with
    | error x => rw [hw] at hn; cases hn
    | ok m =>
      rw [hw] at hn
      rw [wd_sh h _ (by simp) hw]
      cases hn
      rfl
  rw [if_neg e2] at hn ⊢
  by_cases e3 : UBase.at' s i = 102
  · rw [if_pos e3] at hn ⊢
    cases hw : wd s [102, 97, 108, 115, 101] i with
    | error x => rw [hw] at hn; cases hn
    | ok m =>
      rw [hw] at hn
      rw [wd_sh h _ (by simp) hw]
      cases hn
      rfl
  rw [if_neg e3] at hn ⊢
  by_cases e4 : UBase.at' s i = 34
  · rw [if_pos e4] at hn ⊢
    cases ht : txt s i with
    | error x => rw [ht] at hn; cases hn
    | ok y =>
      obtain ⟨t, m⟩ := y
      rw [ht] at hn
      rw [txt_sh h ht]
      cases hn
      rfl
  rw [if_neg e4] at hn ⊢
  by_cases e5 : UBase.at' s i = 91
  · rw [if_pos e5] at hn ⊢
    unfold lis at hn ⊢
    rw [Nat.add_assoc]
    by_cases e : UBase.at' s (blk s (i + 1)) = 93
    · obtain ⟨q1, q2⟩ := blk_at h e (by decide)
      rw [if_pos e] at hn
      rw [q1, if_pos q2]
      cases hn
      rw [Nat.add_assoc]
    · rw [if_neg e] at hn
      cases hl : lst v s (s.size + 1) (blk s (i + 1)) b [] with
      | error x => rw [hl] at hn; cases hn
      | ok y =>
        obtain ⟨l, m, b2⟩ := y
        rw [hl] at hn
        have hlt : blk s (i + 1) < s.size := by
          have hl' := hl
          rw [lst] at hl'
          cases hc : v (blk s (i + 1)) b with
          | error x => rw [hc] at hl'; cases hl'
          | ok y => exact hz.lt hc
        rw [blk_sh h _ _ (Nat.le_refl _) hlt, h.at' _ hlt, if_neg e, lst_sh h hz hv _ (u.size + 1) _ _ _ _ _ _ (by omega) hl]
        cases hn
        rfl
  rw [if_neg e5] at hn ⊢
  by_cases e6 : UBase.at' s i = 123
  · rw [if_pos e6] at hn ⊢
    unfold Spec.rec at hn ⊢
    rw [Nat.add_assoc]
    by_cases e : UBase.at' s (blk s (i + 1)) = 125
    · obtain ⟨q1, q2⟩ := blk_at h e (by decide)
      rw [if_pos e] at hn
      rw [q1, if_pos q2]
      cases hn
      rw [Nat.add_assoc]
    · rw [if_neg e] at hn
      cases hl : rcd v s (s.size + 1) (blk s (i + 1)) b [] [] with
      | error x => rw [hl] at hn; cases hn
      | ok y =>
        obtain ⟨n, l, m, b2⟩ := y
        rw [hl] at hn
        have hlt : blk s (i + 1) < s.size := by
          refine Decidable.byContradiction fun hge => ?_
          have hl' := hl
          rw [rcd] at hl'
          have h0 := at_out s _ hge
          have : txt s (blk s (i + 1)) = .error (600, blk s (i + 1)) := by rw [txt, h0, if_neg (by decide)]
          rw [this] at hl'
          cases hl'
        rw [blk_sh h _ _ (Nat.le_refl _) hlt, h.at' _ hlt, if_neg e, rcd_sh h hv _ (u.size + 1) _ _ _ _ _ _ _ _ (by omega) hl]
        cases hn
        rfl
  rw [if_neg e6] at hn ⊢
  cases hm : nm s i with
  | error x => rw [hm] at hn; cases hn
  | ok y =>
    obtain ⟨x, m⟩ := y
    rw [hm] at hn
    rw [nm_sh h hm]
    cases hn
    rfl
theorem beg_ne {c : Nat} (h : beg c = true) : c ≠ 0 := by
  rintro rfl
  exact absurd h (by decide)
theorem vl_nz (s : ByteArray) (n : Nat) : Nz (vl s n) s := by
  intro y b r hr
  cases hb : beg (UBase.at' s (blk s y)) with
  | true => exact beg_ne hb
  | false =>
    cases n with
    | zero => rw [vl, hb, if_neg (by decide)] at hr; cases hr
    | succ n => rw [vl, hb, if_neg (by decide)] at hr; cases hr
theorem vl_sh (h : Sh s u k) : ∀ n, VSh (vl s n) (vl u n) k := by
  intro n
  induction n with
  | zero =>
    intro i b c j b' hr
    rw [vl] at hr
    split at hr <;> cases hr
  | succ n ih =>
    intro i b c j b' hr
    have hne := vl_nz s (n + 1) i b _ hr
    have hlt := at_in hne
    rw [vl] at hr ⊢
    rw [blk_sh h _ _ (Nat.le_refl _) hlt, h.at' _ hlt]
    split at hr
    · next e1 =>
      rw [if_pos e1]
      split at hr
      · cases hr
      · next e2 =>
        rw [if_neg e2]
        exact one_sh h (vl_nz s n) ih hne hr
    · cases hr
/-- Blanks from a place on to the end. -/
theorem blk_all (u : ByteArray) : ∀ (n i : Nat), u.size - i ≤ n → i ≤ u.size → (∀ j, i ≤ j → j < u.size → isb (UBase.at' u j) = true) → blk u i = u.size := by
  intro n
  induction n with
  | zero =>
    intro i hi hle _
    rw [blk_end (by omega)]
    omega
  | succ n ih =>
    intro i hi hle hall
    by_cases hlt : i < u.size
    · rw [blk_step hlt (hall i (Nat.le_refl _) hlt)]
      exact ih (i + 1) (by omega) (by omega) fun j h1 h2 => hall j (by omega) h2
    · rw [blk_end hlt]
      omega
theorem blk_gap (s : ByteArray) : ∀ (n i : Nat), s.size - i ≤ n → ∀ j, i ≤ j → j < blk s i → isb (UBase.at' s j) = true := by
  intro n
  induction n with
  | zero =>
    intro i hi j h1 h2
    rw [blk_end (by omega)] at h2
    omega
  | succ n ih =>
    intro i hi j h1 h2
    by_cases hlt : i < s.size
    · cases hc : isb (UBase.at' s i) with
      | false => rw [blk_stop hc] at h2; omega
      | true =>
        rw [blk_step hlt hc] at h2
        by_cases e : j = i
        · subst e; exact hc
        · exact ih (i + 1) (by omega) j (by omega) h2
    · rw [blk_end hlt] at h2; omega
theorem prs_parts {s : ByteArray} {c : C} (h : prs s = .ok c) : s.size ≤ 65536 ∧ ∃ j b', vl s 24 0 0 = .ok (c, j, b') ∧ j ≤ s.size ∧ b' ≤ 16384 ∧ ∀ m, j ≤ m → m < s.size → isb (UBase.at' s m) = true := by
  unfold prs at h
  split at h
  · cases h
  · next hs =>
    refine ⟨by omega, ?_⟩
    cases hv : vl s 24 0 0 with
    | error x => rw [hv] at h; cases h
    | ok y =>
      obtain ⟨c', j, b'⟩ := y
      rw [hv] at h
      dsimp only at h
      obtain ⟨h1, h2, h3, h4⟩ := vl_in s 24 0 0 c' j b' (Nat.zero_le _) hv
      split at h
      · cases h
      · next hb =>
        cases h
        refine ⟨j, b', rfl, h2, h4, fun m m1 m2 => blk_gap s _ j (Nat.le_refl _) m m1 (by omega)⟩
/-- Blanks around. -/
theorem prs_blanks {s u : ByteArray} {c : C} {k : Nat} (hp : prs s = .ok c) (h : Sh s u k) (hu : u.size ≤ 65536) (h0 : ∀ j, j < k → isb (UBase.at' u j) = true) (h1 : ∀ j, k + s.size ≤ j → j < u.size → isb (UBase.at' u j) = true) : prs u = .ok c := by
  obtain ⟨-, j, b', hv, hj, -, hgap⟩ := prs_parts hp
  have hv' := vl_sh h 24 _ _ _ _ _ hv
  rw [Nat.add_zero] at hv'
  have hk : ∀ (m : Nat), m ≤ k → blk u (k - m) = blk u k := by
    intro m
    induction m with
    | zero => intro _; rfl
    | succ m ih =>
      intro hm
      rw [← ih (by omega), blk_step (by have := h.le; omega) (h0 (k - (m + 1)) (by omega))]
      congr 1
      omega
  have hk0 := hk k (Nat.le_refl _)
  rw [Nat.sub_self] at hk0
  have hv0 : vl u 24 0 0 = vl u 24 k 0 := by rw [vl, vl, hk0]
  have hend : blk u (k + j) = u.size := by
    refine blk_all u _ (k + j) (Nat.le_refl _) (by have := h.le; omega) fun m m1 m2 => ?_
    by_cases e : m < k + s.size
    · have := h.at' (m - k) (by omega)
      rw [show k + (m - k) = m by omega] at this
      rw [this]
      exact hgap (m - k) (by omega) (by omega)
    · exact h1 m (by omega) m2
  rw [prs, if_neg (by omega), hv0, hv']
  dsimp only
  rw [hend, if_neg (by omega)]
/-- A byte behind that is no blank. -/
theorem prs_behind {s u : ByteArray} {c : C} (hp : prs s = .ok c) (h : Sh s u 0) (hu : u.size ≤ 65536) (h1 : s.size < u.size) (h2 : isb (UBase.at' u s.size) = false) : prs u = .error (600, s.size) := by
  obtain ⟨-, j, b', hv, hj, -, hgap⟩ := prs_parts hp
  have hv' := vl_sh h 24 _ _ _ _ _ hv
  rw [Nat.add_zero, Nat.zero_add] at hv'
  have hend : ∀ (n i : Nat), s.size - i ≤ n → j ≤ i → i ≤ s.size → blk u i = s.size := by
    intro n
    induction n with
    | zero =>
      intro i hi hji hle
      have : i = s.size := by omega
      subst this
      exact blk_stop h2
    | succ n ih =>
      intro i hi hji hle
      by_cases hlt : i < s.size
      · have := h.at' i hlt
        rw [Nat.zero_add] at this
        rw [blk_step (by omega) (by rw [this]; exact hgap i hji hlt)]
        exact ih (i + 1) (by omega) (by omega) (by omega)
      · have : i = s.size := by omega
        subst this
        exact blk_stop h2
  rw [prs, if_neg (by omega), hv']
  dsimp only
  rw [hend _ j (Nat.le_refl _) (Nat.le_refl _) hj, if_pos h1]
end Go.Proofs.YtopjadjaknmfeabDoor.Shf

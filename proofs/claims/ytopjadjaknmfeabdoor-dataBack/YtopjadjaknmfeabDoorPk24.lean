import Derived.Test.YtopjadjaknmfeabDoorPk23
namespace Go.Proofs.YtopjadjaknmfeabDoor.SpecIn
open Go.RowKit Go.Proofs.YtopjadjaknmfeabDoor.Base Go.Proofs.YtopjadjaknmfeabDoor.UBase Go.Proofs.YtopjadjaknmfeabDoor.Spec Go.Proofs.YtopjadjaknmfeabDoor.Text
set_option linter.unusedVariables false
theorem wd_in {s : ByteArray} : ∀ (cs : List Nat) {i j : Nat}, (∀ c ∈ cs, c ≠ 0) → i ≤ s.size → wd s cs i = .ok j → j = i + cs.length ∧ j ≤ s.size
  | [], i, j, _, hi, h => by rw [wd] at h; cases h; exact ⟨rfl, hi⟩
  | c :: cs, i, j, hc, hi, h => by
    rw [wd] at h
    split at h
    · next e =>
      have h0 := hc c (by simp)
      have := at_in (s := s) (i := i) (by omega)
      have := wd_in cs (fun x hx => hc x (by simp [hx])) (by omega) h
      simp only [List.length_cons]
      omega
    · cases h
theorem txl_in {s : ByteArray} : ∀ (f : Nat) {i j : Nat} {A L : List UInt8}, i ≤ s.size → txl s f i A = .ok (L, j) → i < j ∧ j ≤ s.size
  | 0, i, j, A, L, _, h => by rw [txl] at h; cases h
  | f + 1, i, j, A, L, hi, h => by
    rw [txl_step] at h
    split at h
    · next e =>
      have h' := Prod.mk.inj (Except.ok.inj h)
      have := at_in (s := s) (i := i) (by omega)
      omega
    · cases hc : chr s i with
      | error x => rw [hc, txk] at h; cases h
      | ok y =>
        obtain ⟨x, k⟩ := y
        rw [hc, txk] at h
        have hlt : i < s.size := Decidable.of_not_not fun hn => by
          have : chr s i = .error (600, i) := by unfold chr; rw [at_out s i hn]; rfl
          rw [this] at hc; cases hc
        have := chr_in hlt hc
        have := txl_in f this.2.1 h
        omega
theorem txt_in {s : ByteArray} {i j : Nat} {t : ByteArray} (h : txt s i = .ok (t, j)) : i < j ∧ j ≤ s.size ∧ t.size ≤ 4096 ∧ i < s.size := by
  by_cases hq : at' s i = 34
  · have hi := at_in (s := s) (i := i) (by omega)
    rw [txt_is hq] at h
    cases hl : txl s (s.size + 1) (i + 1) [] with
    | error x => rw [hl, txd] at h; cases h
    | ok y =>
      obtain ⟨L, k⟩ := y
      rw [hl, txd] at h
      have := txl_in _ (by omega) hl
      split at h
      · cases h
      · have h' := Prod.mk.inj (Except.ok.inj h)
        obtain ⟨h1, h2⟩ := h'
        subst h1
        refine ⟨by omega, by omega, ?_, hi⟩
        show L.toArray.size ≤ 4096
        simp
        omega
  · unfold txt at h; rw [if_neg hq] at h; cases h
theorem nm_in {s : ByteArray} {i j : Nat} {x : Int} (h : nm s i = .ok (x, j)) : i < j ∧ j ≤ s.size ∧ -9223372036854775808 ≤ x ∧ x ≤ 9223372036854775807 := by
  unfold nm at h
  split at h
  · cases h
  next hd =>
  have hd : dig (at' s (sgn s i)) = true := by simpa using hd
  have hlt := at_in (s := s) (i := sgn s i) (fun e => by rw [e] at hd; exact absurd hd (by decide))
  have hge : i ≤ sgn s i := by unfold sgn; split <;> omega
  split at h
  · split at h
    · cases h
    · split at h
      · cases h
      · have h' := Prod.mk.inj (Except.ok.inj h)
        have e : sgn s i = i := by omega
        rw [e] at hlt
        omega
  · unfold rd at h
    split at h
    · have h' := Prod.mk.inj (Except.ok.inj h)
      have h1 := dgs_ge s (sgn s i + 1)
      have h2 := dgs_in (s := s) (i := sgn s i) (by omega)
      have h3 := dgs_step hlt hd
      have h4 := Nums.pnum_range (Sums.bs (s.extract i (dgs s (sgn s i))))
      rw [h'.1] at h4
      exact ⟨by omega, by omega, h4.1, h4.2⟩
    · cases h
def VIn (v : V) (s : ByteArray) : Prop := ∀ i b c j b', i ≤ s.size → v i b = .ok (c, j, b') → i < j ∧ j ≤ s.size ∧ b < b' ∧ b' ≤ 16384
theorem lst_in {v : V} {s : ByteArray} (hv : VIn v s) : ∀ (f : Nat) {i b j b' : Nat} {A l : List C}, i ≤ s.size → b ≤ 16384 → lst v s f i b A = .ok (l, j, b') → i < j ∧ j ≤ s.size ∧ b ≤ b' ∧ b' ≤ 16384
  | 0, i, b, j, b', A, l, _, _, h => by rw [lst] at h; cases h
  | f + 1, i, b, j, b', A, l, hi, hb, h => by
    rw [lst] at h
    cases hc : v i b with
    | error x => rw [hc] at h; cases h
    | ok y =>
      obtain ⟨c, k, b2⟩ := y
      rw [hc] at h
      have h1 := hv i b c k b2 hi hc
      have h2 := blk_ge s k
      have h3 := blk_in h1.2.1
      dsimp only at h
      split at h
      · next e =>
        have h' := Prod.mk.inj (Except.ok.inj h)
        have h'' := Prod.mk.inj h'.2
        have := at_in (s := s) (i := blk s k) (by omega)
        omega
      · split at h
        · next e =>
          have := at_in (s := s) (i := blk s k) (by omega)
          have h4 := blk_ge s (blk s k + 1)
          have h5 := blk_in (s := s) (i := blk s k + 1) (by omega)
          have := lst_in hv f h5 (by omega) h
          omega
        · cases h
theorem rcd_in {v : V} {s : ByteArray} (hv : VIn v s) : ∀ (f : Nat) {i b j b' : Nat} {N N' : List ByteArray} {A l : List C}, i ≤ s.size → b ≤ 16384 → rcd v s f i b N A = .ok (N', l, j, b') → i < j ∧ j ≤ s.size ∧ b ≤ b' ∧ b' ≤ 16384
  | 0, i, b, j, b', N, N', A, l, _, _, h => by rw [rcd] at h; cases h
  | f + 1, i, b, j, b', N, N', A, l, hi, hb, h => by
    rw [rcd] at h
    cases ht : txt s i with
    | error x => rw [ht] at h; cases h
    | ok y =>
      obtain ⟨t, p⟩ := y
      rw [ht] at h
      have g1 := txt_in ht
      have g2 := blk_ge s p
      have g3 := blk_in g1.2.1
      dsimp only at h
      split at h
      · cases h
      · split at h
        · next e58 =>
          have g4 := at_in (s := s) (i := blk s p) (by omega)
          cases hc : v (blk s p + 1) b with
          | error x => rw [hc] at h; cases h
          | ok y =>
            obtain ⟨c, k, b2⟩ := y
            rw [hc] at h
            have h1 := hv _ b c k b2 (by omega) hc
            have h2 := blk_ge s k
            have h3 := blk_in h1.2.1
            dsimp only at h
            split at h
            · next e =>
              have h' := Prod.mk.inj (Prod.mk.inj (Prod.mk.inj (Except.ok.inj h)).2).2
              have := at_in (s := s) (i := blk s k) (by omega)
              omega
            · split at h
              · next e =>
                have := at_in (s := s) (i := blk s k) (by omega)
                have h4 := blk_ge s (blk s k + 1)
                have h5 := blk_in (s := s) (i := blk s k + 1) (by omega)
                have := rcd_in hv f h5 (by omega) h
                omega
              · cases h
        · cases h
theorem vl_in (s : ByteArray) : ∀ n, VIn (vl s n) s
  | 0 => by
    intro i b c j b' hi h
    rw [vl] at h
    split at h <;> cases h
  | n + 1 => by
    intro i b c j b' hi h
    have hv := vl_in s n
    rw [vl] at h
    split at h
    · next hbeg =>
      split at h
      · cases h
      next hb =>
      have g1 := blk_ge s i
      have g2 := blk_in hi
      have g3 := at_in (s := s) (i := blk s i) (fun e => by rw [e] at hbeg; exact absurd hbeg (by decide))
      unfold one at h
      generalize blk s i = p at *
      split at h
      · cases hw : wd s [110, 117, 108, 108] p with
        | error x => rw [hw] at h; cases h
        | ok k =>
          rw [hw] at h
          have := wd_in _ (by decide) (by omega) hw
          have h' := Prod.mk.inj (Prod.mk.inj (Except.ok.inj h)).2
          simp at this
          omega
      split at h
      · cases hw : wd s [116, 114, 117, 101] p with
        | error x => rw [hw] at h; cases h
        | ok k =>
          rw [hw] at h
          have := wd_in _ (by decide) (by omega) hw
          have h' := Prod.mk.inj (Prod.mk.inj (Except.ok.inj h)).2
          simp at this
          omega
      split at h
      · cases hw : wd s [102, 97, 108, 115, 101] p with
        | error x => rw [hw] at h; cases h
        | ok k =>
          rw [hw] at h
          have := wd_in _ (by decide) (by omega) hw
          have h' := Prod.mk.inj (Prod.mk.inj (Except.ok.inj h)).2
          simp at this
          omega
      split at h
      · cases hw : txt s p with
        | error x => rw [hw] at h; cases h
        | ok y =>
          obtain ⟨t, k⟩ := y
          rw [hw] at h
          have := txt_in hw
          have h' := Prod.mk.inj (Prod.mk.inj (Except.ok.inj h)).2
          omega
      split at h
      · unfold lis at h
        have e1 := blk_ge s (p + 1)
        have e2 := blk_in (s := s) (i := p + 1) (by omega)
        split at h
        · next e =>
          have := at_in (s := s) (i := blk s (p + 1)) (by omega)
          have h' := Prod.mk.inj (Prod.mk.inj (Except.ok.inj h)).2
          omega
        · cases hw : lst (vl s n) s (s.size + 1) (blk s (p + 1)) (b + 1) [] with
          | error x => rw [hw] at h; cases h
          | ok y =>
            obtain ⟨l, k, b2⟩ := y
            rw [hw] at h
            have := lst_in hv _ e2 (by omega) hw
            have h' := Prod.mk.inj (Prod.mk.inj (Except.ok.inj h)).2
            omega
      split at h
      · unfold rec at h
        have e1 := blk_ge s (p + 1)
        have e2 := blk_in (s := s) (i := p + 1) (by omega)
        split at h
        · next e =>
          have := at_in (s := s) (i := blk s (p + 1)) (by omega)
          have h' := Prod.mk.inj (Prod.mk.inj (Except.ok.inj h)).2
          omega
        · cases hw : rcd (vl s n) s (s.size + 1) (blk s (p + 1)) (b + 1) [] [] with
          | error x => rw [hw] at h; cases h
          | ok y =>
            obtain ⟨N, l, k, b2⟩ := y
            rw [hw] at h
            have := rcd_in hv _ e2 (by omega) hw
            have h' := Prod.mk.inj (Prod.mk.inj (Except.ok.inj h)).2
            omega
      · cases hw : nm s p with
        | error x => rw [hw] at h; cases h
        | ok y =>
          obtain ⟨x, k⟩ := y
          rw [hw] at h
          have := nm_in hw
          have h' := Prod.mk.inj (Prod.mk.inj (Except.ok.inj h)).2
          omega
    · cases h
end Go.Proofs.YtopjadjaknmfeabDoor.SpecIn

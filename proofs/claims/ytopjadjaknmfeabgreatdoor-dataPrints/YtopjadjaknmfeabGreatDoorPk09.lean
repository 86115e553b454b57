import Derived.BigQuiet
import Derived.Deep.QuietTactic
import Derived.Defers
import Derived.Maps.AppendAt
import Derived.Recover
import Derived.Test.YtopjadjaknmfeabGreatDoorPk00
import Derived.Test.YtopjadjaknmfeabGreatDoorPk05
import Derived.Test.YtopjadjaknmfeabGreatDoorPk06
import Derived.Test.YtopjadjaknmfeabGreatDoorPk08
namespace Go.Proofs.YtopjadjaknmfeabGreatDoor.Skip
open Go.RowKit Go.Proofs.YtopjadjaknmfeabGreatDoor.Base Go.Proofs.YtopjadjaknmfeabGreatDoor.UBase Go.Proofs.YtopjadjaknmfeabGreatDoor.Spec Go.Proofs.YtopjadjaknmfeabGreatDoor.Rdr Go.Proofs.YtopjadjaknmfeabGreatDoor.Take
set_option linter.unusedVariables false
def isin (t : ByteArray) (c : Nat) : Bool := decide (0 ≤ Lib.indexByte t.data.toList (c : Int).toNat.toUInt8)
theorem isof_c (t : ByteArray) (c : Nat) (w : World) :
    Calls Tryz.prog 76 #[.string t, .int .u8 c] w fun e w' => e = .returned (.bool (isin t c)) ∧ w' = w := by
  have c94 := Tryz.strings_IndexByte t c w
  unfold isin
  generalize Lib.indexByte t.data.toList (c : Int).toNat.toUInt8 = x at *
  go_enter Tryz.func76, Tryz.ntmps76
  go_wp2_with (go_at_call 94; refine c94.mono ?_; rintro e w' ⟨rfl, rfl⟩)
  go_ret
  exact ⟨rfl, rfl⟩
def blanks : ByteArray := ⟨#[32, 9, 10, 13]⟩
def digits : ByteArray := ⟨#[48, 49, 50, 51, 52, 53, 54, 55, 56, 57]⟩
def starts : ByteArray := ⟨#[110, 116, 102, 45, 34, 91, 123, 48, 49, 50, 51, 52, 53, 54, 55, 56, 57]⟩
theorem isin_blanks (c : Nat) (h : c < 256) : isin blanks c = isb c := by
  have : ∀ c : Fin 256, isin blanks c.1 = isb c.1 := by decide +kernel
  exact this ⟨c, h⟩
theorem isin_digits (c : Nat) (h : c < 256) : isin digits c = dig c := by
  have : ∀ c : Fin 256, isin digits c.1 = dig c.1 := by decide +kernel
  exact this ⟨c, h⟩
theorem isin_starts (c : Nat) (h : c < 256) : isin starts c = beg c := by
  have : ∀ c : Fin 256, isin starts c.1 = beg c.1 := by decide +kernel
  exact this ⟨c, h⟩
/-- Past the bytes that are among these. -/
theorem skip_c {w : World} {R : Nat} {v : Value} {s : ByteArray} {i b : Nat} (t : ByteArray) (P : Nat → Nat) (hP : ∀ j, j < s.size → isin t (at' s j) = true → P j = P (j + 1)) (hS : ∀ j, j < s.size → isin t (at' s j) = false → P j = j) (hE : P s.size = s.size) (h : Rd w R v s i b) :
    Calls Tryz.prog 64 #[ptr R, .string t] w fun e w' => (∃ r, e = .returned r) ∧ Rd w' R v s (P i) b ∧ Kr R w w' := by
  have HP : Hid (∀ j, j < s.size → isin t (at' s j) = true → P j = P (j + 1)) := hP
  have HS : Hid (∀ j, j < s.size → isin t (at' s j) = false → P j = j) := hS
  have HE : Hid (P s.size = s.size) := hE
  have HR : Hid (Rd w R v s i b) := h
  have hsz := h.sz
  obtain ⟨a, cap, rfl, hc, -⟩ := h.byt
  clear hP hS hE h
  unfold ptr
  go_enter Tryz.func64, Tryz.ntmps64
  go_wp2_with fail
  go_loopw [] (fun wr => ∃ q : Nat, Rd wr R (.slice a s.size cap) s q b ∧ Kr R w wr ∧ P q = P i) (fun wr => s.size - plc R wr)
  case atStart => exact ⟨i, HR.out, Kr.refl _ _, rfl⟩
  case round =>
    obtain ⟨q, hr, hk, hq⟩ := hrel
    have hpl := hr.plc
    obtain ⟨k0, k1, k2, f1, f2⟩ := hr.cells
    have HQ : Hid (P q = P i) := hq
    have HPL : Hid (plc R wr = q) := hpl
    have HRq : Hid (Rd wr R (.slice a s.size cap) s q b) := hr
    by_cases hlt : q < s.size
    · obtain ⟨g, o, cap', hv, hcc, kb⟩ := hr.byte hlt
      cases hv
      have hd : decide ((q : Int) < (s.size : Int)) = true := by simp; omega
      have hb := at_lt s q
      cases hx : isin t (at' s q) with
      | true =>
        have c76 : ∀ w', Calls Tryz.prog 76 #[.string t, .int .u8 (at' s q : Nat)] w' fun e w'' => e = .returned (.bool true) ∧ w'' = w' := fun w' => by rw [← hx]; exact isof_c t _ w'
        have HX : Hid (P q = P (q + 1)) := HP.out q hlt hx
        clear hr hpl hq hx
        generalize at' s q = x at *
        go_wp2_with fail
        go_quiet ((go_at_call 76; exact Calls.quiet_of_same (c76 _)))
        have h2 := (HRq.out.drewN nq).go (q + 1) (by omega)
        have k3 := (hk.drewN nq).set 1 (.int .i64 (q + 1 : Nat))
        obtain ⟨m0, m1, m2, n1, n2⟩ := (HRq.out.drewN nq).cells
        have HR2 : Hid (Rd ((wr.drewN nq).setCell ⟨R, 1, none⟩ (.int .i64 (q + 1 : Nat))) R (.slice (some ⟨g, o, none⟩) s.size cap) s (q + 1) b) := h2
        clear h2
        go_wp2_with fail
        go_roundw
        case rel => exact ⟨q + 1, HR2.out, k3, HX.out.symm.trans HQ.out⟩
        case measure =>
          have e1 := HPL.out
          have e2 : plc R ((wr.drewN nq).setCell ⟨R, 1, none⟩ (.int .i64 ((q : Int) + 1))) = q + 1 := HR2.out.plc
          show s.size - plc R _ < s.size - plc R wr
          rw [e1, e2]
          omega
      | false =>
        have c76 : ∀ w', Calls Tryz.prog 76 #[.string t, .int .u8 (at' s q : Nat)] w' fun e w'' => e = .returned (.bool false) ∧ w'' = w' := fun w' => by rw [← hx]; exact isof_c t _ w'
        have hfin : P i = q := HQ.out.symm.trans (HS.out q hlt hx)
        have HF : Hid (P i = q) := hfin
        clear hr hpl hq hx hfin
        generalize at' s q = x at *
        go_wp2_with fail
        go_quiet ((go_at_call 76; exact Calls.quiet_of_same (c76 _)))
        go_wp2_with fail
        go_end0
        rw [HF.out]
        exact ⟨⟨_, rfl⟩, HRq.out.drewN nq, hk.drewN nq⟩
    · have hq2 : q = s.size := by have := hr.le; omega
      have hd : decide ((q : Int) < (s.size : Int)) = false := by simp; omega
      have hfin : P i = q := by rw [← HQ.out, hq2]; exact HE.out
      have HF : Hid (P i = q) := hfin
      clear hr hpl hq hfin hq2
      go_wp2_with fail
      go_quiet (fail)
      go_wp2_with fail
      go_end0
      rw [HF.out]
      exact ⟨⟨_, rfl⟩, HRq.out.drewN nq, hk.drewN nq⟩
/-- Past blanks. -/
theorem blanks_c {w : World} {R : Nat} {v : Value} {s : ByteArray} {i b : Nat} (h : Rd w R v s i b) :
    Calls Tryz.prog 40 #[ptr R] w fun e w' => (∃ r, e = .returned r) ∧ Rd w' R v s (blk s i) b ∧ Kr R w w' := by
  have c64 := skip_c blanks (blk s) (fun j hj he => blk_step hj (by rw [← isin_blanks _ (at_lt s j)]; exact he)) (fun j hj he => blk_stop (by rw [← isin_blanks _ (at_lt s j)]; exact he)) (blk_end (by omega)) h
  unfold ptr at c64 ⊢
  unfold blanks at c64
  clear h
  go_enter Tryz.func40, Tryz.ntmps40
  go_wp2_with (go_at_call 64; refine c64.mono ?_; rintro e w' ⟨⟨r, rfl⟩, h2, k2⟩)
  go_end0
  exact ⟨⟨_, rfl⟩, h2, k2⟩
/-- Past digits. -/
theorem digits_c {w : World} {R : Nat} {v : Value} {s : ByteArray} {i b : Nat} (h : Rd w R v s i b) :
    Calls Tryz.prog 64 #[ptr R, .string digits] w fun e w' => (∃ r, e = .returned r) ∧ Rd w' R v s (dgs s i) b ∧ Kr R w w' :=
  skip_c digits (dgs s) (fun j hj he => dgs_step hj (by rw [← isin_digits _ (at_lt s j)]; exact he)) (fun j hj he => dgs_stop (by rw [← isin_digits _ (at_lt s j)]; exact he)) (dgs_end (by omega)) h
/-- Where a value may begin: one more has begun, or the fault. -/
def bgn (d i b c : Nat) : Except F Unit := if beg c = true then (if 24 < d then .error (603, i) else if b = 16384 then .error (604, i) else .ok ()) else .error (600, i)
theorem begin_c {w : World} {R : Nat} {v : Value} {s : ByteArray} {i b : Nat} (d : Nat) (hd : d ≤ 25) (h : Rd w R v s i b) :
    Calls Tryz.prog 57 #[ptr R, .int .i64 d] w fun e w' => Kr R w w' ∧ match bgn d i b (at' s i) with
      | .ok _ => (∃ r, e = .returned r) ∧ Rd w' R v s i (b + 1)
      | .error x => e = .panicked (pk x) := by
  by_cases hi : i < s.size
  · have c58 := next_c h hi
    have c41 := refuse_c h.drew.drew
    have c76 := isof_c starts (at' s i) w.drew.drew
    rw [isin_starts _ (at_lt s i)] at c76
    have k2' := ((Kr.refl R w).drew).drew
    unfold ptr at c58 c41 ⊢
    unfold starts at c76
    cases hb : beg (at' s i) with
    | false =>
      have e : bgn d i b (at' s i) = .error (600, i) := by unfold bgn; rw [hb]; rfl
      rw [e]
      rw [hb] at c76
      clear h e hb
      generalize at' s i = x at *
      go_enter Tryz.func57, Tryz.ntmps57
      go_wp2_with (first | (go_at_call 58; refine c58.mono ?_; rintro e w' ⟨rfl, rfl⟩) | (go_at_call 76; refine c76.mono ?_; rintro e w' ⟨rfl, rfl⟩) | (go_at_call 41; refine c41.mono ?_; rintro e w' ⟨rfl, rfl⟩))
      exact ⟨rfl, k2', rfl⟩
    | true =>
      rw [hb] at c76
      have hR2 := h.drew.drew
      obtain ⟨k0, k1, k2, f1, f2⟩ := hR2.cells
      by_cases h24 : 24 < d
      · have e : bgn d i b (at' s i) = .error (603, i) := by unfold bgn; rw [hb, if_pos rfl, if_pos h24]
        rw [e]
        have hd' : decide ((24 : Int) < (d : Int)) = true := by simp; omega
        unfold pk
        clear h e hb hR2
        generalize at' s i = x at *
        go_enter Tryz.func57, Tryz.ntmps57
        go_wp2_with (first | (go_at_call 58; refine c58.mono ?_; rintro e w' ⟨rfl, rfl⟩) | (go_at_call 76; refine c76.mono ?_; rintro e w' ⟨rfl, rfl⟩))
        exact ⟨rfl, k2', rfl⟩
      · have hd' : decide ((24 : Int) < (d : Int)) = false := by simp; omega
        by_cases hb2 : b = 16384
        · have e : bgn d i b (at' s i) = .error (604, i) := by unfold bgn; rw [hb, if_pos rfl, if_neg h24, if_pos hb2]
          rw [e]
          have hb' : ((b : Int) == 16384) = true := by simp; omega
          unfold pk
          clear h e hb hR2 hb2
          generalize at' s i = x at *
          go_enter Tryz.func57, Tryz.ntmps57
          go_wp2_with (first | (go_at_call 58; refine c58.mono ?_; rintro e w' ⟨rfl, rfl⟩) | (go_at_call 76; refine c76.mono ?_; rintro e w' ⟨rfl, rfl⟩))
          exact ⟨rfl, k2', rfl⟩
        · have e : bgn d i b (at' s i) = .ok () := by unfold bgn; rw [hb, if_pos rfl, if_neg h24, if_neg hb2]
          rw [e]
          have hb' : ((b : Int) == 16384) = false := by simp; omega
          have hlb := h.lb
          have h3 := hR2.begin (b + 1) (by omega)
          have k3 := k2'.set 2 (.int .i64 (b + 1 : Nat))
          clear h e hb hR2
          generalize at' s i = x at *
          go_enter Tryz.func57, Tryz.ntmps57
          go_wp2_with (first | (go_at_call 58; refine c58.mono ?_; rintro e w' ⟨rfl, rfl⟩) | (go_at_call 76; refine c76.mono ?_; rintro e w' ⟨rfl, rfl⟩))
          go_end0
          exact ⟨k3, ⟨_, rfl⟩, h3⟩
  · have c58 := next_end h hi
    have e : bgn d i b (at' s i) = .error (600, i) := by unfold bgn; rw [at_out s i hi]; rfl
    rw [e]
    unfold ptr at c58 ⊢
    clear h e
    go_enter Tryz.func57, Tryz.ntmps57
    go_wp2_with (go_at_call 58; refine c58.mono ?_; rintro e w' ⟨rfl, rfl⟩)
    exact ⟨rfl, (Kr.refl R w).drew, rfl⟩
end Go.Proofs.YtopjadjaknmfeabGreatDoor.Skip
namespace Go.Proofs.YtopjadjaknmfeabGreatDoor.RowR
open Go.RowKit Go.Proofs.YtopjadjaknmfeabGreatDoor.Base Go.Proofs.YtopjadjaknmfeabGreatDoor.UBase Go.Proofs.YtopjadjaknmfeabGreatDoor.Spec Go.Proofs.YtopjadjaknmfeabGreatDoor.Rdr Go.Proofs.YtopjadjaknmfeabGreatDoor.Take Go.Proofs.YtopjadjaknmfeabGreatDoor.Skip
set_option linter.unusedVariables false
abbrev Stp (α : Type) := Nat → Nat → α → Except F (α × Nat × Nat)
/-- Behind one: the end, or a comma and one more. -/
def gn {α : Type} (st : Stp α) (cl : Nat) (s : ByteArray) : Nat → Nat → Nat → α → Except F (α × Nat × Nat)
  | 0, i, _, _ => .error (600, i)
  | f + 1, i, b, a => if at' s i = cl then .ok (a, i + 1, b) else if at' s i = 44 then (match st (blk s (i + 1)) b a with
    | .error e => .error e
    | .ok (a', j, b') => gn st cl s f (blk s j) b' a') else .error (600, i)
/-- One, and what stands behind it. -/
def gk {α : Type} (st : Stp α) (cl : Nat) (s : ByteArray) (f : Nat) : Except F (α × Nat × Nat) → Except F (α × Nat × Nat)
  | .error e => .error e
  | .ok (a, j, b) => gn st cl s f (blk s j) b a
theorem gn_step {α : Type} (st : Stp α) (cl : Nat) (s : ByteArray) (f i b : Nat) (a : α) :
    gn st cl s (f + 1) i b a = if at' s i = cl then .ok (a, i + 1, b) else if at' s i = 44 then gk st cl s f (st (blk s (i + 1)) b a) else .error (600, i) := by
  rw [gn]
  rfl
/-- From the first one on. -/
def g0 {α : Type} (st : Stp α) (cl : Nat) (s : ByteArray) (i b : Nat) (a : α) : Except F (α × Nat × Nat) :=
  if at' s i = cl then .ok (a, i + 1, b) else gk st cl s (s.size + 1) (st i b a)
/-- Of the blocks below B only R has changed. -/
structure Kb (R B : Nat) (w w' : World) : Prop where
  below : Below R w w'
  other : ∀ k, k ≠ R → k < B → w'.heap[k]? = w.heap[k]?
theorem Kr.kb {R B : Nat} {w w' : World} (h : Kr R w w') (hB : B ≤ w.heap.size) : Kb R B w w' := ⟨h.below, fun k hk hb => h.other k hk (by omega)⟩
theorem Kb.refl (R B : Nat) (w : World) : Kb R B w w := ⟨Below.refl _ _, fun _ _ _ => rfl⟩
theorem Kb.trans {R B : Nat} {a b c : World} (h : Kb R B a b) (k : Kb R B b c) : Kb R B a c := ⟨h.below.trans k.below, fun n hn hs => (k.other n hn hs).trans (h.other n hn hs)⟩
def StepIs {α : Type} (st : Stp α) (s : ByteArray) : Prop := ∀ i b a a' j b', i ≤ s.size → st i b a = .ok (a', j, b') → i ≤ j ∧ j ≤ s.size
/-- What one call of the closure does. -/
def OneIs {α : Type} (K : Nat) (caps : Array Value) (R B : Nat) (v : Value) (s : ByteArray) (st : Stp α) (J : World → Nat → Nat → α → Prop) : Prop :=
  ∀ w i b a, J w i b a → Calls Tryz.prog K caps w fun e w' => Kb R B w w' ∧ match st i b a with
    | .ok (a', j, b') => e = .returned (.tuple #[]) ∧ J w' j b' a'
    | .error x => e = .panicked (pk x)
def outl (first : Value) : Nat := match first with
  | .bool true => 1
  | _ => 0
set_option maxRecDepth 20000 in
set_option maxHeartbeats 1600000 in
theorem row_c {α : Type} (K : Nat) (caps : Array Value) (hent : ∀ args w, (callFunc K args).run Tryz.prog w = .ok (.enter K args) w) {R B : Nat} {v : Value} {s : ByteArray} (op cl : Nat) (hop : op ≠ 0 ∧ op < 256) (hcl : cl ≠ 0 ∧ cl < 256 ∧ cl ≠ 44) (st : Stp α) (J : World → Nat → Nat → α → Prop)
    (hst : StepIs st s) (hse : ∀ i b a, ¬ i < s.size → st i b a = .error (600, i)) (hJR : ∀ w i b a, J w i b a → Rd w R v s i b ∧ B ≤ w.heap.size) (hJK : ∀ w w' i j b a, J w i b a → Rd w' R v s j b → Kr R w w' → i ≤ j → J w' j b a) (hone : OneIs K caps R B v s st J)
    {w : World} {i b : Nat} (a : α) (h : J w i b a) (hat : at' s i = op) :
    Calls Tryz.prog 80 #[ptr R, .int .u8 op, .int .u8 cl, .func (.func K) #[] caps] w fun e w' => Kb R B w w' ∧ match g0 st cl s (blk s (i + 1)) b a with
      | .ok (a', j, b') => e = .returned (.tuple #[]) ∧ J w' j b' a'
      | .error x => e = .panicked (pk x) := by
  obtain ⟨hR, hBw⟩ := hJR w i b a h
  have c77 := take_c hR hat hop.1 hop.2
  have hi : i < s.size := at_in (by omega)
  have hsz := hR.sz
  have HJ : Hid (J w i b a) := h
  have HJR : Hid (∀ w i b a, J w i b a → Rd w R v s i b ∧ B ≤ w.heap.size) := hJR
  have HJK : Hid (∀ w w' i j b a, J w i b a → Rd w' R v s j b → Kr R w w' → i ≤ j → J w' j b a) := hJK
  have HONE : Hid (OneIs K caps R B v s st J) := hone
  have HST : Hid (StepIs st s) := hst
  have HSE : Hid (∀ i b a, ¬ i < s.size → st i b a = .error (600, i)) := hse
  obtain ⟨U, hU⟩ : ∃ U, g0 st cl s (blk s (i + 1)) b a = U := ⟨_, rfl⟩
  rw [hU]
  have HU : Hid (g0 st cl s (blk s (i + 1)) b a = U) := hU
  obtain ⟨hop0, hop1⟩ := hop
  obtain ⟨hcl0, hcl1, hcl2⟩ := hcl
  clear h hU hR hJR hJK hone hst hse
  unfold ptr at c77 ⊢
  go_enter Tryz.func80, Tryz.ntmps80
  go_wp2_with (go_at_call 77; refine c77.mono ?_; rintro e w1 ⟨rfl, h1, k1⟩)
  have c40 := blanks_c h1
  unfold ptr at c40
  have J1 : Hid (J w1 (i + 1) b a) := HJK.out _ _ _ _ _ _ HJ.out h1 k1 (by omega)
  clear c77
  go_wp2_with (go_at_call 40; refine c40.mono ?_; rintro e w2 ⟨⟨r2, rfl⟩, h2, k2⟩)
  have J2 : Hid (J w2 (blk s (i + 1)) b a) := HJK.out _ _ _ _ _ _ J1.out h2 k2 (blk_ge _ _)
  have KK : Kb R B w w2 := Kr.kb (k1.trans k2) hBw
  clear c40 h1 k1 h2 k2 J1 HJ
  go_loopw [8] (fun fi wr => ∃ (q c : Nat) (x : α), J wr q c x ∧ Kb R B w wr ∧ ((fi = .bool true ∧ g0 st cl s q c x = U) ∨ (fi = .bool false ∧ ∃ f, gn st cl s f q c x = U ∧ s.size < q + f))) (fun fi wr => 2 * (s.size - plc R wr) + outl fi)
  case atStart => exact ⟨_, _, _, J2.out, KK, .inl ⟨rfl, HU.out⟩⟩
  case round =>
    obtain ⟨q, c, x, hj, hk, hph⟩ := hrel
    obtain ⟨hr, hBr⟩ := HJR.out _ _ _ _ hj
    have HJQ : Hid (J wr q c x) := hj
    have HP : Hid (plc R wr = q) := hr.plc
    have hqs := hr.le
    by_cases hend : ¬ q < s.size
    · have c58 := next_end hr hend
      have hU2 : U = .error (600, q) := by
        have z0 := at_out s q hend
        rcases hph with ⟨-, e⟩ | ⟨-, f, e, hf⟩
        · rw [← e]; unfold g0; rw [z0, if_neg (by omega), HSE.out q c x hend]; rfl
        · obtain ⟨f, rfl⟩ : ∃ f', f = f' + 1 := ⟨f - 1, by omega⟩
          rw [← e, gn_step, z0, if_neg (by omega), if_neg (by omega)]
      subst hU2
      unfold ptr at c58
      clear hr hj hph
      go_wp2_with (go_at_call 58; refine c58.mono ?_; rintro e w' ⟨rfl, rfl⟩)
      exact ⟨rfl, ⟨hk.below.drew, hk.other⟩, rfl⟩
    have hlt : q < s.size := Decidable.of_not_not hend
    clear hend
    have c58 := next_c hr hlt
    have hr2 := hr.drew.drew
    have kq := (Kr.refl R wr).drew.drew
    have hb := at_lt s q
    unfold ptr at c58
    by_cases hc : at' s q = cl
    · have hne : (((at' s q : Nat) : Int) != (cl : Int)) = false := by simp; omega
      have c77 := take_c hr2 hc hcl0 hcl1
      have hU2 : U = .ok (x, q + 1, c) := by
        rcases hph with ⟨-, e⟩ | ⟨-, f, e, hf⟩
        · rw [← e]; unfold g0; rw [if_pos hc]
        · obtain ⟨f, rfl⟩ : ∃ f', f = f' + 1 := ⟨f - 1, by omega⟩
          rw [← e, gn_step, if_pos hc]
      subst hU2
      unfold ptr at c77
      clear hr hj hph hr2
      rw [hc] at c58
      go_wp2_with (first | (go_at_call 58; refine c58.mono ?_; rintro e w' ⟨rfl, rfl⟩) | (go_at_call 77; refine c77.mono ?_; rintro e w3 ⟨rfl, h3, k3⟩))
      go_end0
      exact ⟨hk.trans (Kr.kb (kq.trans k3) hBr), rfl, HJK.out _ _ _ _ _ _ HJQ.out h3 (kq.trans k3) (by omega)⟩
    have hne : (((at' s q : Nat) : Int) != (cl : Int)) = true := by simp; omega
    -- what one call of the closure and the blanks behind it make
    have REST : Hid (∀ (wz : World) (p : Nat), J wz p c x → Kb R B wr wz → q ≤ p → Calls Tryz.prog K caps wz fun e w' => Kb R B wz w' ∧ match st p c x with
      | .ok (a', j, b') => e = .returned (.tuple #[]) ∧ J w' j b' a'
      | .error y => e = .panicked (pk y)) := fun wz p hz _ _ => HONE.out wz p c x hz
    rcases hph with ⟨rfl, e⟩ | ⟨rfl, f, e, hf⟩
    · -- the first one
      have hUe : U = gk st cl s (s.size + 1) (st q c x) := by rw [← e]; unfold g0; rw [if_neg hc]
      have HUE : Hid (U = gk st cl s (s.size + 1) (st q c x)) := hUe
      have J3 : Hid (J wr.drew.drew q c x) := HJK.out _ _ _ _ _ _ HJQ.out hr2 kq (Nat.le_refl _)
      have cK := REST.out _ q J3.out (Kr.kb kq hBr) (Nat.le_refl _)
      obtain ⟨Y, hY⟩ : ∃ Y, st q c x = Y := ⟨_, rfl⟩
      have HY : Hid (st q c x = Y) := hY
      rw [hY] at cK
      clear hr hj hr2 e hUe hY REST hc
      generalize at' s q = z at *
      cases Y with
      | error y =>
        have hU2 : U = .error y := by rw [HUE.out, HY.out]; rfl
        subst hU2
        go_wp2_with (first | (go_at_call 58; refine c58.mono ?_; rintro e w' ⟨rfl, rfl⟩) | (go_at_fn K; refine cK.mono ?_; rintro e w3 ⟨k3, rfl⟩))
        exact ⟨rfl, (hk.trans (Kr.kb kq hBr)).trans k3, rfl⟩
      | ok y =>
        obtain ⟨x2, j, c2⟩ := y
        have hin := HST.out q c x x2 j c2 hqs HY.out
        go_wp2_with (first | (go_at_call 58; refine c58.mono ?_; rintro e w' ⟨rfl, rfl⟩) | (go_at_fn K; refine cK.mono ?_; rintro e w3 ⟨k3, rfl, j3⟩; have c40 := blanks_c (HJR.out _ _ _ _ j3).1; unfold ptr at c40) | (go_at_call 40; refine c40.mono ?_; rintro e w4 ⟨⟨r4, rfl⟩, h4, k4⟩))
        go_roundw
        case rel =>
          refine ⟨blk s j, c2, x2, HJK.out _ _ _ _ _ _ j3 h4 k4 (blk_ge _ _), ((hk.trans (Kr.kb kq hBr)).trans k3).trans (Kr.kb k4 (HJR.out _ _ _ _ j3).2), .inr ⟨rfl, s.size + 1, ?_, by omega⟩⟩
          rw [HUE.out, HY.out]; rfl
        case measure =>
          have e1 := HP.out
          have e2 := h4.plc
          have := blk_ge s j
          show 2 * (s.size - plc R w4) + outl (.bool false) < 2 * (s.size - plc R wr) + outl (.bool true)
          rw [e1, e2]
          show 2 * (s.size - blk s j) + 0 < 2 * (s.size - q) + 1
          omega
    · -- one more
      obtain ⟨f, rfl⟩ : ∃ f', f = f' + 1 := ⟨f - 1, by omega⟩
      rw [gn_step, if_neg hc] at e
      by_cases h44 : at' s q = 44
      · rw [if_pos h44] at e
        have HUE : Hid (gk st cl s f (st (blk s (q + 1)) c x) = U) := e
        have c77 := take_c hr2 h44 (by omega) (by omega)
        unfold ptr at c77
        obtain ⟨Y, hY⟩ : ∃ Y, st (blk s (q + 1)) c x = Y := ⟨_, rfl⟩
        have HY : Hid (st (blk s (q + 1)) c x = Y) := hY
        clear hr hj hr2 e hY hc
        rw [h44] at c58 hne
        cases Y with
        | error y =>
          have hU2 : U = .error y := by rw [← HUE.out, HY.out]; rfl
          subst hU2
          go_wp2_with (first | (go_at_call 58; refine c58.mono ?_; rintro e w' ⟨rfl, rfl⟩) | (go_at_call 77; refine c77.mono ?_; rintro e w3 ⟨rfl, h3, k3⟩; have c40 := blanks_c h3; unfold ptr at c40) | (go_at_call 40; refine c40.mono ?_; rintro e w4 ⟨⟨r4, rfl⟩, h4, k4⟩; have kz := (kq.trans k3).trans k4; have J4 := HJK.out _ _ _ _ _ _ HJQ.out h4 kz (by have := blk_ge s (q + 1); omega); have cK := REST.out _ _ J4 (Kr.kb kz hBr) (by have := blk_ge s (q + 1); omega); rw [HY.out] at cK) | (go_at_fn K; refine cK.mono ?_; rintro e w5 ⟨k5, rfl⟩))
          exact ⟨rfl, (hk.trans (Kr.kb kz hBr)).trans k5, rfl⟩
        | ok y =>
          obtain ⟨x2, j, c2⟩ := y
          have hin := HST.out _ c x x2 j c2 (blk_in (by omega)) HY.out
          have hbq := blk_ge s (q + 1)
          go_wp2_with (first | (go_at_call 58; refine c58.mono ?_; rintro e w' ⟨rfl, rfl⟩) | (go_at_call 77; refine c77.mono ?_; rintro e w3 ⟨rfl, h3, k3⟩; have c40 := blanks_c h3; unfold ptr at c40) | (go_at_call 40; refine c40.mono ?_; rintro e w4 ⟨⟨r4, rfl⟩, h4, k4⟩; have kz := (kq.trans k3).trans k4; have J4 := HJK.out _ _ _ _ _ _ HJQ.out h4 kz (by have := blk_ge s (q + 1); omega); have cK := REST.out _ _ J4 (Kr.kb kz hBr) (by have := blk_ge s (q + 1); omega); rw [HY.out] at cK; clear c40) | (go_at_fn K; refine cK.mono ?_; rintro e w5 ⟨k5, rfl, j5⟩; have c40b := blanks_c (HJR.out _ _ _ _ j5).1; unfold ptr at c40b) | (go_at_call 40; refine c40b.mono ?_; rintro e w6 ⟨⟨r6, rfl⟩, h6, k6⟩))
          go_roundw
          case rel =>
            refine ⟨blk s j, c2, x2, HJK.out _ _ _ _ _ _ j5 h6 k6 (blk_ge _ _), ((hk.trans (Kr.kb kz hBr)).trans k5).trans (Kr.kb k6 (HJR.out _ _ _ _ j5).2), .inr ⟨rfl, f, ?_, ?_⟩⟩
            · rw [← HUE.out, HY.out]; rfl
            · have := blk_ge s j; omega
          case measure =>
            have e1 := HP.out
            have e2 := h6.plc
            have := blk_ge s j
            show 2 * (s.size - plc R w6) + outl (.bool false) < 2 * (s.size - plc R wr) + outl (.bool false)
            rw [e1, e2]
            omega
      · rw [if_neg h44] at e
        subst e
        have c77 := take_no hr2 h44 (by omega) (by omega)
        unfold ptr at c77
        clear hr hj hr2 hc h44
        generalize at' s q = z at *
        go_wp2_with (first | (go_at_call 58; refine c58.mono ?_; rintro e w' ⟨rfl, rfl⟩) | (go_at_call 77; refine c77.mono ?_; rintro e w3 ⟨rfl, k3⟩))
        exact ⟨rfl, hk.trans (Kr.kb (kq.trans k3) hBr), rfl⟩
end Go.Proofs.YtopjadjaknmfeabGreatDoor.RowR
namespace Go.Proofs.YtopjadjaknmfeabGreatDoor.Own
open Go.RowKit Go.Proofs.YtopjadjaknmfeabGreatDoor.Base Go.Proofs.YtopjadjaknmfeabGreatDoor.Fresh
set_option linter.unusedVariables false
/-- v holds c; its lists lie in blocks of S, no two in one. -/
def Fs (w : World) : Nat → (Nat → Prop) → Value → C → Prop
  | 0, _, _, _ => False
  | m + 1, S, v, .mk k b i s n l => ∃ nv lv us, ∃ T : Nat → Nat → Prop, v = .agg #[.int .i64 k, .bool b, .int .i64 i, .string s, nv, lv] ∧
      (-9223372036854775808 ≤ k ∧ k ≤ 9223372036854775807) ∧ (-9223372036854775808 ≤ i ∧ i ≤ 9223372036854775807) ∧ s.size ≤ 140737488351232 ∧ n.length * 16 ≤ 140737488351232 ∧ (∀ t ∈ n, t.size ≤ 140737488351232) ∧ l.length * 88 ≤ 140737488351232 ∧
      OwnT w 0 nv n ∧ (∀ g, nv.ownBlock = some g → S g) ∧ OwnV w 0 lv us ∧ (∀ g, lv.ownBlock = some g → S g ∧ nv.ownBlock ≠ some g) ∧ us.length = l.length ∧
      (∀ j, j < l.length → ∀ g, T j g → S g ∧ nv.ownBlock ≠ some g ∧ lv.ownBlock ≠ some g) ∧ (∀ j j', j < j' → j' < l.length → ∀ g, T j g → ¬ T j' g) ∧
      ∀ j (h : j < us.length) (h' : j < l.length), Fs w m (T j) us[j] l[j]
theorem Fs.in {w : World} : ∀ {m : Nat} {S : Nat → Prop} {v : Value} {c : C}, Fs w m S v c → In false S w m v c := by
  intro m
  induction m with
  | zero => intro S v c h; rw [Fs] at h; exact h.elim
  | succ m ih =>
    intro S v c h
    obtain ⟨k, b, i, s, n, l⟩ := c
    rw [Fs] at h
    obtain ⟨nv, lv, us, T, rfl, hk, hi, hs, hn1, hn2, hl1, hT, hTb, hV, hVb, hus, hel, hdis, hfr⟩ := h
    rw [in_iff]
    refine ⟨nv, lv, rfl, hk, hi, hs, ?_, ?_⟩
    · rcases hT.2 with ⟨rfl, h0⟩ | ⟨g, cap, cur, rfl, hlo, hg, hn, hm, _⟩
      · have : n = [] := List.eq_nil_of_length_eq_zero h0
        subst this
        exact ⟨none, 0, rfl, by simp, by simp, by simp, by simp, fun _ => rfl, .inl ⟨rfl, rfl⟩⟩
      · exact ⟨_, cap, rfl, hn, hm, hn1, hn2, (fun h => by cases h), .inr ⟨g, 0, rfl, hTb g rfl, ownT_cell hT, fun h => by cases h⟩⟩
    · rcases hV.1.2 with ⟨rfl, h0⟩ | ⟨g, cap, cur, rfl, hlo, hg, hn, hm, _⟩
      · have : l = [] := List.eq_nil_of_length_eq_zero (by omega)
        subst this
        exact ⟨none, 0, rfl, by simp, by simp, by simp, fun _ => rfl, .inl ⟨rfl, rfl⟩⟩
      · refine ⟨some ⟨g, 0, none⟩, cap, by rw [hus], by omega, hm, hl1, (fun h => by cases h), .inr ⟨g, 0, rfl, (hVb g rfl).1, fun j hj => ?_, fun h => by cases h⟩⟩
        exact ⟨us[j]'(by omega), ownV_six hV j (by omega), (ih (hfr j (by omega) hj)).weak (fun x hx => (hel j hj x hx).1) false id m (Nat.le_refl _)⟩
theorem Fs.keep {w w' : World} : ∀ {m : Nat} {S : Nat → Prop} {v : Value} {c : C}, Fs w m S v c → Keep S w w' → Fs w' m S v c := by
  intro m
  induction m with
  | zero => intro S v c h; rw [Fs] at h; exact h.elim
  | succ m ih =>
    intro S v c h hk0
    obtain ⟨k, b, i, s, n, l⟩ := c
    rw [Fs] at h ⊢
    obtain ⟨nv, lv, us, T, rfl, hk, hi, hs, hn1, hn2, hl1, hT, hTb, hV, hVb, hus, hel, hdis, hfr⟩ := h
    refine ⟨nv, lv, us, T, rfl, hk, hi, hs, hn1, hn2, hl1, own_keep hT (fun g hg => ?_), hTb, ⟨own_keep hV.1 (fun g hg => ?_), hV.2⟩, hVb, hus, hel, hdis, fun j h h' => ih (hfr j h h') (fun b hb hlt => hk0 b (hel j h' b hb).1 hlt)⟩
    · exact hk0 g (hTb g hg) (World.ownsRow.lt hT g hg).2
    · exact hk0 g (hVb g hg).1 (World.ownsRow.lt hV.1 g hg).2
theorem Fs.below {w w' : World} {m : Nat} {S : Nat → Prop} {v : Value} {c : C} (h : Fs w m S v c) (hb : Below w.heap.size w w') : Fs w' m S v c := h.keep (.of_below hb)
theorem Fs.weak {w : World} : ∀ {m : Nat} (m' : Nat) {S S' : Nat → Prop} {v : Value} {c : C}, m ≤ m' → Fs w m S v c → (∀ g, S g → S' g) → Fs w m' S' v c := by
  intro m
  induction m with
  | zero => intro m' S S' v c _ h; rw [Fs] at h; exact h.elim
  | succ m ih =>
    intro m' S S' v c hm h hS
    obtain ⟨m', rfl⟩ : ∃ q, m' = q + 1 := ⟨m' - 1, by omega⟩
    obtain ⟨k, b, i, s, n, l⟩ := c
    rw [Fs] at h ⊢
    obtain ⟨nv, lv, us, T, rfl, hk, hi, hs, hn1, hn2, hl1, hT, hTb, hV, hVb, hus, hel, hdis, hfr⟩ := h
    exact ⟨nv, lv, us, T, rfl, hk, hi, hs, hn1, hn2, hl1, hT, fun g hg => hS g (hTb g hg), hV, fun g hg => ⟨hS g (hVb g hg).1, (hVb g hg).2⟩, hus, fun j hj g hg => ⟨hS g (hel j hj g hg).1, (hel j hj g hg).2⟩, hdis, fun j h h' => ih m' (by omega) (hfr j h h') (fun g hg => hg)⟩
theorem row0 {w : World} {B : Nat} {e : TypeId} {z n : Nat} {v : Value} {xs : List Value} (h : w.ownsRow B e z v n xs) : w.ownsRow 0 e z v n xs := by
  refine ⟨h.1, ?_⟩
  rcases h.2 with h2 | ⟨g, cap, cur, rfl, hg, r⟩
  · exact .inl h2
  · exact .inr ⟨g, cap, cur, rfl, by omega, r⟩
/-- A value without lists. -/
theorem Fs.plain (w : World) (m : Nat) (S : Nat → Prop) (k : Int) (b : Bool) (i : Int) (s : ByteArray) (hk : -9223372036854775808 ≤ k ∧ k ≤ 9223372036854775807) (hi : -9223372036854775808 ≤ i ∧ i ≤ 9223372036854775807) (hs : s.size ≤ 140737488351232) :
    Fs w (m + 1) S (.agg #[.int .i64 k, .bool b, .int .i64 i, .string s, .slice none 0 0, .slice none 0 0]) (.mk k b i s [] []) := by
  rw [Fs]
  exact ⟨_, _, [], fun _ _ => False, rfl, hk, hi, hs, by simp, by simp, by simp, World.ownsRow_nil _ _ _ _, (fun g hg => by cases hg), ⟨World.ownsRow_nil _ _ _ _, fun x hx => by cases hx⟩, (fun g hg => by cases hg), rfl, (fun j hj => by simp at hj), (fun j j' h h' => by simp at h'), fun j h => by simp at h⟩
end Go.Proofs.YtopjadjaknmfeabGreatDoor.Own
namespace Go.Proofs.YtopjadjaknmfeabGreatDoor.LState
open Go.RowKit Go.Proofs.YtopjadjaknmfeabGreatDoor.Base Go.Proofs.YtopjadjaknmfeabGreatDoor.UBase Go.Proofs.YtopjadjaknmfeabGreatDoor.Spec Go.Proofs.YtopjadjaknmfeabGreatDoor.Rdr Go.Proofs.YtopjadjaknmfeabGreatDoor.RowR Go.Proofs.YtopjadjaknmfeabGreatDoor.Own
set_option linter.unusedVariables false
/-- The elements so far: in the row lv, each in blocks of its own. -/
structure Els (w : World) (m lo : Nat) (lv : Value) (us : List Value) (acc : List C) (T : Nat → Nat → Prop) : Prop where
  own : OwnV w lo lv us
  len : us.length = acc.length
  fs : ∀ j (h : j < us.length) (h' : j < acc.length), Fs w m (T j) us[j] acc[j]
  out : ∀ j, j < acc.length → ∀ g, T j g → lo ≤ g ∧ g < w.heap.size ∧ lv.ownBlock ≠ some g
  dis : ∀ j j', j < j' → j' < acc.length → ∀ g, T j g → ¬ T j' g
theorem Els.nil (w : World) (m lo : Nat) : Els w m lo (.slice none 0 0) [] [] (fun _ _ => False) :=
  ⟨⟨World.ownsRow_nil _ _ _ _, fun x hx => by cases hx⟩, rfl, fun j h => by simp at h, fun j h => by simp at h, fun j j' h h' => by simp at h'⟩
theorem Els.keep {w w' : World} {m lo : Nat} {lv : Value} {us : List Value} {acc : List C} {T : Nat → Nat → Prop} (h : Els w m lo lv us acc T) (hk : ∀ g, lo ≤ g → g < w.heap.size → w'.heap[g]? = w.heap[g]?) (hs : w.heap.size ≤ w'.heap.size) : Els w' m lo lv us acc T := by
  refine ⟨⟨Fresh.own_keep h.own.1 fun g hg => ?_, h.own.2⟩, h.len, fun j h1 h2 => (h.fs j h1 h2).keep fun b hb hlt => ?_, fun j hj g hg => ?_, h.dis⟩
  · have := World.ownsRow.lt h.own.1 g hg
    exact hk g this.1 this.2
  · have := h.out j h2 b hb
    exact hk b this.1 this.2.1
  · have := h.out j hj g hg
    exact ⟨this.1, by omega, this.2.2⟩
theorem Els.kr {w w' : World} {R m lo : Nat} {lv : Value} {us : List Value} {acc : List C} {T : Nat → Nat → Prop} (h : Els w m lo lv us acc T) (hk : Kr R w w') (hR : R < lo) : Els w' m lo lv us acc T :=
  h.keep (fun g hg hs => hk.other g (by omega) hs) hk.below.size
/-- One more. -/
theorem Els.more {w w1 w' : World} {m lo l1 h1 : Nat} {lv lv' u : Value} {us : List Value} {acc : List C} {c : C} {T : Nat → Nat → Prop} (h : Els w m lo lv us acc T) (hu : Fs w1 m (Rg l1 h1) u c) (hlo : lo ≤ w.heap.size) (hl1 : w.heap.size ≤ l1) (hh1 : h1 ≤ w'.heap.size) (hs : w.heap.size ≤ w'.heap.size)
    (hown : OwnV w' lo lv' (us ++ [u])) (hb : ∀ g, lv'.ownBlock = some g → lv.ownBlock = some g ∨ h1 ≤ g) (hb2 : ∀ g, lv'.ownBlock = some g → lv.ownBlock = some g ∨ w.heap.size ≤ g) (hkeep : ∀ g, lo ≤ g → g < w.heap.size → lv.ownBlock ≠ some g → w'.heap[g]? = w.heap[g]?) (hkeep1 : Keep (Rg l1 h1) w1 w') :
    Els w' m lo lv' (us ++ [u]) (acc ++ [c]) (fun j => if j < acc.length then T j else Rg l1 h1) := by
  have hlen := h.len
  refine ⟨hown, by simp [hlen], fun j hj hj' => ?_, fun j hj g hg => ?_, fun j j' hjj hj' g hg => ?_⟩
  · by_cases e : j < acc.length
    · rw [if_pos e, List.getElem_append_left (by omega), List.getElem_append_left e]
      refine (h.fs j (by omega) e).keep fun b hb' hlt => ?_
      have := h.out j e b hb'
      exact hkeep b this.1 this.2.1 this.2.2
    · have ej : j = acc.length := by simp at hj'; omega
      subst ej
      rw [if_neg e]
      have e1 : (us ++ [u])[acc.length]'hj = u := by
        rw [List.getElem_append_right (by omega)]; simp [hlen]
      have e2 : (acc ++ [c])[acc.length]'hj' = c := by simp
      rw [e1, e2]
      exact hu.keep hkeep1
  · by_cases e : j < acc.length
    · rw [if_pos e] at hg
      have := h.out j e g hg
      refine ⟨this.1, by omega, fun e2 => ?_⟩
      rcases hb2 g e2 with h3 | h3
      · exact this.2.2 h3
      · omega
    · rw [if_neg e] at hg
      have h1' := hg.1
      have h2' := hg.2
      refine ⟨by omega, by omega, fun e2 => ?_⟩
      rcases hb g e2 with h3 | h3
      · have := (World.ownsRow.lt h.own.1 g h3).2
        omega
      · omega
  · have e : j < acc.length := by simp at hj'; omega
    rw [if_pos e] at hg
    by_cases e' : j' < acc.length
    · rw [if_pos e']
      exact h.dis j j' hjj e' g hg
    · rw [if_neg e']
      intro h3
      have := (h.out j e g hg).2.1
      have := h3.1
      omega
/-- The step of a list. -/
def stK (acc : List C) : Except F (C × Nat × Nat) → Except F (List C × Nat × Nat)
  | .error e => .error e
  | .ok (c, j, b') => .ok (acc ++ [c], j, b')
def stL (s : ByteArray) (n : Nat) : Stp (List C) := fun i b acc => stK acc (vl s n i b)
/-- What reading a value does. -/
def VIs (n d m : Nat) : Prop := ∀ (w : World) (R : Nat) (v : Value) (s : ByteArray) (i b : Nat), Rd w R v s i b → Calls Tryz.prog 39 #[ptr R, .int .i64 d] w fun e w' => Kr R w w' ∧ match vl s n i b with
    | .ok (c, j, b') => (∃ u, e = .returned u ∧ Fs w' m (Rg w.heap.size w'.heap.size) u c) ∧ Rd w' R v s j b'
    | .error x => e = .panicked (pk x)
/-- A list that is read: the boxes from block B on. -/
structure JL (R B d m : Nat) (v : Value) (s : ByteArray) (w : World) (i b : Nat) (acc : List C) : Prop where
  rd : Rd w R v s i b
  RB : R < B
  sz : B + 4 ≤ w.heap.size
  rb : w.heap[B]? = some (.cells #[ptr R] 85 (0, 0))
  db : w.heap[B + 1]? = some (.cells #[.int .i64 d] 3 (0, 0))
  res : w.heap[B + 2]? = some (.cells #[.int .i64 0, .bool false, .int .i64 0, .string ⟨#[]⟩, .slice none 0 0, .slice none 0 0] 27 (0, 0))
  box : ∃ lv us T, w.heap[B + 3]? = some (.cells #[.int .i64 5, .bool false, .int .i64 0, .string ⟨#[]⟩, .slice none 0 0, lv] 27 (0, 0)) ∧ Els w m (B + 4) lv us acc T
  le : acc.length ≤ i
theorem JL.kr {R B d m : Nat} {v : Value} {s : ByteArray} {w w' : World} {i j b : Nat} {acc : List C} (h : JL R B d m v s w i b acc) (hr : Rd w' R v s j b) (hk : Kr R w w') (hij : i ≤ j) : JL R B d m v s w' j b acc := by
  have hsz := h.sz
  have hRB := h.RB
  obtain ⟨lv, us, T, hb, he⟩ := h.box
  have hs := hk.below.size
  refine ⟨hr, h.RB, by omega, (hk.other _ (by omega) (by omega)).trans h.rb, (hk.other _ (by omega) (by omega)).trans h.db, (hk.other _ (by omega) (by omega)).trans h.res, ⟨lv, us, T, (hk.other _ (by omega) (by omega)).trans hb, he.kr hk (by omega)⟩, by have := h.le; omega⟩
/-- A list with one more element. -/
theorem JL.more {R B d m : Nat} {v : Value} {s : ByteArray} {w w1 w5 : World} {i j b b' l1 h1 : Nat} {acc : List C} {c : C} {lv lv' u : Value} {us : List Value} {T : Nat → Nat → Prop} (h : JL R B d m v s w i b acc) (hels : Els w m (B + 4) lv us acc T)
    (hu : Fs w1 m (Rg l1 h1) u c) (hl1 : w.heap.size ≤ l1) (hh1 : h1 ≤ w5.heap.size) (hs : w.heap.size ≤ w5.heap.size) (hown : OwnV w5 (B + 4) lv' (us ++ [u])) (hb : ∀ g, lv'.ownBlock = some g → lv.ownBlock = some g ∨ (h1 ≤ g ∧ w.heap.size ≤ g))
    (hbox : w5.heap[B + 3]? = some (.cells #[.int .i64 5, .bool false, .int .i64 0, .string ⟨#[]⟩, .slice none 0 0, lv'] 27 (0, 0)))
    (hoth : ∀ k, k < w.heap.size → k ≠ R → k ≠ B + 3 → lv.ownBlock ≠ some k → w5.heap[k]? = w.heap[k]?) (hk1 : Keep (Rg l1 h1) w1 w5) (hrd : Rd w5 R v s j b') (hij : i < j) (hbel : Below R w w5) :
    Kb R B w w5 ∧ JL R B d m v s w5 j b' (acc ++ [c]) := by
  have hsz := h.sz
  have hRB := h.RB
  have hlo : ∀ g, lv.ownBlock = some g → B + 4 ≤ g := fun g hg => (World.ownsRow.lt hels.own.1 g hg).1
  have hne : ∀ k, k < B + 4 → lv.ownBlock ≠ some k := fun k hk e => by have := hlo k e; omega
  refine ⟨⟨hbel, fun k hk hkB => hoth k (by omega) hk (by omega) (hne k (by omega))⟩, hrd, h.RB, by omega, (hoth _ (by omega) (by omega) (by omega) (hne _ (by omega))).trans h.rb, (hoth _ (by omega) (by omega) (by omega) (hne _ (by omega))).trans h.db, (hoth _ (by omega) (by omega) (by omega) (hne _ (by omega))).trans h.res, ?_, by have := h.le; simp; omega⟩
  exact ⟨lv', us ++ [u], _, hbox, hels.more hu (by omega) hl1 hh1 hs hown (fun g hg => (hb g hg).imp id And.left) (fun g hg => (hb g hg).imp id And.right) (fun g hg hlt hne' => hoth g hlt (by omega) (by omega) hne') hk1⟩
/-- A row with one zero more, and then the element itself in its place: its cells, and what else has changed. -/
theorem set_last {w w' : World} {B g cap : Nat} {us : List Value} {z v0 v1 v2 v3 v4 v5 : Value} (h : OwnV w B (.slice (some ⟨g, 0, none⟩) (us.length + 1) cap) (us ++ [z])) (h1 : ∀ x ∈ [v0, v1, v2, v3, v4, v5], x.oneCell' = true)
    (hW : ((((((w.setCell ⟨g, us.length * 6, none⟩ v0).setCell ⟨g, us.length * 6 + 1, none⟩ v1).setCell ⟨g, us.length * 6 + 2, none⟩ v2).setCell ⟨g, us.length * 6 + 3, none⟩ v3).setCell ⟨g, us.length * 6 + 4, none⟩ v4).setCell ⟨g, us.length * 6 + 5, none⟩ v5) = w') :
    OwnV w' B (.slice (some ⟨g, 0, none⟩) (us.length + 1) cap) (us ++ [.agg #[v0, v1, v2, v3, v4, v5]]) ∧ (∀ b, b ≠ g → w'.heap[b]? = w.heap[b]?) ∧ w'.heap.size = w.heap.size ∧ ∀ x k, k ≤ g → Below k x w → Below k x w' := by
  obtain ⟨h2, h3, h4, h5⟩ := Copied.ownV_set (q := us.length) h (by simp) h1 hW
  refine ⟨?_, h3, h4, h5⟩
  have e : (us ++ [z]).set us.length (.agg #[v0, v1, v2, v3, v4, v5]) = us ++ [.agg #[v0, v1, v2, v3, v4, v5]] := by
    rw [List.set_append_right _ _ (Nat.le_refl _)]
    simp
  rw [e] at h2
  exact h2
theorem zc_of {w : World} {Z : Nat} {cs : List Value} {t : TypeId} (h : w.heap[Z]? = some (.cells cs.toArray t (0, 0))) : ∀ j u, cs[j]? = some u → w.cell? ((⟨Z, 0, none⟩ : Addr).add j) = some u := by
  intro j u hu
  rw [add_none, Nat.zero_add]
  unfold World.cell?
  rw [h]
  simpa using hu
/-- An append in a region, by what it answers. -/
theorem op_append {P : Program} {o : Oper} {a : Act} {w w' : World} {K : Act → World → Prop} {Q : Exit → Act → World → Prop} {y : Nat → Option Bool} (hg : o.guard = none) (s x : Operand) (t : TypeId) (ho : o.op = .call { callee := .builtin .append, args := #[s, x], argTypes := #[t, t] })
    {v v' : Value} {ad : Addr} {m c : Nat} (hs : a.eval s = v) (hx : a.eval x = .slice (some ad) m c) (hr : (Builtin.append_ #[t, t] o.type #[v, .slice (some ad) m c]).run P w = .ok v' w') (h : K (a.put o.dst v') w') :
    if Region.wanted o y = true then Oper.wp P o a w K Q else K (a.put o.dst undef) w := by
  rw [if_pos (by simp [Region.wanted, hg])]
  unfold Oper.wp execOp
  simp only [ho, resolve, invoke, builtin, Sem.run_bind, Sem.run_pure, Result.andThen_ok, List.map_toArray, List.map_cons, List.map_nil, hs, hx, hr]
  exact h
end Go.Proofs.YtopjadjaknmfeabGreatDoor.LState
namespace Go.Proofs.YtopjadjaknmfeabGreatDoor.Doc
open Go.RowKit Go.Proofs.YtopjadjaknmfeabGreatDoor.Base Go.Proofs.YtopjadjaknmfeabGreatDoor.UBase Go.Proofs.YtopjadjaknmfeabGreatDoor.Spec Go.Proofs.YtopjadjaknmfeabGreatDoor.Rdr Go.Proofs.YtopjadjaknmfeabGreatDoor.Take Go.Proofs.YtopjadjaknmfeabGreatDoor.Skip Go.Proofs.YtopjadjaknmfeabGreatDoor.Own Go.Proofs.YtopjadjaknmfeabGreatDoor.LState
set_option linter.unusedVariables false
theorem two_box {w : World} {B : Nat} {v0 v1 : Value} {t : TypeId} (h : w.heap[B]? = some (.cells #[v0, v1] t (0, 0))) : w.cell? ⟨B, 0, none⟩ = some v0 ∧ w.cell? ⟨B, 1, none⟩ = some v1 := by
  refine ⟨?_, ?_⟩ <;> simp [World.cell?, h]
theorem wp_tmps {P : Program} {c : Code} {Q : Exit → Act → World → Prop} {T : Array Value} (L : Array Value) {w : World} (e : T = L) (h : c.wp P Q { tmps := L, defers := [] } w) : c.wp P Q { tmps := T, defers := [] } w := by
  subst e; exact h
theorem as_no (w : World) : (Instr.typeAssert .nilIface 20 48 true).run Tryz.prog w = .ok (.tuple #[.agg #[.int .i64 0, .int .i64 0], .bool false]) w := by
  simp [Instr.typeAssert, run_underlying Tryz.underlying48, Tryz.zeroValue48]
theorem as_yes (v : Value) (w : World) : (Instr.typeAssert (.iface 48 v) 20 48 true).run Tryz.prog w = .ok (.tuple #[v, .bool true]) w := by
  simp [Instr.typeAssert, run_underlying Tryz.underlying48]
set_option maxRecDepth 20000 in
theorem catch_idle (p q : Addr) (w : World) :
    CallsD Tryz.prog 38 #[.pointer (some p), .pointer (some q)] .returning w fun e u' w' => e = .returned (.tuple #[]) ∧ u' = .returning ∧ Below w.heap.size w w' := by
  refine callsD_of_wpS Tryz.func38 rfl fun c₀ cs hu => ?_
  apply wpS_seq
  apply wpS_region
  simp [wpOpsS, go_sem, recoverD, hu, Tryz.ntmps38, Exit.thenS, as_no]
  refine wpS_of_wp ?_
  change Code.wp _ _ _ { tmps := #[.pointer (some p), .pointer (some q), .pointer (some ⟨w.heap.size, 0, none⟩), .bool false, .tuple #[.agg #[.int .i64 0, .int .i64 0], .bool false], .nilIface, .tuple #[.agg #[.int .i64 0, .int .i64 0], .bool false], .agg #[.int .i64 0, .int .i64 0], .bool false, undef, undef, undef], defers := [] } _
  go_wp2
  cases c₀
  simp_all [bodyPostS, results, Tryz.results38]
  exact (Below.refl _ w).alloc (Nat.le_refl _) _
set_option maxRecDepth 20000 in
set_option maxHeartbeats 1600000 in
theorem catch_fault (V M : Nat) (c0 c1 : Int) (older : List PanicEntry) (w : World) (y0 y1 y2 y3 y4 y5 z0 z1 : Value) (hV : w.heap[V]? = some (.cells #[y0, y1, y2, y3, y4, y5] 27 (0, 0))) (hM : w.heap[M]? = some (.cells #[z0, z1] 48 (0, 0))) :
    CallsD Tryz.prog 38 #[.pointer (some ⟨V, 0, none⟩), .pointer (some ⟨M, 0, none⟩)] (.panicking ({ v := .iface 48 (.agg #[.int .i64 c0, .int .i64 c1]), recovered := false } :: older)) w fun e u' w' => e = .returned (.tuple #[]) ∧
      u' = .panicking ({ v := .iface 48 (.agg #[.int .i64 c0, .int .i64 c1]), recovered := true } :: older) ∧ w'.heap[V]? = some (.cells #[.int .i64 0, .bool false, .int .i64 0, .string ⟨#[]⟩, .slice none 0 0, .slice none 0 0] 27 (0, 0)) ∧
        w'.heap[M]? = some (.cells #[.int .i64 c0, .int .i64 c1] 48 (0, 0)) ∧ ∀ n, n ≤ V → n ≤ M → Below n w w' := by
  have hVl : V < w.heap.size := (Array.getElem?_eq_some_iff.1 hV).1
  have hMl : M < w.heap.size := (Array.getElem?_eq_some_iff.1 hM).1
  have hVM : V ≠ M := fun e => by subst e; rw [hV] at hM; simp at hM
  obtain ⟨W, hW⟩ : ∃ W, w.alloc (.cells #[.int .i64 c0, .int .i64 c1] 48) = W := ⟨_, rfl⟩
  have hV1 : W.heap[V]? = some (.cells #[y0, y1, y2, y3, y4, y5] 27 (0, 0)) := by rw [← hW, Below.heap_alloc _ _ _ hVl]; exact hV
  have hM1 : W.heap[M]? = some (.cells #[z0, z1] 48 (0, 0)) := by rw [← hW, Below.heap_alloc _ _ _ hMl]; exact hM
  have hF1 : W.heap[w.heap.size]? = some (.cells #[.int .i64 c0, .int .i64 c1] 48 (0, 0)) := by rw [← hW]; exact heap_alloc_new w _
  have hB : Below w.heap.size w W := by rw [← hW]; exact (Below.refl _ w).alloc (Nat.le_refl _) _
  obtain ⟨d0, d1, d2, d3, d4, d5⟩ := six_box hV1
  have f0 := frozen_box hV1 0
  have f1 := frozen_box hV1 1
  have f2 := frozen_box hV1 2
  have f3 := frozen_box hV1 3
  have f4 := frozen_box hV1 4
  have f5 := frozen_box hV1 5
  have e0 : W.cell? ⟨M, 0, none⟩ = some z0 := (two_box hM1).1
  have e1 : W.cell? ⟨M, 1, none⟩ = some z1 := (two_box hM1).2
  have g0 := frozen_box hM1 0
  have g1 := frozen_box hM1 1
  have a0 : W.cell? ⟨w.heap.size, 0, none⟩ = some (.int .i64 c0) := (two_box hF1).1
  have a1 : W.cell? ⟨w.heap.size, 1, none⟩ = some (.int .i64 c1) := (two_box hF1).2
  have n1 : V ≠ M := hVM
  have n2 : M ≠ V := hVM.symm
  have n3 : V ≠ w.heap.size := by omega
  have n4 : w.heap.size ≠ V := by omega
  have n5 : M ≠ w.heap.size := by omega
  have n6 : w.heap.size ≠ M := by omega
  refine callsD_of_wpS Tryz.func38 rfl fun c₀ cs hu => ?_
  apply wpS_seq
  apply wpS_region
  simp [wpOpsS, go_sem, recoverD, hu, Tryz.ntmps38, Exit.thenS, as_yes]
  refine wpS_of_wp ?_
  rw [hW]
  refine wp_tmps (#[.pointer (some ⟨V, 0, none⟩), .pointer (some ⟨M, 0, none⟩), .pointer (some ⟨w.heap.size, 0, none⟩), .bool true, .tuple #[.agg #[.int .i64 c0, .int .i64 c1], .bool true], .iface 48 (.agg #[.int .i64 c0, .int .i64 c1]), .tuple #[.agg #[.int .i64 c0, .int .i64 c1], .bool true], .agg #[.int .i64 c0, .int .i64 c1], .bool true, undef, undef, undef]) (by kernel_rfl) ?_
  have HV1 : Hid (W.heap[V]? = some (.cells #[y0, y1, y2, y3, y4, y5] 27 (0, 0))) := hV1
  have HM1 : Hid (W.heap[M]? = some (.cells #[z0, z1] 48 (0, 0))) := hM1
  have HB : Hid (Below w.heap.size w W) := hB
  clear hV1 hM1 hF1 hB hV hM hW hVM
  go_wp2_with fail
  go_region
  obtain ⟨W6, hW6⟩ : ∃ W6, ((((((W.setCell ⟨V, 0, none⟩ (.int .i64 0)).setCell ⟨V, 1, none⟩ (.bool false)).setCell ⟨V, 2, none⟩ (.int .i64 0)).setCell ⟨V, 3, none⟩ (.string ⟨#[]⟩)).setCell ⟨V, 4, none⟩ (.slice none 0 0)).setCell ⟨V, 5, none⟩ (.slice none 0 0)) = W6 := ⟨_, rfl⟩
  rw [hW6]
  obtain ⟨q1, q2, q3, q4⟩ := set6 _ _ _ _ _ _ HV1.out hW6
  have m1 := (q2 M n2).trans HM1.out
  refine ⟨rfl, _, rfl, .tuple #[], results_none rfl _ _ _, rfl, rfl, ?_, ?_, fun n hV hM => (((q4 _ n hV (HB.out.mono (by omega))).setCell (p := ⟨M, 0, none⟩) hM _).setCell (p := ⟨M, 1, none⟩) hM _).drew⟩
  · show ((W6.setCell ⟨M, 0, none⟩ _).setCell ⟨M, 1, none⟩ _).heap[V]? = _
    rw [Below.heap_setCell _ _ _ _ n1, Below.heap_setCell _ _ _ _ n1]
    exact q1
  · show ((W6.setCell ⟨M, 0, none⟩ _).setCell ⟨M, 1, none⟩ _).heap[M]? = _
    rw [block_set (block_set m1 _) _]
    rfl
theorem fs_shape {w : World} {m : Nat} {S : Nat → Prop} {u : Value} {k x : Int} {bo : Bool} {t : ByteArray} {nn : List ByteArray} {l : List C} (h : Fs w m S u (.mk k bo x t nn l)) : ∃ an ln cn al ll cl, u = .agg #[.int .i64 k, .bool bo, .int .i64 x, .string t, .slice an ln cn, .slice al ll cl] := by
  cases m with
  | zero => rw [Fs] at h; exact h.elim
  | succ m =>
    rw [Fs] at h
    obtain ⟨nv, lv, us, T, rfl, -, -, -, -, -, -, hT, -, hV, -⟩ := h
    obtain ⟨a1, l1, c1, rfl⟩ : ∃ a l c, nv = .slice a l c := by
      rcases hT.2 with ⟨e, _⟩ | ⟨g, cap, cur, e, _⟩
      · exact ⟨_, _, _, e⟩
      · exact ⟨_, _, _, e⟩
    obtain ⟨a2, l2, c2, rfl⟩ : ∃ a l c, lv = .slice a l c := by
      rcases hV.1.2 with ⟨e, _⟩ | ⟨g, cap, cur, e, _⟩
      · exact ⟨_, _, _, e⟩
      · exact ⟨_, _, _, e⟩
    exact ⟨_, _, _, _, _, _, rfl⟩
theorem byt_mono {w : World} {R R' : Nat} {v : Value} {s : ByteArray} (h : Byt w R v s) (hR : R ≤ R') : Byt w R' v s := by
  obtain ⟨a, cap, h1, h2, h3, h4, h5⟩ := h
  refine ⟨a, cap, h1, h2, h3, h4, h5.imp id ?_⟩
  rintro ⟨g, o, e1, e2, e3⟩
  exact ⟨g, o, e1, by omega, e3⟩
/-- What comes of reading a text. -/
def dcs (s : ByteArray) : Except F C := match vl s 24 0 0 with
  | .error e => .error e
  | .ok (c, j, _) => if blk s j < s.size then .error (600, blk s j) else .ok c
def Dout (w : World) (X : Except F C) (e : Ending) (w' : World) : Prop := Below w.heap.size w w' ∧ match X with
  | .ok c => ∃ u, e = .returned (.tuple #[u, .agg #[.int .i64 0, .int .i64 0]]) ∧ Fs w' 24 (Rg w.heap.size w'.heap.size) u c
  | .error x => e = .returned (.tuple #[.agg #[.int .i64 0, .bool false, .int .i64 0, .string ⟨#[]⟩, .slice none 0 0, .slice none 0 0], .agg #[.int .i64 x.1, .int .i64 x.2]])
set_option maxRecDepth 20000 in
set_option maxHeartbeats 1600000 in
theorem doc_c {a : Option Addr} {cap : Nat} {w : World} {s : ByteArray} (hv : VIs 24 1 24) (hs : s.size ≤ 65536) (hb : Byt w w.heap.size (.slice a s.size cap) s) (ht : Lib.Utf8Tabs 0 1 w) (hg : 0 < w.heap.size ∧ 1 < w.heap.size) :
    Calls Tryz.prog 21 #[.slice a s.size cap] w (Dout w (dcs s)) := by
  have hmf : ∀ (fn : Fn) (first cap : Array Value) (w : World), (Instr.makeFunc fn first cap).run Tryz.prog w = .ok (.func fn first cap) w := fun _ _ _ _ => rfl
  obtain ⟨W, hW⟩ : ∃ W, ((w.alloc (.cells #[.int .i64 0, .bool false, .int .i64 0, .string ⟨#[]⟩, .slice none 0 0, .slice none 0 0] 27)).alloc (.cells #[.int .i64 0, .int .i64 0] 48)).alloc (.cells #[.slice a s.size cap, .int .i64 0, .int .i64 0] 69) = W := ⟨_, rfl⟩
  have bW : Below w.heap.size w W := by rw [← hW]; exact (((Below.refl _ w).alloc (Nat.le_refl _) _).alloc (by simp) _).alloc (by simp <;> omega) _
  have sW : W.heap.size = w.heap.size + 3 := by rw [← hW]; simp
  have zV : W.heap[w.heap.size]? = some (.cells #[.int .i64 0, .bool false, .int .i64 0, .string ⟨#[]⟩, .slice none 0 0, .slice none 0 0] 27 (0, 0)) := by rw [← hW, Below.heap_alloc _ _ _ (by simp <;> omega), Below.heap_alloc _ _ _ (by simp), heap_alloc_new]
  have zM : W.heap[w.heap.size + 1]? = some (.cells #[.int .i64 0, .int .i64 0] 48 (0, 0)) := by
    rw [← hW, Below.heap_alloc _ _ _ (by simp)]
    have := heap_alloc_new (w.alloc (.cells #[.int .i64 0, .bool false, .int .i64 0, .string ⟨#[]⟩, .slice none 0 0, .slice none 0 0] 27)) (.cells #[.int .i64 0, .int .i64 0] 48)
    rwa [World.size_alloc] at this
  have zR : W.heap[w.heap.size + 1 + 1]? = some (.cells #[.slice a s.size cap, .int .i64 (0 : Nat), .int .i64 (0 : Nat)] 69 (0, 0)) := by
    rw [← hW]
    have := heap_alloc_new ((w.alloc (.cells #[.int .i64 0, .bool false, .int .i64 0, .string ⟨#[]⟩, .slice none 0 0, .slice none 0 0] 27)).alloc (.cells #[.int .i64 0, .int .i64 0] 48)) (.cells #[.slice a s.size cap, .int .i64 0, .int .i64 0] 69)
    rwa [World.size_alloc, World.size_alloc] at this
  have hR : Rd W (w.heap.size + 1 + 1) (.slice a s.size cap) s 0 0 := by
    exact ⟨zR, byt_mono (hb.keep fun k hk => bW.block k hk) (by omega), by omega, by omega, hs, tab_keep ht (bW.block _ hg.1) (bW.block _ hg.2), by omega, by omega⟩
  have cV := hv W _ _ _ _ _ hR
  unfold dcs
  obtain ⟨X, hX⟩ : ∃ X, vl s 24 0 0 = X := ⟨_, rfl⟩
  rw [hX] at cV ⊢
  unfold ptr at cV
  rw [← hW] at cV
  have HW : Hid (((w.alloc (.cells #[.int .i64 0, .bool false, .int .i64 0, .string ⟨#[]⟩, .slice none 0 0, .slice none 0 0] 27)).alloc (.cells #[.int .i64 0, .int .i64 0] 48)).alloc (.cells #[.slice a s.size cap, .int .i64 0, .int .i64 0] 69) = W) := hW
  have HBY : Hid (Byt w w.heap.size (.slice a s.size cap) s) := hb
  have HTB : Hid (Lib.Utf8Tabs 0 1 w) := ht
  clear hX hW zR hR hb ht hv
  cases X with
  | error x =>
    go_enter_defers Tryz.func21, Tryz.ntmps21
    go_wp2_with (go_at_call 39; refine cV.mono ?_; rintro e w4 ⟨k4, rfl⟩; rw [HW.out] at k4)
    have gV := (k4.other w.heap.size (by omega) (by omega)).trans zV
    have gM := (k4.other (w.heap.size + 1) (by omega) (by omega)).trans zM
    have HBL : Hid (Below w.heap.size w w4) := bW.trans (k4.below.mono (by omega))
    refine leaves_cons (f := 38) (args := #[.pointer (some ⟨w.heap.size, 0, none⟩), .pointer (some ⟨w.heap.size + 1, 0, none⟩)]) (by simp) (by simp [go_sem]) ?_
    refine (catch_fault w.heap.size (w.heap.size + 1) x.1 x.2 [] w4 _ _ _ _ _ _ _ _ gV gM).mono ?_
    rintro e u' w5 ⟨rfl, rfl, r1, r2, r3⟩
    obtain ⟨c0, c1, c2, c3, c4, c5⟩ := six_box r1
    obtain ⟨m0, m1⟩ := two_box r2
    have HD : Hid (Below w.heap.size w w5) := HBL.out.trans (r3 _ (by omega) (by omega))
    simp [Leaves, settle, results, Tryz.results21, go_sem, c0, c1, c2, c3, c4, c5, m0, m1]
    exact ⟨HD.out, rfl⟩
  | ok y =>
    obtain ⟨⟨k, bo, x, t, nn, l⟩, j, b'⟩ := y
    dsimp only
    by_cases hlt : blk s j < s.size
    · rw [if_pos hlt]
      go_enter_defers Tryz.func21, Tryz.ntmps21
      go_wp2_with (
        go_at_call 39
        refine cV.mono ?_
        rintro e w4 ⟨k4, ⟨u4, rfl, hfs⟩, h4⟩
        rw [HW.out] at k4 hfs
        obtain ⟨an, ln, cn, al, ll, cl, rfl⟩ := fs_shape hfs
        have gV := (k4.other w.heap.size (by omega) (by omega)).trans zV
        have gM := (k4.other (w.heap.size + 1) (by omega) (by omega)).trans zM
        obtain ⟨W6, hW6⟩ : ∃ W6, ((((((w4.setCell ⟨w.heap.size, 0, none⟩ (.int .i64 k)).setCell ⟨w.heap.size, 1, none⟩ (.bool bo)).setCell ⟨w.heap.size, 2, none⟩ (.int .i64 x)).setCell ⟨w.heap.size, 3, none⟩ (.string t)).setCell ⟨w.heap.size, 4, none⟩ (.slice an ln cn)).setCell ⟨w.heap.size, 5, none⟩ (.slice al ll cl)) = W6 := ⟨_, rfl⟩
        obtain ⟨q1, q2, q3, q4⟩ := set6 _ _ _ _ _ _ gV hW6
        have bw6 : Below w.heap.size w W6 := q4 _ _ (Nat.le_refl _) (bW.trans (k4.below.mono (by omega)))
        have h6 : Rd W6 (w.heap.size + 1 + 1) (.slice a s.size cap) s j b' := ⟨(q2 _ (by omega)).trans h4.box, byt_mono (HBY.out.keep fun k hk => bw6.block k hk) (by omega), h4.le, h4.lb, hs, tab_keep HTB.out (bw6.block _ hg.1) (bw6.block _ hg.2), by omega, by omega⟩
        have c40 := blanks_c h6
        unfold ptr at c40
        have HFS : Hid (Fs w4 24 (Rg W.heap.size w4.heap.size) (.agg #[.int .i64 k, .bool bo, .int .i64 x, .string t, .slice an ln cn, .slice al ll cl]) (.mk k bo x t nn l)) := hfs
        have HS4 : Hid (W.heap.size ≤ w4.heap.size ∧ W6.heap.size = w4.heap.size) := ⟨k4.below.size, q3⟩
        have HQ1 : Hid (W6.heap[w.heap.size]? = some (.cells #[.int .i64 k, .bool bo, .int .i64 x, .string t, .slice an ln cn, .slice al ll cl] 27 (0, 0))) := q1
        have HQ2 : Hid (∀ b, b ≠ w.heap.size → W6.heap[b]? = w4.heap[b]?) := q2
        have HGM : Hid (w4.heap[w.heap.size + 1]? = some (.cells #[.int .i64 0, .int .i64 0] 48 (0, 0))) := gM
        have HBW : Hid (Below w.heap.size w W6) := bw6
        obtain ⟨d0, d1, d2, d3, d4, d5⟩ := six_box gV
        have f0 := frozen_box gV 0
        have f1 := frozen_box gV 1
        have f2 := frozen_box gV 2
        have f3 := frozen_box gV 3
        have f4 := frozen_box gV 4
        have f5 := frozen_box gV 5
        rw [← hW6] at c40
        have HW6 : Hid (((((((w4.setCell ⟨w.heap.size, 0, none⟩ (.int .i64 k)).setCell ⟨w.heap.size, 1, none⟩ (.bool bo)).setCell ⟨w.heap.size, 2, none⟩ (.int .i64 x)).setCell ⟨w.heap.size, 3, none⟩ (.string t)).setCell ⟨w.heap.size, 4, none⟩ (.slice an ln cn)).setCell ⟨w.heap.size, 5, none⟩ (.slice al ll cl)) = W6) := hW6
        clear hfs gV gM hW6 q1 q2 q3 q4 bw6 h6 h4 cV)
      go_wp2_with (
        go_at_call 40
        refine c40.mono ?_
        rintro e w7 ⟨⟨r7, rfl⟩, h7, k7⟩
        rw [HW6.out] at k7
        obtain ⟨kk0, kk1, kk2, ff1, ff2⟩ := h7.cells
        have HS7 : Hid (W6.heap.size ≤ w7.heap.size) := k7.below.size
        have gV := (k7.other w.heap.size (by omega) (by have := HS4.out; omega)).trans HQ1.out
        have gM := (k7.other (w.heap.size + 1) (by omega) (by have := HS4.out; omega)).trans ((HQ2.out (w.heap.size + 1) (by omega)).trans HGM.out)
        have HBL : Hid (Below w.heap.size w w7) := HBW.out.trans (k7.below.mono (by omega))
        have c41 := refuse_c h7
        unfold ptr at c41
        have HGV : Hid (w7.heap[w.heap.size]? = some (.cells #[.int .i64 k, .bool bo, .int .i64 x, .string t, .slice an ln cn, .slice al ll cl] 27 (0, 0))) := gV
        have HGM7 : Hid (w7.heap[w.heap.size + 1]? = some (.cells #[.int .i64 0, .int .i64 0] 48 (0, 0))) := gM
        obtain ⟨y0, y1, y2, y3, y4, y5⟩ := six_box gV
        obtain ⟨z0, z1⟩ := two_box gM
        have g0 := frozen_box gV 0
        have g1 := frozen_box gV 1
        have g2 := frozen_box gV 2
        have g3 := frozen_box gV 3
        have g4 := frozen_box gV 4
        have g5 := frozen_box gV 5
        have n0 := frozen_box gM 0
        have n1 := frozen_box gM 1
        have HH7 : Hid (∀ g, g ≠ w.heap.size → g ≠ w.heap.size + 1 + 1 → g < w4.heap.size → w7.heap[g]? = w4.heap[g]?) := fun g e1 e2 e3 => (k7.other g e2 (by have := HS4.out; omega)).trans (HQ2.out g e1)
        clear c40 d0 d1 d2 d3 d4 d5 f0 f1 f2 f3 f4 f5 gV gM h7 k7)
      go_wp2_with (go_at_call 41; refine c41.mono ?_; rintro e w8 ⟨rfl, rfl⟩)
      have gV := HGV.out
      have gM := HGM7.out
      refine leaves_cons (f := 38) (args := #[.pointer (some ⟨w.heap.size, 0, none⟩), .pointer (some ⟨w.heap.size + 1, 0, none⟩)]) (by simp) (by simp [go_sem]) ?_
      refine (catch_fault w.heap.size (w.heap.size + 1) 600 (blk s j : Nat) [] _ _ _ _ _ _ _ _ _ gV gM).mono ?_
      rintro e u' w5 ⟨rfl, rfl, r1, r2, r3⟩
      obtain ⟨c0, c1, c2, c3, c4, c5⟩ := six_box r1
      obtain ⟨m0, m1⟩ := two_box r2
      have HD : Hid (Below w.heap.size w w5) := HBL.out.trans (r3 _ (by omega) (by omega))
      simp [Leaves, settle, results, Tryz.results21, go_sem, c0, c1, c2, c3, c4, c5, m0, m1]
      exact ⟨HD.out, rfl⟩
    · rw [if_neg hlt]
      go_enter_defers Tryz.func21, Tryz.ntmps21
      go_wp2_with (
        go_at_call 39
        refine cV.mono ?_
        rintro e w4 ⟨k4, ⟨u4, rfl, hfs⟩, h4⟩
        rw [HW.out] at k4 hfs
        obtain ⟨an, ln, cn, al, ll, cl, rfl⟩ := fs_shape hfs
        have gV := (k4.other w.heap.size (by omega) (by omega)).trans zV
        have gM := (k4.other (w.heap.size + 1) (by omega) (by omega)).trans zM
        obtain ⟨W6, hW6⟩ : ∃ W6, ((((((w4.setCell ⟨w.heap.size, 0, none⟩ (.int .i64 k)).setCell ⟨w.heap.size, 1, none⟩ (.bool bo)).setCell ⟨w.heap.size, 2, none⟩ (.int .i64 x)).setCell ⟨w.heap.size, 3, none⟩ (.string t)).setCell ⟨w.heap.size, 4, none⟩ (.slice an ln cn)).setCell ⟨w.heap.size, 5, none⟩ (.slice al ll cl)) = W6 := ⟨_, rfl⟩
        obtain ⟨q1, q2, q3, q4⟩ := set6 _ _ _ _ _ _ gV hW6
        have bw6 : Below w.heap.size w W6 := q4 _ _ (Nat.le_refl _) (bW.trans (k4.below.mono (by omega)))
        have h6 : Rd W6 (w.heap.size + 1 + 1) (.slice a s.size cap) s j b' := ⟨(q2 _ (by omega)).trans h4.box, byt_mono (HBY.out.keep fun k hk => bw6.block k hk) (by omega), h4.le, h4.lb, hs, tab_keep HTB.out (bw6.block _ hg.1) (bw6.block _ hg.2), by omega, by omega⟩
        have c40 := blanks_c h6
        unfold ptr at c40
        have HFS : Hid (Fs w4 24 (Rg W.heap.size w4.heap.size) (.agg #[.int .i64 k, .bool bo, .int .i64 x, .string t, .slice an ln cn, .slice al ll cl]) (.mk k bo x t nn l)) := hfs
        have HS4 : Hid (W.heap.size ≤ w4.heap.size ∧ W6.heap.size = w4.heap.size) := ⟨k4.below.size, q3⟩
        have HQ1 : Hid (W6.heap[w.heap.size]? = some (.cells #[.int .i64 k, .bool bo, .int .i64 x, .string t, .slice an ln cn, .slice al ll cl] 27 (0, 0))) := q1
        have HQ2 : Hid (∀ b, b ≠ w.heap.size → W6.heap[b]? = w4.heap[b]?) := q2
        have HGM : Hid (w4.heap[w.heap.size + 1]? = some (.cells #[.int .i64 0, .int .i64 0] 48 (0, 0))) := gM
        have HBW : Hid (Below w.heap.size w W6) := bw6
        obtain ⟨d0, d1, d2, d3, d4, d5⟩ := six_box gV
        have f0 := frozen_box gV 0
        have f1 := frozen_box gV 1
        have f2 := frozen_box gV 2
        have f3 := frozen_box gV 3
        have f4 := frozen_box gV 4
        have f5 := frozen_box gV 5
        rw [← hW6] at c40
        have HW6 : Hid (((((((w4.setCell ⟨w.heap.size, 0, none⟩ (.int .i64 k)).setCell ⟨w.heap.size, 1, none⟩ (.bool bo)).setCell ⟨w.heap.size, 2, none⟩ (.int .i64 x)).setCell ⟨w.heap.size, 3, none⟩ (.string t)).setCell ⟨w.heap.size, 4, none⟩ (.slice an ln cn)).setCell ⟨w.heap.size, 5, none⟩ (.slice al ll cl)) = W6) := hW6
        clear hfs gV gM hW6 q1 q2 q3 q4 bw6 h6 h4 cV)
      go_wp2_with (
        go_at_call 40
        refine c40.mono ?_
        rintro e w7 ⟨⟨r7, rfl⟩, h7, k7⟩
        rw [HW6.out] at k7
        obtain ⟨kk0, kk1, kk2, ff1, ff2⟩ := h7.cells
        have HS7 : Hid (W6.heap.size ≤ w7.heap.size) := k7.below.size
        have gV := (k7.other w.heap.size (by omega) (by have := HS4.out; omega)).trans HQ1.out
        have gM := (k7.other (w.heap.size + 1) (by omega) (by have := HS4.out; omega)).trans ((HQ2.out (w.heap.size + 1) (by omega)).trans HGM.out)
        have HBL : Hid (Below w.heap.size w w7) := HBW.out.trans (k7.below.mono (by omega))
        have c41 := refuse_c h7
        unfold ptr at c41
        have HGV : Hid (w7.heap[w.heap.size]? = some (.cells #[.int .i64 k, .bool bo, .int .i64 x, .string t, .slice an ln cn, .slice al ll cl] 27 (0, 0))) := gV
        have HGM7 : Hid (w7.heap[w.heap.size + 1]? = some (.cells #[.int .i64 0, .int .i64 0] 48 (0, 0))) := gM
        obtain ⟨y0, y1, y2, y3, y4, y5⟩ := six_box gV
        obtain ⟨z0, z1⟩ := two_box gM
        have g0 := frozen_box gV 0
        have g1 := frozen_box gV 1
        have g2 := frozen_box gV 2
        have g3 := frozen_box gV 3
        have g4 := frozen_box gV 4
        have g5 := frozen_box gV 5
        have n0 := frozen_box gM 0
        have n1 := frozen_box gM 1
        have HH7 : Hid (∀ g, g ≠ w.heap.size → g ≠ w.heap.size + 1 + 1 → g < w4.heap.size → w7.heap[g]? = w4.heap[g]?) := fun g e1 e2 e3 => (k7.other g e2 (by have := HS4.out; omega)).trans (HQ2.out g e1)
        clear c40 d0 d1 d2 d3 d4 d5 f0 f1 f2 f3 f4 f5 gV gM h7 k7)
      go_region
      obtain ⟨W8, hW8⟩ : ∃ W8, ((((((w7.setCell ⟨w.heap.size, 0, none⟩ (.int .i64 k)).setCell ⟨w.heap.size, 1, none⟩ (.bool bo)).setCell ⟨w.heap.size, 2, none⟩ (.int .i64 x)).setCell ⟨w.heap.size, 3, none⟩ (.string t)).setCell ⟨w.heap.size, 4, none⟩ (.slice an ln cn)).setCell ⟨w.heap.size, 5, none⟩ (.slice al ll cl)) = W8 := ⟨_, rfl⟩
      rw [hW8]
      obtain ⟨p1, p2, p3, p4⟩ := set6 _ _ _ _ _ _ HGV.out hW8
      obtain ⟨W9, hW9⟩ : ∃ W9, (W8.setCell ⟨w.heap.size + 1, 0, none⟩ (.int .i64 0)).setCell ⟨w.heap.size + 1, 1, none⟩ (.int .i64 0) = W9 := ⟨_, rfl⟩
      rw [hW9]
      have v9 : W9.heap[w.heap.size]? = some (.cells #[.int .i64 k, .bool bo, .int .i64 x, .string t, .slice an ln cn, .slice al ll cl] 27 (0, 0)) := by rw [← hW9, Below.heap_setCell _ _ _ _ (by simp), Below.heap_setCell _ _ _ _ (by simp)]; exact p1
      have m9 : W9.heap[w.heap.size + 1]? = some (.cells #[.int .i64 0, .int .i64 0] 48 (0, 0)) := by
        rw [← hW9, block_set (block_set ((p2 _ (by omega)).trans HGM7.out) _) _]; rfl
      have o9 : ∀ g, g ≠ w.heap.size → g ≠ w.heap.size + 1 → W9.heap[g]? = w7.heap[g]? := fun g e1 e2 => by rw [← hW9, Below.heap_setCell _ _ _ _ e2, Below.heap_setCell _ _ _ _ e2]; exact p2 g e1
      go_wp2_with fail
      have s9 : W9.heap.size = w7.heap.size := by rw [← hW9, ← p3]; simp [World.setCell]
      have b9 : Below w.heap.size w W9 := by rw [← hW9]; exact ((p4 _ _ (Nat.le_refl _) HBL.out).setCell (p := ⟨w.heap.size + 1, 0, none⟩) (by simp) _).setCell (p := ⟨w.heap.size + 1, 1, none⟩) (by simp) _
      have z4 := HS4.out
      have z7 := HS7.out
      refine leaves_cons (f := 38) (args := #[.pointer (some ⟨w.heap.size, 0, none⟩), .pointer (some ⟨w.heap.size + 1, 0, none⟩)]) (by simp) (by simp [go_sem]) ?_
      refine (catch_idle ⟨w.heap.size, 0, none⟩ ⟨w.heap.size + 1, 0, none⟩ W9.drew).mono ?_
      rintro e u' wa ⟨rfl, rfl, ba⟩
      have ba : Below W9.heap.size W9 wa := (Below.refl _ W9).drew.trans ba
      have sa := ba.size
      obtain ⟨c0, c1, c2, c3, c4, c5⟩ := six_box ((ba.block w.heap.size (by omega)).trans v9)
      obtain ⟨m0, m1⟩ := two_box ((ba.block (w.heap.size + 1) (by omega)).trans m9)
      have HD : Hid (Below w.heap.size w wa) := b9.trans (ba.mono (by omega))
      have HF : Hid (Fs wa 24 (Rg w.heap.size wa.heap.size) (.agg #[.int .i64 k, .bool bo, .int .i64 x, .string t, .slice an ln cn, .slice al ll cl]) (.mk k bo x t nn l)) :=
        ((HFS.out.keep fun g hg hlt => (ba.block g (by omega)).trans ((o9 g (by have := hg.1; omega) (by have := hg.1; omega)).trans (HH7.out g (by have := hg.1; omega) (by have := hg.1; omega) hlt))).weak _ (Nat.le_refl _) fun g hg => ⟨by have := hg.1; omega, by have := hg.2; omega⟩)
      simp [Leaves, settle, results, Tryz.results21, go_sem, c0, c1, c2, c3, c4, c5, m0, m1]
      exact ⟨HD.out, _, rfl, HF.out⟩
end Go.Proofs.YtopjadjaknmfeabGreatDoor.Doc

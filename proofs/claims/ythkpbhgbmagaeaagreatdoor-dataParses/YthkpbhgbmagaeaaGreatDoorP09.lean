import Derived.BigQuiet
import Derived.Deep.QuietTactic
import Derived.Maps.AppendAt
import Derived.Test.YthkpbhgbmagaeaaGreatDoorP05
import Derived.Test.YthkpbhgbmagaeaaGreatDoorP06
import Derived.Test.YthkpbhgbmagaeaaGreatDoorP07
import Derived.Test.YthkpbhgbmagaeaaGreatDoorP08
namespace Go.Proofs.YthkpbhgbmagaeaaGreatDoor.Skip
open Go.RowKit Go.Proofs.YthkpbhgbmagaeaaGreatDoor.Base Go.Proofs.YthkpbhgbmagaeaaGreatDoor.UBase Go.Proofs.YthkpbhgbmagaeaaGreatDoor.Spec Go.Proofs.YthkpbhgbmagaeaaGreatDoor.Rdr Go.Proofs.YthkpbhgbmagaeaaGreatDoor.Take
set_option linter.unusedVariables false
def isin (t : ByteArray) (c : Nat) : Bool := decide (0 ≤ Lib.indexByte t.data.toList (c : Int).toNat.toUInt8)
theorem isof_c (t : ByteArray) (c : Nat) (w : World) :
  Calls Tryz.prog 52 #[.string t, .int .u8 c] w fun e w' => e = .returned (.bool (isin t c)) ∧ w' = w := by
 have c94 := Tryz.strings_IndexByte t c w
 unfold isin
 generalize Lib.indexByte t.data.toList (c : Int).toNat.toUInt8 = x at *
 go_enter Tryz.func52, Tryz.ntmps52
 go_wp2_with (go_at_call 68; refine c94.mono ?_; rintro e w' ⟨rfl, rfl⟩)
 go_ret
 exact ⟨rfl, rfl⟩
def blanks : ByteArray := ⟨#[32, 9, 10, 13]⟩
def digits : ByteArray := ⟨#[48, 49, 50, 51, 52, 53, 54, 55, 56, 57]⟩
def starts : ByteArray := ⟨#[110, 116, 102, 45, 34, 91, 123, 48, 49, 50, 51, 52, 53, 54, 55, 56, 57]⟩
theorem isin_blanks (c : Nat) (h : c < 256) : isin blanks c = isb c := by
 have : ∀ c : Fin 256, isin blanks c.1 = isb c.1 := by decide +kernel
 exact this ⟨c, h⟩
theorem isin_digits (c : Nat) (h : c < 256) : isin digits c = dig c := by
 have : ∀ c : Fin 256, isin digits c.1 = dig c.1 := by decide +kernel
 exact this ⟨c, h⟩
theorem isin_starts (c : Nat) (h : c < 256) : isin starts c = beg c := by
 have : ∀ c : Fin 256, isin starts c.1 = beg c.1 := by decide +kernel
 exact this ⟨c, h⟩
/-- Past the bytes that are among these. -/
theorem skip_c {w : World} {R : Nat} {v : Value} {s : ByteArray} {i b : Nat} (t : ByteArray) (P : Nat → Nat) (hP : ∀ j, j < s.size → isin t (at' s j) = true → P j = P (j + 1)) (hS : ∀ j, j < s.size → isin t (at' s j) = false → P j = j) (hE : P s.size = s.size) (h : Rd w R v s i b) :
  Calls Tryz.prog 43 #[ptr R, .string t] w fun e w' => (∃ r, e = .returned r) ∧ Rd w' R v s (P i) b ∧ Kr R w w' := by
 have HP : Hid (∀ j, j < s.size → isin t (at' s j) = true → P j = P (j + 1)) := hP
 have HS : Hid (∀ j, j < s.size → isin t (at' s j) = false → P j = j) := hS
 have HE : Hid (P s.size = s.size) := hE
 have HR : Hid (Rd w R v s i b) := h
 have hsz := h.sz
 obtain ⟨a, cap, rfl, hc, -⟩ := h.byt
 clear hP hS hE h
 unfold ptr
 go_enter Tryz.func43, Tryz.ntmps43
 go_wp2_with fail
 go_loopw [] (fun wr => ∃ q : Nat, Rd wr R (.slice a s.size cap) s q b ∧ Kr R w wr ∧ P q = P i) (fun wr => s.size - plc R wr)
 case atStart => exact ⟨i, HR.out, Kr.refl _ _, rfl⟩
 case round =>
  obtain ⟨q, hr, hk, hq⟩ := hrel
  have hpl := hr.plc
  obtain ⟨k0, k1, k2, f1, f2⟩ := hr.cells
  have HQ : Hid (P q = P i) := hq
  have HPL : Hid (plc R wr = q) := hpl
  have HRq : Hid (Rd wr R (.slice a s.size cap) s q b) := hr
  by_cases hlt : q < s.size
  ·obtain ⟨g, o, cap', hv, hcc, kb⟩ := hr.byte hlt
   cases hv
   have hd : decide ((q : Int) < (s.size : Int)) = true := by simp; omega
   have hb := at_lt s q
   cases hx : isin t (at' s q) with
   | true =>
    have c76 : ∀ w', Calls Tryz.prog 52 #[.string t, .int .u8 (at' s q : Nat)] w' fun e w'' => e = .returned (.bool true) ∧ w'' = w' := fun w' => by rw [← hx]; exact isof_c t _ w'
    have HX : Hid (P q = P (q + 1)) := HP.out q hlt hx
    clear hr hpl hq hx
    generalize at' s q = x at *
    go_wp2_with fail
    go_quiet ((go_at_call 52; exact Calls.quiet_of_same (c76 _)))
    have h2 := (HRq.out.drewN nq).go (q + 1) (by omega)
    have k3 := (hk.drewN nq).set 1 (.int .i64 (q + 1 : Nat))
    obtain ⟨m0, m1, m2, n1, n2⟩ := (HRq.out.drewN nq).cells
    have HR2 : Hid (Rd ((wr.drewN nq).setCell ⟨R, 1, none⟩ (.int .i64 (q + 1 : Nat))) R (.slice (some ⟨g, o, none⟩) s.size cap) s (q + 1) b) := h2
    clear h2
    go_wp2_with fail
    go_roundw
    case rel => exact ⟨q + 1, HR2.out, k3, HX.out.symm.trans HQ.out⟩
    case measure =>
     have e1 := HPL.out
     have e2 : plc R ((wr.drewN nq).setCell ⟨R, 1, none⟩ (.int .i64 ((q : Int) + 1))) = q + 1 := HR2.out.plc
     show s.size - plc R _ < s.size - plc R wr
     rw [e1, e2]
     omega
   | false =>
    have c76 : ∀ w', Calls Tryz.prog 52 #[.string t, .int .u8 (at' s q : Nat)] w' fun e w'' => e = .returned (.bool false) ∧ w'' = w' := fun w' => by rw [← hx]; exact isof_c t _ w'
    have hfin : P i = q := HQ.out.symm.trans (HS.out q hlt hx)
    have HF : Hid (P i = q) := hfin
    clear hr hpl hq hx hfin
    generalize at' s q = x at *
    go_wp2_with fail
    go_quiet ((go_at_call 52; exact Calls.quiet_of_same (c76 _)))
    go_wp2_with fail
    go_end0
    rw [HF.out]
    exact ⟨⟨_, rfl⟩, HRq.out.drewN nq, hk.drewN nq⟩
  ·have hq2 : q = s.size := by have := hr.le; omega
   have hd : decide ((q : Int) < (s.size : Int)) = false := by simp; omega
   have hfin : P i = q := by rw [← HQ.out, hq2]; exact HE.out
   have HF : Hid (P i = q) := hfin
   clear hr hpl hq hfin hq2
   go_wp2_with fail
   go_quiet (fail)
   go_wp2_with fail
   go_end0
   rw [HF.out]
   exact ⟨⟨_, rfl⟩, HRq.out.drewN nq, hk.drewN nq⟩
/-- Past blanks. -/
theorem blanks_c {w : World} {R : Nat} {v : Value} {s : ByteArray} {i b : Nat} (h : Rd w R v s i b) :
  Calls Tryz.prog 25 #[ptr R] w fun e w' => (∃ r, e = .returned r) ∧ Rd w' R v s (blk s i) b ∧ Kr R w w' := by
 have c64 := skip_c blanks (blk s) (fun j hj he => blk_step hj (by rw [← isin_blanks _ (at_lt s j)]; exact he)) (fun j hj he => blk_stop (by rw [← isin_blanks _ (at_lt s j)]; exact he)) (blk_end (by omega)) h
 unfold ptr at c64 ⊢
 unfold blanks at c64
 clear h
 go_enter Tryz.func25, Tryz.ntmps25
 go_wp2_with (go_at_call 43; refine c64.mono ?_; rintro e w' ⟨⟨r, rfl⟩, h2, k2⟩)
 go_end0
 exact ⟨⟨_, rfl⟩, h2, k2⟩
/-- Past digits. -/
theorem digits_c {w : World} {R : Nat} {v : Value} {s : ByteArray} {i b : Nat} (h : Rd w R v s i b) :
  Calls Tryz.prog 43 #[ptr R, .string digits] w fun e w' => (∃ r, e = .returned r) ∧ Rd w' R v s (dgs s i) b ∧ Kr R w w' :=
 skip_c digits (dgs s) (fun j hj he => dgs_step hj (by rw [← isin_digits _ (at_lt s j)]; exact he)) (fun j hj he => dgs_stop (by rw [← isin_digits _ (at_lt s j)]; exact he)) (dgs_end (by omega)) h
/-- Where a value may begin: one more has begun, or the fault. -/
def bgn (d i b c : Nat) : Except F Unit := if beg c = true then (if 24 < d then .error (603, i) else if b = 16384 then .error (604, i) else .ok ()) else .error (600, i)
theorem begin_c {w : World} {R : Nat} {v : Value} {s : ByteArray} {i b : Nat} (d : Nat) (hd : d ≤ 25) (h : Rd w R v s i b) :
  Calls Tryz.prog 36 #[ptr R, .int .i64 d] w fun e w' => Kr R w w' ∧ match bgn d i b (at' s i) with
   | .ok _ => (∃ r, e = .returned r) ∧ Rd w' R v s i (b + 1)
   | .error x => e = .panicked (pk x) := by
 by_cases hi : i < s.size
 ·have c58 := next_c h hi
  have c41 := refuse_c h.drew.drew
  have c76 := isof_c starts (at' s i) w.drew.drew
  rw [isin_starts _ (at_lt s i)] at c76
  have k2' := ((Kr.refl R w).drew).drew
  unfold ptr at c58 c41 ⊢
  unfold starts at c76
  cases hb : beg (at' s i) with
  | false =>
   have e : bgn d i b (at' s i) = .error (600, i) := by unfold bgn; rw [hb]; rfl
   rw [e]
   rw [hb] at c76
   clear h e hb
   generalize at' s i = x at *
   go_enter Tryz.func36, Tryz.ntmps36
   go_wp2_with (first | (go_at_call 37; refine c58.mono ?_; rintro e w' ⟨rfl, rfl⟩) | (go_at_call 52; refine c76.mono ?_; rintro e w' ⟨rfl, rfl⟩) | (go_at_call 26; refine c41.mono ?_; rintro e w' ⟨rfl, rfl⟩))
   exact ⟨rfl, k2', rfl⟩
  | true =>
   rw [hb] at c76
   have hR2 := h.drew.drew
   obtain ⟨k0, k1, k2, f1, f2⟩ := hR2.cells
   by_cases h24 : 24 < d
   ·have e : bgn d i b (at' s i) = .error (603, i) := by unfold bgn; rw [hb, if_pos rfl, if_pos h24]
    rw [e]
    have hd' : decide ((24 : Int) < (d : Int)) = true := by simp; omega
    unfold pk
    clear h e hb hR2
    generalize at' s i = x at *
    go_enter Tryz.func36, Tryz.ntmps36
    go_wp2_with (first | (go_at_call 37; refine c58.mono ?_; rintro e w' ⟨rfl, rfl⟩) | (go_at_call 52; refine c76.mono ?_; rintro e w' ⟨rfl, rfl⟩))
    exact ⟨rfl, k2', rfl⟩
   ·have hd' : decide ((24 : Int) < (d : Int)) = false := by simp; omega
    by_cases hb2 : b = 16384
    ·have e : bgn d i b (at' s i) = .error (604, i) := by unfold bgn; rw [hb, if_pos rfl, if_neg h24, if_pos hb2]
     rw [e]
     have hb' : ((b : Int) == 16384) = true := by simp; omega
     unfold pk
     clear h e hb hR2 hb2
     generalize at' s i = x at *
     go_enter Tryz.func36, Tryz.ntmps36
     go_wp2_with (first | (go_at_call 37; refine c58.mono ?_; rintro e w' ⟨rfl, rfl⟩) | (go_at_call 52; refine c76.mono ?_; rintro e w' ⟨rfl, rfl⟩))
     exact ⟨rfl, k2', rfl⟩
    ·have e : bgn d i b (at' s i) = .ok () := by unfold bgn; rw [hb, if_pos rfl, if_neg h24, if_neg hb2]
     rw [e]
     have hb' : ((b : Int) == 16384) = false := by simp; omega
     have hlb := h.lb
     have h3 := hR2.begin (b + 1) (by omega)
     have k3 := k2'.set 2 (.int .i64 (b + 1 : Nat))
     clear h e hb hR2
     generalize at' s i = x at *
     go_enter Tryz.func36, Tryz.ntmps36
     go_wp2_with (first | (go_at_call 37; refine c58.mono ?_; rintro e w' ⟨rfl, rfl⟩) | (go_at_call 52; refine c76.mono ?_; rintro e w' ⟨rfl, rfl⟩))
     go_end0
     exact ⟨k3, ⟨_, rfl⟩, h3⟩
 ·have c58 := next_end h hi
  have e : bgn d i b (at' s i) = .error (600, i) := by unfold bgn; rw [at_out s i hi]; rfl
  rw [e]
  unfold ptr at c58 ⊢
  clear h e
  go_enter Tryz.func36, Tryz.ntmps36
  go_wp2_with (go_at_call 37; refine c58.mono ?_; rintro e w' ⟨rfl, rfl⟩)
  exact ⟨rfl, (Kr.refl R w).drew, rfl⟩
end Go.Proofs.YthkpbhgbmagaeaaGreatDoor.Skip
namespace Go.Proofs.YthkpbhgbmagaeaaGreatDoor.RowR
open Go.RowKit Go.Proofs.YthkpbhgbmagaeaaGreatDoor.Base Go.Proofs.YthkpbhgbmagaeaaGreatDoor.UBase Go.Proofs.YthkpbhgbmagaeaaGreatDoor.Spec Go.Proofs.YthkpbhgbmagaeaaGreatDoor.Rdr Go.Proofs.YthkpbhgbmagaeaaGreatDoor.Take Go.Proofs.YthkpbhgbmagaeaaGreatDoor.Skip
set_option linter.unusedVariables false
abbrev Stp (α : Type) := Nat → Nat → α → Except F (α × Nat × Nat)
/-- Behind one: the end, or a comma and one more. -/
def gn {α : Type} (st : Stp α) (cl : Nat) (s : ByteArray) : Nat → Nat → Nat → α → Except F (α × Nat × Nat)
 | 0, i, _, _ => .error (600, i)
 | f + 1, i, b, a => if at' s i = cl then .ok (a, i + 1, b) else if at' s i = 44 then (match st (blk s (i + 1)) b a with
  | .error e => .error e
  | .ok (a', j, b') => gn st cl s f (blk s j) b' a') else .error (600, i)
/-- One, and what stands behind it. -/
def gk {α : Type} (st : Stp α) (cl : Nat) (s : ByteArray) (f : Nat) : Except F (α × Nat × Nat) → Except F (α × Nat × Nat)
 | .error e => .error e
 | .ok (a, j, b) => gn st cl s f (blk s j) b a
theorem gn_step {α : Type} (st : Stp α) (cl : Nat) (s : ByteArray) (f i b : Nat) (a : α) :
  gn st cl s (f + 1) i b a = if at' s i = cl then .ok (a, i + 1, b) else if at' s i = 44 then gk st cl s f (st (blk s (i + 1)) b a) else .error (600, i) := by
 rw [gn]
 rfl
/-- From the first one on. -/
def g0 {α : Type} (st : Stp α) (cl : Nat) (s : ByteArray) (i b : Nat) (a : α) : Except F (α × Nat × Nat) :=
 if at' s i = cl then .ok (a, i + 1, b) else gk st cl s (s.size + 1) (st i b a)
/-- Of the blocks below B only R has changed. -/
structure Kb (R B : Nat) (w w' : World) : Prop where
 below : Below R w w'
 other : ∀ k, k ≠ R → k < B → w'.heap[k]? = w.heap[k]?
theorem Kr.kb {R B : Nat} {w w' : World} (h : Kr R w w') (hB : B ≤ w.heap.size) : Kb R B w w' := ⟨h.below, fun k hk hb => h.other k hk (by omega)⟩
theorem Kb.refl (R B : Nat) (w : World) : Kb R B w w := ⟨Below.refl _ _, fun _ _ _ => rfl⟩
theorem Kb.trans {R B : Nat} {a b c : World} (h : Kb R B a b) (k : Kb R B b c) : Kb R B a c := ⟨h.below.trans k.below, fun n hn hs => (k.other n hn hs).trans (h.other n hn hs)⟩
def StepIs {α : Type} (st : Stp α) (s : ByteArray) : Prop := ∀ i b a a' j b', i ≤ s.size → st i b a = .ok (a', j, b') → i ≤ j ∧ j ≤ s.size
/-- What one call of the closure does. -/
def OneIs {α : Type} (K : Nat) (caps : Array Value) (R B : Nat) (v : Value) (s : ByteArray) (st : Stp α) (J : World → Nat → Nat → α → Prop) : Prop :=
 ∀ w i b a, J w i b a → Calls Tryz.prog K caps w fun e w' => Kb R B w w' ∧ match st i b a with
  | .ok (a', j, b') => e = .returned (.tuple #[]) ∧ J w' j b' a'
  | .error x => e = .panicked (pk x)
def outl (first : Value) : Nat := match first with
 | .bool true => 1
 | _ => 0
set_option maxRecDepth 20000 in
set_option maxHeartbeats 1600000 in
theorem row_c {α : Type} (K : Nat) (caps : Array Value) (hent : ∀ args w, (callFunc K args).run Tryz.prog w = .ok (.enter K args) w) {R B : Nat} {v : Value} {s : ByteArray} (op cl : Nat) (hop : op ≠ 0 ∧ op < 256) (hcl : cl ≠ 0 ∧ cl < 256 ∧ cl ≠ 44) (st : Stp α) (J : World → Nat → Nat → α → Prop)
  (hst : StepIs st s) (hse : ∀ i b a, ¬ i < s.size → st i b a = .error (600, i)) (hJR : ∀ w i b a, J w i b a → Rd w R v s i b ∧ B ≤ w.heap.size) (hJK : ∀ w w' i j b a, J w i b a → Rd w' R v s j b → Kr R w w' → i ≤ j → J w' j b a) (hone : OneIs K caps R B v s st J)
  {w : World} {i b : Nat} (a : α) (h : J w i b a) (hat : at' s i = op) :
  Calls Tryz.prog 56 #[ptr R, .int .u8 op, .int .u8 cl, .func (.func K) #[] caps] w fun e w' => Kb R B w w' ∧ match g0 st cl s (blk s (i + 1)) b a with
   | .ok (a', j, b') => e = .returned (.tuple #[]) ∧ J w' j b' a'
   | .error x => e = .panicked (pk x) := by
 obtain ⟨hR, hBw⟩ := hJR w i b a h
 have c77 := take_c hR hat hop.1 hop.2
 have hi : i < s.size := at_in (by omega)
 have hsz := hR.sz
 have HJ : Hid (J w i b a) := h
 have HJR : Hid (∀ w i b a, J w i b a → Rd w R v s i b ∧ B ≤ w.heap.size) := hJR
 have HJK : Hid (∀ w w' i j b a, J w i b a → Rd w' R v s j b → Kr R w w' → i ≤ j → J w' j b a) := hJK
 have HONE : Hid (OneIs K caps R B v s st J) := hone
 have HST : Hid (StepIs st s) := hst
 have HSE : Hid (∀ i b a, ¬ i < s.size → st i b a = .error (600, i)) := hse
 obtain ⟨U, hU⟩ : ∃ U, g0 st cl s (blk s (i + 1)) b a = U := ⟨_, rfl⟩
 rw [hU]
 have HU : Hid (g0 st cl s (blk s (i + 1)) b a = U) := hU
 obtain ⟨hop0, hop1⟩ := hop
 obtain ⟨hcl0, hcl1, hcl2⟩ := hcl
 clear h hU hR hJR hJK hone hst hse
 unfold ptr at c77 ⊢
 go_enter Tryz.func56, Tryz.ntmps56
 go_wp2_with (go_at_call 53; refine c77.mono ?_; rintro e w1 ⟨rfl, h1, k1⟩)
 have c40 := blanks_c h1
 unfold ptr at c40
 have J1 : Hid (J w1 (i + 1) b a) := HJK.out _ _ _ _ _ _ HJ.out h1 k1 (by omega)
 clear c77
 go_wp2_with (go_at_call 25; refine c40.mono ?_; rintro e w2 ⟨⟨r2, rfl⟩, h2, k2⟩)
 have J2 : Hid (J w2 (blk s (i + 1)) b a) := HJK.out _ _ _ _ _ _ J1.out h2 k2 (blk_ge _ _)
 have KK : Kb R B w w2 := Kr.kb (k1.trans k2) hBw
 clear c40 h1 k1 h2 k2 J1 HJ
 go_loopw [8] (fun fi wr => ∃ (q c : Nat) (x : α), J wr q c x ∧ Kb R B w wr ∧ ((fi = .bool true ∧ g0 st cl s q c x = U) ∨ (fi = .bool false ∧ ∃ f, gn st cl s f q c x = U ∧ s.size < q + f))) (fun fi wr => 2 * (s.size - plc R wr) + outl fi)
 case atStart => exact ⟨_, _, _, J2.out, KK, .inl ⟨rfl, HU.out⟩⟩
 case round =>
  obtain ⟨q, c, x, hj, hk, hph⟩ := hrel
  obtain ⟨hr, hBr⟩ := HJR.out _ _ _ _ hj
  have HJQ : Hid (J wr q c x) := hj
  have HP : Hid (plc R wr = q) := hr.plc
  have hqs := hr.le
  by_cases hend : ¬ q < s.size
  ·have c58 := next_end hr hend
   have hU2 : U = .error (600, q) := by
    have z0 := at_out s q hend
    rcases hph with ⟨-, e⟩ | ⟨-, f, e, hf⟩
    ·rw [← e]; unfold g0; rw [z0, if_neg (by omega), HSE.out q c x hend]; rfl
    ·obtain ⟨f, rfl⟩ : ∃ f', f = f' + 1 := ⟨f - 1, by omega⟩
     rw [← e, gn_step, z0, if_neg (by omega), if_neg (by omega)]
   subst hU2
   unfold ptr at c58
   clear hr hj hph
   go_wp2_with (go_at_call 37; refine c58.mono ?_; rintro e w' ⟨rfl, rfl⟩)
   exact ⟨rfl, ⟨hk.below.drew, hk.other⟩, rfl⟩
  have hlt : q < s.size := Decidable.of_not_not hend
  clear hend
  have c58 := next_c hr hlt
  have hr2 := hr.drew.drew
  have kq := (Kr.refl R wr).drew.drew
  have hb := at_lt s q
  unfold ptr at c58
  by_cases hc : at' s q = cl
  ·have hne : (((at' s q : Nat) : Int) != (cl : Int)) = false := by simp; omega
   have c77 := take_c hr2 hc hcl0 hcl1
   have hU2 : U = .ok (x, q + 1, c) := by
    rcases hph with ⟨-, e⟩ | ⟨-, f, e, hf⟩
    ·rw [← e]; unfold g0; rw [if_pos hc]
    ·obtain ⟨f, rfl⟩ : ∃ f', f = f' + 1 := ⟨f - 1, by omega⟩
     rw [← e, gn_step, if_pos hc]
   subst hU2
   unfold ptr at c77
   clear hr hj hph hr2
   rw [hc] at c58
   go_wp2_with (first | (go_at_call 37; refine c58.mono ?_; rintro e w' ⟨rfl, rfl⟩) | (go_at_call 53; refine c77.mono ?_; rintro e w3 ⟨rfl, h3, k3⟩))
   go_end0
   exact ⟨hk.trans (Kr.kb (kq.trans k3) hBr), rfl, HJK.out _ _ _ _ _ _ HJQ.out h3 (kq.trans k3) (by omega)⟩
  have hne : (((at' s q : Nat) : Int) != (cl : Int)) = true := by simp; omega
  -- what one call of the closure and the blanks behind it make
  have REST : Hid (∀ (wz : World) (p : Nat), J wz p c x → Kb R B wr wz → q ≤ p → Calls Tryz.prog K caps wz fun e w' => Kb R B wz w' ∧ match st p c x with
   | .ok (a', j, b') => e = .returned (.tuple #[]) ∧ J w' j b' a'
   | .error y => e = .panicked (pk y)) := fun wz p hz _ _ => HONE.out wz p c x hz
  rcases hph with ⟨rfl, e⟩ | ⟨rfl, f, e, hf⟩
  ·-- the first one
   have hUe : U = gk st cl s (s.size + 1) (st q c x) := by rw [← e]; unfold g0; rw [if_neg hc]
   have HUE : Hid (U = gk st cl s (s.size + 1) (st q c x)) := hUe
   have J3 : Hid (J wr.drew.drew q c x) := HJK.out _ _ _ _ _ _ HJQ.out hr2 kq (Nat.le_refl _)
   have cK := REST.out _ q J3.out (Kr.kb kq hBr) (Nat.le_refl _)
   obtain ⟨Y, hY⟩ : ∃ Y, st q c x = Y := ⟨_, rfl⟩
   have HY : Hid (st q c x = Y) := hY
   rw [hY] at cK
   clear hr hj hr2 e hUe hY REST hc
   generalize at' s q = z at *
   cases Y with
   | error y =>
    have hU2 : U = .error y := by rw [HUE.out, HY.out]; rfl
    subst hU2
    go_wp2_with (first | (go_at_call 37; refine c58.mono ?_; rintro e w' ⟨rfl, rfl⟩) | (go_at_fn K; refine cK.mono ?_; rintro e w3 ⟨k3, rfl⟩))
    exact ⟨rfl, (hk.trans (Kr.kb kq hBr)).trans k3, rfl⟩
   | ok y =>
    obtain ⟨x2, j, c2⟩ := y
    have hin := HST.out q c x x2 j c2 hqs HY.out
    go_wp2_with (first | (go_at_call 37; refine c58.mono ?_; rintro e w' ⟨rfl, rfl⟩) | (go_at_fn K; refine cK.mono ?_; rintro e w3 ⟨k3, rfl, j3⟩; have c40 := blanks_c (HJR.out _ _ _ _ j3).1; unfold ptr at c40) | (go_at_call 25; refine c40.mono ?_; rintro e w4 ⟨⟨r4, rfl⟩, h4, k4⟩))
    go_roundw
    case rel =>
     refine ⟨blk s j, c2, x2, HJK.out _ _ _ _ _ _ j3 h4 k4 (blk_ge _ _), ((hk.trans (Kr.kb kq hBr)).trans k3).trans (Kr.kb k4 (HJR.out _ _ _ _ j3).2), .inr ⟨rfl, s.size + 1, ?_, by omega⟩⟩
     rw [HUE.out, HY.out]; rfl
    case measure =>
     have e1 := HP.out
     have e2 := h4.plc
     have := blk_ge s j
     show 2 * (s.size - plc R w4) + outl (.bool false) < 2 * (s.size - plc R wr) + outl (.bool true)
     rw [e1, e2]
     show 2 * (s.size - blk s j) + 0 < 2 * (s.size - q) + 1
     omega
  ·-- one more
   obtain ⟨f, rfl⟩ : ∃ f', f = f' + 1 := ⟨f - 1, by omega⟩
   rw [gn_step, if_neg hc] at e
   by_cases h44 : at' s q = 44
   ·rw [if_pos h44] at e
    have HUE : Hid (gk st cl s f (st (blk s (q + 1)) c x) = U) := e
    have c77 := take_c hr2 h44 (by omega) (by omega)
    unfold ptr at c77
    obtain ⟨Y, hY⟩ : ∃ Y, st (blk s (q + 1)) c x = Y := ⟨_, rfl⟩
    have HY : Hid (st (blk s (q + 1)) c x = Y) := hY
    clear hr hj hr2 e hY hc
    rw [h44] at c58 hne
    cases Y with
    | error y =>
     have hU2 : U = .error y := by rw [← HUE.out, HY.out]; rfl
     subst hU2
     go_wp2_with (first | (go_at_call 37; refine c58.mono ?_; rintro e w' ⟨rfl, rfl⟩) | (go_at_call 53; refine c77.mono ?_; rintro e w3 ⟨rfl, h3, k3⟩; have c40 := blanks_c h3; unfold ptr at c40) | (go_at_call 25; refine c40.mono ?_; rintro e w4 ⟨⟨r4, rfl⟩, h4, k4⟩; have kz := (kq.trans k3).trans k4; have J4 := HJK.out _ _ _ _ _ _ HJQ.out h4 kz (by have := blk_ge s (q + 1); omega); have cK := REST.out _ _ J4 (Kr.kb kz hBr) (by have := blk_ge s (q + 1); omega); rw [HY.out] at cK) | (go_at_fn K; refine cK.mono ?_; rintro e w5 ⟨k5, rfl⟩))
     exact ⟨rfl, (hk.trans (Kr.kb kz hBr)).trans k5, rfl⟩
    | ok y =>
     obtain ⟨x2, j, c2⟩ := y
     have hin := HST.out _ c x x2 j c2 (blk_in (by omega)) HY.out
     have hbq := blk_ge s (q + 1)
     go_wp2_with (first | (go_at_call 37; refine c58.mono ?_; rintro e w' ⟨rfl, rfl⟩) | (go_at_call 53; refine c77.mono ?_; rintro e w3 ⟨rfl, h3, k3⟩; have c40 := blanks_c h3; unfold ptr at c40) | (go_at_call 25; refine c40.mono ?_; rintro e w4 ⟨⟨r4, rfl⟩, h4, k4⟩; have kz := (kq.trans k3).trans k4; have J4 := HJK.out _ _ _ _ _ _ HJQ.out h4 kz (by have := blk_ge s (q + 1); omega); have cK := REST.out _ _ J4 (Kr.kb kz hBr) (by have := blk_ge s (q + 1); omega); rw [HY.out] at cK; clear c40) | (go_at_fn K; refine cK.mono ?_; rintro e w5 ⟨k5, rfl, j5⟩; have c40b := blanks_c (HJR.out _ _ _ _ j5).1; unfold ptr at c40b) | (go_at_call 25; refine c40b.mono ?_; rintro e w6 ⟨⟨r6, rfl⟩, h6, k6⟩))
     go_roundw
     case rel =>
      refine ⟨blk s j, c2, x2, HJK.out _ _ _ _ _ _ j5 h6 k6 (blk_ge _ _), ((hk.trans (Kr.kb kz hBr)).trans k5).trans (Kr.kb k6 (HJR.out _ _ _ _ j5).2), .inr ⟨rfl, f, ?_, ?_⟩⟩
      ·rw [← HUE.out, HY.out]; rfl
      ·have := blk_ge s j; omega
     case measure =>
      have e1 := HP.out
      have e2 := h6.plc
      have := blk_ge s j
      show 2 * (s.size - plc R w6) + outl (.bool false) < 2 * (s.size - plc R wr) + outl (.bool false)
      rw [e1, e2]
      omega
   ·rw [if_neg h44] at e
    subst e
    have c77 := take_no hr2 h44 (by omega) (by omega)
    unfold ptr at c77
    clear hr hj hr2 hc h44
    generalize at' s q = z at *
    go_wp2_with (first | (go_at_call 37; refine c58.mono ?_; rintro e w' ⟨rfl, rfl⟩) | (go_at_call 53; refine c77.mono ?_; rintro e w3 ⟨rfl, k3⟩))
    exact ⟨rfl, hk.trans (Kr.kb (kq.trans k3) hBr), rfl⟩
end Go.Proofs.YthkpbhgbmagaeaaGreatDoor.RowR
namespace Go.Proofs.YthkpbhgbmagaeaaGreatDoor.LState
open Go.RowKit Go.Proofs.YthkpbhgbmagaeaaGreatDoor.Base Go.Proofs.YthkpbhgbmagaeaaGreatDoor.UBase Go.Proofs.YthkpbhgbmagaeaaGreatDoor.Spec Go.Proofs.YthkpbhgbmagaeaaGreatDoor.Rdr Go.Proofs.YthkpbhgbmagaeaaGreatDoor.RowR Go.Proofs.YthkpbhgbmagaeaaGreatDoor.Own
set_option linter.unusedVariables false
/-- The elements so far: in the row lv, each in blocks of its own. -/
structure Els (w : World) (m lo : Nat) (lv : Value) (us : List Value) (acc : List C) (T : Nat → Nat → Prop) : Prop where
 own : OwnV w lo lv us
 len : us.length = acc.length
 fs : ∀ j (h : j < us.length) (h' : j < acc.length), Fs w m (T j) us[j] acc[j]
 out : ∀ j, j < acc.length → ∀ g, T j g → lo ≤ g ∧ g < w.heap.size ∧ lv.ownBlock ≠ some g
 dis : ∀ j j', j < j' → j' < acc.length → ∀ g, T j g → ¬ T j' g
theorem Els.nil (w : World) (m lo : Nat) : Els w m lo (.slice none 0 0) [] [] (fun _ _ => False) :=
 ⟨⟨World.ownsRow_nil _ _ _ _, fun x hx => by cases hx⟩, rfl, fun j h => by simp at h, fun j h => by simp at h, fun j j' h h' => by simp at h'⟩
theorem Els.keep {w w' : World} {m lo : Nat} {lv : Value} {us : List Value} {acc : List C} {T : Nat → Nat → Prop} (h : Els w m lo lv us acc T) (hk : ∀ g, lo ≤ g → g < w.heap.size → w'.heap[g]? = w.heap[g]?) (hs : w.heap.size ≤ w'.heap.size) : Els w' m lo lv us acc T := by
 refine ⟨⟨Fresh.own_keep h.own.1 fun g hg => ?_, h.own.2⟩, h.len, fun j h1 h2 => (h.fs j h1 h2).keep fun b hb hlt => ?_, fun j hj g hg => ?_, h.dis⟩
 ·have := World.ownsRow.lt h.own.1 g hg
  exact hk g this.1 this.2
 ·have := h.out j h2 b hb
  exact hk b this.1 this.2.1
 ·have := h.out j hj g hg
  exact ⟨this.1, by omega, this.2.2⟩
theorem Els.kr {w w' : World} {R m lo : Nat} {lv : Value} {us : List Value} {acc : List C} {T : Nat → Nat → Prop} (h : Els w m lo lv us acc T) (hk : Kr R w w') (hR : R < lo) : Els w' m lo lv us acc T :=
 h.keep (fun g hg hs => hk.other g (by omega) hs) hk.below.size
/-- One more. -/
theorem Els.more {w w1 w' : World} {m lo l1 h1 : Nat} {lv lv' u : Value} {us : List Value} {acc : List C} {c : C} {T : Nat → Nat → Prop} (h : Els w m lo lv us acc T) (hu : Fs w1 m (Rg l1 h1) u c) (hlo : lo ≤ w.heap.size) (hl1 : w.heap.size ≤ l1) (hh1 : h1 ≤ w'.heap.size) (hs : w.heap.size ≤ w'.heap.size)
  (hown : OwnV w' lo lv' (us ++ [u])) (hb : ∀ g, lv'.ownBlock = some g → lv.ownBlock = some g ∨ h1 ≤ g) (hb2 : ∀ g, lv'.ownBlock = some g → lv.ownBlock = some g ∨ w.heap.size ≤ g) (hkeep : ∀ g, lo ≤ g → g < w.heap.size → lv.ownBlock ≠ some g → w'.heap[g]? = w.heap[g]?) (hkeep1 : Keep (Rg l1 h1) w1 w') :
  Els w' m lo lv' (us ++ [u]) (acc ++ [c]) (fun j => if j < acc.length then T j else Rg l1 h1) := by
 have hlen := h.len
 refine ⟨hown, by simp [hlen], fun j hj hj' => ?_, fun j hj g hg => ?_, fun j j' hjj hj' g hg => ?_⟩
 ·by_cases e : j < acc.length
  ·rw [if_pos e, List.getElem_append_left (by omega), List.getElem_append_left e]
   refine (h.fs j (by omega) e).keep fun b hb' hlt => ?_
   have := h.out j e b hb'
   exact hkeep b this.1 this.2.1 this.2.2
  ·have ej : j = acc.length := by simp at hj'; omega
   subst ej
   rw [if_neg e]
   have e1 : (us ++ [u])[acc.length]'hj = u := by
    rw [List.getElem_append_right (by omega)]; simp [hlen]
   have e2 : (acc ++ [c])[acc.length]'hj' = c := by simp
   rw [e1, e2]
   exact hu.keep hkeep1
 ·by_cases e : j < acc.length
  ·rw [if_pos e] at hg
   have := h.out j e g hg
   refine ⟨this.1, by omega, fun e2 => ?_⟩
   rcases hb2 g e2 with h3 | h3
   ·exact this.2.2 h3
   ·omega
  ·rw [if_neg e] at hg
   have h1' := hg.1
   have h2' := hg.2
   refine ⟨by omega, by omega, fun e2 => ?_⟩
   rcases hb g e2 with h3 | h3
   ·have := (World.ownsRow.lt h.own.1 g h3).2
    omega
   ·omega
 ·have e : j < acc.length := by simp at hj'; omega
  rw [if_pos e] at hg
  by_cases e' : j' < acc.length
  ·rw [if_pos e']
   exact h.dis j j' hjj e' g hg
  ·rw [if_neg e']
   intro h3
   have := (h.out j e g hg).2.1
   have := h3.1
   omega
/-- The step of a list. -/
def stK (acc : List C) : Except F (C × Nat × Nat) → Except F (List C × Nat × Nat)
 | .error e => .error e
 | .ok (c, j, b') => .ok (acc ++ [c], j, b')
def stL (s : ByteArray) (n : Nat) : Stp (List C) := fun i b acc => stK acc (vl s n i b)
/-- What reading a value does. -/
def VIs (n d m : Nat) : Prop := ∀ (w : World) (R : Nat) (v : Value) (s : ByteArray) (i b : Nat), Rd w R v s i b → Calls Tryz.prog 24 #[ptr R, .int .i64 d] w fun e w' => Kr R w w' ∧ match vl s n i b with
  | .ok (c, j, b') => (∃ u, e = .returned u ∧ Fs w' m (Rg w.heap.size w'.heap.size) u c) ∧ Rd w' R v s j b'
  | .error x => e = .panicked (pk x)
/-- A list that is read: the boxes from block B on. -/
structure JL (R B d m : Nat) (v : Value) (s : ByteArray) (w : World) (i b : Nat) (acc : List C) : Prop where
 rd : Rd w R v s i b
 RB : R < B
 sz : B + 4 ≤ w.heap.size
 rb : w.heap[B]? = some (.cells #[ptr R] 65 (0, 0))
 db : w.heap[B + 1]? = some (.cells #[.int .i64 d] 3 (0, 0))
 res : w.heap[B + 2]? = some (.cells #[.int .i64 0, .bool false, .int .i64 0, .string ⟨#[]⟩, .slice none 0 0, .slice none 0 0] 27 (0, 0))
 box : ∃ lv us T, w.heap[B + 3]? = some (.cells #[.int .i64 5, .bool false, .int .i64 0, .string ⟨#[]⟩, .slice none 0 0, lv] 27 (0, 0)) ∧ Els w m (B + 4) lv us acc T
 le : acc.length ≤ i
theorem JL.kr {R B d m : Nat} {v : Value} {s : ByteArray} {w w' : World} {i j b : Nat} {acc : List C} (h : JL R B d m v s w i b acc) (hr : Rd w' R v s j b) (hk : Kr R w w') (hij : i ≤ j) : JL R B d m v s w' j b acc := by
 have hsz := h.sz
 have hRB := h.RB
 obtain ⟨lv, us, T, hb, he⟩ := h.box
 have hs := hk.below.size
 refine ⟨hr, h.RB, by omega, (hk.other _ (by omega) (by omega)).trans h.rb, (hk.other _ (by omega) (by omega)).trans h.db, (hk.other _ (by omega) (by omega)).trans h.res, ⟨lv, us, T, (hk.other _ (by omega) (by omega)).trans hb, he.kr hk (by omega)⟩, by have := h.le; omega⟩
/-- A list with one more element. -/
theorem JL.more {R B d m : Nat} {v : Value} {s : ByteArray} {w w1 w5 : World} {i j b b' l1 h1 : Nat} {acc : List C} {c : C} {lv lv' u : Value} {us : List Value} {T : Nat → Nat → Prop} (h : JL R B d m v s w i b acc) (hels : Els w m (B + 4) lv us acc T)
  (hu : Fs w1 m (Rg l1 h1) u c) (hl1 : w.heap.size ≤ l1) (hh1 : h1 ≤ w5.heap.size) (hs : w.heap.size ≤ w5.heap.size) (hown : OwnV w5 (B + 4) lv' (us ++ [u])) (hb : ∀ g, lv'.ownBlock = some g → lv.ownBlock = some g ∨ (h1 ≤ g ∧ w.heap.size ≤ g))
  (hbox : w5.heap[B + 3]? = some (.cells #[.int .i64 5, .bool false, .int .i64 0, .string ⟨#[]⟩, .slice none 0 0, lv'] 27 (0, 0)))
  (hoth : ∀ k, k < w.heap.size → k ≠ R → k ≠ B + 3 → lv.ownBlock ≠ some k → w5.heap[k]? = w.heap[k]?) (hk1 : Keep (Rg l1 h1) w1 w5) (hrd : Rd w5 R v s j b') (hij : i < j) (hbel : Below R w w5) :
  Kb R B w w5 ∧ JL R B d m v s w5 j b' (acc ++ [c]) := by
 have hsz := h.sz
 have hRB := h.RB
 have hlo : ∀ g, lv.ownBlock = some g → B + 4 ≤ g := fun g hg => (World.ownsRow.lt hels.own.1 g hg).1
 have hne : ∀ k, k < B + 4 → lv.ownBlock ≠ some k := fun k hk e => by have := hlo k e; omega
 refine ⟨⟨hbel, fun k hk hkB => hoth k (by omega) hk (by omega) (hne k (by omega))⟩, hrd, h.RB, by omega, (hoth _ (by omega) (by omega) (by omega) (hne _ (by omega))).trans h.rb, (hoth _ (by omega) (by omega) (by omega) (hne _ (by omega))).trans h.db, (hoth _ (by omega) (by omega) (by omega) (hne _ (by omega))).trans h.res, ?_, by have := h.le; simp; omega⟩
 exact ⟨lv', us ++ [u], _, hbox, hels.more hu (by omega) hl1 hh1 hs hown (fun g hg => (hb g hg).imp id And.left) (fun g hg => (hb g hg).imp id And.right) (fun g hg hlt hne' => hoth g hlt (by omega) (by omega) hne') hk1⟩
/-- A row with one zero more, and then the element itself in its place: its cells, and what else has changed. -/
theorem set_last {w w' : World} {B g cap : Nat} {us : List Value} {z v0 v1 v2 v3 v4 v5 : Value} (h : OwnV w B (.slice (some ⟨g, 0, none⟩) (us.length + 1) cap) (us ++ [z])) (h1 : ∀ x ∈ [v0, v1, v2, v3, v4, v5], x.oneCell' = true)
  (hW : ((((((w.setCell ⟨g, us.length * 6, none⟩ v0).setCell ⟨g, us.length * 6 + 1, none⟩ v1).setCell ⟨g, us.length * 6 + 2, none⟩ v2).setCell ⟨g, us.length * 6 + 3, none⟩ v3).setCell ⟨g, us.length * 6 + 4, none⟩ v4).setCell ⟨g, us.length * 6 + 5, none⟩ v5) = w') :
  OwnV w' B (.slice (some ⟨g, 0, none⟩) (us.length + 1) cap) (us ++ [.agg #[v0, v1, v2, v3, v4, v5]]) ∧ (∀ b, b ≠ g → w'.heap[b]? = w.heap[b]?) ∧ w'.heap.size = w.heap.size ∧ ∀ x k, k ≤ g → Below k x w → Below k x w' := by
 obtain ⟨h2, h3, h4, h5⟩ := Copied.ownV_set (q := us.length) h (by simp) h1 hW
 refine ⟨?_, h3, h4, h5⟩
 have e : (us ++ [z]).set us.length (.agg #[v0, v1, v2, v3, v4, v5]) = us ++ [.agg #[v0, v1, v2, v3, v4, v5]] := by
  rw [List.set_append_right _ _ (Nat.le_refl _)]
  simp
 rw [e] at h2
 exact h2
theorem zc_of {w : World} {Z : Nat} {cs : List Value} {t : TypeId} (h : w.heap[Z]? = some (.cells cs.toArray t (0, 0))) : ∀ j u, cs[j]? = some u → w.cell? ((⟨Z, 0, none⟩ : Addr).add j) = some u := by
 intro j u hu
 rw [add_none, Nat.zero_add]
 unfold World.cell?
 rw [h]
 simpa using hu
/-- An append in a region, by what it answers. -/
theorem op_append {P : Program} {o : Oper} {a : Act} {w w' : World} {K : Act → World → Prop} {Q : Exit → Act → World → Prop} {y : Nat → Option Bool} (hg : o.guard = none) (s x : Operand) (t : TypeId) (ho : o.op = .call { callee := .builtin .append, args := #[s, x], argTypes := #[t, t] })
  {v v' : Value} {ad : Addr} {m c : Nat} (hs : a.eval s = v) (hx : a.eval x = .slice (some ad) m c) (hr : (Builtin.append_ #[t, t] o.type #[v, .slice (some ad) m c]).run P w = .ok v' w') (h : K (a.put o.dst v') w') :
  if Region.wanted o y = true then Oper.wp P o a w K Q else K (a.put o.dst undef) w := by
 rw [if_pos (by simp [Region.wanted, hg])]
 unfold Oper.wp execOp
 simp only [ho, resolve, invoke, builtin, Sem.run_bind, Sem.run_pure, Result.andThen_ok, List.map_toArray, List.map_cons, List.map_nil, hs, hx, hr]
 exact h
end Go.Proofs.YthkpbhgbmagaeaaGreatDoor.LState

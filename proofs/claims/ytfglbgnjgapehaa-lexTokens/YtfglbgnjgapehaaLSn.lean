/- Templates: contract of scanner; a token, whichever it is. -/
import Derived.Test.YtfglbgnjgapehaaLIn
import Derived.BigQuiet
namespace Go.Proofs.Ytfglbgnjgapehaa.LSn
open Go.RowKit Go.Proofs.Ytfglbgnjgapehaa.UBase Go.Proofs.Ytfglbgnjgapehaa.EPure Go.Proofs.Ytfglbgnjgapehaa.LPure Go.Proofs.Ytfglbgnjgapehaa.LRd Go.Proofs.Ytfglbgnjgapehaa.LSk Go.Proofs.Ytfglbgnjgapehaa.LNm Go.Proofs.Ytfglbgnjgapehaa.LUp Go.Proofs.Ytfglbgnjgapehaa.LTe Go.Proofs.Ytfglbgnjgapehaa.LPl Go.Proofs.Ytfglbgnjgapehaa.LSc Go.Proofs.Ytfglbgnjgapehaa.LOc Go.Proofs.Ytfglbgnjgapehaa.LEn Go.Proofs.Ytfglbgnjgapehaa.LIn
set_option linter.unusedVariables false

/-- Which scanner reads here. -/
def sN (s : ByteArray) (i : Nat) (b : Bool) : Nat :=
  if b = true then 40 else if pre s i [123, 123] = true then 42 else if pre s i [60, 47] = true then 43 else if pre s i [60] = true then 44 else 45
set_option maxRecDepth 20000 in
set_option maxHeartbeats 800000 in
theorem scanner_a {w : World} {R : Nat} {s : ByteArray} {i : Nat} {f : F} (h : Lr w R s i true f) :
    Calls Try.prog 27 #[ptr R] w fun e w' => e = .returned (.func (Fn.func 40) #[ptr R] #[]) ∧ Lr w' R s i true f ∧ Kr R w w' := by
  obtain ⟨k0, k1, k2, k3, k4⟩ := h.cells
  have HS0 : Hid (Lr w R s i true f ∧ Kr R w w) := ⟨h, Kr.refl _ _⟩
  unfold ptr
  clear h
  go_enter Try.func27, Try.ntmps27
  go_wp2_with fail
  go_ret
  exact ⟨rfl, HS0.out⟩
set_option maxRecDepth 20000 in
set_option maxHeartbeats 800000 in
theorem scanner_b {w : World} {R : Nat} {s : ByteArray} {i : Nat} {f : F} (h : Lr w R s i false f) (p0 : pre s i [123, 123] = true) :
    Calls Try.prog 27 #[ptr R] w fun e w' => e = .returned (.func (Fn.func 42) #[ptr R] #[]) ∧ Lr w' R s i false f ∧ Kr R w w' := by
  obtain ⟨k0, k1, k2, k3, k4⟩ := h.cells
  have HS0 : Hid (Lr w R s i false f ∧ Kr R w w) := ⟨h, Kr.refl _ _⟩
  have c0 := begins_k h [123, 123]
  rw [p0] at c0
  unfold ptr at c0 ⊢
  clear h
  go_enter Try.func27, Try.ntmps27
  go_wp2_with fail
  refine c0.mono ?_
  rintro e w1 ⟨rfl, h1, k1'⟩
  have HS1 : Hid (Lr w1 R s i false f ∧ Kr R w w1) := ⟨h1, HS0.out.2.trans k1'⟩
  clear c0 h1 k1'
  go_wp2_with fail
  go_ret
  exact ⟨rfl, HS1.out⟩
set_option maxRecDepth 20000 in
set_option maxHeartbeats 800000 in
theorem scanner_c' {w : World} {R : Nat} {s : ByteArray} {i : Nat} {f : F} (h : Lr w R s i false f) (p0 : pre s i [123, 123] = false) (p1 : pre s i [60, 47] = true) :
    Calls Try.prog 27 #[ptr R] w fun e w' => e = .returned (.func (Fn.func 43) #[ptr R] #[]) ∧ Lr w' R s i false f ∧ Kr R w w' := by
  obtain ⟨k0, k1, k2, k3, k4⟩ := h.cells
  have HS0 : Hid (Lr w R s i false f ∧ Kr R w w) := ⟨h, Kr.refl _ _⟩
  have c0 := begins_k h [123, 123]
  rw [p0] at c0
  unfold ptr at c0 ⊢
  clear h
  go_enter Try.func27, Try.ntmps27
  go_wp2_with fail
  refine c0.mono ?_
  rintro e w1 ⟨rfl, h1, k1'⟩
  have HS1 : Hid (Lr w1 R s i false f ∧ Kr R w w1) := ⟨h1, HS0.out.2.trans k1'⟩
  have c1 := begins_k h1 [60, 47]
  rw [p1] at c1
  unfold ptr at c1
  clear c0 h1 k1'
  go_wp2_with fail
  refine c1.mono ?_
  rintro e w2 ⟨rfl, h2, k2'⟩
  have HS2 : Hid (Lr w2 R s i false f ∧ Kr R w w2) := ⟨h2, HS1.out.2.trans k2'⟩
  clear c1 h2 k2'
  go_wp2_with fail
  go_ret
  exact ⟨rfl, HS2.out⟩
set_option maxRecDepth 20000 in
set_option maxHeartbeats 800000 in
theorem scanner_d {w : World} {R : Nat} {s : ByteArray} {i : Nat} {f : F} (h : Lr w R s i false f) (p0 : pre s i [123, 123] = false) (p1 : pre s i [60, 47] = false) (p2 : pre s i [60] = true) :
    Calls Try.prog 27 #[ptr R] w fun e w' => e = .returned (.func (Fn.func 44) #[ptr R] #[]) ∧ Lr w' R s i false f ∧ Kr R w w' := by
  obtain ⟨k0, k1, k2, k3, k4⟩ := h.cells
  have HS0 : Hid (Lr w R s i false f ∧ Kr R w w) := ⟨h, Kr.refl _ _⟩
  have c0 := begins_k h [123, 123]
  rw [p0] at c0
  unfold ptr at c0 ⊢
  clear h
  go_enter Try.func27, Try.ntmps27
  go_wp2_with fail
  refine c0.mono ?_
  rintro e w1 ⟨rfl, h1, k1'⟩
  have HS1 : Hid (Lr w1 R s i false f ∧ Kr R w w1) := ⟨h1, HS0.out.2.trans k1'⟩
  have c1 := begins_k h1 [60, 47]
  rw [p1] at c1
  unfold ptr at c1
  clear c0 h1 k1'
  go_wp2_with fail
  refine c1.mono ?_
  rintro e w2 ⟨rfl, h2, k2'⟩
  have HS2 : Hid (Lr w2 R s i false f ∧ Kr R w w2) := ⟨h2, HS1.out.2.trans k2'⟩
  have c2 := begins_k h2 [60]
  rw [p2] at c2
  unfold ptr at c2
  clear c1 h2 k2'
  go_wp2_with fail
  refine c2.mono ?_
  rintro e w3 ⟨rfl, h3, k3'⟩
  have HS3 : Hid (Lr w3 R s i false f ∧ Kr R w w3) := ⟨h3, HS2.out.2.trans k3'⟩
  clear c2 h3 k3'
  go_wp2_with fail
  go_ret
  exact ⟨rfl, HS3.out⟩
set_option maxRecDepth 20000 in
set_option maxHeartbeats 800000 in
theorem scanner_e {w : World} {R : Nat} {s : ByteArray} {i : Nat} {f : F} (h : Lr w R s i false f) (p0 : pre s i [123, 123] = false) (p1 : pre s i [60, 47] = false) (p2 : pre s i [60] = false) :
    Calls Try.prog 27 #[ptr R] w fun e w' => e = .returned (.func (Fn.func 45) #[ptr R] #[]) ∧ Lr w' R s i false f ∧ Kr R w w' := by
  obtain ⟨k0, k1, k2, k3, k4⟩ := h.cells
  have HS0 : Hid (Lr w R s i false f ∧ Kr R w w) := ⟨h, Kr.refl _ _⟩
  have c0 := begins_k h [123, 123]
  rw [p0] at c0
  unfold ptr at c0 ⊢
  clear h
  go_enter Try.func27, Try.ntmps27
  go_wp2_with fail
  refine c0.mono ?_
  rintro e w1 ⟨rfl, h1, k1'⟩
  have HS1 : Hid (Lr w1 R s i false f ∧ Kr R w w1) := ⟨h1, HS0.out.2.trans k1'⟩
  have c1 := begins_k h1 [60, 47]
  rw [p1] at c1
  unfold ptr at c1
  clear c0 h1 k1'
  go_wp2_with fail
  refine c1.mono ?_
  rintro e w2 ⟨rfl, h2, k2'⟩
  have HS2 : Hid (Lr w2 R s i false f ∧ Kr R w w2) := ⟨h2, HS1.out.2.trans k2'⟩
  have c2 := begins_k h2 [60]
  rw [p2] at c2
  unfold ptr at c2
  clear c1 h2 k2'
  go_wp2_with fail
  refine c2.mono ?_
  rintro e w3 ⟨rfl, h3, k3'⟩
  have HS3 : Hid (Lr w3 R s i false f ∧ Kr R w w3) := ⟨h3, HS2.out.2.trans k3'⟩
  clear c2 h3 k3'
  go_wp2_with fail
  go_ret
  exact ⟨rfl, HS3.out⟩
theorem scanner_c {w : World} {R : Nat} {s : ByteArray} {i : Nat} {b : Bool} {f : F} (h : Lr w R s i b f) :
    Calls Try.prog 27 #[ptr R] w fun e w' => e = .returned (.func (Fn.func (sN s i b)) #[ptr R] #[]) ∧ Lr w' R s i b f ∧ Kr R w w' := by
  unfold sN
  cases b with
  | true => rw [if_pos rfl]; exact scanner_a h
  | false =>
    rw [if_neg (by decide)]
    cases p0 : pre s i [123, 123] with
    | true => rw [if_pos rfl]; exact scanner_b h p0
    | false =>
      rw [if_neg (by decide)]
      cases p1 : pre s i [60, 47] with
      | true => rw [if_pos rfl]; exact scanner_c' h p0 p1
      | false =>
        rw [if_neg (by decide)]
        cases p2 : pre s i [60] with
        | true => rw [if_pos rfl]; exact scanner_d h p0 p1 p2
        | false => rw [if_neg (by decide)]; exact scanner_e h p0 p1 p2
/-- The token that stands here, and the state behind it: a tag's end, an attribute, neither; an expression, a closing tag, an opening one, a text. -/
def tkE (s : ByteArray) (Y : Nat) (f : F) : Tz := ⟨eK s Y, ⟨#[]⟩, ⟨#[]⟩, Y, mpl s [62] (mpl s [47] Y), false, fif (pre s (mpl s [47] Y) [62]) f (1202, mpl s [47] Y)⟩
def tkA (s : ByteArray) (Y : Nat) (f : F) : Tz := ⟨LAt.aK s Y, nT s (LAt.a1 s Y), LAt.aT s Y, Y, LAt.a5 s Y, true, LAt.f7 s Y f⟩
def tkN (i : Nat) (f : F) : Tz := ⟨0, ⟨#[]⟩, ⟨#[]⟩, 0, i, true, rf f (1202, i)⟩
def tkI (s : ByteArray) (i : Nat) (f : F) : Tz := ⟨2, ⟨#[]⟩, utx s (i + 2) [125, 125], i, upl s (i + 2) [125, 125], false, fif (decide (0 ≤ ux s (i + 2) [125, 125])) f (1205, i)⟩
def tkC (s : ByteArray) (i : Nat) (f : F) : Tz := ⟨8, nT s (i + 2), ⟨#[]⟩, i, mpl s [62] (skp isb s (nE s (i + 2))), false, fif (pre s (skp isb s (nE s (i + 2))) [62]) (nF s (i + 2) f) (1202, skp isb s (nE s (i + 2)))⟩
def tkO (s : ByteArray) (i : Nat) (f : F) : Tz := ⟨3, nT s (i + 1), ⟨#[]⟩, i, nE s (i + 1), true, nF s (i + 1) f⟩
def tkT (s : ByteArray) (i : Nat) (f : F) : Tz := ⟨1, ⟨#[]⟩, LTx.xT s i, i, tnd s i, false, LTx.xL s i f⟩
def tok (s : ByteArray) (i : Nat) (b : Bool) (f : F) : Tz :=
  if b = true then
    (if pre s (skp isb s i) [62] = true then tkE s (skp isb s i) f
    else if pre s (skp isb s i) [47] = true then tkE s (skp isb s i) f
    else if i < skp isb s i then tkA s (skp isb s i) f
    else tkN i f)
  else if pre s i [123, 123] = true then tkI s i f
  else if pre s i [60, 47] = true then tkC s i f
  else if pre s i [60] = true then tkO s i f
  else tkT s i f
set_option maxHeartbeats 1600000 in
theorem scan_c {w : World} {R : Nat} {s : ByteArray} {i : Nat} {b : Bool} {f : F} (h : Lr w R s i b f) (hg : Gm w) (hR0 : 0 < R) :
    Calls Try.prog (sN s i b) #[ptr R] w fun e w' => e = .returned (tv (tok s i b f).k (tok s i b f).n (tok s i b f).t (tok s i b f).a) ∧ Lr w' R s (tok s i b f).i (tok s i b f).b (tok s i b f).f ∧ Kr R w w' := by
  cases b with
  | true =>
    have e1 : sN s i true = 40 := by unfold sN; rw [if_pos rfl]
    rw [e1]
    cases p0 : pre s (skp isb s i) [62] with
    | true =>
      have e2 : tok s i true f = tkE s (skp isb s i) f := by unfold tok; rw [if_pos rfl, if_pos p0]
      rw [e2]; unfold tkE; exact inside_gt h p0
    | false =>
      have n0 : ¬ pre s (skp isb s i) [62] = true := by rw [p0]; decide
      cases p1 : pre s (skp isb s i) [47] with
      | true =>
        have e2 : tok s i true f = tkE s (skp isb s i) f := by unfold tok; rw [if_pos rfl, if_neg n0, if_pos p1]
        rw [e2]; unfold tkE; exact inside_sl h p0 p1
      | false =>
        have n1 : ¬ pre s (skp isb s i) [47] = true := by rw [p1]; decide
        by_cases hap : i < skp isb s i
        · have e2 : tok s i true f = tkA s (skp isb s i) f := by unfold tok; rw [if_pos rfl, if_neg n0, if_neg n1, if_pos hap]
          rw [e2]; unfold tkA; exact inside_at h hg hR0 p0 p1 hap
        · have e2 : tok s i true f = tkN i f := by unfold tok; rw [if_pos rfl, if_neg n0, if_neg n1, if_neg hap]
          rw [e2]; unfold tkN; exact inside_no h p0 p1 (Nat.le_antisymm (skp_ge isb s i) (Nat.le_of_not_lt hap))
  | false =>
    have nb : ¬ false = true := by decide
    cases p0 : pre s i [123, 123] with
    | true =>
      have e1 : sN s i false = 42 := by unfold sN; rw [if_neg nb, if_pos p0]
      have e2 : tok s i false f = tkI s i f := by unfold tok; rw [if_neg nb, if_pos p0]
      rw [e1, e2]; unfold tkI; exact interpolation_c h hg hR0 p0
    | false =>
      have n0 : ¬ pre s i [123, 123] = true := by rw [p0]; decide
      cases p1 : pre s i [60, 47] with
      | true =>
        have e1 : sN s i false = 43 := by unfold sN; rw [if_neg nb, if_neg n0, if_pos p1]
        have e2 : tok s i false f = tkC s i f := by unfold tok; rw [if_neg nb, if_neg n0, if_pos p1]
        rw [e1, e2]; unfold tkC; exact closingTag_c h p1
      | false =>
        have n1 : ¬ pre s i [60, 47] = true := by rw [p1]; decide
        cases p2 : pre s i [60] with
        | true =>
          have e1 : sN s i false = 44 := by unfold sN; rw [if_neg nb, if_neg n0, if_neg n1, if_pos p2]
          have e2 : tok s i false f = tkO s i f := by unfold tok; rw [if_neg nb, if_neg n0, if_neg n1, if_pos p2]
          rw [e1, e2]; unfold tkO; exact openingTag_c h p2
        | false =>
          have n2 : ¬ pre s i [60] = true := by rw [p2]; decide
          have e1 : sN s i false = 45 := by unfold sN; rw [if_neg nb, if_neg n0, if_neg n1, if_neg n2]
          have e2 : tok s i false f = tkT s i f := by unfold tok; rw [if_neg nb, if_neg n0, if_neg n1, if_neg n2]
          rw [e1, e2]; unfold tkT; exact LTx.text_c h
end Go.Proofs.Ytfglbgnjgapehaa.LSn

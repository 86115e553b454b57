/- Two values and an order between them: what the six texts say and come to (no walk). -/
import Derived.Test.YtdeigdbnnbikgaaGreatDoorPZ38
namespace Go.Proofs.YtdeigdbnnbikgaaGreatDoor.VRw
open Go.RowKit Go.Proofs.YtdeigdbnnbikgaaGreatDoor.Base Go.Proofs.YtdeigdbnnbikgaaGreatDoor.EPure Go.Proofs.YtdeigdbnnbikgaaGreatDoor.VPure Go.Proofs.YtdeigdbnnbikgaaGreatDoor.VMp Go.Proofs.YtdeigdbnnbikgaaGreatDoor.VNo Go.Proofs.YtdeigdbnnbikgaaGreatDoor.VVa Go.Proofs.YtdeigdbnnbikgaaGreatDoor.VEv Go.Proofs.YtdeigdbnnbikgaaGreatDoor.VOf Go.Proofs.YtdeigdbnnbikgaaGreatDoor.ELn Go.Proofs.YtdeigdbnnbikgaaGreatDoor.VAp Go.Proofs.YtdeigdbnnbikgaaGreatDoor.VUp
set_option linter.unusedVariables false

/-- The six orders of two values. -/
structure Six (ca cb : C) (less same : Bool) : Prop where
  ab : ∃ c, ord ca.k ca.i ca.s cb.k cb.i cb.s = .ok c ∧ decide (c < 0) = less ∧ decide (c ≤ 0) = (less || same)
  ba : ∃ c, ord cb.k cb.i cb.s ca.k ca.i ca.s = .ok c ∧ decide (c < 0) = (!less && !same) ∧ decide (c ≤ 0) = !less
  eq : Eq.same ca cb = same
theorem six_int (i j : Int) : Six (intC i) (intC j) (decide (i < j)) (i == j) := by
  refine ⟨⟨_, rfl, ?_, ?_⟩, ⟨_, rfl, ?_, ?_⟩, ?_⟩
  · simp only [intC, C.i, Lib.compareInt]; by_cases h : i < j <;> by_cases h' : i > j <;> simp [h, h']
  · simp only [intC, C.i, Lib.compareInt]; by_cases h : i < j <;> by_cases h' : i > j <;> simp [h, h'] <;> omega
  · simp only [intC, C.i, Lib.compareInt]; by_cases h : i < j <;> by_cases h' : j < i <;> simp [h, h'] <;> omega
  · simp only [intC, C.i, Lib.compareInt]; by_cases h : i < j <;> by_cases h' : j < i <;> simp [h, h'] <;> omega
  · simp [Eq.same, intC]
theorem cmp_ways : ∀ x y : List UInt8, (Op.bytesLess x y = true ∧ (x == y) = false ∧ Lib.compareBytes x y = -1 ∧ Lib.compareBytes y x = 1) ∨ (Op.bytesLess x y = false ∧ (x == y) = true ∧ Lib.compareBytes x y = 0 ∧ Lib.compareBytes y x = 0) ∨ (Op.bytesLess x y = false ∧ (x == y) = false ∧ Lib.compareBytes x y = 1 ∧ Lib.compareBytes y x = -1)
  | [], [] => .inr (.inl ⟨rfl, rfl, rfl, rfl⟩)
  | [], _ :: _ => .inl ⟨rfl, rfl, rfl, rfl⟩
  | _ :: _, [] => .inr (.inr ⟨rfl, rfl, rfl, rfl⟩)
  | a :: x, b :: y => by
    by_cases h1 : a < b
    · have h2 : ¬ b < a := fun h => by have h1 : a.toNat < b.toNat := h1; have h : b.toNat < a.toNat := h; omega
      have h3 : ¬ a = b := fun h => by subst h; exact h2 h1
      exact .inl ⟨by simp [Op.bytesLess, h1], by simp [h3], by simp [Lib.compareBytes, h1], by simp [Lib.compareBytes, h1, h2]⟩
    by_cases h2 : b < a
    · have h3 : ¬ a = b := fun h => by subst h; exact h1 h2
      exact .inr (.inr ⟨by simp [Op.bytesLess, h1, h3], by simp [h3], by simp [Lib.compareBytes, h1, h2], by simp [Lib.compareBytes, h2]⟩)
    have e : a = b := by
      have h1 : ¬ a.toNat < b.toNat := h1
      have h2 : ¬ b.toNat < a.toNat := h2
      exact UInt8.toNat_inj.1 (by omega)
    subst e
    have ih := cmp_ways x y
    simpa [Op.bytesLess, Lib.compareBytes] using ih
theorem six_str (s t : ByteArray) : Six (strC s) (strC t) (Op.bytesLess s.toList t.toList) (s.toList == t.toList) := by
  have es : s.data.toList = s.toList := (ByteArray.toList_eq s).symm
  have et : t.data.toList = t.toList := (ByteArray.toList_eq t).symm
  have hw := cmp_ways s.toList t.toList
  refine ⟨⟨Lib.compareBytes s.toList t.toList, ?_, ?_, ?_⟩, ⟨Lib.compareBytes t.toList s.toList, ?_, ?_, ?_⟩, ?_⟩
  · rw [← es, ← et]; rfl
  · rcases hw with ⟨h1, h2, h3, h4⟩ | ⟨h1, h2, h3, h4⟩ | ⟨h1, h2, h3, h4⟩ <;> simp [h1, h3]
  · rcases hw with ⟨h1, h2, h3, h4⟩ | ⟨h1, h2, h3, h4⟩ | ⟨h1, h2, h3, h4⟩ <;> simp [h1, h2, h3]
  · rw [← es, ← et]; rfl
  · rcases hw with ⟨h1, h2, h3, h4⟩ | ⟨h1, h2, h3, h4⟩ | ⟨h1, h2, h3, h4⟩ <;> simp [h1, h2, h4]
  · rcases hw with ⟨h1, h2, h3, h4⟩ | ⟨h1, h2, h3, h4⟩ | ⟨h1, h2, h3, h4⟩ <;> simp [h1, h4]
  · simp [Eq.same, strC, Eq.eqB]
/-- What is bound: two names to two values. -/
def bsR (ca cb : C) : List Bn := [(⟨#[97]⟩, ca), (⟨#[98]⟩, cb)]
theorem rhoR_a (ca cb : C) : rho (bsR ca cb) ⟨#[97]⟩ = some ca := by simp [rho, bsR]
theorem rhoR_b (ca cb : C) : rho (bsR ca cb) ⟨#[98]⟩ = some cb := by simp [rho, bsR]
/-- The six texts, and what they come to. -/
def tR (q : Nat) : ByteArray := if q = 0 then ⟨#[97, 32, 60, 32, 98]⟩ else if q = 1 then ⟨#[97, 32, 60, 61, 32, 98]⟩ else if q = 2 then ⟨#[97, 32, 62, 32, 98]⟩ else if q = 3 then ⟨#[97, 32, 62, 61, 32, 98]⟩ else if q = 4 then ⟨#[97, 32, 61, 61, 32, 98]⟩ else ⟨#[97, 32, 33, 61, 32, 98]⟩
def wR (less same : Bool) (q : Nat) : Bool := if q = 0 then less else if q = 1 then (less || same) else if q = 2 then (!less && !same) else if q = 3 then !less else if q = 4 then same else !same
def sgR : List (List UInt8 × Int) := [([97, 32, 60, 32, 98], 23), ([97, 32, 60, 61, 32, 98], 24), ([97, 32, 62, 32, 98], 25), ([97, 32, 62, 61, 32, 98], 26), ([97, 32, 61, 61, 32, 98], 27), ([97, 32, 33, 61, 32, 98], 28)]
theorem prsR : ∀ q ∈ sgR, prs ⟨q.1.toArray⟩ = .ok (nd q.2 [va, vb]) := by
  have h : sgR.all (fun q => isx q.1 (nd q.2 [va, vb])) = true := by decide +kernel
  intro q hq
  exact isx_eq (List.all_eq_true.1 h q hq)
theorem ftR : ∀ q ∈ sgR, PFit.ft q.2 0 ⟨#[]⟩ = true ∧ PPl.kd q.2 = 2 := by decide
theorem mayR : ∀ q ∈ sgR, may (nd q.2 [va, vb]) = true := by
  intro q hq
  obtain ⟨h1, h2⟩ := ftR q hq
  simp [may, nd, va, vb, PMay.mayL, h1, h2, fa6, fb6, k6]
theorem opsR : ∀ q ∈ sgR, ops okOp (nd q.2 [va, vb]) := by
  intro q hq
  simp only [sgR, List.mem_cons, List.not_mem_nil, or_false] at hq
  rcases hq with rfl | rfl | rfl | rfl | rfl | rfl <;> simp [ops, Ex.o, Ex.l, opsL, okOp, nd, va, vb]
theorem evR (ca cb : C) : ∀ q ∈ sgR, ev (rho (bsR ca cb)) (nd q.2 [va, vb]) = pr2 q.2 ca cb := by
  intro q hq
  simp only [sgR, List.mem_cons, List.not_mem_nil, or_false] at hq
  rcases hq with rfl | rfl | rfl | rfl | rfl | rfl <;> simp [ev, Ex.o, Ex.l, nd, va, vb, evL, node, rhoR_a, rhoR_b, bnd, snd2]
theorem rowR {q : Nat} (hq : q < 6) {ca cb : C} {less same : Bool} (h : Six ca cb less same) : ∃ x, prs (tR q) = .ok x ∧ may x = true ∧ ops okOp x ∧ ev (rho (bsR ca cb)) x = .ok (booC (wR less same q)) := by
  obtain ⟨⟨c, h1, h2, h3⟩, ⟨d, k1, k2, k3⟩, e⟩ := h
  have g : ∀ (t : List UInt8) (o : Int) (B : Bool), (t, o) ∈ sgR → pr2 o ca cb = .ok (booC B) → ∃ x, prs ⟨t.toArray⟩ = .ok x ∧ may x = true ∧ ops okOp x ∧ ev (rho (bsR ca cb)) x = .ok (booC B) := fun t o B h hB => ⟨_, prsR _ h, mayR _ h, opsR _ h, (evR ca cb _ h).trans hB⟩
  have : q = 0 ∨ q = 1 ∨ q = 2 ∨ q = 3 ∨ q = 4 ∨ q = 5 := by omega
  rcases this with rfl | rfl | rfl | rfl | rfl | rfl
  · exact g [97, 32, 60, 32, 98] 23 less (by decide) (by simp [pr2, ordL, h1, bnd, h2])
  · exact g [97, 32, 60, 61, 32, 98] 24 (less || same) (by decide) (by simp [pr2, ordM, h1, bnd, h3])
  · exact g [97, 32, 62, 32, 98] 25 (!less && !same) (by decide) (by simp [pr2, ordL, k1, bnd, k2])
  · exact g [97, 32, 62, 61, 32, 98] 26 (!less) (by decide) (by simp [pr2, ordM, k1, bnd, k3])
  · exact g [97, 32, 61, 61, 32, 98] 27 same (by decide) (by simp [pr2, e])
  · exact g [97, 32, 33, 61, 32, 98] 28 (!same) (by decide) (by simp [pr2, e])
theorem tR_size {q : Nat} : (tR q).size ≤ 140737488351300 := by
  unfold tR
  repeat' split
  all_goals decide
/-- What of answers at a text of the six. -/
theorem ofR {q : Nat} (hq : q < 6) {ca cb : C} {less same : Bool} (h : Six ca cb less same) (h1 : code ca = 0) (h2 : code cb = 0) (d1 : Shallow.dep ca ≤ 4097) (d2 : Shallow.dep cb ≤ 4097) {K : Nat} {w : World} {v : Value} (hv : Bl K 1 w v (bsR ca cb)) (hK : K ≤ w.heap.size) (hT : TX w) :
    Calls Tryz.prog 38 #[.string (tR q), v] w fun e w' => EV 1 w (booC (wR less same q)) 0 e w' := by
  obtain ⟨x, hp, hm, ho, he⟩ := rowR hq h
  have h := of_c (m := 0) tR_size hp hv hK (fun b hb => by
    simp only [bsR, List.mem_cons, List.not_mem_nil, or_false] at hb
    rcases hb with rfl | rfl
    · exact d1
    · exact d2) hT hm (by simp [bad, bsR, h1, h2]) ho
  rw [he] at h
  exact h
end Go.Proofs.YtdeigdbnnbikgaaGreatDoor.VRw

import Derived.Test.YtnoohlmlpijhaaaGreatDoorPZ17
import Derived.Test.YtnoohlmlpijhaaaGreatDoorPZ24
import Derived.Test.YtnoohlmlpijhaaaGreatDoorPZ25
import Derived.Test.YtnoohlmlpijhaaaGreatDoorPZ26
namespace Go.Proofs.YtnoohlmlpijhaaaGreatDoor.EBm
open Go.Proofs.YtnoohlmlpijhaaaGreatDoor.UBase Go.Proofs.YtnoohlmlpijhaaaGreatDoor.EPure Go.Proofs.YtnoohlmlpijhaaaGreatDoor.EDn Go.Proofs.YtnoohlmlpijhaaaGreatDoor.EBs Go.Proofs.YtnoohlmlpijhaaaGreatDoor.EBx Go.Proofs.YtnoohlmlpijhaaaGreatDoor.EBl Go.Proofs.YtnoohlmlpijhaaaGreatDoor.EBo Go.Proofs.YtnoohlmlpijhaaaGreatDoor.EBk Go.Proofs.YtnoohlmlpijhaaaGreatDoor.PPl Go.Proofs.YtnoohlmlpijhaaaGreatDoor.PFit Go.Proofs.YtnoohlmlpijhaaaGreatDoor.PTx Go.Proofs.YtnoohlmlpijhaaaGreatDoor.ENd Go.Proofs.YtnoohlmlpijhaaaGreatDoor.ERg
open Go.Proofs.YtnoohlmlpijhaaaGreatDoor.PPr (kl bdy prL pr gd gdL gdL_cons gd_range pr1 pr2 pr3 prL_nil prL_cons)
set_option linter.unusedVariables false
theorem big2 {X : A Ex} {e : F} (h : X = .error e) (h2 : e.1 = 1002) : Big X := ⟨e, h, .inr h2⟩
/-- A sign of one byte is passed. -/
theorem tak_one {s : ByteArray} {i r : Nat} {c : UInt8} {g : Sr} (hc : sgl c = true) (h : St s i [c]) (hg : adv s i r = .ok g) : tak s [c] g = adv s (i + 1) (r + 1) := by
  rw [(one_tok hc h).ok hg]
  unfold tak
  rw [if_pos]
  show ((4 == 4) && ([c] == [c])) = true
  simp
theorem adv_tok {s : ByteArray} {i j r : Nat} {t : Tk} (h : Tok s i t j) : (∃ e, adv s i r = .error e ∧ e.1 = 1002) ∨ ∃ g, adv s i r = .ok g ∧ g.tk.k ≠ 0 := by
  rcases h.adv r with e | ⟨_, e⟩
  · exact .inl ⟨_, e, rfl⟩
  · exact .inr ⟨_, e, h.2.2⟩
/-- What stands between a sign and its like is read one deeper. -/
theorem between {s : ByteArray} {C : P} {i : Nat} {o c : UInt8} {T : List UInt8} {x : Ex} (ho : sgl o = true) (hc : sgl c = true) (h : St s i (o :: (T ++ [c]))) (hC : Rd s C (i + 1) (i + 1 + T.length) x)
    (hA : ∀ r, (∃ e, adv s (i + 1) r = .error e ∧ e.1 = 1002) ∨ ∃ g, adv s (i + 1) r = .ok g ∧ g.tk.k ≠ 0) (hj : ∀ r, (∃ e, adv s (i + 2 + T.length) r = .error e ∧ e.1 = 1002) ∨ ∃ g, adv s (i + 2 + T.length) r = .ok g) :
    Rd s (btw s C [o] [c]) i (i + 2 + T.length) x := by
  intro r g hg
  unfold btw
  rw [tak_one ho (St.left (t := [o]) h) hg]
  rcases hA (r + 1) with ⟨e, he, h2⟩ | ⟨g1, he, _⟩
  · simp only [he]; exact .inl (big2 rfl h2)
  simp only [he]
  rcases hC _ _ he with ⟨e, h1, h2⟩ | ⟨r', g2, h1, h2⟩
  · simp only [h1]; exact .inl ⟨e, rfl, h2⟩
  simp only [h2]
  have hl : St s (i + 1 + T.length) [c] := h.tail.right
  rw [tak_one hc hl h1]
  have e3 : i + 1 + T.length + 1 = i + 2 + T.length := by omega
  rw [e3]
  rcases hj (r' + 1) with ⟨e, he, h2⟩ | ⟨g3, he⟩
  · simp only [he]; exact .inl (big2 rfl h2)
  · simp only [he]; exact .inr ⟨_, g3, he, rfl⟩
theorem fo_adv {s : ByteArray} {y j : Nat} (h : Fo s y j) (r : Nat) : (∃ e, adv s j r = .error e ∧ e.1 = 1002) ∨ ∃ g, adv s j r = .ok g := by
  rcases h.2.2 r with e | ⟨g, h, _⟩
  · exact .inl e
  · exact .inr ⟨g, h⟩
section
variable {s : ByteArray} {m : Nat}
/-- An if that lies deeper, read. -/
def RC (s : ByteArray) (m : Nat) : Prop := ∀ x, gd x → rgL [x] → ∀ i, St s i (pr (-1) x) → Fo s 0 (i + (pr (-1) x).length) → Rd s (lv2 s m).2 i (i + (pr (-1) x).length) x
def RS (s : ByteArray) (m : Nat) : Prop := ∀ x, gd x → rgL [x] → ∀ i, St s i (pr 11 x) → Fo s 12 (i + (pr 11 x).length) → Rd s (lv2 s m).1 i (i + (pr 11 x).length) x
theorem av {x : Ex} (hg : gd x) (hr : rgL [x]) {z : Int} {i y : Nat} (h : St s i (pr z x)) (hf : Fo s y (i + (pr z x).length)) (r : Nat) : (∃ e, adv s i r = .error e ∧ e.1 = 1002) ∨ ∃ g, adv s i r = .ok g ∧ g.tk.k ≠ 0 := by
  obtain ⟨t, j', ht, _⟩ := first _ x (Nat.le_refl _) hg hr z i h hf.1
  exact adv_tok ht
/-- A word, read: the token, and what it says. -/
theorem word_q {x : Ex} {i j : Nat} {t : Tk} (ht : Tok s i t j) (h45 : is t [45] = false) (h33 : is t [33] = false) (hf : Fo s 13 j)
    (hw : ∀ r g', adv s j (r + 1) = .ok g' → wor s (lv2 s m).2 ⟨t, j, r + 1⟩ = .ok (x, g')) (he : ∀ r e, adv s j (r + 1) = .error e → wor s (lv2 s m).2 ⟨t, j, r + 1⟩ = .error e) (hij : i ≤ j) : Q s m i j x 13 := by
  unfold Q
  rw [if_pos rfl]
  intro r g hg
  obtain rfl := ht.ok hg
  refine ⟨⟨h45, h33⟩, ?_⟩
  unfold EPure.par
  rcases fo_adv hf (r + 1) with ⟨e, h1, h2⟩ | ⟨g', h1⟩
  · simp only [he r e h1]; exact .inl (big2 rfl h2)
  · simp only [hw r g' h1]; exact .inr ⟨_, g', _, h1, rfl, by omega⟩
/-- What stands in parentheses. -/
theorem paren_q (hC : RC s m) {x : Ex} (hg : gd x) (hr : rgL [x]) {i : Nat} (h : St s i (40 :: (pr (-1) x ++ [41]))) (hf : Fo s 13 (i + 2 + (pr (-1) x).length)) : Q s m i (i + 2 + (pr (-1) x).length) x 13 := by
  have hcl : St s (i + 1 + (pr (-1) x).length) [41] := h.tail.right
  have hB := between (C := (lv2 s m).2) (o := 40) (c := 41) rfl rfl h (hC x hg hr (i + 1) h.tail.left (fo_close (.inl rfl) hcl)) (av hg hr h.tail.left (fo_close (.inl rfl) hcl)) (fo_adv hf)
  unfold Q
  rw [if_pos rfl]
  intro r g hg'
  have ht := (one_tok (c := 40) rfl (St.left (t := [40]) h)).ok hg'
  have hw : wor s (lv2 s m).2 g = btw s (lv2 s m).2 [40] [41] g := by
    unfold wor
    rw [ht]
    rfl
  refine ⟨by rw [ht]; exact ⟨rfl, rfl⟩, ?_⟩
  unfold EPure.par
  rw [hw]
  rcases hB r g hg' with ⟨e, h1, h2⟩ | ⟨r', g', h1, h2⟩
  · simp only [h1]; exact .inl ⟨e, rfl, h2⟩
  · simp only [h2]; exact .inr ⟨r', g', _, h1, rfl, by omega⟩
/-- What the levels say of a tree, its kids read already. -/
def HQ (s : ByteArray) (m n : Nat) : Prop := ∀ x, SizeOf.sizeOf x ≤ n → gd x → rgL [x] → ∀ (z : Int) (i : Nat), -1 ≤ z → z ≤ 12 → St s i (pr z x) → Fo s (need (z + 1).toNat) (i + (pr z x).length) → Q s m i (i + (pr z x).length) x (z + 1).toNat
theorem q_if {n : Nat} (hC : RC s m) (ih : HQ s m n) {a b c : Ex} (hn : SizeOf.sizeOf (nd 31 [a, b, c]) ≤ n + 1) (ha : gd a) (hb : gd b) (hc : gd c) (hr : rgL [a, b, c]) {i : Nat}
    (h : St s i (pr (-1) (nd 31 [a, b, c]))) (hf : Fo s 0 (i + (pr (-1) (nd 31 [a, b, c])).length)) : Q s m i (i + (pr (-1) (nd 31 [a, b, c])).length) (nd 31 [a, b, c]) 0 := by
  obtain ⟨ra, hr⟩ := rg1 hr
  obtain ⟨rb, hr⟩ := rg1 hr
  obtain ⟨rc, -⟩ := rg1 hr
  rw [tx_if] at h hf ⊢
  obtain ⟨A, hA⟩ : ∃ A, pr 0 a = A := ⟨_, rfl⟩
  obtain ⟨B, hB⟩ : ∃ B, pr (-1) b = B := ⟨_, rfl⟩
  obtain ⟨Z, hZ⟩ : ∃ Z, pr (-1) c = Z := ⟨_, rfl⟩
  rw [hA, hB, hZ] at h hf ⊢
  have e1 : i + (A ++ ([32, 63, 32] ++ (B ++ ([32, 58, 32] ++ Z)))).length = i + A.length + 3 + B.length + 3 + Z.length := by simp; omega
  rw [e1] at hf ⊢
  have s1 := h.right
  have s2 := s1.right
  have s3 := s2.right
  have s4 := s3.right
  simp only [List.length_cons, List.length_nil, Nat.zero_add] at s2 s3 s4
  have f1 : Fo s 1 (i + A.length) := fo_if (St.left (t := [32, 63]) (u := [32] ++ (B ++ ([32, 58, 32] ++ Z))) s1)
  have f2 : Fo s 0 (i + A.length + 3 + B.length) := fo_colon (St.left (t := [32, 58]) (u := [32] ++ Z) s3)
  have qa := ih a (by simp [nd] at hn; omega) ha ra 0 i (by omega) (by omega) (by rw [hA]; exact h.left) (by rw [hA]; exact f1.mono (by simp [need]))
  rw [hA] at qa
  have ca := closed (by decide) (by decide) qa f1
  have rdb := hC b hb rb (i + A.length + 3) (by rw [hB]; exact s2.left) (by rw [hB]; exact f2)
  rw [hB] at rdb
  have rdc := hC c hc rc (i + A.length + 3 + B.length + 3) (by rw [hZ]; exact s4) (by rw [hZ]; exact hf)
  rw [hZ] at rdc
  have avb := av (s := s) hb rb (z := -1) (i := i + A.length + 3) (y := 0) (by rw [hB]; exact s2.left) (by rw [hB]; exact f2)
  have avc := av (s := s) hc rc (z := -1) (i := i + A.length + 3 + B.length + 3) (y := 0) (by rw [hZ]; exact s4) (by rw [hZ]; exact hf)
  have t63 := one_tok (s := s) (c := 63) rfl (St.left (t := [63]) s1.tail)
  have t58 := one_tok (s := s) (c := 58) rfl (St.left (t := [58]) s3.tail)
  unfold Q
  rw [if_neg (by decide), if_neg (by decide), if_pos rfl]
  intro r g hg
  show Big (chc s (lv2 s (m + 1)).1 (lv2 s m).2 g) ∨ ∃ r' g', adv s _ r' = .ok g' ∧ chc s (lv2 s (m + 1)).1 (lv2 s m).2 g = .ok (_, g')
  unfold chc
  rcases ca r g hg with ⟨e, h1, h2⟩ | ⟨r1, g1, h1, h2⟩
  · have h1' : lev s (lv2 s (m + 1)).1 11 g = .error e := h1
    simp only [h1']; exact .inl ⟨e, rfl, h2⟩
  have h2' : lev s (lv2 s (m + 1)).1 11 g = .ok (a, g1) := h2
  simp only [h2']
  rw [adv_blank s1 rfl] at h1
  obtain rfl := t63.ok h1
  rw [if_pos (show is (⟨4, ⟨#[63]⟩, 0, i + A.length + 1⟩ : Tk) [63] = true from rfl)]
  have eb : ∀ r, adv s (i + A.length + 1 + 1) r = adv s (i + A.length + 3) r := fun r => adv_blank (c := 32) (t := B ++ ([32, 58, 32] ++ Z)) s1.tail.tail rfl
  simp only [eb]
  rcases avb (r1 + 1) with ⟨e, he, h3⟩ | ⟨g2, he, _⟩
  · simp only [he]; exact .inl (big2 rfl h3)
  simp only [he]
  rcases rdb _ _ he with ⟨e, h3, h4⟩ | ⟨r3, g3, h3, h4⟩
  · simp only [h3]; exact .inl ⟨e, rfl, h4⟩
  simp only [h4]
  rw [adv_blank s3 rfl] at h3
  rw [tak_one (c := 58) rfl (St.left (t := [58]) s3.tail) h3]
  have ec : ∀ r, adv s (i + A.length + 3 + B.length + 1 + 1) r = adv s (i + A.length + 3 + B.length + 3) r := fun r => adv_blank (c := 32) (t := Z) s3.tail.tail rfl
  simp only [ec]
  rcases avc (r3 + 1) with ⟨e, he, h5⟩ | ⟨g4, he, _⟩
  · simp only [he]; exact .inl (big2 rfl h5)
  simp only [he]
  rcases rdc _ _ he with ⟨e, h5, h6⟩ | ⟨r5, g5, h5, h6⟩
  · simp only [h5]; exact .inl ⟨e, rfl, h6⟩
  · simp only [h6]; exact .inr ⟨r5, g5, h5, rfl⟩
theorem q_op {n : Nat} (ih : HQ s m n) {o : Int} (o1 : 12 ≤ o) (o2 : o ≤ 30) {a b : Ex} (hn : SizeOf.sizeOf (nd o [a, b]) ≤ n + 1) (ha : gd a) (hb : gd b) (hr : rgL [a, b]) {i : Nat}
    (h : St s i (pr (-1) (nd o [a, b]))) (hf : Fo s ((lvl o).toNat + 2) (i + (pr (-1) (nd o [a, b])).length)) : Q s m i (i + (pr (-1) (nd o [a, b])).length) (nd o [a, b]) ((lvl o).toNat + 1) := by
  obtain ⟨ra, hr⟩ := rg1 hr
  obtain ⟨rb, -⟩ := rg1 hr
  rw [tx_op o1 o2] at h hf ⊢
  have hl := lvl_op o1 o2
  have hp := sgo_pos o1 o2
  obtain ⟨k, hk⟩ : ∃ k, (lvl o).toNat = k := ⟨_, rfl⟩
  have hk1 : lvl o = k := by omega
  obtain ⟨A, hA⟩ : ∃ A, pr (lvl o) a = A := ⟨_, rfl⟩
  obtain ⟨B, hB⟩ : ∃ B, pr (lvl o + 1) b = B := ⟨_, rfl⟩
  obtain ⟨n', hn'⟩ : ∃ n', (sgo o).length = n' := ⟨_, rfl⟩
  rw [hA, hB] at h hf ⊢
  rw [hk] at hf ⊢
  have e1 : i + (A ++ (32 :: (sgo o ++ [32]) ++ B)).length = i + A.length + (n' + 2) + B.length := by simp [hn']; omega
  rw [e1] at hf ⊢
  have s1 := h.right
  have s2 := s1.right
  rw [show (32 :: (sgo o ++ [32])).length = n' + 2 by simp [hn']] at s2
  have f1 : Fo s (k + 2) (i + A.length) := by have := fo_op o1 o2 s1.left; rwa [hk] at this
  have qa := ih a (by simp [nd] at hn; omega) ha ra (lvl o) i (by omega) (by omega) (by rw [hA]; exact h.left) (by rw [hA]; exact f1.mono (by unfold need; rw [if_neg (by omega), if_pos (by omega)]; omega))
  rw [hA, show (lvl o + 1).toNat = k + 1 by omega] at qa
  have qb := ih b (by simp [nd] at hn; omega) hb rb (lvl o + 1) (i + A.length + (n' + 2)) (by omega) (by omega) (by rw [hB]; exact s2) (by rw [hB]; exact hf.mono (by rw [show (lvl o + 1 + 1).toNat = k + 2 by omega]; exact le_need _))
  rw [hB, show (lvl o + 1 + 1).toNat = k + 2 by omega] at qb
  have cb := closed (by omega) (by omega) qb hf
  have avb := av (s := s) hb rb (z := lvl o + 1) (i := i + A.length + (n' + 2)) (y := k + 2) (by rw [hB]; exact s2) (by rw [hB]; exact hf)
  have tk := op_tok o1 o2 s1.left.tail
  unfold Q at qa ⊢
  rw [if_neg (by omega), if_neg (by omega), if_neg (by omega)] at qa ⊢
  rw [Nat.add_sub_cancel] at qa ⊢
  intro r g hg
  rcases qa r g hg with hb' | ⟨r1, g1, f, h1, h2, h3⟩
  · exact .inl hb'
  rw [h2]
  have hj := hf.2.1
  cases f with
  | zero => omega
  | succ f =>
    rw [adv_blank s1.left rfl] at h1
    obtain rfl := tk.ok h1
    rw [more, op_of o1 o2 (by omega), if_pos hk1.symm]
    simp only
    have eb : ∀ r, adv s (i + A.length + 1 + (sgo o).length) r = adv s (i + A.length + (n' + 2)) r := by
      intro r
      have hx : St s (i + A.length + 1 + (sgo o).length) [32] := s1.left.tail.right
      rw [adv_blank hx rfl, show i + A.length + 1 + (sgo o).length + 1 = i + A.length + (n' + 2) by omega]
    simp only [eb]
    rcases avb (r1 + 1) with ⟨e, he, h5⟩ | ⟨g2, he, _⟩
    · simp only [he]; exact .inl (big2 rfl h5)
    simp only [he]
    rw [show 12 - (k + 2) = 10 - k by omega] at cb
    rcases cb _ _ he with ⟨e, h5, h6⟩ | ⟨r3, g3, h5, h6⟩
    · simp only [h5]; exact .inl ⟨e, rfl, h6⟩
    · simp only [h6]; exact .inr ⟨r3, g3, f, h5, rfl, by omega⟩
theorem q_sg (hS : RS s m) {o : Int} (ho : o = 10 ∨ o = 11) {a : Ex} (ha : gd a) (ra : rgL [a]) {i : Nat}
    (h : St s i (pr (-1) (nd o [a]))) (hf : Fo s 12 (i + (pr (-1) (nd o [a])).length)) : Q s m i (i + (pr (-1) (nd o [a])).length) (nd o [a]) 12 := by
  rw [tx_sg ho] at h hf ⊢
  have e1 : ∀ c : UInt8, i + (c :: pr 11 a).length = i + 1 + (pr 11 a).length := fun c => by simp; omega
  rw [e1] at hf ⊢
  have rda := hS a ha ra (i + 1) h.tail hf
  have ava := av (s := s) ha ra (z := 11) (i := i + 1) (y := 12) h.tail hf
  obtain ⟨c, t, e, hc⟩ := pr_hd _ a (Nat.le_refl _) ha 11
  unfold Q
  rw [if_neg (by decide), if_pos rfl]
  intro r g hg
  show Big (sgd s (lv2 s m).1 (lv2 s m).2 g) ∨ ∃ r' g', adv s _ r' = .ok g' ∧ sgd s (lv2 s m).1 (lv2 s m).2 g = .ok (_, g')
  unfold sgd
  rcases ho with rfl | rfl
  · have h' : St s i [45] := St.left (t := [45]) h
    obtain rfl := (one_tok (c := 45) rfl h').ok hg
    rw [if_pos (show is (⟨4, ⟨#[45]⟩, 0, i⟩ : Tk) [45] = true from rfl)]
    simp only
    rcases ava (r + 1) with ⟨e, he, h5⟩ | ⟨g2, he, _⟩
    · simp only [he]; exact .inl (big2 rfl h5)
    simp only [he]
    rcases rda _ _ he with ⟨e, h5, h6⟩ | ⟨r3, g3, h5, h6⟩
    · simp only [h5]; exact .inl ⟨e, rfl, h6⟩
    · simp only [h6]; exact .inr ⟨r3, g3, h5, rfl⟩
  · have h' : St s i (33 :: pr 11 a) := h
    rw [e] at h'
    obtain rfl := (not_tok hc (St.left (t := [33, c]) h')).ok hg
    rw [if_neg (by rw [show is (⟨4, ⟨#[33]⟩, 0, i⟩ : Tk) [45] = false from rfl]; simp), if_pos (show is (⟨4, ⟨#[33]⟩, 0, i⟩ : Tk) [33] = true from rfl)]
    simp only
    rcases ava (r + 1) with ⟨e, he, h5⟩ | ⟨g2, he, _⟩
    · simp only [he]; exact .inl (big2 rfl h5)
    simp only [he]
    rcases rda _ _ he with ⟨e, h5, h6⟩ | ⟨r3, g3, h5, h6⟩
    · simp only [h5]; exact .inl ⟨e, rfl, h6⟩
    · simp only [h6]; exact .inr ⟨r3, g3, h5, rfl⟩
end
end Go.Proofs.YtnoohlmlpijhaaaGreatDoor.EBm
namespace Go.Proofs.YtnoohlmlpijhaaaGreatDoor.EBn
open Go.Proofs.YtnoohlmlpijhaaaGreatDoor.UBase Go.Proofs.YtnoohlmlpijhaaaGreatDoor.EPure Go.Proofs.YtnoohlmlpijhaaaGreatDoor.EDn Go.Proofs.YtnoohlmlpijhaaaGreatDoor.EBs Go.Proofs.YtnoohlmlpijhaaaGreatDoor.EBx Go.Proofs.YtnoohlmlpijhaaaGreatDoor.EBl Go.Proofs.YtnoohlmlpijhaaaGreatDoor.EBo Go.Proofs.YtnoohlmlpijhaaaGreatDoor.EBk Go.Proofs.YtnoohlmlpijhaaaGreatDoor.EBm Go.Proofs.YtnoohlmlpijhaaaGreatDoor.PPl Go.Proofs.YtnoohlmlpijhaaaGreatDoor.PFit Go.Proofs.YtnoohlmlpijhaaaGreatDoor.PTx Go.Proofs.YtnoohlmlpijhaaaGreatDoor.ENd Go.Proofs.YtnoohlmlpijhaaaGreatDoor.ERg
open Go.Proofs.YtnoohlmlpijhaaaGreatDoor.PPr (kl bdy prL pr gd gdL gdL_cons gd_range pr1 pr2 pr3 prL_nil prL_cons)
set_option linter.unusedVariables false
section
variable {s : ByteArray} {m : Nat}
theorem q_field {n : Nat} (ih : HQ s m n) {t : ByteArray} (ht : word t 95 = true) {a : Ex} (hn : SizeOf.sizeOf (Ex.mk 7 0 t [a]) ≤ n + 1) (ha : gd a) (ra : rgL [a]) {i : Nat}
    (h : St s i (pr (-1) (.mk 7 0 t [a]))) (hf : Fo s 13 (i + (pr (-1) (.mk 7 0 t [a])).length)) : Q s m i (i + (pr (-1) (.mk 7 0 t [a])).length) (.mk 7 0 t [a]) 13 := by
  rw [tx_field] at h hf ⊢
  obtain ⟨A, hA⟩ : ∃ A, pr 12 a = A := ⟨_, rfl⟩
  rw [hA] at h hf ⊢
  have e1 : i + (A ++ 46 :: t.data.toList).length = i + A.length + 1 + t.data.toList.length := by simp; omega
  rw [e1] at hf ⊢
  have s1 := h.right
  have f1 := fo_part (s := s) (c := 46) (.inl rfl) (St.left (t := [46]) s1)
  have qa := ih a (by simp at hn; omega) ha ra 12 i (by omega) (by omega) (by rw [hA]; exact h.left) (by rw [hA]; exact f1.mono (by decide))
  rw [hA] at qa
  have tn := name_tok s1.tail ht hf.1
  have hj := hf.2.1
  unfold Q at qa ⊢
  rw [if_pos (by decide)] at qa
  rw [if_pos rfl]
  intro r g hg
  obtain ⟨q1, q2⟩ := qa r g hg
  refine ⟨q1, ?_⟩
  rcases q2 with hb | ⟨r1, g1, f, h1, h2, h3⟩
  · exact .inl hb
  rw [h2]
  cases f with
  | zero => omega
  | succ f =>
    obtain rfl := (one_tok (c := 46) rfl (St.left (t := [46]) s1)).ok h1
    rw [prt, if_pos (show is (⟨4, ⟨#[46]⟩, 0, i + A.length⟩ : Tk) [46] = true from rfl)]
    simp only
    rcases tn.adv (r1 + 1) with he | ⟨_, he⟩
    · simp only [he]; exact .inl (big2 rfl rfl)
    simp only [he, if_true]
    rcases fo_adv hf (r1 + 1 + 1) with ⟨e, h5, h6⟩ | ⟨g3, h5⟩
    · simp only [h5]; exact .inl (big2 rfl h6)
    · simp only [h5]; exact .inr ⟨_, g3, f, h5, rfl, by omega⟩
theorem q_index {n : Nat} (hC : RC s m) (ih : HQ s m n) {a b : Ex} (hn : SizeOf.sizeOf (nd 8 [a, b]) ≤ n + 1) (ha : gd a) (hb : gd b) (hr : rgL [a, b]) {i : Nat}
    (h : St s i (pr (-1) (nd 8 [a, b]))) (hf : Fo s 13 (i + (pr (-1) (nd 8 [a, b])).length)) : Q s m i (i + (pr (-1) (nd 8 [a, b])).length) (nd 8 [a, b]) 13 := by
  obtain ⟨ra, hr⟩ := rg1 hr
  obtain ⟨rb, -⟩ := rg1 hr
  rw [tx_index] at h hf ⊢
  obtain ⟨A, hA⟩ : ∃ A, pr 12 a = A := ⟨_, rfl⟩
  obtain ⟨B, hB⟩ : ∃ B, pr (-1) b = B := ⟨_, rfl⟩
  rw [hA, hB] at h hf ⊢
  have e1 : i + (A ++ 91 :: (B ++ [93])).length = i + A.length + 2 + B.length := by simp; omega
  rw [e1] at hf ⊢
  have s1 := h.right
  have f1 := fo_part (s := s) (c := 91) (.inr rfl) (St.left (t := [91]) s1)
  have f2 : Fo s 0 (i + A.length + 1 + B.length) := fo_close (.inr rfl) s1.tail.right
  have qa := ih a (by simp [nd] at hn; omega) ha ra 12 i (by omega) (by omega) (by rw [hA]; exact h.left) (by rw [hA]; exact f1.mono (by decide))
  rw [hA] at qa
  have rdb := hC b hb rb (i + A.length + 1) (by rw [hB]; exact s1.tail.left) (by rw [hB]; exact f2)
  rw [hB] at rdb
  have avb := av (s := s) hb rb (z := -1) (i := i + A.length + 1) (y := 0) (by rw [hB]; exact s1.tail.left) (by rw [hB]; exact f2)
  have hB' := between (C := (lv2 s m).2) (o := 91) (c := 93) rfl rfl s1 rdb avb (fo_adv hf)
  have hj := hf.2.1
  unfold Q at qa ⊢
  rw [if_pos (by decide)] at qa
  rw [if_pos rfl]
  intro r g hg
  obtain ⟨q1, q2⟩ := qa r g hg
  refine ⟨q1, ?_⟩
  rcases q2 with hb | ⟨r1, g1, f, h1, h2, h3⟩
  · exact .inl hb
  rw [h2]
  cases f with
  | zero => omega
  | succ f =>
    have hg1 := (one_tok (c := 91) rfl (St.left (t := [91]) s1)).ok h1
    rw [prt, if_neg (by rw [hg1]; simp [show is (⟨4, ⟨#[91]⟩, 0, i + A.length⟩ : Tk) [46] = false from rfl]), if_pos (by rw [hg1]; rfl)]
    rcases hB' _ _ h1 with ⟨e, h5, h6⟩ | ⟨r3, g3, h5, h6⟩
    · simp only [h5]; exact .inl ⟨e, rfl, h6⟩
    · simp only [h6]; exact .inr ⟨r3, g3, f, h5, rfl, by omega⟩
theorem call_facts : ∀ n : Nat, 1 ≤ n → n ≤ 8 → wordOp (cll.getD n ByteArray.empty).data.toList = none ∧ callOf (cll.getD n ByteArray.empty).data.toList = some (n : Int) := by
  intro n h1 h2
  have : n = 1 ∨ n = 2 ∨ n = 3 ∨ n = 4 ∨ n = 5 ∨ n = 6 ∨ n = 7 ∨ n = 8 := by omega
  rcases this with rfl | rfl | rfl | rfl | rfl | rfl | rfl | rfl <;> exact ⟨by decide, by decide⟩
theorem q_call (hC : RC s m) {q : Int} (q1 : 1 ≤ q) (q2 : q ≤ 8) {a : Ex} (ha : gd a) (ra : rgL [a]) {i : Nat}
    (h : St s i (pr (-1) (.mk 9 q ⟨#[]⟩ [a]))) (hf : Fo s 13 (i + (pr (-1) (.mk 9 q ⟨#[]⟩ [a])).length)) : Q s m i (i + (pr (-1) (.mk 9 q ⟨#[]⟩ [a])).length) (.mk 9 q ⟨#[]⟩ [a]) 13 := by
  rw [tx_call] at h hf ⊢
  obtain ⟨c1, c2⟩ := call_facts q.toNat (by omega) (by omega)
  have cw := call_word q.toNat (by omega) (by omega)
  obtain ⟨t, ht⟩ : ∃ t, cll.getD q.toNat ByteArray.empty = t := ⟨_, rfl⟩
  obtain ⟨B, hB⟩ : ∃ B, pr (-1) a = B := ⟨_, rfl⟩
  rw [ht] at c1 c2 cw
  rw [ht, hB] at h hf ⊢
  have e1 : i + (t.data.toList ++ 40 :: (B ++ [41])).length = i + t.data.toList.length + 2 + B.length := by simp; omega
  rw [e1] at hf ⊢
  have s1 := h.right
  have f2 : Fo s 0 (i + t.data.toList.length + 1 + B.length) := fo_close (.inl rfl) s1.tail.right
  have tn := name_tok h.left cw (fun _ => by rw [s1.at]; rfl)
  have rdb := hC a ha ra (i + t.data.toList.length + 1) (by rw [hB]; exact s1.tail.left) (by rw [hB]; exact f2)
  rw [hB] at rdb
  have avb := av (s := s) ha ra (z := -1) (i := i + t.data.toList.length + 1) (y := 0) (by rw [hB]; exact s1.tail.left) (by rw [hB]; exact f2)
  have hB' := between (C := (lv2 s m).2) (o := 40) (c := 41) rfl rfl s1 rdb avb (fo_adv hf)
  have hj := hf.2.1
  have t40 := one_tok (s := s) (c := 40) rfl (St.left (t := [40]) s1)
  unfold Q
  rw [if_pos rfl]
  intro r g hg
  obtain rfl := tn.ok hg
  refine ⟨⟨rfl, rfl⟩, ?_⟩
  unfold EPure.par wor
  simp only [show ((3 : Nat) = 1) = False by simp, show ((3 : Nat) = 2) = False by simp, if_false, if_true]
  rcases t40.adv (r + 1) with he | ⟨_, he⟩
  · simp only [he]; exact .inl (big2 rfl rfl)
  simp only [he]
  unfold nmd
  simp only [c1, c2]
  rw [if_pos (show is (⟨4, ⟨#[40]⟩, 0, i + t.data.toList.length⟩ : Tk) [40] = true from rfl)]
  rcases hB' _ _ he with ⟨e, h5, h6⟩ | ⟨r3, g3, h5, h6⟩
  · simp only [h5]; exact .inl ⟨e, rfl, h6⟩
  · simp only [h6]; exact .inr ⟨r3, g3, _, h5, by rw [show ((q.toNat : Nat) : Int) = q by omega], by omega⟩
theorem q_int {q : Int} (h0 : 0 ≤ q) (h1 : q ≤ 9223372036854775807) {i : Nat} (h : St s i (pr (-1) (.mk 4 q ⟨#[]⟩ []))) (hf : Fo s 13 (i + (pr (-1) (.mk 4 q ⟨#[]⟩ [])).length)) : Q s m i (i + (pr (-1) (.mk 4 q ⟨#[]⟩ [])).length) (.mk 4 q ⟨#[]⟩ []) 13 := by
  rw [tx_int] at h hf ⊢
  refine word_q (num_tok h0 h1 h (fun hh => dig_wrd (hf.1 hh))) rfl rfl hf (fun r g' hg => ?_) (fun r e he => ?_) (by omega)
  · unfold wor; simp [hg]
  · unfold wor; simp [he]
theorem q_str {t : ByteArray} (ht : tx t = true) {i : Nat} (h : St s i (pr (-1) (.mk 5 0 t []))) (hf : Fo s 13 (i + (pr (-1) (.mk 5 0 t [])).length)) : Q s m i (i + (pr (-1) (.mk 5 0 t [])).length) (.mk 5 0 t []) 13 := by
  rw [tx_str] at h hf ⊢
  refine word_q (text_tok ht h) rfl rfl hf (fun r g' hg => ?_) (fun r e he => ?_) (by omega)
  · unfold wor; simp [hg]
  · unfold wor; simp [he]
theorem not_word {t : ByteArray} (h : Lib.containsS wdl t = false) : wordOp t.data.toList = none := by
  have hn : t ∉ wdl := fun hm => by rw [(Lib.containsS_iff wdl t).2 hm] at h; cases h
  have key : ∀ a : Array UInt8, (⟨a⟩ : ByteArray) ∈ wdl → t.data.toList ≠ a.toList := by
    intro a ha e
    apply hn
    obtain rfl : t = ⟨a⟩ := by cases t; congr 1; exact Array.toList_inj.1 e
    exact ha
  unfold wordOp
  rw [if_neg (key #[110, 117, 108, 108] (.tail _ (.head _))), if_neg (key #[102, 97, 108, 115, 101] (.tail _ (.tail _ (.head _)))), if_neg (key #[116, 114, 117, 101] (.tail _ (.tail _ (.tail _ (.head _)))))]
theorem q_var {t : ByteArray} (ht : word t 95 = true) (hc : Lib.containsS wdl t = false) {i : Nat} (h : St s i (pr (-1) (.mk 6 0 t []))) (hf : Fo s 13 (i + (pr (-1) (.mk 6 0 t [])).length)) : Q s m i (i + (pr (-1) (.mk 6 0 t [])).length) (.mk 6 0 t []) 13 := by
  rw [tx_var] at h hf ⊢
  refine word_q (name_tok h ht hf.1) rfl rfl hf (fun r g' hg => ?_) (fun r e he => ?_) (by omega)
  · unfold wor
    simp only [show ((3 : Nat) = 1) = False by simp, show ((3 : Nat) = 2) = False by simp, if_false, if_true, hg]
    unfold nmd
    rw [not_word hc]
    simp only
    have h40 := (hf.ok hg).1
    cases callOf t.data.toList with
    | none => rfl
    | some c => simp only; rw [if_neg (by rw [h40]; simp)]
  · unfold wor
    simp only [show ((3 : Nat) = 1) = False by simp, show ((3 : Nat) = 2) = False by simp, if_false, if_true, he]
theorem q_word {o : Int} (ho : o = 1 ∨ o = 2 ∨ o = 3) {i : Nat} (h : St s i (pr (-1) (nd o []))) (hf : Fo s 13 (i + (pr (-1) (nd o [])).length)) : Q s m i (i + (pr (-1) (nd o [])).length) (nd o []) 13 := by
  rw [tx_word ho] at h hf ⊢
  have hw : wordOp (wdl.getD o.toNat ByteArray.empty).data.toList = some o := by rcases ho with rfl | rfl | rfl <;> decide
  refine word_q (name_tok h (wdl_word ho) hf.1) rfl rfl hf (fun r g' hg => ?_) (fun r e he => ?_) (by omega)
  · unfold wor
    simp only [show ((3 : Nat) = 1) = False by simp, show ((3 : Nat) = 2) = False by simp, if_false, if_true, hg]
    unfold nmd
    rw [hw]
  · unfold wor
    simp only [show ((3 : Nat) = 1) = False by simp, show ((3 : Nat) = 2) = False by simp, if_false, if_true, he]
theorem hq (hC : RC s m) (hS : RS s m) : ∀ n, HQ s m n := by
  intro n
  induction n with
  | zero => intro x h; obtain ⟨o, i, s, l⟩ := x; simp at h
  | succ n ih =>
    intro x hn hg hr z i z1 z2 h hf
    by_cases hz : lvl x.o < z
    · rw [pr_par hz] at h hf ⊢
      have e1 : i + (40 :: (pr (-1) x ++ [41])).length = i + 2 + (pr (-1) x).length := by simp; omega
      rw [e1] at hf ⊢
      have hm13 : need (z + 1).toNat ≤ 13 := by
        unfold need
        repeat' split
        all_goals omega
      have q := paren_q hC hg hr h (hf.mono hm13)
      exact lower (by omega) (13 - (z + 1).toNat) _ (by omega) (by rwa [show (z + 1).toNat + (13 - (z + 1).toNat) = 13 by omega]) hf
    rw [pr_own hz] at h hf ⊢
    have key : ∀ (y : Nat), (lvl x.o + 1).toNat = y → need (z + 1).toNat ≤ need y → (Fo s (need y) (i + (pr (-1) x).length) → Q s m i (i + (pr (-1) x).length) x y) → Q s m i (i + (pr (-1) x).length) x (z + 1).toNat := by
      intro y hy hle hq
      have hr := lvl_ge x.o
      exact lower (by omega) (y - (z + 1).toNat) _ (by omega) (by rw [show (z + 1).toNat + (y - (z + 1).toNat) = y by omega]; exact hq (hf.mono hle)) hf
    have nm : ∀ y : Nat, (lvl x.o + 1).toNat = y → need (z + 1).toNat ≤ need y := by
      intro y hy
      have hr := lvl_ge x.o
      unfold need
      repeat' split
      all_goals omega
    rcases shapes hg with ⟨a, b, c, ha, hb, hc, rfl⟩ | ⟨o, a, b, h1, h2, ha, hb, rfl⟩ | ⟨o, a, ho, ha, rfl⟩ | ⟨a, t, ht, ha, rfl⟩ | ⟨a, b, ha, hb, rfl⟩ | ⟨q, a, h1, h2, ha, rfl⟩ | ⟨q, hi, rfl⟩ | ⟨t, ht, rfl⟩ | ⟨t, ht, hc, rfl⟩ | ⟨o, ho, rfl⟩
    · exact key 0 rfl (nm 0 rfl) fun f => q_if hC ih hn ha hb hc (rg_of hr).2 h f
    · have hl := lvl_op h1 h2
      have e : (lvl (nd o [a, b]).o + 1).toNat = (lvl o).toNat + 1 := by show (lvl o + 1).toNat = _; omega
      exact key _ e (nm _ e) fun f => q_op ih h1 h2 hn ha hb (rg_of hr).2 h (f.mono (by unfold need; rw [if_neg (by omega), if_pos (by omega)]; omega))
    · have e : (lvl (nd o [a]).o + 1).toNat = 12 := by show (lvl o + 1).toNat = _; rcases ho with rfl | rfl <;> decide
      exact key 12 e (nm _ e) fun f => q_sg hS ho ha (rg1 (rg_of hr).2).1 h (f.mono (by decide))
    · exact key 13 rfl (nm 13 rfl) fun f => q_field ih ht hn ha (rg1 (rg_of hr).2).1 h (f.mono (by decide))
    · exact key 13 rfl (nm 13 rfl) fun f => q_index hC ih hn ha hb (rg_of hr).2 h (f.mono (by decide))
    · exact key 13 rfl (nm 13 rfl) fun f => q_call hC h1 h2 ha (rg1 (rg_of hr).2).1 h (f.mono (by decide))
    · exact key 13 rfl (nm 13 rfl) fun f => q_int hi (rg_of hr).1.2 h (f.mono (by decide))
    · exact key 13 rfl (nm 13 rfl) fun f => q_str ht h (f.mono (by decide))
    · exact key 13 rfl (nm 13 rfl) fun f => q_var ht hc h (f.mono (by decide))
    · have e : (lvl (nd o []).o + 1).toNat = 13 := by show (lvl o + 1).toNat = _; rcases ho with rfl | rfl | rfl <;> decide
      exact key 13 e (nm 13 e) fun f => q_word ho h (f.mono (by decide))
end
theorem ded_big {s : ByteArray} {i r : Nat} {g : Sr} (h : ∀ r, (∃ e, adv s i r = .error e ∧ e.1 = 1002) ∨ ∃ g, adv s i r = .ok g ∧ g.tk.k ≠ 0) (hg : adv s i r = .ok g) : ded g = .error (1001, g.tk.a) := by
  unfold ded
  rcases h r with ⟨e, he, _⟩ | ⟨g', he, hk⟩
  · rw [he] at hg; cases hg
  · rw [he] at hg; injection hg with hg; subst hg; rw [if_neg hk]
theorem rc_rs (s : ByteArray) : ∀ m, RC s m ∧ RS s m
  | 0 => by
    constructor
    · intro x hx hr i h hf r g hg
      left
      show Big (chc s ded ded g)
      have hd := ded_big (av hx hr h hf) hg
      unfold chc
      simp only [lev_err hd 11]
      exact ⟨_, rfl, .inl rfl⟩
    · intro x hx hr i h hf r g hg
      exact .inl ⟨_, ded_big (av hx hr h hf) hg, .inl rfl⟩
  | m + 1 => by
    obtain ⟨hC, hS⟩ := rc_rs s m
    constructor
    · intro x hx hr i h hf
      have := hq hC hS _ x (Nat.le_refl _) hx hr (-1) i (by omega) (by omega) h hf
      unfold Q at this
      rw [if_neg (by decide), if_neg (by decide), if_pos (by decide)] at this
      exact this
    · intro x hx hr i h hf
      have := hq hC hS _ x (Nat.le_refl _) hx hr 11 i (by omega) (by omega) h (hf.mono (by decide))
      unfold Q at this
      rw [if_neg (by decide), if_pos (by decide)] at this
      exact this
theorem adv_end (s : ByteArray) (r : Nat) : adv s s.size r = .ok ⟨⟨0, ⟨#[]⟩, 0, s.size⟩, s.size, r⟩ := by
  unfold adv
  rw [skp_stop (fun h => absurd h (by omega))]
  unfold scan
  rw [if_pos (Nat.le_refl _)]
  simp
/-- What is written is read as it was, or it is too large or too deep. -/
theorem back {x : Ex} (hg : gd x) (hr : rgL [x]) : prs ⟨(pr (-1) x).toArray⟩ = .ok x ∨ ∃ e, prs ⟨(pr (-1) x).toArray⟩ = .error e ∧ big e := by
  obtain ⟨s, hs⟩ : ∃ s : ByteArray, s = ⟨(pr (-1) x).toArray⟩ := ⟨_, rfl⟩
  have hst : St s 0 (pr (-1) x) := ⟨[], [], by rw [hs]; simp, rfl⟩
  have hsz : 0 + (pr (-1) x).length = s.size := by rw [← sz s, hs]; simp
  have hf : Fo s 0 (0 + (pr (-1) x).length) := by rw [hsz]; exact fo_end
  have hR := (rc_rs s 32).1 x hg hr 0 hst hf
  have hA := av (s := s) hg hr hst hf 0
  rw [hsz] at hR
  rw [← hs]
  unfold prs
  rcases hA with ⟨e, he, h2⟩ | ⟨g, he, _⟩
  · simp only [he]; exact .inr ⟨e, rfl, .inr h2⟩
  simp only [he]
  rcases hR 0 g he with ⟨e, h1, h2⟩ | ⟨r', g', h1, h2⟩
  · simp only [h1]; exact .inr ⟨e, rfl, h2⟩
  · simp only [h2]
    rw [adv_end] at h1
    injection h1 with h1
    rw [← h1]
    exact .inl rfl
end Go.Proofs.YtnoohlmlpijhaaaGreatDoor.EBn
namespace Go.Proofs.YtnoohlmlpijhaaaGreatDoor.EAw
open Go.RowKit Go.Proofs.YtnoohlmlpijhaaaGreatDoor.Base Go.Proofs.YtnoohlmlpijhaaaGreatDoor.EPure Go.Proofs.YtnoohlmlpijhaaaGreatDoor.ECh Go.Proofs.YtnoohlmlpijhaaaGreatDoor.EChr Go.Proofs.YtnoohlmlpijhaaaGreatDoor.EPs Go.Proofs.YtnoohlmlpijhaaaGreatDoor.ELn Go.Proofs.YtnoohlmlpijhaaaGreatDoor.EBk
open Go.Proofs.YtnoohlmlpijhaaaGreatDoor.XBase (four_box two_box frozen_box Rg)
open Go.Proofs.YtnoohlmlpijhaaaGreatDoor.PPr (pr)
open Go.Proofs.YtnoohlmlpijhaaaGreatDoor.PMay (mayL mayL_one mayL_cons mayL_nil)
set_option linter.unusedVariables false
/-- The tables of the library hold what they are laid with. -/
structure TX (w : World) : Prop where
  tab : Digits.Tab w
  utf : Tabs w
  lt1 : 2 < w.heap.size
  lt2 : 3 < w.heap.size
theorem TX.later {w w' : World} (h : TX w) (hb : Below w.heap.size w w') : TX w' :=
  ⟨h.tab.later hb, tab_keep h.utf (hb.block _ h.lt1) (hb.block _ h.lt2), Nat.lt_of_lt_of_le h.lt1 hb.size, Nat.lt_of_lt_of_le h.lt2 hb.size⟩
theorem parse_x {w : World} {s : ByteArray} (hs : s.size ≤ 140737488351300) (ht : TX w) : Calls Tryz.prog 25 #[.string s] w fun e w' => Pout w e w' (prs s) :=
  parse_c hs ht.utf ⟨ht.lt1, ht.lt2⟩
theorem print_x {m : Nat} {x : Ex} {w : World} {u : Value} (hin : XBase.In false (fun b => b < w.heap.size) w m u x) (ht : TX w) :
    Calls Tryz.prog 7 #[u] w fun e w' => e = .returned (.tuple #[.string ⟨(PPp.ptx x).toArray⟩, .int .i64 (PPp.pcd x)]) ∧ Below w.heap.size w w' :=
  PLen.print_c hin fun W' hb => ht.tab.later hb
theorem num_c (x : Int) (w : World) : Calls Tryz.prog 9 #[.int .i64 x] w fun e w' => e = .returned (.int .i64 x) ∧ w' = w := by
  go_enter Tryz.func9, Tryz.ntmps9
  go_wp2_with fail
  go_ret
  exact ⟨rfl, rfl⟩
/-- The two texts, and what they say. -/
def t1 : List UInt8 := [45, 40, 97, 126, 39, 120, 39, 41, 32, 63, 32, 33, 98, 32, 58, 32, 40, 40, 99, 41, 41]
def t2 : List UInt8 := [97, 32, 98]
def vx : Ex := .mk 5 0 ⟨#[120]⟩ []
def x1 : Ex := nd 31 [nd 10 [nd 17 [va, vx]], nd 11 [vb], vc]
def isx6 (t : List UInt8) (x : Ex) : Bool := match prs ⟨t.toArray⟩ with
  | .ok y => eqx 6 y x
  | .error _ => false
def ise (t : List UInt8) (f : F) : Bool := match prs ⟨t.toArray⟩ with
  | .ok _ => false
  | .error e => e == f
theorem d1 : isx6 t1 x1 = true := by decide +kernel
theorem d2 : ise t2 (1000, 2) = true := by decide +kernel
theorem prs1 : prs ⟨t1.toArray⟩ = .ok x1 := by
  have h := d1
  unfold isx6 at h
  cases hp : prs ⟨t1.toArray⟩ with
  | error e => rw [hp] at h; cases h
  | ok y => rw [hp] at h; rw [eqx_eq _ _ _ h]
theorem prs2 : prs ⟨t2.toArray⟩ = .error (1000, 2) := by
  have h := d2
  unfold ise at h
  cases hp : prs ⟨t2.toArray⟩ with
  | error e => rw [hp] at h; simp only [beq_iff_eq] at h; rw [h]
  | ok y => rw [hp] at h; cases h
theorem pr_va : ∀ z : Int, z ≤ 12 → pr z va = [97] := fun z hz => by rw [pr_own (x := va) (by show ¬ (12 : Int) < z; omega)]; exact tx_var _
theorem pr_vb : ∀ z : Int, z ≤ 12 → pr z vb = [98] := fun z hz => by rw [pr_own (x := vb) (by show ¬ (12 : Int) < z; omega)]; exact tx_var _
theorem pr_vc : ∀ z : Int, z ≤ 12 → pr z vc = [99] := fun z hz => by rw [pr_own (x := vc) (by show ¬ (12 : Int) < z; omega)]; exact tx_var _
theorem pr_vx : ∀ z : Int, z ≤ 12 → pr z vx = [39, 120, 39] := fun z hz => by rw [pr_own (x := vx) (by show ¬ (12 : Int) < z; omega)]; exact tx_str _
theorem pr1 : pr (-1) x1 = [45, 40, 97, 32, 126, 32, 39, 120, 39, 41, 32, 63, 32, 33, 98, 32, 58, 32, 99] := by
  unfold x1
  rw [tx_if, pr_own (z := 0) (x := nd 10 [nd 17 [va, vx]]) (by show ¬ PPl.lvl 10 < 0; decide), tx_sg (.inl rfl), pr_par (z := 11) (x := nd 17 [va, vx]) (by show PPl.lvl 17 < 11; decide), tx_op (by decide) (by decide), pr_va _ (by decide), pr_vx _ (by decide), tx_sg (.inr rfl), pr_vb _ (by decide), pr_vc _ (by decide)]
  rfl
theorem may1 : (mayL [x1] 512).1 = true := by
  have hv : UBase.verr ⟨#[120]⟩ = 0 := by
    have h1 : UBase.len ⟨#[120]⟩ 0 = 1 := by decide
    unfold UBase.verr
    rw [UBase.bad_step (by decide) (by rw [h1]; decide), h1, UBase.bad_end (by decide)]
    rfl
  have htx : PFit.tx ⟨#[120]⟩ = true := by
    unfold PFit.tx PFit.tg
    rw [hv]
    decide
  have h31 : PFit.ft 31 0 ⟨#[]⟩ = true := by decide
  have h10 : PFit.ft 10 0 ⟨#[]⟩ = true := by decide
  have h11 : PFit.ft 11 0 ⟨#[]⟩ = true := by decide
  have h17 : PFit.ft 17 0 ⟨#[]⟩ = true := by decide
  have ha : PFit.ft 6 0 ⟨#[97]⟩ = true := by decide +kernel
  have hb : PFit.ft 6 0 ⟨#[98]⟩ = true := by decide +kernel
  have hc : PFit.ft 6 0 ⟨#[99]⟩ = true := by decide +kernel
  have hx : PFit.ft 5 0 ⟨#[120]⟩ = true := by
    show ((0 : Int) == 0 && PFit.tx ⟨#[120]⟩) = true
    rw [htx]; rfl
  have k31 : PPl.kd 31 = 3 := by decide
  have k10 : PPl.kd 10 = 1 := by decide
  have k11 : PPl.kd 11 = 1 := by decide
  have k17 : PPl.kd 17 = 2 := by decide
  have k6 : PPl.kd 6 = 0 := by decide
  have k5 : PPl.kd 5 = 0 := by decide
  simp [x1, nd, va, vb, vc, vx, mayL, h31, h10, h11, h17, ha, hb, hc, hx, k31, k10, k11, k17, k6, k5]
set_option maxRecDepth 20000 in
set_option maxHeartbeats 3200000 in
theorem awake_c {w : World} (ht : TX w) : Calls Tryz.prog 11 #[] w fun e w' => e = .returned (.bool true) ∧ Below w.heap.size w w' := by
  have c1 := parse_x (s := ⟨t1.toArray⟩) (by decide) ht
  rw [prs1] at c1
  have e1 : t1.toArray = #[45, 40, 97, 126, 39, 120, 39, 41, 32, 63, 32, 33, 98, 32, 58, 32, 40, 40, 99, 41, 41] := rfl
  rw [e1] at c1
  have HT : Hid (TX w) := ht
  clear ht e1
  go_enter Tryz.func11, Tryz.ntmps11
  go_wp2_with fail
  refine c1.mono ?_
  rintro e W1 ⟨b1, m, a, cap, rfl, hin⟩
  have HB1 : Hid (Below w.heap.size w W1) := b1
  have HIN : Hid (XBase.In false (Rg w.heap.size W1.heap.size) W1 m (.agg #[.int .i64 x1.o, .int .i64 x1.i, .string x1.s, .slice a x1.l.length cap]) x1) := hin
  clear c1 b1 hin
  go_wp2_with fail
  obtain ⟨W2, hW2⟩ : ∃ W2, W1.alloc (.cells #[.int .i64 x1.o, .int .i64 x1.i, .string x1.s, .slice a x1.l.length cap] 24) = W2 := ⟨_, rfl⟩
  have b2 : Below W1.heap.size W1 W2 := by rw [← hW2]; exact (Below.refl _ W1).alloc (Nat.le_refl _) _
  have hb2 : Below w.heap.size w W2 := HB1.out.trans (b2.mono HB1.out.size)
  have hin2 := (HIN.out.below b2).weak (S' := fun b => b < W2.heap.size) (fun b hb => Nat.lt_of_lt_of_le hb.2 b2.size) false id m (Nat.le_refl _)
  have c2 := print_x hin2 (HT.out.later hb2)
  rw [show PPp.ptx x1 = _ from by unfold PPp.ptx; rw [if_pos may1, pr1], show PPp.pcd x1 = 0 from by unfold PPp.pcd; rw [if_pos may1]] at c2
  have HB2 : Hid (Below w.heap.size w W2) := hb2
  clear b2 hb2 hin2 HIN HB1
  rw [hW2]
  clear hW2
  refine c2.mono ?_
  rintro e W3 ⟨rfl, b3⟩
  have hb3 : Below w.heap.size w W3 := HB2.out.trans (b3.mono HB2.out.size)
  have c3 := parse_x (s := ⟨t2.toArray⟩) (by decide) (HT.out.later hb3)
  rw [prs2, show t2.toArray = #[97, 32, 98] from rfl] at c3
  have HB3 : Hid (Below w.heap.size w W3) := hb3
  clear c2 b3 hb3 HB2
  go_wp2_with fail
  refine c3.mono ?_
  rintro e W4 ⟨b4, rfl⟩
  have HB4 : Hid (Below w.heap.size w W4) := HB3.out.trans (b4.mono HB3.out.size)
  clear c3 b4 HB3
  go_wp2_with (first | (go_at_call 9; refine (num_c _ _).mono ?_; rintro e w' ⟨rfl, rfl⟩))
  go_ret
  exact ⟨rfl, HB4.out.alloc HB4.out.size _⟩
end Go.Proofs.YtnoohlmlpijhaaaGreatDoor.EAw
namespace Go.Proofs.YtnoohlmlpijhaaaGreatDoor.QLv
open Go.RowKit Go.Proofs.YtnoohlmlpijhaaaGreatDoor.Base Go.Proofs.YtnoohlmlpijhaaaGreatDoor.EPure Go.Proofs.YtnoohlmlpijhaaaGreatDoor.PPl
set_option linter.unusedVariables false
/-- One block behind the other. -/
def allocs (w : World) : List Obj → World
  | [] => w
  | o :: L => allocs (w.alloc o) L
theorem allocs_below : ∀ (L : List Obj) (w : World) (B : Nat), B ≤ w.heap.size → Below B w (allocs w L)
  | [], w, B, h => Below.refl B w
  | o :: L, w, B, h => ((Below.refl B w).alloc h o).trans (allocs_below L (w.alloc o) B (by rw [World.size_alloc]; omega))
theorem allocs_at : ∀ (L : List Obj) (w : World) (j : Nat), j < L.length → (allocs w L).heap[w.heap.size + j]? = L[j]?
  | o :: L, w, 0, _ => by
    rw [allocs, Nat.add_zero, (allocs_below L (w.alloc o) (w.heap.size + 1) (by rw [World.size_alloc]; omega)).block w.heap.size (by omega), heap_alloc_new]
    rfl
  | o :: L, w, j + 1, h => by
    have := allocs_at L (w.alloc o) j (by simpa using h)
    rw [World.size_alloc] at this
    rw [allocs, show w.heap.size + (j + 1) = w.heap.size + 1 + j by omega, this]
    rfl
def tb (k i : Nat) : Int := ((lvs.getD k []).getD i ([], 0)).2
def nb (k : Nat) : Nat := (lvs.getD k []).length
/-- The table of Ops, in memory. -/
def Ot (w : World) (g : Nat) : Prop := ∀ k, k < 11 → ∃ b, w.cell? ⟨g, k, none⟩ = some (.slice (some ⟨b, 0, none⟩) (nb k) (nb k)) ∧ ∀ i, i < nb k → w.cell? ⟨b, i, none⟩ = some (.int .i64 (tb k i))
theorem Ot.later {w w' : World} {g : Nat} (h : Ot w g) (hb : Below w.heap.size w w') : Ot w' g := by
  have keep : ∀ (B j : Nat) (v : Value), w.cell? ⟨B, j, none⟩ = some v → w'.cell? ⟨B, j, none⟩ = some v := by
    intro B j v hv
    have hlt : B < w.heap.size := by
      unfold World.cell? at hv
      rcases Nat.lt_or_ge B w.heap.size with h | h
      · exact h
      · simp only [Array.getElem?_eq_none h] at hv; cases hv
    unfold World.cell? at hv ⊢
    simp only at hv ⊢
    rw [hb.block B hlt]
    exact hv
  intro k hk
  obtain ⟨b, h1, h2⟩ := h k hk
  exact ⟨b, keep _ _ _ h1, fun i hi => keep _ _ _ (h2 i hi)⟩
set_option maxRecDepth 20000 in
set_option maxHeartbeats 3200000 in
theorem ops_c (w : World) : Calls Tryz.prog 42 #[] w fun e w' => Below w.heap.size w w' ∧ ∃ g, e = .returned (.slice (some ⟨g, 0, none⟩) 11 11) ∧ Ot w' g := by
  go_enter Tryz.func42, Tryz.ntmps42
  go_wp2_with fail
  go_ret
  obtain ⟨L, hL⟩ : ∃ L : List Obj, L = [.cells #[.int .i64 30] 3, .cells #[.int .i64 29] 3, .cells #[.int .i64 27, .int .i64 28] 3, .cells #[.int .i64 23, .int .i64 24, .int .i64 25, .int .i64 26] 3, .cells #[.int .i64 22] 3, .cells #[.int .i64 21] 3, .cells #[.int .i64 20] 3, .cells #[.int .i64 18, .int .i64 19] 3, .cells #[.int .i64 17] 3, .cells #[.int .i64 15, .int .i64 16] 3, .cells #[.int .i64 12, .int .i64 13, .int .i64 14] 3, .cells #[.slice (some ⟨w.heap.size, 0, none⟩) 1 1, .slice (some ⟨w.heap.size + 1, 0, none⟩) 1 1, .slice (some ⟨w.heap.size + 1 + 1, 0, none⟩) 2 2, .slice (some ⟨w.heap.size + 1 + 1 + 1, 0, none⟩) 4 4, .slice (some ⟨w.heap.size + 1 + 1 + 1 + 1, 0, none⟩) 1 1, .slice (some ⟨w.heap.size + 1 + 1 + 1 + 1 + 1, 0, none⟩) 1 1, .slice (some ⟨w.heap.size + 1 + 1 + 1 + 1 + 1 + 1, 0, none⟩) 1 1, .slice (some ⟨w.heap.size + 1 + 1 + 1 + 1 + 1 + 1 + 1, 0, none⟩) 2 2, .slice (some ⟨w.heap.size + 1 + 1 + 1 + 1 + 1 + 1 + 1 + 1, 0, none⟩) 1 1, .slice (some ⟨w.heap.size + 1 + 1 + 1 + 1 + 1 + 1 + 1 + 1 + 1, 0, none⟩) 2 2, .slice (some ⟨w.heap.size + 1 + 1 + 1 + 1 + 1 + 1 + 1 + 1 + 1 + 1, 0, none⟩) 3 3] 70] := ⟨_, rfl⟩
  have hlen : L.length = 12 := by rw [hL]; rfl
  have hW : ∀ j, j < 12 → (allocs w L).heap[w.heap.size + j]? = L[j]? := fun j hj => allocs_at L w j (by omega)
  have hb := allocs_below L w w.heap.size (Nat.le_refl _)
  have key : Ot (allocs w L) (w.heap.size + 11) := by
    have h0 : (allocs w L).heap[w.heap.size + 0]? = some (.cells #[.int .i64 30] 3 (0, 0)) := (hW 0 (by omega)).trans (by rw [hL]; rfl)
    have h1 : (allocs w L).heap[w.heap.size + 1]? = some (.cells #[.int .i64 29] 3 (0, 0)) := (hW 1 (by omega)).trans (by rw [hL]; rfl)
    have h2 : (allocs w L).heap[w.heap.size + 2]? = some (.cells #[.int .i64 27, .int .i64 28] 3 (0, 0)) := (hW 2 (by omega)).trans (by rw [hL]; rfl)
    have h3 : (allocs w L).heap[w.heap.size + 3]? = some (.cells #[.int .i64 23, .int .i64 24, .int .i64 25, .int .i64 26] 3 (0, 0)) := (hW 3 (by omega)).trans (by rw [hL]; rfl)
    have h4 : (allocs w L).heap[w.heap.size + 4]? = some (.cells #[.int .i64 22] 3 (0, 0)) := (hW 4 (by omega)).trans (by rw [hL]; rfl)
    have h5 : (allocs w L).heap[w.heap.size + 5]? = some (.cells #[.int .i64 21] 3 (0, 0)) := (hW 5 (by omega)).trans (by rw [hL]; rfl)
    have h6 : (allocs w L).heap[w.heap.size + 6]? = some (.cells #[.int .i64 20] 3 (0, 0)) := (hW 6 (by omega)).trans (by rw [hL]; rfl)
    have h7 : (allocs w L).heap[w.heap.size + 7]? = some (.cells #[.int .i64 18, .int .i64 19] 3 (0, 0)) := (hW 7 (by omega)).trans (by rw [hL]; rfl)
    have h8 : (allocs w L).heap[w.heap.size + 8]? = some (.cells #[.int .i64 17] 3 (0, 0)) := (hW 8 (by omega)).trans (by rw [hL]; rfl)
    have h9 : (allocs w L).heap[w.heap.size + 9]? = some (.cells #[.int .i64 15, .int .i64 16] 3 (0, 0)) := (hW 9 (by omega)).trans (by rw [hL]; rfl)
    have h10 : (allocs w L).heap[w.heap.size + 10]? = some (.cells #[.int .i64 12, .int .i64 13, .int .i64 14] 3 (0, 0)) := (hW 10 (by omega)).trans (by rw [hL]; rfl)
    have h11 : (allocs w L).heap[w.heap.size + 11]? = some (.cells #[.slice (some ⟨w.heap.size, 0, none⟩) 1 1, .slice (some ⟨w.heap.size + 1, 0, none⟩) 1 1, .slice (some ⟨w.heap.size + 1 + 1, 0, none⟩) 2 2, .slice (some ⟨w.heap.size + 1 + 1 + 1, 0, none⟩) 4 4, .slice (some ⟨w.heap.size + 1 + 1 + 1 + 1, 0, none⟩) 1 1, .slice (some ⟨w.heap.size + 1 + 1 + 1 + 1 + 1, 0, none⟩) 1 1, .slice (some ⟨w.heap.size + 1 + 1 + 1 + 1 + 1 + 1, 0, none⟩) 1 1, .slice (some ⟨w.heap.size + 1 + 1 + 1 + 1 + 1 + 1 + 1, 0, none⟩) 2 2, .slice (some ⟨w.heap.size + 1 + 1 + 1 + 1 + 1 + 1 + 1 + 1, 0, none⟩) 1 1, .slice (some ⟨w.heap.size + 1 + 1 + 1 + 1 + 1 + 1 + 1 + 1 + 1, 0, none⟩) 2 2, .slice (some ⟨w.heap.size + 1 + 1 + 1 + 1 + 1 + 1 + 1 + 1 + 1 + 1, 0, none⟩) 3 3] 70 (0, 0)) := (hW 11 (by omega)).trans (by rw [hL]; rfl)
    clear hW hb hlen hL
    generalize allocs w L = W at *
    rw [Nat.add_zero] at h0
    intro k hk
    match k, hk with
    | 0, _ =>
      refine ⟨w.heap.size + 0, by simp [World.cell?, h11, nb, lvs], fun i hi => ?_⟩
      match i, hi with
      | 0, _ => simp [World.cell?, h0, tb, lvs]
      | i + 1, h => exact absurd h (by simp [nb, lvs])
    | 1, _ =>
      refine ⟨w.heap.size + 1, by simp [World.cell?, h11, nb, lvs], fun i hi => ?_⟩
      match i, hi with
      | 0, _ => simp [World.cell?, h1, tb, lvs]
      | i + 1, h => exact absurd h (by simp [nb, lvs])
    | 2, _ =>
      refine ⟨w.heap.size + 2, by simp [World.cell?, h11, nb, lvs], fun i hi => ?_⟩
      match i, hi with
      | 0, _ => simp [World.cell?, h2, tb, lvs]
      | 1, _ => simp [World.cell?, h2, tb, lvs]
      | i + 2, h => exact absurd h (by simp [nb, lvs])
    | 3, _ =>
      refine ⟨w.heap.size + 3, by simp [World.cell?, h11, nb, lvs], fun i hi => ?_⟩
      match i, hi with
      | 0, _ => simp [World.cell?, h3, tb, lvs]
      | 1, _ => simp [World.cell?, h3, tb, lvs]
      | 2, _ => simp [World.cell?, h3, tb, lvs]
      | 3, _ => simp [World.cell?, h3, tb, lvs]
      | i + 4, h => exact absurd h (by simp [nb, lvs])
    | 4, _ =>
      refine ⟨w.heap.size + 4, by simp [World.cell?, h11, nb, lvs], fun i hi => ?_⟩
      match i, hi with
      | 0, _ => simp [World.cell?, h4, tb, lvs]
      | i + 1, h => exact absurd h (by simp [nb, lvs])
    | 5, _ =>
      refine ⟨w.heap.size + 5, by simp [World.cell?, h11, nb, lvs], fun i hi => ?_⟩
      match i, hi with
      | 0, _ => simp [World.cell?, h5, tb, lvs]
      | i + 1, h => exact absurd h (by simp [nb, lvs])
    | 6, _ =>
      refine ⟨w.heap.size + 6, by simp [World.cell?, h11, nb, lvs], fun i hi => ?_⟩
      match i, hi with
      | 0, _ => simp [World.cell?, h6, tb, lvs]
      | i + 1, h => exact absurd h (by simp [nb, lvs])
    | 7, _ =>
      refine ⟨w.heap.size + 7, by simp [World.cell?, h11, nb, lvs], fun i hi => ?_⟩
      match i, hi with
      | 0, _ => simp [World.cell?, h7, tb, lvs]
      | 1, _ => simp [World.cell?, h7, tb, lvs]
      | i + 2, h => exact absurd h (by simp [nb, lvs])
    | 8, _ =>
      refine ⟨w.heap.size + 8, by simp [World.cell?, h11, nb, lvs], fun i hi => ?_⟩
      match i, hi with
      | 0, _ => simp [World.cell?, h8, tb, lvs]
      | i + 1, h => exact absurd h (by simp [nb, lvs])
    | 9, _ =>
      refine ⟨w.heap.size + 9, by simp [World.cell?, h11, nb, lvs], fun i hi => ?_⟩
      match i, hi with
      | 0, _ => simp [World.cell?, h9, tb, lvs]
      | 1, _ => simp [World.cell?, h9, tb, lvs]
      | i + 2, h => exact absurd h (by simp [nb, lvs])
    | 10, _ =>
      refine ⟨w.heap.size + 10, by simp [World.cell?, h11, nb, lvs], fun i hi => ?_⟩
      match i, hi with
      | 0, _ => simp [World.cell?, h10, tb, lvs]
      | 1, _ => simp [World.cell?, h10, tb, lvs]
      | 2, _ => simp [World.cell?, h10, tb, lvs]
      | i + 3, h => exact absurd h (by simp [nb, lvs])
    | k + 11, h => exact absurd h (by omega)
  subst hL
  exact ⟨hb, _, rfl, key⟩
/-- The reference's level of an Op. -/
def rl (o : Int) : Int := if 12 ≤ o ∧ o ≤ 30 then lvl o + 1 else if o = 31 then 0 else if o = 10 ∨ o = 11 then 12 else if o = 7 ∨ o = 8 then 13 else if (1 ≤ o ∧ o ≤ 6) ∨ o = 9 then 14 else -1
theorem hit2 : ∀ k, k < 11 → ∀ i, i < nb k → rl (tb k i) = k + 1 := by decide
theorem there : ∀ n : Nat, n < 31 → 12 ≤ n → ∃ k, k < 11 ∧ ∃ i, i < nb k ∧ tb k i = (n : Int) := by decide
theorem nb_le : ∀ k, k < 11 → nb k ≤ 4 := by decide
set_option maxRecDepth 20000 in
set_option maxHeartbeats 3200000 in
theorem level_c (o : Int) (w : World) : Calls Tryz.prog 41 #[.int .i64 o] w fun e w' => e = .returned (.int .i64 (rl o)) ∧ Below w.heap.size w w' := by
  go_enter Tryz.func41, Tryz.ntmps41
  go_wp2_with fail
  refine (ops_c w).mono ?_
  rintro e W1 ⟨b1, g, rfl, hot⟩
  have HO : Hid (Ot W1 g) := hot
  have HB : Hid (Below w.heap.size w W1) := b1
  clear hot b1
  go_wp2_with fail
  go_loopw [4] (fun i wr => ∃ k : Nat, i = .int .i64 k ∧ k ≤ 11 ∧ wr = W1 ∧ ∀ k', k' < k → ∀ j, j < nb k' → tb k' j ≠ o) (fun i _ => 11 - (intOf i).toNat)
  case atStart => exact ⟨0, rfl, by omega, rfl, fun k' h => by omega⟩
  case round =>
    obtain ⟨k, rfl, hk, rfl, hno⟩ := hrel
    have HNO : Hid (∀ k', k' < k → ∀ j, j < nb k' → tb k' j ≠ o) := hno
    clear hno
    by_cases hk11 : k < 11
    · have d11 : decide ((k : Int) < 11) = true := by simp; omega
      obtain ⟨b, q1, q2⟩ := HO.out k hk11
      have hn4 := nb_le k hk11
      have HQ : Hid (∀ i, i < nb k → wr.cell? ⟨b, i, none⟩ = some (.int .i64 (tb k i))) := q2
      obtain ⟨n, hn⟩ : ∃ n, nb k = n := ⟨_, rfl⟩
      rw [hn] at q1 hn4
      have HN : Hid (nb k = n) := hn
      clear q2 hn
      go_wp2_with fail
      go_loopw [5] (fun i wy => ∃ j : Nat, i = .int .i64 j ∧ j ≤ n ∧ wy = wr ∧ ∀ j', j' < j → tb k j' ≠ o) (fun i _ => n - (intOf i).toNat)
      case atStart => exact ⟨0, rfl, by omega, rfl, fun j' h => by omega⟩
      case round =>
        rename_i W2 _ _
        obtain ⟨j, rfl, hj, rfl, hni⟩ := hrel
        have HNI : Hid (∀ j', j' < j → tb k j' ≠ o) := hni
        clear hni
        by_cases hjn : j < n
        · have dj : decide ((j : Int) < (n : Int)) = true := by simp; omega
          have q3 := HQ.out j (by rw [HN.out]; exact hjn)
          obtain ⟨t, ht⟩ : ∃ t, tb k j = t := ⟨_, rfl⟩
          have HTT : Hid (tb k j = t) := ht
          rw [ht] at q3
          clear ht
          by_cases ho : t = o
          · have eo : (t == o) = true := by simp [ho]
            have HR : Hid (rl o = k + 1) := by
              have := hit2 k hk11 j (by rw [HN.out]; exact hjn)
              rw [HTT.out, ho] at this
              exact this
            clear ho
            go_wp2_with fail
            go_ret
            rw [HR.out]
            exact ⟨by simp, HB.out⟩
          · have eo : (t == o) = false := by simp [ho]
            have HNI2 : Hid (∀ j', j' < j + 1 → tb k j' ≠ o) := by
              intro j' hj'
              by_cases e : j' = j
              · rw [e, HTT.out]; exact ho
              · exact HNI.out j' (by omega)
            clear ho
            go_wp2_with fail
            go_roundw
            case rel => exact ⟨j + 1, by go_num, by omega, by first | rfl | trivial, HNI2.out⟩
            case measure => simp only [intOf]; omega
        · have dj : decide ((j : Int) < (n : Int)) = false := by simp; omega
          have HNO2 : Hid (∀ k', k' < k + 1 → ∀ j, j < nb k' → tb k' j ≠ o) := by
            intro k' hk' j' hj'
            by_cases e : k' = k
            · subst e; exact HNI.out j' (by rw [HN.out] at hj'; omega)
            · exact HNO.out k' (by omega) j' hj'
          go_wp2_with fail
          go_roundw
          case rel => exact ⟨k + 1, by go_num, by omega, by first | rfl | trivial, HNO2.out⟩
          case measure => simp only [intOf]; omega
    · have d11 : decide ((k : Int) < 11) = false := by simp; omega
      have hr : ¬ (12 ≤ o ∧ o ≤ 30) := by
        rintro ⟨h1, h2⟩
        obtain ⟨k', hk', i, hi, e⟩ := there o.toNat (by omega) (by omega)
        exact HNO.out k' (by omega) i hi (by rw [e]; omega)
      have HR : Hid (¬ (12 ≤ o ∧ o ≤ 30)) := hr
      clear hr HNO
      go_wp2_with fail
      all_goals
        go_ret
        refine ⟨ret_int ?_, HB.out⟩
        unfold rl
        rw [if_neg HR.out]
        simp_all
        try omega
end Go.Proofs.YtnoohlmlpijhaaaGreatDoor.QLv

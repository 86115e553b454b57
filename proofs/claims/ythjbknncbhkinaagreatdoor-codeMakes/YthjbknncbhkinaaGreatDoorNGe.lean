/- The code of an expression, plainly: what Make writes. -/
import Derived.Test.YthjbknncbhkinaaGreatDoorKBase
import Derived.BigQuiet
import Derived.Test.YthjbknncbhkinaaGreatDoorCPu
import Derived.Test.YthjbknncbhkinaaGreatDoorSBe
namespace Go.Proofs.YthjbknncbhkinaaGreatDoor.KHs
open Go.RowKit Go.Proofs.YthjbknncbhkinaaGreatDoor.Base Go.Proofs.YthjbknncbhkinaaGreatDoor.EPure
open Go.Proofs.YthjbknncbhkinaaGreatDoor.XBase (four_box two_box frozen_box Rg Four)
set_option linter.unusedVariables false

theorem w64 {x : Int} (h1 : -9223372036854775808 ≤ x) (h2 : x ≤ 9223372036854775807) : IntKind.i64.wrap x = x := by
  simp [IntKind.wrap, IntKind.signed, IntKind.bits]
  omega
/-- Do expressions ask places of the stack alone? -/
def hs (st : Int) : List Ex → Bool
  | [] => true
  | .mk o i s l :: t => (!(o == 6 && (decide (i < 0) || decide (st ≤ i)))) && (hs st l && hs st t)
theorem hs_nil (st : Int) : hs st [] = true := by rw [hs]
theorem hs_one (st o i : Int) (s : ByteArray) (l : List Ex) : hs st [.mk o i s l] = ((!(o == 6 && (decide (i < 0) || decide (st ≤ i)))) && hs st l) := by
  rw [hs, hs_nil, Bool.and_true]
theorem hs_cons (st : Int) (x : Ex) (t : List Ex) : hs st (x :: t) = (hs st [x] && hs st t) := by
  obtain ⟨o, i, s, l⟩ := x
  rw [hs, hs_one, Bool.and_assoc]
theorem hs_append (st : Int) (a b : List Ex) : hs st (a ++ b) = (hs st a && hs st b) := by
  induction a with
  | nil => rw [List.nil_append, hs_nil, Bool.true_and]
  | cons x t ih => rw [List.cons_append, hs_cons, ih, ← Bool.and_assoc, ← hs_cons]
/-- The same, by the last place that there is. -/
theorem hs_last (la o i : Int) (s : ByteArray) (l : List Ex) : hs (la + 1) [.mk o i s l] = ((!(o == 6 && (decide (i < 0) || decide (la < i)))) && hs (la + 1) l) := by
  rw [hs_one]
  have : decide (la + 1 ≤ i) = decide (la < i) := rfl
  rw [this]
def PI (m : Nat) : Prop := ∀ (w : World) (v : Value) (x : Ex) (la : Int), XBase.In false (fun _ => True) w m v x →
    Calls Tryz.prog 28 #[v, .int .i64 la] w fun e w' => e = .returned (.bool (hs (la + 1) [x])) ∧ Below w.heap.size w w'
set_option maxRecDepth 20000 in
set_option maxHeartbeats 1600000 in
theorem placed_no {w : World} {o i : Int} {s : ByteArray} {l : List Ex} {a : Option Addr} {cap : Nat} {la : Int} (hf : (o == 6 && (decide (i < 0) || decide (la < i))) = true) :
    Calls Tryz.prog 28 #[.agg #[.int .i64 o, .int .i64 i, .string s, .slice a l.length cap], .int .i64 la] w fun e w' => e = .returned (.bool false) ∧ Below w.heap.size w w' := by
  have b0 : Below w.heap.size w (w.alloc (.cells #[.int .i64 o, .int .i64 i, .string s, .slice a l.length cap] 24)) := (Below.refl _ w).alloc (Nat.le_refl _) _
  rw [Bool.and_eq_true] at hf
  obtain ⟨h6, hf⟩ := hf
  cases h1 : decide (i < 0) with
  | true =>
    clear hf
    go_enter Tryz.func28, Tryz.ntmps28
    go_wp2_with fail
    go_ret
    exact ⟨rfl, b0⟩
  | false =>
    rw [h1, Bool.false_or] at hf
    go_enter Tryz.func28, Tryz.ntmps28
    go_wp2_with fail
    go_ret
    exact ⟨rfl, b0⟩
set_option maxRecDepth 20000 in
set_option maxHeartbeats 1600000 in
theorem placed_go {w : World} {o i : Int} {s : ByteArray} {l : List Ex} {a : Option Addr} {cap : Nat} {la : Int} (hl : l.length ≤ 140737488351232) (hcap : l.length ≤ cap ∧ cap ≤ 9223372036854775807) {m : Nat} (ih : PI m) (hin : XBase.InL false (fun _ => True) w m (.slice a l.length cap) l) (hf : (o == 6 && (decide (i < 0) || decide (la < i))) = false) :
    Calls Tryz.prog 28 #[.agg #[.int .i64 o, .int .i64 i, .string s, .slice a l.length cap], .int .i64 la] w fun e w' => e = .returned (.bool (hs (la + 1) l)) ∧ Below w.heap.size w w' := by
  obtain ⟨W0, hW0⟩ : ∃ W0, w.alloc (.cells #[.int .i64 o, .int .i64 i, .string s, .slice a l.length cap] 24) = W0 := ⟨_, rfl⟩
  have b0 : Below w.heap.size w W0 := by rw [← hW0]; exact (Below.refl _ w).alloc (Nat.le_refl _) _
  have q1 : W0.heap[w.heap.size]? = some (.cells #[.int .i64 o, .int .i64 i, .string s, .slice a l.length cap] 24 (0, 0)) := by rw [← hW0]; exact heap_alloc_new w _
  obtain ⟨v0, v1, v2, v3⟩ := four_box q1
  have HB0 : Hid (Below w.heap.size w W0) := b0
  have HIN : Hid (XBase.InL false (fun _ => True) w m (.slice a l.length cap) l) := hin
  have Hih : Hid (PI m) := ih
  obtain ⟨T, hT⟩ : ∃ T, hs (la + 1) l = T := ⟨_, rfl⟩
  rw [hT]
  have HT : Hid (hs (la + 1) l = T) := hT
  clear q1 b0 hin hT ih
  suffices H : ∀ (x6 x1 x2 : Bool), (o == 6) = x6 → decide (i < 0) = x1 → decide (la < i) = x2 → (x6 && (x1 || x2)) = false → Calls Tryz.prog 28 #[.agg #[.int .i64 o, .int .i64 i, .string s, .slice a l.length cap], .int .i64 la] w fun e w' => e = .returned (.bool T) ∧ Below w.heap.size w w' from H _ _ _ rfl rfl rfl hf
  clear hf
  intro x6 x1 x2 h6 h1 h2 hx
  cases x6
  all_goals cases x1
  all_goals cases x2
  all_goals first | (exfalso; revert hx; decide) | skip
  all_goals
    clear hx
    go_enter Tryz.func28, Tryz.ntmps28
    go_wp2_with fail
    try rw [hW0]
    clear hW0 v0 v1 v2 v3
    go_loopw [24] (fun v1 wr => ∃ (q : Nat), v1 = .int .i64 q ∧ q ≤ l.length ∧ Below w.heap.size w wr ∧ hs (la + 1) (l.drop q) = T) (fun v1 _ => l.length - (intOf v1).toNat)
    case atStart => exact ⟨0, rfl, by omega, HB0.out, HT.out⟩
    case round =>
      clear HB0 HT
      obtain ⟨q, rfl, hq, hB, hM⟩ := hrel
      have HM : Hid (hs (la + 1) (l.drop q) = T) := hM
      have HBR : Hid (Below w.heap.size w wr) := hB
      clear hM hB
      by_cases hlt : q < l.length
      · have d0 : decide ((q : Int) < (l.length : Int)) = true := by simp; omega
        have hinl := HIN.out.keep (w' := wr) (fun b _ hlt => HBR.out.block b hlt)
        obtain ⟨aa, cc, hsl, -, -, -, -, hLA⟩ := hinl
        cases hsl
        obtain ⟨g, of, u, ha, hSg, hFour, hInq⟩ := XBase.elem_at hLA hlt
        subst ha
        obtain ⟨c0, c1, c2, c3, rfl, d1, d2, d3, d4⟩ := hFour
        obtain ⟨m', a2, cp2, -, rfl, rfl, rfl, rfl, hob, hib, hsb, -⟩ := hInq.kinds
        obtain ⟨y, hy⟩ : ∃ y, l[q] = y := ⟨_, rfl⟩
        rw [hy] at hInq d1 d2 d3 d4
        obtain ⟨W4, hW4⟩ : ∃ W4, wr.alloc (.cells #[.int .i64 y.o, .int .i64 y.i, .string y.s, .slice a2 y.l.length cp2] 24) = W4 := ⟨_, rfl⟩
        have b4 : Below wr.heap.size wr W4 := by rw [← hW4]; exact (Below.refl _ wr).alloc (Nat.le_refl _) _
        have q4 : W4.heap[wr.heap.size]? = some (.cells #[.int .i64 y.o, .int .i64 y.i, .string y.s, .slice a2 y.l.length cp2] 24 (0, 0)) := by rw [← hW4]; exact heap_alloc_new wr _
        obtain ⟨e0', e1', e2', e3'⟩ := four_box q4
        have cM := Hih.out W4 _ y la (hInq.below b4)
        have hdrop : l.drop q = y :: l.drop (q + 1) := by rw [← hy]; exact List.drop_eq_getElem_cons hlt
        have HST : Hid ((hs (la + 1) [y] && hs (la + 1) (l.drop (q + 1))) = T) := by
          show _ = _
          rw [← hs_cons, ← hdrop]
          exact HM.out
        obtain ⟨Z, hZ⟩ : ∃ Z, hs (la + 1) [y] = Z := ⟨_, rfl⟩
        have HST2 : Hid ((Z && hs (la + 1) (l.drop (q + 1))) = T) := by rw [← hZ]; exact HST.out
        rw [hZ] at cM
        have hcapq : l.length ≤ cap := hcap.1
        clear hdrop HST hZ hInq q4 hLA HM hob hib hsb
        go_wp2_with fail
        refine cM.mono ?_
        rintro e W5 ⟨rfl, B5⟩
        have HKK : Hid (Below w.heap.size w W5) := nx (nx HBR.out b4) B5
        clear cM B5 b4 hW4 d1 d2 d3 d4 e0' e1' e2' e3' HBR
        cases Z with
        | true =>
          go_wp2_with fail
          go_roundw
          case rel => exact ⟨q + 1, by go_num, by omega, HKK.out, by have := HST2.out; rw [Bool.true_and] at this; exact this⟩
          case measure => simp only [intOf]; omega
        | false =>
          have hT : T = false := by have := HST2.out; rw [Bool.false_and] at this; exact this.symm
          subst hT
          go_wp2_with fail
          go_ret
          exact ⟨rfl, HKK.out⟩
      · have d0 : decide ((q : Int) < (l.length : Int)) = false := by simp; omega
        have hT : true = T := by
          have := HM.out
          rw [List.drop_eq_nil_of_le (by omega), hs_nil] at this
          exact this
        subst hT
        go_wp2_with fail
        go_ret
        exact ⟨rfl, HBR.out⟩
theorem placed_all : ∀ m, PI m
  | 0 => by
    intro w v x la h
    rw [XBase.In] at h
    exact h.elim
  | m + 1 => by
    intro w v x la h
    obtain ⟨o, i, s, l⟩ := x
    rw [XBase.in_iff] at h
    obtain ⟨lv, rfl, ho, hi, hs', hl⟩ := h
    have hl0 := hl
    obtain ⟨a, cap, rfl, h1, h2, h3, -, -⟩ := hl
    rw [hs_last]
    cases hf : (o == 6 && (decide (i < 0) || decide (la < i))) with
    | true => exact placed_no hf
    | false => exact placed_go (by omega) ⟨h1, h2⟩ (placed_all m) hl0 hf
end Go.Proofs.YthjbknncbhkinaaGreatDoor.KHs

namespace Go.Proofs.YthjbknncbhkinaaGreatDoor.NGe
open Go.Proofs.YthjbknncbhkinaaGreatDoor.EPure Go.Proofs.YthjbknncbhkinaaGreatDoor.CPu
open Go.Proofs.YthjbknncbhkinaaGreatDoor.SFit (kd ft)
set_option linter.unusedVariables false

/-- Code, and its texts. -/
abbrev Cd := List Ins × List ByteArray
/-- The code of an expression that begins at a place, with so many texts ahead. -/
abbrev Gn := Ex → Nat → Nat → Cd
/-- Expressions one behind the other. -/
def row (g : Gn) : List Ex → Nat → Nat → Cd
  | [], _, _ => ([], [])
  | x :: r, c, t => ((g x c t).1 ++ (row g r (c + (g x c t).1.length) (t + (g x c t).2.length)).1, (g x c t).2 ++ (row g r (c + (g x c t).1.length) (t + (g x c t).2.length)).2)
def zx : Ex := .mk 0 0 ⟨#[]⟩ []
def kid (l : List Ex) (j : Nat) : Ex := l.getD j zx
def both2 (j : Int) (c : Nat) (A B : Cd) : Cd := (A.1 ++ (j, ((c + A.1.length + 1 + B.1.length + 1 : Nat) : Int)) :: (B.1 ++ [(29, 0)]), A.2 ++ B.2)
def logic (g : Gn) (j : Int) (a b : Ex) (c t : Nat) : Cd := both2 j c (g a c t) (g b (c + (g a c t).1.length + 1) (t + (g a c t).2.length))
def three (c : Nat) (A B D : Cd) : Cd := (A.1 ++ (32, ((c + A.1.length + 1 + B.1.length + 1 : Nat) : Int)) :: (B.1 ++ (33, ((c + A.1.length + 1 + B.1.length + 1 + D.1.length : Nat) : Int)) :: D.1), A.2 ++ B.2 ++ D.2)
def choice2 (g : Gn) (d : Ex) (c t : Nat) (A B : Cd) : Cd := three c A B (g d (c + A.1.length + 1 + B.1.length + 1) (t + A.2.length + B.2.length))
def choice (g : Gn) (a b d : Ex) (c t : Nat) : Cd := choice2 g d c t (g a c t) (g b (c + (g a c t).1.length + 1) (t + (g a c t).2.length))
def isT (o : Int) : Bool := o == 5 || o == 7
def opd (o i : Int) (t : Nat) : Int := if isT o = true then t else i
def tx (o : Int) (s : ByteArray) : List ByteArray := if isT o = true then [s] else []
def leaf (o i : Int) (s : ByteArray) (t : Nat) (K : Cd) : Cd := (K.1 ++ [(o, opd o i (t + K.2.length))], K.2 ++ tx o s)
def gen : Nat → Gn
  | 0, _, _, _ => ([], [])
  | m + 1, .mk o i s l, c, t =>
    if o = 29 ∨ o = 30 then logic (gen m) (o + 1) (kid l 0) (kid l 1) c t
    else if o = 31 then choice (gen m) (kid l 0) (kid l 1) (kid l 2) c t
    else leaf o i s t (row (gen m) l c t)
theorem row_snoc (g : Gn) (x : Ex) : ∀ (r : List Ex) (c t : Nat), row g (r ++ [x]) c t = ((row g r c t).1 ++ (g x (c + (row g r c t).1.length) (t + (row g r c t).2.length)).1, (row g r c t).2 ++ (g x (c + (row g r c t).1.length) (t + (row g r c t).2.length)).2) := by
  intro r
  induction r with
  | nil => intro c t; simp [row]
  | cons y r ih =>
    intro c t
    simp only [List.cons_append, row, ih, List.length_append, Nat.add_assoc, List.append_assoc]
/-- Nodes of trees that are nested less than m deep; how deep they are; which may be. -/
def sz : Nat → Ex → Nat
  | 0, _ => 0
  | m + 1, .mk o i s l => 1 + (l.map (sz m)).sum
def Dp : Nat → Ex → Prop
  | 0, _ => False
  | m + 1, .mk o i s l => ∀ y ∈ l, Dp m y
def Ok (lf : Int → Int → ByteArray → Bool) : Nat → Ex → Prop
  | 0, _ => False
  | m + 1, .mk o i s l => (l.length : Int) = kd o ∧ ft lf o i s = true ∧ ∀ y ∈ l, Ok lf m y
def Pl (d : Int) : Nat → Ex → Prop
  | 0, _ => True
  | m + 1, .mk o i s l => (o = 6 → 0 ≤ i ∧ i < d) ∧ ∀ y ∈ l, Pl d m y
theorem bh_ok (lf : Int → Int → ByteArray → Bool) : ∀ (m : Nat) (x : Ex) (r : Int), Dp m x → 0 ≤ SBe.bhL lf [x] r → Ok lf m x ∧ SBe.bhL lf [x] r + sz m x ≤ r := by
  intro m
  induction m with
  | zero => intro x r h; exact h.elim
  | succ m ih =>
    have hl : ∀ (l : List Ex) (r : Int), (∀ y ∈ l, Dp m y) → -1 ≤ r → 0 ≤ SBe.bhL lf l r → (∀ y ∈ l, Ok lf m y) ∧ SBe.bhL lf l r + (l.map (sz m)).sum ≤ r := by
      intro l
      induction l with
      | nil => intro r _ hr h; rw [SBe.bhL_nil] at h ⊢; simp
      | cons x t iht =>
        intro r hd hr h
        rw [SBe.bhL_cons] at h ⊢
        have h1 := SBe.bhL_le lf _ [x] r (Nat.le_refl _) hr
        have h2 := SBe.bhL_le lf _ t (SBe.bhL lf [x] r) (Nat.le_refl _) h1.1
        have hx := ih x r (hd x (by simp)) (by omega)
        have ht := iht _ (fun y hy => hd y (by simp [hy])) h1.1 h
        refine ⟨fun y hy => ?_, ?_⟩
        · rcases List.mem_cons.1 hy with rfl | hy
          · exact hx.1
          · exact ht.1 y hy
        · simp only [List.map_cons, List.sum_cons]
          omega
    rintro ⟨o, i, s, l⟩ r hd h
    by_cases hc : r ≤ 0 ∨ (l.length : Int) ≠ kd o ∨ ft lf o i s = false
    · rw [SBe.bhL_no hc] at h; omega
    · rw [SBe.bhL_one hc] at h ⊢
      have := hl l (r - 1) hd (by omega) h
      have h2 : ¬ (l.length : Int) ≠ kd o := fun e => hc (.inr (.inl e))
      have h3 : ¬ ft lf o i s = false := fun e => hc (.inr (.inr e))
      refine ⟨⟨by omega, by simpa using h3, this.1⟩, ?_⟩
      have e : sz (m + 1) (.mk o i s l) = 1 + (l.map (sz m)).sum := rfl
      rw [e]
      omega
theorem hs_pl (d : Int) : ∀ (m : Nat) (x : Ex), KHs.hs d [x] = true → Pl d m x := by
  intro m
  induction m with
  | zero => intro x _; trivial
  | succ m ih =>
    have hl : ∀ (l : List Ex), KHs.hs d l = true → ∀ y ∈ l, Pl d m y := by
      intro l
      induction l with
      | nil => intro _ y hy; simp at hy
      | cons x t iht =>
        intro h y hy
        rw [KHs.hs_cons, Bool.and_eq_true] at h
        rcases List.mem_cons.1 hy with rfl | hy
        · exact ih _ h.1
        · exact iht h.2 y hy
    rintro ⟨o, i, s, l⟩ h
    rw [KHs.hs_one, Bool.and_eq_true] at h
    refine ⟨fun e => ?_, hl l h.2⟩
    subst e
    have h1 := h.1
    simp at h1
    exact h1
theorem kid_mem {l : List Ex} {j : Nat} (h : j < l.length) : kid l j ∈ l := by
  unfold kid
  rw [List.getD_eq_getElem?_getD, List.getElem?_eq_getElem h]
  exact List.getElem_mem h
theorem kid_at {l : List Ex} {j : Nat} (h : j < l.length) : kid l j = l[j] := by
  unfold kid
  rw [List.getD_eq_getElem?_getD, List.getElem?_eq_getElem h]
  rfl
theorem kd_two {o : Int} (h : o = 29 ∨ o = 30) : kd o = 2 := by rcases h with rfl | rfl <;> rfl
theorem kd_three : kd 31 = 3 := rfl
theorem two_of {l : List Ex} (h : l.length = 2) : l = [kid l 0, kid l 1] := by
  match l, h with
  | [a, b], _ => rfl
theorem three_of {l : List Ex} (h : l.length = 3) : l = [kid l 0, kid l 1, kid l 2] := by
  match l, h with
  | [a, b, d], _ => rfl
/-- How long code is, and how many texts it has. -/
theorem gen_len (lf : Int → Int → ByteArray → Bool) : ∀ (m : Nat) (x : Ex) (c t : Nat), Ok lf m x → 1 ≤ (gen m x c t).1.length ∧ (gen m x c t).1.length ≤ 2 * sz m x ∧ (gen m x c t).2.length ≤ sz m x := by
  intro m
  induction m with
  | zero => intro x c t h; exact h.elim
  | succ m ih =>
    rintro ⟨o, i, s, l⟩ c t ⟨h1, h2, h3⟩
    have e : sz (m + 1) (.mk o i s l) = 1 + (l.map (sz m)).sum := rfl
    by_cases ho : o = 29 ∨ o = 30
    · have hk : l.length = 2 := by rw [kd_two ho] at h1; omega
      have ha := ih (kid l 0) c t (h3 _ (kid_mem (by omega)))
      have hb := ih (kid l 1) (c + (gen m (kid l 0) c t).1.length + 1) (t + (gen m (kid l 0) c t).2.length) (h3 _ (kid_mem (by omega)))
      have eg : gen (m + 1) (.mk o i s l) c t = logic (gen m) (o + 1) (kid l 0) (kid l 1) c t := by rw [gen, if_pos ho]
      rw [eg, e]
      rw [two_of hk]
      simp only [logic, both2, List.length_append, List.length_cons, List.length_nil, List.map_cons, List.map_nil, List.sum_cons, List.sum_nil, kid, List.getD_cons_zero, List.getD_cons_succ] at ha hb ⊢
      omega
    by_cases ho3 : o = 31
    · have hk : l.length = 3 := by subst ho3; rw [kd_three] at h1; omega
      have ha := ih (kid l 0) c t (h3 _ (kid_mem (by omega)))
      have hb := ih (kid l 1) (c + (gen m (kid l 0) c t).1.length + 1) (t + (gen m (kid l 0) c t).2.length) (h3 _ (kid_mem (by omega)))
      have hd := ih (kid l 2) (c + (gen m (kid l 0) c t).1.length + 1 + (gen m (kid l 1) (c + (gen m (kid l 0) c t).1.length + 1) (t + (gen m (kid l 0) c t).2.length)).1.length + 1) (t + (gen m (kid l 0) c t).2.length + (gen m (kid l 1) (c + (gen m (kid l 0) c t).1.length + 1) (t + (gen m (kid l 0) c t).2.length)).2.length) (h3 _ (kid_mem (by omega)))
      have eg : gen (m + 1) (.mk o i s l) c t = choice (gen m) (kid l 0) (kid l 1) (kid l 2) c t := by rw [gen, if_neg ho, if_pos ho3]
      rw [eg, e]
      rw [three_of hk]
      simp only [choice, choice2, three, List.length_append, List.length_cons, List.map_cons, List.map_nil, List.sum_cons, List.sum_nil, kid, List.getD_cons_zero, List.getD_cons_succ] at ha hb hd ⊢
      omega
    have hr : ∀ (l : List Ex) (c t : Nat), (∀ y ∈ l, Ok lf m y) → (row (gen m) l c t).1.length ≤ 2 * (l.map (sz m)).sum ∧ (row (gen m) l c t).2.length ≤ (l.map (sz m)).sum := by
      intro l
      induction l with
      | nil => intro c t _; simp [row]
      | cons x r ihr =>
        intro c t h
        have hx := ih x c t (h x (by simp))
        have := ihr (c + (gen m x c t).1.length) (t + (gen m x c t).2.length) (fun y hy => h y (by simp [hy]))
        simp only [row, List.length_append, List.map_cons, List.sum_cons]
        omega
    have := hr l c t h3
    have eg : gen (m + 1) (.mk o i s l) c t = leaf o i s t (row (gen m) l c t) := by rw [gen, if_neg ho, if_neg ho3]
    have ht : (tx o s).length ≤ 1 := by unfold tx; split <;> simp
    rw [eg, e]
    simp only [leaf, List.length_append, List.length_cons, List.length_nil]
    omega
end Go.Proofs.YthjbknncbhkinaaGreatDoor.NGe

/- The document's looks at an expression's places: contracts of Far, low, Depth, Code. -/
import Derived.Test.YthjbknncbhkinaaGreatDoorKRe
import Derived.Test.YthjbknncbhkinaaGreatDoorNGe
namespace Go.Proofs.YthjbknncbhkinaaGreatDoor.NFr
open Go.RowKit Go.Proofs.YthjbknncbhkinaaGreatDoor.Base Go.Proofs.YthjbknncbhkinaaGreatDoor.EPure Go.Proofs.YthjbknncbhkinaaGreatDoor.KSh
open Go.Proofs.YthjbknncbhkinaaGreatDoor.XBase (four_box two_box frozen_box Rg Four)
set_option linter.unusedVariables false

/-- Does an expression ask a place above 2^40? -/
def fr : List Ex → Bool
  | [] => false
  | .mk o i s l :: t => (o == 6 && decide (1099511627776 < i)) || (fr l || fr t)
theorem fr_nil : fr [] = false := by rw [fr]
theorem fr_one (o i : Int) (s : ByteArray) (l : List Ex) : fr [.mk o i s l] = ((o == 6 && decide (1099511627776 < i)) || fr l) := by
  rw [fr, fr_nil, Bool.or_false]
theorem fr_cons (x : Ex) (t : List Ex) : fr (x :: t) = (fr [x] || fr t) := by
  obtain ⟨o, i, s, l⟩ := x
  rw [fr, fr_one, Bool.or_assoc]
def frI (m : Nat) : Prop := ∀ (w : World) (v : Value) (x : Ex), XBase.In false (fun _ => True) w m v x →
    Calls Tryz.prog 6 #[v] w fun e w' => e = .returned (.bool (fr [x])) ∧ Below w.heap.size w w'
set_option maxRecDepth 20000 in
set_option maxHeartbeats 1600000 in
theorem fr_of (m : Nat) (ih : frI m) : frI (m + 1) := by
  rintro w v ⟨o, i, s, l⟩ hin0
  rw [XBase.in_iff] at hin0
  obtain ⟨lv, rfl, hob, hib, hsb, hin⟩ := hin0
  have hin' := hin
  obtain ⟨a, cap, rfl, hcap, hc2, -⟩ := hin'
  rw [fr_one]
  obtain ⟨W0, hW0⟩ : ∃ W0, w.alloc (.cells #[.int .i64 o, .int .i64 i, .string s, .slice a l.length cap] 24) = W0 := ⟨_, rfl⟩
  have b0 : Below w.heap.size w W0 := by rw [← hW0]; exact (Below.refl _ w).alloc (Nat.le_refl _) _
  have q1 : W0.heap[w.heap.size]? = some (.cells #[.int .i64 o, .int .i64 i, .string s, .slice a l.length cap] 24 (0, 0)) := by rw [← hW0]; exact heap_alloc_new w _
  obtain ⟨v0, v1, v2, v3⟩ := four_box q1
  have HX : Hid (W0.heap[w.heap.size]? = some (.cells #[.int .i64 o, .int .i64 i, .string s, .slice a l.length cap] 24 (0, 0))) := q1
  have HB0 : Hid (Below w.heap.size w W0) := b0
  have HIN : Hid (XBase.InL false (fun _ => True) W0 m (.slice a l.length cap) l) := hin.below b0
  have Hih : Hid (frI m) := ih
  obtain ⟨T, hT⟩ : ∃ T, fr l = T := ⟨_, rfl⟩
  rw [hT]
  have HT : Hid (fr l = T) := hT
  clear q1 b0 hin hT ih
  suffices H : ∀ (x6 x1 : Bool), (o == 6) = x6 → decide (1099511627776 < i) = x1 → Calls Tryz.prog 6 #[.agg #[.int .i64 o, .int .i64 i, .string s, .slice a l.length cap]] w fun e w' => e = .returned (.bool ((x6 && x1) || T)) ∧ Below w.heap.size w w' from H _ _ rfl rfl
  intro x6 x1 h6 h1
  cases x6
  all_goals cases x1
  all_goals
    go_enter Tryz.func6, Tryz.ntmps6
    go_wp2_with fail
    try rw [hW0]
    clear hW0
    first
    | (go_ret; exact ⟨rfl, HB0.out⟩)
    | skip
  all_goals
    go_loopw [3] (fun v1 wr => ∃ (q : Nat), v1 = .int .i64 q ∧ q ≤ l.length ∧ Below W0.heap.size W0 wr ∧ fr (l.drop q) = T) (fun v1 _ => l.length - (intOf v1).toNat)
    case atStart => exact ⟨0, rfl, by omega, Below.refl _ _, HT.out⟩
    case round =>
      clear HT v0 v1 v2 v3
      obtain ⟨q, rfl, hq, hB, hM⟩ := hrel
      have HM : Hid (fr (l.drop q) = T) := hM
      have HBR : Hid (Below W0.heap.size W0 wr) := hB
      have xr := (hB.block w.heap.size (Array.getElem?_eq_some_iff.1 HX.out).1).trans HX.out
      obtain ⟨v0, v1, v2, v3⟩ := four_box xr
      clear hM hB xr
      by_cases hlt : q < l.length
      · have d0 : decide ((q : Int) < (l.length : Int)) = true := by simp; omega
        have hinl := HIN.out.keep (w' := wr) (fun b _ hlt => HBR.out.block b hlt)
        obtain ⟨aa, cc, hsl, -, -, -, -, hLA⟩ := hinl
        cases hsl
        obtain ⟨g, of, u, ha, hSg, hFour, hInq⟩ := XBase.elem_at hLA hlt
        subst ha
        obtain ⟨c0, c1, c2, c3, rfl, d1, d2, d3, d4⟩ := hFour
        obtain ⟨m', a2, cp2, -, rfl, rfl, rfl, rfl, hob, hib, hsb, -⟩ := hInq.kinds
        obtain ⟨y, hy⟩ : ∃ y, l[q] = y := ⟨_, rfl⟩
        rw [hy] at hInq d1 d2 d3 d4
        have cM := Hih.out wr _ y hInq
        have hdrop : l.drop q = y :: l.drop (q + 1) := by rw [← hy]; exact List.drop_eq_getElem_cons hlt
        have HST : Hid ((fr [y] || fr (l.drop (q + 1))) = T) := by
          show _ = _
          rw [← fr_cons, ← hdrop]
          exact HM.out
        obtain ⟨Z, hZ⟩ : ∃ Z, fr [y] = Z := ⟨_, rfl⟩
        have HST2 : Hid ((Z || fr (l.drop (q + 1))) = T) := by rw [← hZ]; exact HST.out
        rw [hZ] at cM
        clear hdrop HST hZ hInq hLA HM hob hib hsb
        go_wp2_with fail
        refine cM.mono ?_
        rintro e W5 ⟨rfl, B5⟩
        have HKK : Hid (Below W0.heap.size W0 W5) := HBR.out.trans (B5.mono HBR.out.size)
        clear cM B5 d1 d2 d3 d4 HBR v0 v1 v2 v3
        cases Z with
        | false =>
          go_wp2_with fail
          go_roundw
          case rel => exact ⟨q + 1, by go_num, by omega, HKK.out, by have := HST2.out; rw [Bool.false_or] at this; exact this⟩
          case measure => simp only [intOf]; omega
        | true =>
          have hT : T = true := by have := HST2.out; rw [Bool.true_or] at this; exact this.symm
          subst hT
          go_wp2_with fail
          go_ret
          exact ⟨rfl, nx HB0.out HKK.out⟩
      · have d0 : decide ((q : Int) < (l.length : Int)) = false := by simp; omega
        have hT : false = T := by
          have := HM.out
          rw [List.drop_eq_nil_of_le (by omega), fr_nil] at this
          exact this
        subst hT
        go_wp2_with fail
        go_ret
        exact ⟨rfl, nx HB0.out HBR.out⟩
theorem fr_all : ∀ m, frI m
  | 0 => by
    intro w v x h
    rw [XBase.In] at h
    exact h.elim
  | m + 1 => fr_of m (fr_all m)
/-- Is a place below 0? -/
def lw : List Ex → Bool
  | [] => false
  | .mk o i s l :: t => (o == 6 && decide (i < 0)) || (lw l || lw t)
theorem lw_nil : lw [] = false := by rw [lw]
theorem lw_one (o i : Int) (s : ByteArray) (l : List Ex) : lw [.mk o i s l] = ((o == 6 && decide (i < 0)) || lw l) := by
  rw [lw, lw_nil, Bool.or_false]
theorem lw_cons (x : Ex) (t : List Ex) : lw (x :: t) = (lw [x] || lw t) := by
  obtain ⟨o, i, s, l⟩ := x
  rw [lw, lw_one, Bool.or_assoc]
def lwI (m : Nat) : Prop := ∀ (w : World) (v : Value) (x : Ex), XBase.In false (fun _ => True) w m v x →
    Calls Tryz.prog 31 #[v] w fun e w' => e = .returned (.bool (lw [x])) ∧ Below w.heap.size w w'
set_option maxRecDepth 20000 in
set_option maxHeartbeats 1600000 in
theorem lw_of (m : Nat) (ih : lwI m) : lwI (m + 1) := by
  rintro w v ⟨o, i, s, l⟩ hin0
  rw [XBase.in_iff] at hin0
  obtain ⟨lv, rfl, hob, hib, hsb, hin⟩ := hin0
  have hin' := hin
  obtain ⟨a, cap, rfl, hcap, hc2, -⟩ := hin'
  rw [lw_one]
  obtain ⟨W0, hW0⟩ : ∃ W0, w.alloc (.cells #[.int .i64 o, .int .i64 i, .string s, .slice a l.length cap] 24) = W0 := ⟨_, rfl⟩
  have b0 : Below w.heap.size w W0 := by rw [← hW0]; exact (Below.refl _ w).alloc (Nat.le_refl _) _
  have q1 : W0.heap[w.heap.size]? = some (.cells #[.int .i64 o, .int .i64 i, .string s, .slice a l.length cap] 24 (0, 0)) := by rw [← hW0]; exact heap_alloc_new w _
  obtain ⟨v0, v1, v2, v3⟩ := four_box q1
  have HX : Hid (W0.heap[w.heap.size]? = some (.cells #[.int .i64 o, .int .i64 i, .string s, .slice a l.length cap] 24 (0, 0))) := q1
  have HB0 : Hid (Below w.heap.size w W0) := b0
  have HIN : Hid (XBase.InL false (fun _ => True) W0 m (.slice a l.length cap) l) := hin.below b0
  have Hih : Hid (lwI m) := ih
  obtain ⟨T, hT⟩ : ∃ T, lw l = T := ⟨_, rfl⟩
  rw [hT]
  have HT : Hid (lw l = T) := hT
  clear q1 b0 hin hT ih
  suffices H : ∀ (x6 x1 : Bool), (o == 6) = x6 → decide (i < 0) = x1 → Calls Tryz.prog 31 #[.agg #[.int .i64 o, .int .i64 i, .string s, .slice a l.length cap]] w fun e w' => e = .returned (.bool ((x6 && x1) || T)) ∧ Below w.heap.size w w' from H _ _ rfl rfl
  intro x6 x1 h6 h1
  cases x6
  all_goals cases x1
  all_goals
    go_enter Tryz.func31, Tryz.ntmps31
    go_wp2_with fail
    try rw [hW0]
    clear hW0
    first
    | (go_ret; exact ⟨rfl, HB0.out⟩)
    | skip
  all_goals
    go_loopw [3] (fun v1 wr => ∃ (q : Nat), v1 = .int .i64 q ∧ q ≤ l.length ∧ Below W0.heap.size W0 wr ∧ lw (l.drop q) = T) (fun v1 _ => l.length - (intOf v1).toNat)
    case atStart => exact ⟨0, rfl, by omega, Below.refl _ _, HT.out⟩
    case round =>
      clear HT v0 v1 v2 v3
      obtain ⟨q, rfl, hq, hB, hM⟩ := hrel
      have HM : Hid (lw (l.drop q) = T) := hM
      have HBR : Hid (Below W0.heap.size W0 wr) := hB
      have xr := (hB.block w.heap.size (Array.getElem?_eq_some_iff.1 HX.out).1).trans HX.out
      obtain ⟨v0, v1, v2, v3⟩ := four_box xr
      clear hM hB xr
      by_cases hlt : q < l.length
      · have d0 : decide ((q : Int) < (l.length : Int)) = true := by simp; omega
        have hinl := HIN.out.keep (w' := wr) (fun b _ hlt => HBR.out.block b hlt)
        obtain ⟨aa, cc, hsl, -, -, -, -, hLA⟩ := hinl
        cases hsl
        obtain ⟨g, of, u, ha, hSg, hFour, hInq⟩ := XBase.elem_at hLA hlt
        subst ha
        obtain ⟨c0, c1, c2, c3, rfl, d1, d2, d3, d4⟩ := hFour
        obtain ⟨m', a2, cp2, -, rfl, rfl, rfl, rfl, hob, hib, hsb, -⟩ := hInq.kinds
        obtain ⟨y, hy⟩ : ∃ y, l[q] = y := ⟨_, rfl⟩
        rw [hy] at hInq d1 d2 d3 d4
        have cM := Hih.out wr _ y hInq
        have hdrop : l.drop q = y :: l.drop (q + 1) := by rw [← hy]; exact List.drop_eq_getElem_cons hlt
        have HST : Hid ((lw [y] || lw (l.drop (q + 1))) = T) := by
          show _ = _
          rw [← lw_cons, ← hdrop]
          exact HM.out
        obtain ⟨Z, hZ⟩ : ∃ Z, lw [y] = Z := ⟨_, rfl⟩
        have HST2 : Hid ((Z || lw (l.drop (q + 1))) = T) := by rw [← hZ]; exact HST.out
        rw [hZ] at cM
        clear hdrop HST hZ hInq hLA HM hob hib hsb
        go_wp2_with fail
        refine cM.mono ?_
        rintro e W5 ⟨rfl, B5⟩
        have HKK : Hid (Below W0.heap.size W0 W5) := HBR.out.trans (B5.mono HBR.out.size)
        clear cM B5 d1 d2 d3 d4 HBR v0 v1 v2 v3
        cases Z with
        | false =>
          go_wp2_with fail
          go_roundw
          case rel => exact ⟨q + 1, by go_num, by omega, HKK.out, by have := HST2.out; rw [Bool.false_or] at this; exact this⟩
          case measure => simp only [intOf]; omega
        | true =>
          have hT : T = true := by have := HST2.out; rw [Bool.true_or] at this; exact this.symm
          subst hT
          go_wp2_with fail
          go_ret
          exact ⟨rfl, nx HB0.out HKK.out⟩
      · have d0 : decide ((q : Int) < (l.length : Int)) = false := by simp; omega
        have hT : false = T := by
          have := HM.out
          rw [List.drop_eq_nil_of_le (by omega), lw_nil] at this
          exact this
        subst hT
        go_wp2_with fail
        go_ret
        exact ⟨rfl, nx HB0.out HBR.out⟩
theorem lw_all : ∀ m, lwI m
  | 0 => by
    intro w v x h
    rw [XBase.In] at h
    exact h.elim
  | m + 1 => lw_of m (lw_all m)
theorem fr_mid {P R : List Ex} {y : Ex} (h : fr (P ++ y :: R) = false) : fr [y] = false := by
  induction P with
  | nil => rw [List.nil_append, fr_cons, Bool.or_eq_false_iff] at h; exact h.1
  | cons x P ih => rw [List.cons_append, fr_cons, Bool.or_eq_false_iff] at h; exact ih h.2
theorem lw_mid {P R : List Ex} {y : Ex} (h : lw (P ++ y :: R) = false) : lw [y] = false := by
  induction P with
  | nil => rw [List.nil_append, lw_cons, Bool.or_eq_false_iff] at h; exact h.1
  | cons x P ih => rw [List.cons_append, lw_cons, Bool.or_eq_false_iff] at h; exact ih h.2
/-- How many values must lie on the stack. -/
def dm : List Ex → Int
  | [] => 0
  | .mk o i s l :: t => max (max (if o = 6 then i + 1 else 0) (dm l)) (dm t)
theorem dm_nil : dm [] = 0 := by rw [dm]
theorem dm_one (o i : Int) (s : ByteArray) (l : List Ex) : dm [.mk o i s l] = max (max (if o = 6 then i + 1 else 0) (dm l)) 0 := by
  rw [dm, dm_nil]
theorem dm_pos : ∀ l, 0 ≤ dm l
  | [] => by rw [dm_nil]; omega
  | .mk o i s l :: t => by
    have := dm_pos t
    rw [dm]
    omega
theorem dm_cons (x : Ex) (t : List Ex) : dm (x :: t) = max (dm [x]) (dm t) := by
  obtain ⟨o, i, s, l⟩ := x
  have := dm_pos t
  rw [dm, dm_one]
  omega
theorem dm_le : ∀ (n : Nat) (l : List Ex), SizeOf.sizeOf l ≤ n → fr l = false → dm l ≤ 1099511627777 := by
  intro n
  induction n with
  | zero =>
    intro l h
    cases l with
    | nil => intro _; rw [dm_nil]; omega
    | cons x t => exact absurd h (by simp)
  | succ n ih =>
    intro l h hf
    cases l with
    | nil => rw [dm_nil]; omega
    | cons x t =>
      obtain ⟨o, i, s, k⟩ := x
      rw [fr] at hf
      simp only [Bool.or_eq_false_iff] at hf
      have h1 := ih k (by simp at h; omega) hf.2.1
      have h2 := ih t (by simp at h; omega) hf.2.2
      rw [dm]
      have h3 : (if o = 6 then i + 1 else 0) ≤ 1099511627777 := by
        split
        · next e =>
          have := hf.1
          subst e
          simp at this
          omega
        · omega
      omega
theorem hs_dm (d : Int) : ∀ (n : Nat) (l : List Ex), SizeOf.sizeOf l ≤ n → lw l = false → dm l ≤ d → KHs.hs d l = true := by
  intro n
  induction n with
  | zero =>
    intro l h
    cases l with
    | nil => intro _ _; rw [KHs.hs_nil]
    | cons x t => exact absurd h (by simp)
  | succ n ih =>
    intro l h hf hd
    cases l with
    | nil => rw [KHs.hs_nil]
    | cons x t =>
      obtain ⟨o, i, s, k⟩ := x
      rw [lw] at hf
      rw [dm] at hd
      simp only [Bool.or_eq_false_iff] at hf
      have h1 := ih k (by simp at h; omega) hf.2.1 (by omega)
      have h2 := ih t (by simp at h; omega) hf.2.2 (by omega)
      rw [KHs.hs, h1, h2]
      have := hf.1
      by_cases e : o = 6
      · subst e
        simp at this hd ⊢
        omega
      · simp [e]
theorem lw_hs : ∀ (n : Nat) (l : List Ex) (d : Int), SizeOf.sizeOf l ≤ n → (lw l = true → KHs.hs d l = false) := by
  intro n
  induction n with
  | zero =>
    intro l d h
    cases l with
    | nil => intro e; rw [lw_nil] at e; cases e
    | cons x t => exact absurd h (by simp)
  | succ n ih =>
    intro l d h hf
    cases l with
    | nil => rw [lw_nil] at hf; cases hf
    | cons x t =>
      obtain ⟨o, i, s, k⟩ := x
      rw [lw] at hf
      simp only [Bool.or_eq_true] at hf
      rw [KHs.hs]
      rcases hf with hf | hf | hf
      · simp at hf
        simp [hf.1, hf.2]
      · rw [ih k d (by simp at h; omega) hf]; simp
      · rw [ih t d (by simp at h; omega) hf]; simp
def dmI (m : Nat) : Prop := ∀ (w : World) (v : Value) (x : Ex), XBase.In false (fun _ => True) w m v x → fr [x] = false → lw [x] = false →
    Calls Tryz.prog 18 #[v] w fun e w' => e = .returned (.int .i64 (dm [x])) ∧ Below w.heap.size w w'
set_option maxRecDepth 20000 in
set_option maxHeartbeats 1600000 in
theorem dm_of (m : Nat) (ih : dmI m) : dmI (m + 1) := by
  rintro w v ⟨o, i, s, l⟩ hin0 hfr hlw
  rw [XBase.in_iff] at hin0
  obtain ⟨lv, rfl, hob, hib, hsb, hin⟩ := hin0
  have hin' := hin
  obtain ⟨a, cap, rfl, hcap, hc2, -⟩ := hin'
  rw [fr_one, Bool.or_eq_false_iff] at hfr
  rw [lw_one, Bool.or_eq_false_iff] at hlw
  obtain ⟨W0, hW0⟩ : ∃ W0, w.alloc (.cells #[.int .i64 o, .int .i64 i, .string s, .slice a l.length cap] 24) = W0 := ⟨_, rfl⟩
  have b0 : Below w.heap.size w W0 := by rw [← hW0]; exact (Below.refl _ w).alloc (Nat.le_refl _) _
  have q1 : W0.heap[w.heap.size]? = some (.cells #[.int .i64 o, .int .i64 i, .string s, .slice a l.length cap] 24 (0, 0)) := by rw [← hW0]; exact heap_alloc_new w _
  obtain ⟨v0, v1, v2, v3⟩ := four_box q1
  have HX : Hid (W0.heap[w.heap.size]? = some (.cells #[.int .i64 o, .int .i64 i, .string s, .slice a l.length cap] 24 (0, 0))) := q1
  have HB0 : Hid (Below w.heap.size w W0) := b0
  have HIN : Hid (XBase.InL false (fun _ => True) W0 m (.slice a l.length cap) l) := hin.below b0
  have Hih : Hid (dmI m) := ih
  have HFL : Hid (fr l = false ∧ lw l = false) := ⟨hfr.2, hlw.2⟩
  obtain ⟨z0, hz0⟩ : ∃ z0, (if o = 6 then i + 1 else 0) = z0 := ⟨_, rfl⟩
  have hr0 : 0 ≤ z0 ∧ z0 ≤ 1099511627777 := by
    have h1 := hfr.1
    have h2 := hlw.1
    rw [← hz0]
    split
    · next e =>
      subst e
      simp at h1 h2
      omega
    · omega
  have hD0 : dm [.mk o i s l] = max z0 (dm l) := by rw [dm_one, hz0]; omega
  have hdl := dm_le _ l (Nat.le_refl _) hfr.2
  rw [hD0]
  obtain ⟨D, hD⟩ : ∃ D, max z0 (dm l) = D := ⟨_, rfl⟩
  rw [hD]
  have HT : Hid (max z0 (dm l) = D) := hD
  clear q1 b0 hin hD ih hD0 hfr hlw hdl
  suffices H : Calls Tryz.prog 18 #[.agg #[.int .i64 o, .int .i64 i, .string s, .slice a l.length cap]] w fun e w' => e = .returned (.int .i64 D) ∧ Below w.heap.size w w' from H
  by_cases h6 : o = 6
  · rw [if_pos h6] at hz0
    subst h6
    subst hz0
    have hwz : IntKind.i64.wrap (i + 1) = i + 1 := by rw [IntKind.wrap_i64]; omega
    go_enter Tryz.func18, Tryz.ntmps18
    go_wp2_with fail
    try rw [hW0]
    clear hW0 hwz
    obtain ⟨z0, hz0⟩ : ∃ z0, i + 1 = z0 := ⟨_, rfl⟩
    rw [hz0] at hr0 HT
    (try rw [hz0])
    go_loopw [3, 4] (fun v0 v1 wr => ∃ (q : Nat) (z : Int), v0 = .int .i64 z ∧ v1 = .int .i64 q ∧ q ≤ l.length ∧ 0 ≤ z ∧ Below W0.heap.size W0 wr ∧ max z (dm (l.drop q)) = D) (fun _ v1 _ => l.length - (intOf v1).toNat)
    case atStart => exact ⟨0, _, rfl, rfl, by omega, by omega, Below.refl _ _, HT.out⟩
    case round =>
      clear HT v0 v1 v2 v3
      obtain ⟨q, z, rfl, rfl, hq, hz, hB, hM⟩ := hrel
      have HM : Hid (max z (dm (l.drop q)) = D) := hM
      have HBR : Hid (Below W0.heap.size W0 wr) := hB
      have xr := (hB.block w.heap.size (Array.getElem?_eq_some_iff.1 HX.out).1).trans HX.out
      obtain ⟨v0, v1, v2, v3⟩ := four_box xr
      clear hM hB xr
      by_cases hlt : q < l.length
      · have d0 : decide ((q : Int) < (l.length : Int)) = true := by simp; omega
        have hinl := HIN.out.keep (w' := wr) (fun b _ hlt => HBR.out.block b hlt)
        obtain ⟨aa, cc, hsl, -, -, -, -, hLA⟩ := hinl
        cases hsl
        obtain ⟨g, of, u, ha, hSg, hFour, hInq⟩ := XBase.elem_at hLA hlt
        subst ha
        obtain ⟨c0, c1, c2, c3, rfl, d1, d2, d3, d4⟩ := hFour
        obtain ⟨m', a2, cp2, -, rfl, rfl, rfl, rfl, hob, hib, hsb, -⟩ := hInq.kinds
        obtain ⟨y, hy⟩ : ∃ y, l[q] = y := ⟨_, rfl⟩
        rw [hy] at hInq d1 d2 d3 d4
        have hdrop : l.drop q = y :: l.drop (q + 1) := by rw [← hy]; exact List.drop_eq_getElem_cons hlt
        have hmem : ∃ P R, l = P ++ y :: R := ⟨l.take q, l.drop (q + 1), by rw [← hdrop, List.take_append_drop]⟩
        have hff : fr [y] = false ∧ lw [y] = false := by
          obtain ⟨P, R, hl⟩ := hmem
          have h1 := HFL.out
          rw [hl] at h1
          exact ⟨fr_mid h1.1, lw_mid h1.2⟩
        have cM := Hih.out wr _ y hInq hff.1 hff.2
        obtain ⟨Z, hZ⟩ : ∃ Z, dm [y] = Z := ⟨_, rfl⟩
        have HST2 : Hid (max (max z Z) (dm (l.drop (q + 1))) = D) := by
          have := HM.out
          rw [hdrop, dm_cons, hZ] at this
          show _ = _
          omega
        rw [hZ] at cM
        clear hdrop hmem hff hZ hInq hLA HM hob hib hsb
        go_wp2_with fail
        refine cM.mono ?_
        rintro e W5 ⟨rfl, B5⟩
        have HKK : Hid (Below W0.heap.size W0 W5) := HBR.out.trans (B5.mono HBR.out.size)
        clear cM B5 d1 d2 d3 d4 HBR v0 v1 v2 v3
        go_wp2_with fail
        go_roundw
        case rel => exact ⟨q + 1, max z Z, by first | rfl | (congr 1; omega), by go_num, by omega, by omega, HKK.out, HST2.out⟩
        case measure => simp only [intOf]; omega
      · have d0 : decide ((q : Int) < (l.length : Int)) = false := by simp; omega
        go_wp2_with fail
        go_ret
        refine ⟨SFit.ret_int ?_, nx HB0.out HBR.out⟩
        have := HM.out
        rw [List.drop_eq_nil_of_le (by omega), dm_nil] at this
        omega
  · have h6' : (o == 6) = false := by simp [h6]
    rw [if_neg h6] at hz0
    subst hz0
    go_enter Tryz.func18, Tryz.ntmps18
    go_wp2_with fail
    try rw [hW0]
    clear hW0
    go_loopw [3, 4] (fun v0 v1 wr => ∃ (q : Nat) (z : Int), v0 = .int .i64 z ∧ v1 = .int .i64 q ∧ q ≤ l.length ∧ 0 ≤ z ∧ Below W0.heap.size W0 wr ∧ max z (dm (l.drop q)) = D) (fun _ v1 _ => l.length - (intOf v1).toNat)
    case atStart => exact ⟨0, _, rfl, rfl, by omega, by omega, Below.refl _ _, HT.out⟩
    case round =>
      clear HT v0 v1 v2 v3
      obtain ⟨q, z, rfl, rfl, hq, hz, hB, hM⟩ := hrel
      have HM : Hid (max z (dm (l.drop q)) = D) := hM
      have HBR : Hid (Below W0.heap.size W0 wr) := hB
      have xr := (hB.block w.heap.size (Array.getElem?_eq_some_iff.1 HX.out).1).trans HX.out
      obtain ⟨v0, v1, v2, v3⟩ := four_box xr
      clear hM hB xr
      by_cases hlt : q < l.length
      · have d0 : decide ((q : Int) < (l.length : Int)) = true := by simp; omega
        have hinl := HIN.out.keep (w' := wr) (fun b _ hlt => HBR.out.block b hlt)
        obtain ⟨aa, cc, hsl, -, -, -, -, hLA⟩ := hinl
        cases hsl
        obtain ⟨g, of, u, ha, hSg, hFour, hInq⟩ := XBase.elem_at hLA hlt
        subst ha
        obtain ⟨c0, c1, c2, c3, rfl, d1, d2, d3, d4⟩ := hFour
        obtain ⟨m', a2, cp2, -, rfl, rfl, rfl, rfl, hob, hib, hsb, -⟩ := hInq.kinds
        obtain ⟨y, hy⟩ : ∃ y, l[q] = y := ⟨_, rfl⟩
        rw [hy] at hInq d1 d2 d3 d4
        have hdrop : l.drop q = y :: l.drop (q + 1) := by rw [← hy]; exact List.drop_eq_getElem_cons hlt
        have hmem : ∃ P R, l = P ++ y :: R := ⟨l.take q, l.drop (q + 1), by rw [← hdrop, List.take_append_drop]⟩
        have hff : fr [y] = false ∧ lw [y] = false := by
          obtain ⟨P, R, hl⟩ := hmem
          have h1 := HFL.out
          rw [hl] at h1
          exact ⟨fr_mid h1.1, lw_mid h1.2⟩
        have cM := Hih.out wr _ y hInq hff.1 hff.2
        obtain ⟨Z, hZ⟩ : ∃ Z, dm [y] = Z := ⟨_, rfl⟩
        have HST2 : Hid (max (max z Z) (dm (l.drop (q + 1))) = D) := by
          have := HM.out
          rw [hdrop, dm_cons, hZ] at this
          show _ = _
          omega
        rw [hZ] at cM
        clear hdrop hmem hff hZ hInq hLA HM hob hib hsb
        go_wp2_with fail
        refine cM.mono ?_
        rintro e W5 ⟨rfl, B5⟩
        have HKK : Hid (Below W0.heap.size W0 W5) := HBR.out.trans (B5.mono HBR.out.size)
        clear cM B5 d1 d2 d3 d4 HBR v0 v1 v2 v3
        go_wp2_with fail
        go_roundw
        case rel => exact ⟨q + 1, max z Z, by first | rfl | (congr 1; omega), by go_num, by omega, by omega, HKK.out, HST2.out⟩
        case measure => simp only [intOf]; omega
      · have d0 : decide ((q : Int) < (l.length : Int)) = false := by simp; omega
        go_wp2_with fail
        go_ret
        refine ⟨SFit.ret_int ?_, nx HB0.out HBR.out⟩
        have := HM.out
        rw [List.drop_eq_nil_of_le (by omega), dm_nil] at this
        omega
theorem dm_all : ∀ m, dmI m
  | 0 => by
    intro w v x h
    rw [XBase.In] at h
    exact h.elim
  | m + 1 => dm_of m (dm_all m)
/-- What Make's error must be. -/
def cerr (x : Ex) : Int := if rsv x = true ∧ lw [x] = false then 0 else 1108
set_option maxRecDepth 20000 in
set_option maxHeartbeats 1600000 in
theorem code_c {m : Nat} {w : World} {v : Value} {x : Ex} (hin : XBase.In false (fun _ => True) w m v x) :
    Calls Tryz.prog 9 #[v] w fun e w' => e = .returned (.int .i64 (cerr x)) ∧ Below w.heap.size w w' := by
  obtain ⟨m', lv, rfl, rfl, -, -, -, hL⟩ := hin.shape
  obtain ⟨a, cap, rfl, -⟩ := hL
  obtain ⟨W0, hW0⟩ : ∃ W0, w.alloc (.cells #[.int .i64 x.o, .int .i64 x.i, .string x.s, .slice a x.l.length cap] 24) = W0 := ⟨_, rfl⟩
  have b0 : Below w.heap.size w W0 := by rw [← hW0]; exact (Below.refl _ w).alloc (Nat.le_refl _) _
  have q1 : W0.heap[w.heap.size]? = some (.cells #[.int .i64 x.o, .int .i64 x.i, .string x.s, .slice a x.l.length cap] 24 (0, 0)) := by rw [← hW0]; exact heap_alloc_new w _
  obtain ⟨v0, v1, v2, v3⟩ := four_box q1
  have c1 := KRe.expr_c (hin.below b0)
  have HX : Hid (W0.heap[w.heap.size]? = some (.cells #[.int .i64 x.o, .int .i64 x.i, .string x.s, .slice a x.l.length cap] 24 (0, 0))) := q1
  have HB0 : Hid (Below w.heap.size w W0) := b0
  have HIN : Hid _ := hin.below b0
  obtain ⟨R, hR⟩ : ∃ R, rsv x = R := ⟨_, rfl⟩
  have hce : cerr x = if R = true ∧ lw [x] = false then 0 else 1108 := by rw [← hR]; rfl
  rw [hce]
  rw [hR] at c1
  clear hce hR q1 b0 hin
  cases R with
  | false =>
    rw [if_neg (by simp)]
    go_enter Tryz.func9, Tryz.ntmps9
    go_wp2_with fail
    (try rw [hW0])
    refine c1.mono ?_
    rintro e W1 ⟨rfl, b1⟩
    have HB1 : Hid (Below W0.heap.size W0 W1) := b1
    clear c1 b1
    go_wp2_with fail
    go_ret
    exact ⟨rfl, nx HB0.out HB1.out⟩
  | true =>
    suffices H : ∀ Z : Bool, lw [x] = Z → Calls Tryz.prog 9 #[.agg #[.int .i64 x.o, .int .i64 x.i, .string x.s, .slice a x.l.length cap]] w fun e w' => e = .returned (.int .i64 (if Z = false then 0 else 1108)) ∧ Below w.heap.size w w' by
      have := H _ rfl
      simpa using this
    intro Z hZ
    have HL : Hid (∀ W1, Below W0.heap.size W0 W1 → Calls Tryz.prog 31 #[.agg #[.int .i64 x.o, .int .i64 x.i, .string x.s, .slice a x.l.length cap]] W1 fun e w' => e = .returned (.bool Z) ∧ Below W1.heap.size W1 w') := by
      intro W1 h1
      have := lw_all _ W1 _ x (HIN.out.below h1)
      rw [hZ] at this
      exact this
    clear hZ
    go_enter Tryz.func9, Tryz.ntmps9
    go_wp2_with fail
    (try rw [hW0])
    refine c1.mono ?_
    rintro e W1 ⟨rfl, b1⟩
    have HB1 : Hid (Below W0.heap.size W0 W1) := b1
    have cL := HL.out W1 b1
    have xr := (b1.block w.heap.size (Array.getElem?_eq_some_iff.1 HX.out).1).trans HX.out
    obtain ⟨v0, v1, v2, v3⟩ := four_box xr
    clear c1 b1 xr
    go_wp2_with fail
    refine cL.mono ?_
    rintro e W2 ⟨rfl, b2⟩
    have HB2 : Hid (Below W1.heap.size W1 W2) := b2
    clear cL b2
    cases Z
    all_goals
      go_wp2_with fail
      go_ret
      exact ⟨rfl, nx (nx HB0.out HB1.out) HB2.out⟩
end Go.Proofs.YthjbknncbhkinaaGreatDoor.NFr

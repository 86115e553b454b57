/- Copies of a program's parts (stencillaw0): CopyTexts, CopyInts, CopyInsts, CopyCodes. -/
import Derived.Test.YtgknjjaemjkloaaCBx
import Derived.DeepKeys4
import Derived.Laws.StructEq
import Derived.Deep.RegionHeld3
import Derived.Test.YtgknjjaemjkloaaIBase
import Derived.Test.YtgknjjaemjkloaaBNp
import Derived.Test.YtgknjjaemjkloaaYRf
namespace Go.Proofs.Ytgknjjaemjkloaa.CIn
open Go.RowKit Go.Proofs.Ytgknjjaemjkloaa.IPure Go.Proofs.Ytgknjjaemjkloaa.IBase Go.Proofs.Ytgknjjaemjkloaa.CPu Go.Proofs.Ytgknjjaemjkloaa.CBx
set_option linter.unusedVariables false

def iv (x : Ins) : Value := .agg #[.int .i64 x.1, .int .i64 x.2]
def Ok (x : Ins) : Prop := (Lit.int .i64 x.1).wf = true ∧ (Lit.int .i64 x.2).wf = true
theorem cellsI : Try.prog.cellsOf 49 = 2 := by kernel_rfl
theorem cells3 : Try.prog.cellsOf 3 = 1 := by kernel_rfl
theorem lits_of {x : Ins} (h : Ok x) : Try.prog.keyLits 2 49 (iv x).cells.toList = some [.int .i64 x.1, .int .i64 x.2] := by
  simp [Program.keyLits, Try.underlying49, Try.underlying3, cellsI, cells3, iv, Value.cells, h.1, h.2]
theorem formed_iv (x : Ins) : (iv x).formed Try.prog 49 = true := by
  simp [iv, Value.formed, Try.underlying49, cellsI]
theorem eq_same {x : Ins} (hx : Ok x) (w : World) : (Op.equal 49 (iv x) (iv x)).run Try.prog w = .ok true w := by
  obtain ⟨r, hr, hiff⟩ := run_equalIn_deep (P := Try.prog) 9997 3 49 (by kernel_rfl) w 2 2 (iv x) (iv x) _ _ (formed_iv x) (formed_iv x) (lits_of hx) (lits_of hx)
  have e : r = true := hiff.2 rfl
  rw [← e]
  exact hr
theorem guard_no : Try.prog.eqGuardType Try.prog.depth 49 = false := by kernel_rfl
theorem guard_ins (op : BinOp) (xo yo : Operand) (k0 k1 x0 x1 : Int) (w : World) : (eqGuard op 49 xo yo (.agg #[.int .i64 k0, .int .i64 k1]) (.agg #[.int .i64 x0, .int .i64 x1])).run Try.prog w = .ok () w := by
  unfold eqGuard
  cases op <;> simp [go_sem]
theorem bin_eq {x0 x1 : Int} (hx : Ok (x0, x1)) (w : World) : (binOp .eql 49 (.agg #[.int .i64 x0, .int .i64 x1]) (.agg #[.int .i64 x0, .int .i64 x1])).run Try.prog w = .ok (.bool true) w := by
  have h := eq_same hx w
  unfold iv at h
  simp [binOp, h]
theorem bin_ne {x0 x1 : Int} (hx : Ok (x0, x1)) (w : World) : (binOp .neq 49 (.agg #[.int .i64 x0, .int .i64 x1]) (.agg #[.int .i64 x0, .int .i64 x1])).run Try.prog w = .ok (.bool false) w := by
  have h := eq_same hx w
  unfold iv at h
  simp [binOp, h]
def OkL (L : List Ins) : Prop := (∀ x ∈ L, Ok x) ∧ L.length + 2 ≤ 8796093022208
set_option maxRecDepth 20000 in
set_option maxHeartbeats 800000 in
theorem sameI_c {K : Nat} {w : World} {v u : Value} {L : List Ins} (hv : Cx K w v L) (hu : Cx K w u L) (hK : K ≤ w.heap.size) (hk : OkL L) :
    Calls Try.prog 50 #[v, u] w fun e w' => e = .returned (.bool true) ∧ Below w.heap.size w w' := by
  obtain ⟨a, cap, rfl, hl, hm, hnil, hL⟩ := hv
  obtain ⟨a2, cap2, rfl, hl2, hm2, hnil2, hM⟩ := hu
  obtain ⟨n, hnn⟩ : ∃ n, L.length = n := ⟨_, rfl⟩
  have HN : Hid (L.length = n) := hnn
  have HO : Hid (OkL L) := hk
  have hn := hk.2
  rw [hnn] at hl hl2 hn ⊢
  clear hk hnn hnil hnil2
  go_enter Try.func50, Try.ntmps50
  go_wp2_with fail
  go_loopw [5] (fun i wr => ∃ q : Nat, i = .int .i64 (q : Nat) ∧ q ≤ n ∧ Below w.heap.size w wr) (fun i _ => n - (intOf i).toNat)
  case atStart => exact ⟨0, rfl, by omega, Below.refl _ _⟩
  case round =>
    obtain ⟨q, rfl, hq, hb⟩ := hrel
    by_cases hlt : q < n
    · rcases hL with rfl | ⟨g, o, rfl, hg, hc⟩
      · have := HN.out; simp at this; omega
      rcases hM with rfl | ⟨g2, o2, rfl, hg2, hc2⟩
      · have := HN.out; simp at this; omega
      have hlq : q < L.length := by rw [HN.out]; exact hlt
      obtain ⟨d0, d1⟩ := hc q hlq
      obtain ⟨e0, e1⟩ := hc2 q hlq
      have d0 := cell_keep (by omega : g < w.heap.size) d0 hb
      have d1 := cell_keep (by omega : g < w.heap.size) d1 hb
      have e0 := cell_keep (by omega : g2 < w.heap.size) e0 hb
      have e1 := cell_keep (by omega : g2 < w.heap.size) e1 hb
      have hxo := HO.out.1 L[q] (List.getElem_mem _)
      clear hc hc2
      generalize L[q] = x at *
      obtain ⟨x0, x1⟩ := x
      have heq := fun w => bin_ne hxo w
      have hgd := fun xo yo => guard_ins .neq xo yo x0 x1 x0 x1
      clear hxo
      dsimp only at d0 d1 e0 e1
      go_wp2_with fail
      go_quiet (fail)
      go_wp2_with fail
      go_roundw
      case rel => exact ⟨q + 1, by go_num, by omega, below_drewN hb⟩
      case measure => simp only [intOf]; omega
    · obtain rfl : q = n := by omega
      have hnlt : decide ((q : Int) < (q : Int)) = false := by simp
      clear hL hM
      go_wp2_with fail
      go_ret
      exact ⟨rfl, hb⟩
def flat (L : List Ins) : List Value := L.flatMap fun x => [.int .i64 x.1, .int .i64 x.2]
theorem flat_append (a b : List Ins) : flat (a ++ b) = flat a ++ flat b := by simp [flat]
theorem flat_len (L : List Ins) : (flat L).length = L.length * 2 := by
  induction L with
  | nil => rfl
  | cons t L ih =>
    simp only [flat, List.flatMap_cons, List.length_append, List.length_cons] at ih ⊢
    rw [ih]
    simp
    omega
theorem flat_get (L : List Ins) : ∀ (j : Nat) (hj : j < L.length), (flat L)[j * 2]? = some (.int .i64 L[j].1) ∧ (flat L)[j * 2 + 1]? = some (.int .i64 L[j].2) := by
  induction L with
  | nil => intro j hj; simp at hj
  | cons t L ih =>
    intro j hj
    have e : flat (t :: L) = [.int .i64 t.1, .int .i64 t.2] ++ flat L := by simp [flat]
    rw [e]
    cases j with
    | zero => simp
    | succ j =>
      rw [List.getElem?_append_right (by simp; omega), List.getElem?_append_right (by simp; omega)]
      have h := ih j (by simpa using hj)
      simp only [List.length_cons, List.length_nil]
      rw [show (j + 1) * 2 - (0 + 1 + 1) = j * 2 by omega, show (j + 1) * 2 + 1 - (0 + 1 + 1) = j * 2 + 1 by omega]
      exact h
theorem one_ins (L : List Ins) : ∀ u ∈ flat L, u.oneCell' = true := by
  intro u hu
  obtain ⟨t, _, h⟩ := List.mem_flatMap.1 hu
  simp at h
  rcases h with rfl | rfl <;> rfl
theorem infoN : (Try.prog.info? 49).map (fun i => (i.zero, i.size, i.bytes)) = some (some (.agg #[.int .i64 0, .int .i64 0]), 2, 16) := by kernel_rfl
/-- A row of instructions of one's own. -/
def Oc (w : World) (B : Nat) (v : Value) (L : List Ins) : Prop := w.ownsRow B 49 2 v L.length (flat L)
theorem copyI_c {K : Nat} {w : World} {v : Value} {L : List Ins} (hv : Cx K w v L) (hK : K ≤ w.heap.size) (hn : L.length ≤ 8796093022208) :
    Calls Try.prog 66 #[v] w fun e w' => ∃ u, e = .returned u ∧ Oc w' w.heap.size u L ∧ Below w.heap.size w w' := by
  obtain ⟨i0, hi, hz0, hz1, hz2⟩ := info_parts infoN
  obtain ⟨a, cap, rfl, hl, hm, hnil, hL⟩ := hv
  have ho : Oc (w.alloc (.cells #[] 49)) w.heap.size (.slice (some ⟨w.heap.size, 0, none⟩) 0 0) [] := by
    refine ⟨rfl, .inr ⟨w.heap.size, 0, #[], rfl, Nat.le_refl _, heap_alloc_new w _, Nat.le_refl _, by simp [maxLen], rfl, rfl⟩⟩
  have hb : Below w.heap.size w (w.alloc (.cells #[] 49)) := (Below.refl _ w).alloc (Nat.le_refl _) _
  cases a with
  | none =>
    obtain rfl := hnil rfl
    obtain rfl : L = [] := List.eq_nil_of_length_eq_zero (by omega)
    go_enter Try.func66, Try.ntmps66
    go_wp2_with fail
    go_ret
    exact ⟨_, rfl, ho, hb⟩
  | some x =>
    obtain ⟨g, o, sp⟩ := x
    have hnews : ∀ j u, (flat L)[j]? = some u → (w.alloc (.cells #[] 49)).cell? ((⟨g, o, sp⟩ : Addr).add j) = some u := by
      intro j u hj
      have hl2 : j < L.length * 2 := by
        have := (List.getElem?_eq_some_iff.1 hj).1
        rwa [flat_len] at this
      rcases hL with rfl | ⟨g', o', e, hg', hc⟩
      · simp at hl2
      · cases e
        rw [add_none]
        have hq : j / 2 < L.length := by omega
        obtain ⟨k1, k2⟩ := flat_get L (j / 2) hq
        obtain ⟨c1, c2⟩ := hc (j / 2) hq
        have c1 := cell_keep (by omega : g < w.heap.size) c1 hb
        have c2 := cell_keep (by omega : g < w.heap.size) c2 hb
        have h3 : j = j / 2 * 2 ∨ j = j / 2 * 2 + 1 := by omega
        rcases h3 with e | e
        · rw [← e] at k1 c1
          rw [k1] at hj
          cases hj
          exact c1
        · rw [← e] at k2
          rw [show o + j / 2 * 2 + 1 = o + j by omega] at c2
          rw [k2] at hj
          cases hj
          exact c2
    have hfl := flat_len L
    clear hL hnil
    go_enter Try.func66, Try.ntmps66
    go_wp2_with (first
      | (at_builtin; refine wpList_append_own _ rfl _ _ 50 rfl w.heap.size 49 i0 (.agg #[.int .i64 0, .int .i64 0]) 2 16 Try.underlying50 hi hz0 hz1 hz2 rfl (by decide) _ _ _ rfl ho ⟨g, o, sp⟩ L.length cap (flat L) rfl (by rw [hfl]) hnews (one_ins L) (by simp [maxLen]; omega) (by simp; omega) (by simp) ?_))
    intro v' w2 hown' hgrow hnn
    have hb3 := hb.grown hgrow (by simp) (fun k hk => by cases hk; exact Nat.le_refl _)
    have ho2 : Oc w2 w.heap.size v' L := by
      unfold Oc
      simpa [flat] using hown'
    clear hown' hgrow ho hb hnews hnn
    go_wp2_with fail
    go_ret
    exact ⟨_, rfl, ho2, hb3⟩
def room : Ins := (-7, 0)
/-- A row that was lent: with marked room behind it. -/
def Lk (B : Nat) (w : World) (v : Value) (L : List Ins) : Prop := ∃ g cap, v = .slice (some ⟨g, 0, none⟩) L.length cap ∧ B ≤ g ∧ g < w.heap.size ∧ L.length + 2 ≤ cap ∧ cap ≤ 9223372036854775807 ∧
  (∀ j (h : j < L.length), w.cell? ⟨g, 0 + j * 2, none⟩ = some (.int .i64 L[j].1) ∧ w.cell? ⟨g, 0 + j * 2 + 1, none⟩ = some (.int .i64 L[j].2)) ∧
  (w.cell? ⟨g, L.length * 2, none⟩ = some (.int .i64 (-7)) ∧ w.cell? ⟨g, L.length * 2 + 1, none⟩ = some (.int .i64 0)) ∧ w.cell? ⟨g, (L.length + 1) * 2, none⟩ = some (.int .i64 (-7)) ∧ w.cell? ⟨g, (L.length + 1) * 2 + 1, none⟩ = some (.int .i64 0)
theorem Lk.cx {B : Nat} {w : World} {v : Value} {L : List Ins} (h : Lk B w v L) : Cx w.heap.size w v L := by
  obtain ⟨g, cap, rfl, -, hg, h1, h2, h3, -⟩ := h
  exact ⟨_, cap, rfl, by omega, h2, (fun h => by cases h), .inr ⟨g, 0, rfl, hg, h3⟩⟩
theorem Lk.below {B : Nat} {w w' : World} {v : Value} {L : List Ins} (h : Lk B w v L) (hb : Below w.heap.size w w') : Lk B w' v L := by
  obtain ⟨g, cap, rfl, h0, hg, h1, h2, h3, h4, h5⟩ := h
  have := hb.size
  exact ⟨g, cap, rfl, h0, by omega, h1, h2, fun j hj => ⟨below_cell (h3 j hj).1 hb, below_cell (h3 j hj).2 hb⟩, ⟨below_cell h4.1 hb, below_cell h4.2 hb⟩, below_cell h5.1 hb, below_cell h5.2 hb⟩
theorem ok_room : Ok (-7, 0) := ⟨by decide, by decide⟩
end Go.Proofs.Ytgknjjaemjkloaa.CIn

namespace Go.Proofs.Ytgknjjaemjkloaa.IInts
open Go.RowKit Go.Proofs.Ytgknjjaemjkloaa.IPure Go.Proofs.Ytgknjjaemjkloaa.IBase
set_option linter.unusedVariables false

theorem take_same {L M : List Int} {k : Nat} (h1 : k < L.length) (h2 : k < M.length) (h : L.take k = M.take k) (he : L[k] = M[k]) : L.take (k + 1) = M.take (k + 1) := by
  rw [List.take_succ_eq_append_getElem h1, List.take_succ_eq_append_getElem h2, h, he]
set_option maxRecDepth 20000 in
set_option maxHeartbeats 800000 in
theorem sameI_c {w : World} {v u : Value} {L M : List Int} (hv : Ix w v L) (hu : Ix w u M) :
    Calls Try.prog 89 #[v, u] w fun e w' => e = .returned (.bool (decide (L = M))) ∧ Below w.heap.size w w' := by
  obtain ⟨a, cap, rfl, hl, hm, hnil, hL⟩ := hv
  obtain ⟨a2, cap2, rfl, hl2, hm2, hnil2, hM⟩ := hu
  clear hnil hnil2
  by_cases hlen : L.length = M.length
  · have HE : Hid (L.length = M.length) := hlen
    rw [← hlen] at hl2 ⊢
    clear hlen
    go_enter Try.func89, Try.ntmps89
    go_wp2_with fail
    go_loopw [5] (fun i wr => ∃ k : Nat, i = .int .i64 k ∧ k ≤ L.length ∧ L.take k = M.take k ∧ Below w.heap.size w wr) (fun i _ => L.length - (intOf i).toNat)
    case atStart => exact ⟨0, rfl, Nat.zero_le _, by simp, Below.refl _ _⟩
    case round =>
      obtain ⟨k, rfl, hk, htk, hb⟩ := hrel
      by_cases hlt : k < L.length
      · have hlt2 : k < M.length := by rw [← HE.out]; exact hlt
        rcases hL with rfl | ⟨g, o, rfl, hcl⟩
        · simp at hlt
        · rcases hM with rfl | ⟨g2, o2, rfl, hcm⟩
          · simp at hlt2
          · have x1 := below_cell (hcl k hlt) hb
            have x2 := below_cell (hcm k hlt2) hb
            have HT := take_same hlt hlt2 htk
            have HN : Hid (L[k] ≠ M[k] → decide (L = M) = false) := fun h => decide_eq_false (fun e => h (by subst e; rfl))
            have HT2 : Hid (L[k] = M[k] → L.take (k + 1) = M.take (k + 1)) := HT
            generalize L[k] = X at *
            generalize M[k] = Y at *
            clear hcl hcm HT htk hlt2
            by_cases hxy : X = Y
            · subst hxy
              have HT3 : Hid (L.take (k + 1) = M.take (k + 1)) := HT2.out rfl
              clear HN HT2
              go_wp2_with fail
              go_quiet (fail)
              go_wp2_with fail
              go_roundw
              case rel => exact ⟨k + 1, by go_num, by omega, HT3.out, below_drewN hb⟩
              case measure => simp only [intOf]; omega
            · have e : (X == Y) = false := by simp [hxy]
              have HN2 : Hid (decide (L = M) = false) := HN.out hxy
              clear HN HT2
              go_wp2_with fail
              go_quiet (fail)
              go_wp2_with fail
              go_ret
              exact ⟨by rw [HN2.out]; rfl, below_drewN hb⟩
      · obtain rfl : k = L.length := by omega
        have hnlt : decide ((L.length : Int) < (L.length : Int)) = false := by simp
        have HT : Hid (L = M) := by
          rw [List.take_length, HE.out, List.take_length] at htk
          exact htk
        clear htk
        go_wp2_with fail
        go_ret
        exact ⟨by rw [decide_eq_true HT.out]; rfl, hb⟩
  · have hd : ((L.length : Int) == (M.length : Int)) = false := by simp; omega
    have HN : Hid (decide (L = M) = false) := decide_eq_false (fun e => hlen (by rw [e]))
    go_enter Try.func89, Try.ntmps89
    go_wp2_with fail
    go_ret
    exact ⟨by rw [HN.out]; rfl, Below.refl _ _⟩
theorem one_ints (L : List Int) : ∀ u ∈ L.map (Value.int .i64), u.oneCell' = true := by
  intro u hu
  obtain ⟨x, _, rfl⟩ := List.mem_map.1 hu
  rfl
theorem copyI_c {w : World} {v : Value} {L : List Int} (hv : Ix w v L) (hn : L.length ≤ 17592186044416) :
    Calls Try.prog 109 #[v] w fun e w' => ∃ u, e = .returned u ∧ u ≠ .slice none 0 0 ∧ Oi w' w.heap.size u L ∧ Below w.heap.size w w' := by
  obtain ⟨i0, hi, hz0, hz1, hz2⟩ := info_parts infoI
  obtain ⟨a, cap, rfl, hl, hm, hnil, hL⟩ := hv
  have ho : Oi (w.alloc (.cells #[] 3)) w.heap.size (.slice (some ⟨w.heap.size, 0, none⟩) 0 0) [] := by
    refine ⟨rfl, .inr ⟨w.heap.size, 0, #[], rfl, Nat.le_refl _, heap_alloc_new w _, Nat.le_refl _, by simp [maxLen], rfl, rfl⟩⟩
  have hb : Below w.heap.size w (w.alloc (.cells #[] 3)) := (Below.refl _ w).alloc (Nat.le_refl _) _
  cases a with
  | none =>
    obtain rfl := hnil rfl
    obtain rfl : L = [] := List.eq_nil_of_length_eq_zero (by omega)
    go_enter Try.func109, Try.ntmps109
    go_wp2_with fail
    go_ret
    exact ⟨_, rfl, (fun h => by cases h), ho, hb⟩
  | some x =>
    obtain ⟨g, o, sp⟩ := x
    have hnews : ∀ j u, (L.map (Value.int .i64))[j]? = some u → (w.alloc (.cells #[] 3)).cell? ((⟨g, o, sp⟩ : Addr).add j) = some u := by
      intro j u hj
      have hl2 : j < L.length := by
        have := (List.getElem?_eq_some_iff.1 hj).1
        simpa using this
      rcases hL with rfl | ⟨g', o', e, hc⟩
      · simp at hl2
      · cases e
        rw [add_none]
        rw [List.getElem?_map, List.getElem?_eq_getElem hl2] at hj
        cases hj
        exact below_cell (hc j hl2) hb
    have hlen : (L.map (Value.int .i64)).length = L.length * 1 := by simp
    clear hL hnil
    go_enter Try.func109, Try.ntmps109
    go_wp2_with (first
      | (at_builtin; refine wpList_append_own _ rfl _ _ 41 rfl w.heap.size 3 i0 (.int .i64 0) 1 8 Try.underlying41 hi hz0 hz1 hz2 rfl (by decide) _ _ _ rfl ho ⟨g, o, sp⟩ L.length cap (L.map (Value.int .i64)) rfl hlen hnews (one_ints L) (by simp [maxLen]; omega) (by simp; omega) (by simp) ?_))
    intro v' w2 hown' hgrow hnn
    have hb3 := hb.grown hgrow (by simp) (fun k hk => by cases hk; exact Nat.le_refl _)
    have ho2 : Oi w2 w.heap.size v' L := by
      unfold Oi
      simpa using hown'
    have hn2 : v' ≠ .slice none 0 0 := fun h => hnn h
    clear hown' hgrow ho hb hnews hnn
    go_wp2_with fail
    go_ret
    exact ⟨_, rfl, hn2, ho2, hb3⟩
/-- A row that was lent: with marked room behind it. -/
def Lx (w : World) (B : Nat) (v : Value) (L : List Int) : Prop := ∃ g cap, v = .slice (some ⟨g, 0, none⟩) L.length cap ∧ L.length + 2 ≤ cap ∧ cap ≤ 9223372036854775807 ∧ B ≤ g ∧ g < w.heap.size ∧
  (∀ j (h : j < L.length), w.cell? ⟨g, 0 + j, none⟩ = some (.int .i64 L[j])) ∧ w.cell? ⟨g, 0 + L.length, none⟩ = some (.int .i64 (-7777)) ∧ w.cell? ⟨g, 0 + (L.length + 1), none⟩ = some (.int .i64 (-8888))
theorem Lx.ix {w : World} {B : Nat} {v : Value} {L : List Int} (h : Lx w B v L) : Ix w v L := by
  obtain ⟨g, cap, rfl, h1, h2, -, -, h3, -⟩ := h
  exact ⟨_, cap, rfl, by omega, h2, (fun h => by cases h), .inr ⟨g, 0, rfl, h3⟩⟩
theorem Lx.below {w w' : World} {B : Nat} {v : Value} {L : List Int} (h : Lx w B v L) (hb : Below w.heap.size w w') : Lx w' B v L := by
  obtain ⟨g, cap, rfl, h1, h2, h3, h4, h5, h6, h7⟩ := h
  exact ⟨g, cap, rfl, h1, h2, h3, by have := hb.size; omega, fun j hj => below_cell (h5 j hj) hb, below_cell h6 hb, below_cell h7 hb⟩
/-- Block g is a row of cap cells, the first n of them integers. -/
def Row (w : World) (g n cap : Nat) : Prop := ∃ cur, w.heap[g]? = some (.cells cur 3 (0, 0)) ∧ cur.size = cap ∧ ∀ j, j < n → ∃ z, cur[j]? = some (.int .i64 z)
theorem cell_of_row (w : World) (g j : Nat) (cur : Array Value) (t : TypeId) (h : w.heap[g]? = some (.cells cur t (0, 0))) : w.cell? ⟨g, j, none⟩ = cur[j]? := by
  simp [World.cell?, h]
theorem frozen_of_row (w : World) (g j : Nat) (cur : Array Value) (t : TypeId) (h : w.heap[g]? = some (.cells cur t (0, 0))) : w.frozen? ⟨g, j, none⟩ = false := by
  simp [World.frozen?, h]
theorem Row.cell {w : World} {g n cap : Nat} (h : Row w g n cap) {j : Nat} (hj : j < n) : ∃ z, w.cell? ⟨g, j, none⟩ = some (.int .i64 z) ∧ w.frozen? ⟨g, j, none⟩ = false := by
  obtain ⟨cur, hh, hs, hc⟩ := h
  obtain ⟨z, hz⟩ := hc j hj
  exact ⟨z, by rw [cell_of_row w g j cur 3 hh]; exact hz, frozen_of_row w g j cur 3 hh⟩
theorem Row.set {w : World} {g n cap : Nat} (h : Row w g n cap) (j : Nat) (z : Int) : Row (w.setCell ⟨g, j, none⟩ (.int .i64 z)) g n cap := by
  obtain ⟨cur, hh, hs, hc⟩ := h
  refine ⟨_, heap_setCell_same w g j cur 3 (.int .i64 z) hh, by simp [hs], fun i hi => ?_⟩
  by_cases e : j = i
  · subst e
    obtain ⟨y, hy⟩ := hc j hi
    have := (Array.getElem?_eq_some_iff.1 hy).1
    exact ⟨z, by simp [this]⟩
  · obtain ⟨y, hy⟩ := hc i hi
    exact ⟨y, by rw [Array.getElem?_setIfInBounds_ne e]; exact hy⟩
theorem grown_set {w wr : World} {g : Nat} (h : w.grownBy wr (some g)) (j : Nat) (u : Value) : w.grownBy (wr.setCell ⟨g, j, none⟩ u) (some g) :=
  ⟨h.os, h.tape, h.output, Nat.le_trans h.size (by simp [World.setCell]), fun k hk hne => (heap_setCell_other wr ⟨g, j, none⟩ k u (fun e => hne (by rw [e]))).trans (h.block k hk hne)⟩
end Go.Proofs.Ytgknjjaemjkloaa.IInts

namespace Go.Proofs.Ytgknjjaemjkloaa.BCp
open Go.RowKit Go.Proofs.Ytgknjjaemjkloaa.YRr Go.Proofs.Ytgknjjaemjkloaa.YRs Go.Proofs.Ytgknjjaemjkloaa.YRl Go.Proofs.Ytgknjjaemjkloaa.BBx Go.Proofs.Ytgknjjaemjkloaa.BIx
open Go.Proofs.Ytgknjjaemjkloaa.YPl (Oq Bk Pg)
open Go.Proofs.Ytgknjjaemjkloaa.BSf (hid)
open Go.Proofs.Ytgknjjaemjkloaa.TBase (T Keep heap_alloc_new)
open Go.Proofs.Ytgknjjaemjkloaa.CPu (Ins)
set_option linter.unusedVariables false

/-- Blocks made since. -/
def Nw (w w' : World) : Nat → Prop := fun b => w.heap.size ≤ b ∧ b < w'.heap.size
theorem rrs_all {α : Type} {n : Nat} {Ly : World → Nat → Nat → α → Prop} {S : Nat → Prop} {w : World} {v : Value} {l : List α} {P : α → Prop} (h : RrS n Ly S w v l) (hP : ∀ g o x, Ly w g o x → P x) : ∀ x ∈ l, P x := by
  obtain ⟨_, _, _, _, _, _, _, h6⟩ := h
  intro x hx
  rcases h6 with h6 | ⟨g', o', _, _, hc⟩
  · rw [h6] at hx; cases hx
  · obtain ⟨j, hj, rfl⟩ := List.getElem_of_mem hx
    exact hP _ _ _ (hc j hj)
theorem rrs_47 {α : Type} {n : Nat} {Ly : World → Nat → Nat → α → Prop} {S : Nat → Prop} {w : World} {v : Value} {l : List α} (h : RrS n Ly S w v l) : l.length ≤ 140737488351232 := by
  obtain ⟨_, _, _, _, _, h6, _⟩ := h
  exact h6
theorem infoS : (Try.prog.info? 9).map (fun i => (i.zero, i.size, i.bytes)) = some (some (.string ⟨#[]⟩), 1, 16) := by kernel_rfl
theorem one_texts (L : List ByteArray) : ∀ u ∈ L.map Value.string, u.oneCell' = true := by
  intro u hu
  obtain ⟨x, _, rfl⟩ := List.mem_map.1 hu
  rfl
theorem os_rrs {w : World} {lo : Nat} {v : Value} {l : List ByteArray} (h : w.ownsRow lo 9 1 v l.length (l.map Value.string)) (hi : ∀ x ∈ l, x.size ≤ 140737488351232) (hl : l.length ≤ 140737488351232) {R : Nat → Prop} (hR : ∀ g, v.ownBlock = some g → R g) : RrS 1 LyS R w v l := by
  rcases h.2 with ⟨rfl, e⟩ | ⟨g, cap, cur, rfl, hb, hc, hle, hm, hsz, htk⟩
  · have : l = [] := List.length_eq_zero_iff.1 e
    subst this
    exact ⟨none, 0, rfl, Nat.le_refl _, by omega, by simp, fun _ => rfl, .inl rfl⟩
  · refine ⟨some ⟨g, 0, none⟩, cap, rfl, hle, by unfold maxLen at hm; omega, hl, (by intro e; cases e), .inr ⟨g, 0, rfl, hR g rfl, fun j hj => ⟨?_, hi _ (List.getElem_mem hj)⟩⟩⟩
    have e : 0 + j * 1 = j := by omega
    rw [e, h.cellAt j (by omega)]
    simp [hj]
set_option maxRecDepth 20000 in
set_option maxHeartbeats 800000 in
theorem copyS_c {S : Nat → Prop} {w : World} {v : Value} {L : List ByteArray} (hv : RrS 1 LyS S w v L) (hn : L.length ≤ 90000) :
    Calls Try.prog 32 #[v] w fun e w' => ∃ u, e = .returned u ∧ RrS 1 LyS (Nw w w') w' u L ∧ Below w.heap.size w w' := by
  obtain ⟨i0, hi, hz0, hz1, hz2⟩ := info_parts infoS
  have HA := hid (rrs_all (P := fun x : ByteArray => x.size ≤ 140737488351232) hv fun g o x h => h.2)
  obtain ⟨a, cap, rfl, hl, hm, h47, hnil, hL⟩ := hv
  have ho : (w.alloc (.cells #[] 9)).ownsRow w.heap.size 9 1 (.slice (some ⟨w.heap.size, 0, none⟩) 0 0) 0 [] := by
    refine ⟨rfl, .inr ⟨w.heap.size, 0, #[], rfl, Nat.le_refl _, heap_alloc_new w _, Nat.le_refl _, by simp [maxLen], rfl, rfl⟩⟩
  have hb : Below w.heap.size w (w.alloc (.cells #[] 9)) := (Below.refl _ w).alloc (Nat.le_refl _) _
  cases a with
  | none =>
    obtain rfl := hnil rfl
    obtain rfl : L = [] := List.eq_nil_of_length_eq_zero (by omega)
    go_enter Try.func32, Try.ntmps32
    go_wp2_with fail
    go_ret
    exact ⟨_, rfl, os_rrs (l := []) ho (by simp) (by simp) (fun g e => by cases e; exact ⟨Nat.le_refl _, by simp⟩), hb⟩
  | some x =>
    obtain ⟨g, o, sp⟩ := x
    have hnews : ∀ j u, (L.map Value.string)[j]? = some u → (w.alloc (.cells #[] 9)).cell? ((⟨g, o, sp⟩ : Addr).add j) = some u := by
      intro j u hj
      have hl2 : j < L.length := by
        have := (List.getElem?_eq_some_iff.1 hj).1
        simpa using this
      rcases hL with rfl | ⟨g', o', e, hg, hc⟩
      · simp at hl2
      · cases e
        rw [IBase.add_none]
        rw [List.getElem?_map, List.getElem?_eq_getElem hl2] at hj
        cases hj
        have := (hc j hl2).1
        rw [Nat.mul_one] at this
        exact IBase.below_cell this hb
    have hlen : (L.map Value.string).length = L.length * 1 := by simp
    clear hL hnil
    go_enter Try.func32, Try.ntmps32
    go_wp2_with (first
      | (at_builtin; refine wpList_append_own _ rfl _ _ 22 rfl w.heap.size 9 i0 (.string ⟨#[]⟩) 1 16 Try.underlying22 hi hz0 hz1 hz2 rfl (by decide) _ _ _ rfl ho ⟨g, o, sp⟩ L.length cap (L.map Value.string) rfl hlen hnews (one_texts L) (by simp [maxLen]; omega) (by simp; omega) (by simp) ?_))
    intro v' w2 hown' hgrow hnn
    have hb3 := hb.grown hgrow (by simp) (fun k hk => by cases hk; exact Nat.le_refl _)
    have ho2 : w2.ownsRow w.heap.size 9 1 v' L.length (L.map Value.string) := by simpa using hown'
    have HO := hid ho2
    clear hown' hgrow ho hb hnews hnn ho2
    go_wp2_with fail
    go_ret
    exact ⟨_, rfl, os_rrs HO.out HA.out h47 (fun g e => World.ownsRow.lt HO.out g e), hb3⟩
theorem ix_of {S : Nat → Prop} {w : World} {v : Value} {L : List Int} (h : RrS 1 LyI S w v L) : IBase.Ix w v L := by
  obtain ⟨a, cap, h1, h2, h3, h4, h5, h6⟩ := h
  refine ⟨a, cap, h1, h2, h3, h5, ?_⟩
  rcases h6 with h6 | ⟨g, o, ha, hg, hc⟩
  · exact .inl h6
  · exact .inr ⟨g, o, ha, fun j hj => by have := (hc j hj).1; rwa [Nat.mul_one] at this⟩
theorem copyI_c {S : Nat → Prop} {w : World} {v : Value} {L : List Int} (hv : RrS 1 LyI S w v L) (hn : L.length ≤ 90000) :
    Calls Try.prog 109 #[v] w fun e w' => ∃ u, e = .returned u ∧ RrS 1 LyI (Nw w w') w' u L ∧ Below w.heap.size w w' := by
  have HA := rrs_all (P := fun x : Int => i64 x) hv fun g o x h => h.2
  have h47 := rrs_47 hv
  refine (IInts.copyI_c (ix_of hv) (by omega)).mono ?_
  rintro e w' ⟨u, rfl, -, ho, hb⟩
  exact ⟨u, rfl, BNp.own_rrs ho HA h47 (fun g e => World.ownsRow.lt ho g e), hb⟩
theorem oc_rrs {w w' : World} {u : Value} {L : List Ins} (h : CIn.Oc w' w.heap.size u L) (hi : ∀ x ∈ L, i64 x.1 ∧ i64 x.2) (hl : L.length ≤ 140737488351232) : RrS 2 LyN (Nw w w') w' u L := by
  rcases h.2 with ⟨rfl, e⟩ | ⟨g, cap, cur, rfl, hb, hc, hle, hm, hsz, htk⟩
  · have : L = [] := List.length_eq_zero_iff.1 e
    subst this
    exact ⟨none, 0, rfl, Nat.le_refl _, by omega, by simp, fun _ => rfl, .inl rfl⟩
  · have hlt := World.ownsRow.lt h g rfl
    refine ⟨some ⟨g, 0, none⟩, cap, rfl, hle, by unfold maxLen at hm; omega, hl, (by intro e; cases e), .inr ⟨g, 0, rfl, hlt, fun j hj => ?_⟩⟩
    have h0 := CIn.flat_get L j hj
    have hf := CIn.flat_len L
    have hx := hi _ (List.getElem_mem hj)
    have e : 0 + j * 2 = j * 2 := by omega
    refine ⟨?_, ?_, hx.1, hx.2⟩
    · rw [e, World.ownsRow.cellAt h (j * 2) (by omega)]; exact h0.1
    · rw [e, World.ownsRow.cellAt h (j * 2 + 1) (by omega)]; exact h0.2
theorem copyN_c {S : Nat → Prop} {w : World} {v : Value} {L : List Ins} (hv : RrS 2 LyN S w v L) (hS : ∀ g, S g → g < w.heap.size) (hn : L.length ≤ 90000) :
    Calls Try.prog 66 #[v] w fun e w' => ∃ u, e = .returned u ∧ RrS 2 LyN (Nw w w') w' u L ∧ Below w.heap.size w w' := by
  have HA := rrs_all (P := fun x : Ins => i64 x.1 ∧ i64 x.2) hv fun g o x h => h.2.2
  have h47 := rrs_47 hv
  refine (CIn.copyI_c (BFx.cx_of hv hS) (Nat.le_refl _) (by omega)).mono ?_
  rintro e w' ⟨u, rfl, ho, hb⟩
  exact ⟨u, rfl, oc_rrs ho HA h47, hb⟩
end Go.Proofs.Ytgknjjaemjkloaa.BCp

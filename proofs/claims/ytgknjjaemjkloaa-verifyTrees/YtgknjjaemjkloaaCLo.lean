/- The ways through code: contracts of isFormed, hasName. -/
import Derived.Test.YtgknjjaemjkloaaCPu
import Derived.Laws.Tables
import Derived.Laws.Rows
namespace Go.Proofs.Ytgknjjaemjkloaa.CBx
open Go.RowKit Go.Proofs.Ytgknjjaemjkloaa.IPure Go.Proofs.Ytgknjjaemjkloaa.CPu
open Go.Proofs.Ytgknjjaemjkloaa.IBase (ro ro_len ro_get ro_set ro_congr heap_alloc_new add_none)
set_option linter.unusedVariables false

/-- Instructions that are read, in blocks below K. -/
def Cx (K : Nat) (w : World) (v : Value) (L : List Ins) : Prop :=
  ∃ a cap, v = .slice a L.length cap ∧ L.length ≤ cap ∧ cap ≤ 9223372036854775807 ∧ (a = none → cap = 0) ∧ (L = [] ∨ ∃ g o, a = some ⟨g, o, none⟩ ∧ g < K ∧ ∀ j (h : j < L.length), w.cell? ⟨g, o + j * 2, none⟩ = some (.int .i64 L[j].1) ∧ w.cell? ⟨g, o + j * 2 + 1, none⟩ = some (.int .i64 L[j].2))
theorem cell_keep {K : Nat} {w w' : World} {g o : Nat} {u : Value} (hg : g < K) (h : w.cell? ⟨g, o, none⟩ = some u) (hb : Below K w w') : w'.cell? ⟨g, o, none⟩ = some u :=
  (World.cell?_of_block (w := w) (hb.block g hg)).trans h
theorem Cx.below {K : Nat} {w w' : World} {v : Value} {L : List Ins} (h : Cx K w v L) (hb : Below K w w') : Cx K w' v L := by
  obtain ⟨a, cap, h1, h2, h3, h4, h5⟩ := h
  refine ⟨a, cap, h1, h2, h3, h4, ?_⟩
  rcases h5 with h5 | ⟨g, o, ha, hg, hc⟩
  · exact .inl h5
  · exact .inr ⟨g, o, ha, hg, fun j hj => ⟨cell_keep hg (hc j hj).1 hb, cell_keep hg (hc j hj).2 hb⟩⟩
theorem Cx.mono {K K' : Nat} {w : World} {v : Value} {L : List Ins} (h : Cx K w v L) (hk : K ≤ K') : Cx K' w v L := by
  obtain ⟨a, cap, h1, h2, h3, h4, h5⟩ := h
  refine ⟨a, cap, h1, h2, h3, h4, ?_⟩
  rcases h5 with h5 | ⟨g, o, ha, hg, hc⟩
  · exact .inl h5
  · exact .inr ⟨g, o, ha, by omega, hc⟩
/-- The cells of the ways. -/
def wyc (n t d : Int) (H : Nat → Int) : Array Value := (.int .i64 n :: .int .i64 t :: .int .i64 d :: (ro 8193 fun k => H k + 1).map (Value.int .i16)).toArray
def Wy (w : World) (B : Nat) (n t d : Int) (H : Nat → Int) : Prop := w.heap[B]? = some (.cells (wyc n t d H) 146 (0, 0))
theorem wyc_size (n t d : Int) (H : Nat → Int) : (wyc n t d H).size = 8196 := by simp [wyc, ro_len]
theorem wyc_at (n t d : Int) (H : Nat → Int) {k : Nat} (hk : k < 8193) : (wyc n t d H)[3 + k]? = some (.int .i16 (H k + 1)) := by
  have e : 3 + k = k + 1 + 1 + 1 := by omega
  simp [wyc, e, ro, hk]
theorem Wy.n {w : World} {B : Nat} {n t d : Int} {H : Nat → Int} (h : Wy w B n t d H) : w.cell? ⟨B, 0, none⟩ = some (.int .i64 n) := by
  unfold Wy at h
  simp [World.cell?, h, wyc]
theorem Wy.t {w : World} {B : Nat} {n t d : Int} {H : Nat → Int} (h : Wy w B n t d H) : w.cell? ⟨B, 1, none⟩ = some (.int .i64 t) := by
  unfold Wy at h
  simp [World.cell?, h, wyc]
theorem Wy.d {w : World} {B : Nat} {n t d : Int} {H : Nat → Int} (h : Wy w B n t d H) : w.cell? ⟨B, 2, none⟩ = some (.int .i64 d) := by
  unfold Wy at h
  simp [World.cell?, h, wyc]
theorem Wy.at {w : World} {B : Nat} {n t d : Int} {H : Nat → Int} (h : Wy w B n t d H) {k : Nat} (hk : k < 8193) : w.cell? ⟨B, 3 + k, none⟩ = some (.int .i16 (H k + 1)) := by
  have : w.cell? ⟨B, 3 + k, none⟩ = (wyc n t d H)[3 + k]? := by
    unfold Wy at h
    simp [World.cell?, h]
  rw [this, wyc_at n t d H hk]
theorem Wy.free {w : World} {B : Nat} {n t d : Int} {H : Nat → Int} (h : Wy w B n t d H) (j : Nat) : w.frozen? ⟨B, j, none⟩ = false := by
  unfold Wy at h
  simp [World.frozen?, h]
theorem Wy.lt {w : World} {B : Nat} {n t d : Int} {H : Nat → Int} (h : Wy w B n t d H) : B < w.heap.size := (Array.getElem?_eq_some_iff.1 h).1
theorem wyc_set (n t d : Int) (H : Nat → Int) (k : Nat) (x : Int) : (wyc n t d H).setIfInBounds (3 + k) (.int .i16 (x + 1)) = wyc n t d (upd H k x) := by
  have e : 3 + k = k + 1 + 1 + 1 := by omega
  have e2 : (ro 8193 fun j => upd H k x j + 1) = (ro 8193 fun j => H j + 1).set k (x + 1) := by
    rw [ro_set]
    congr 1
    funext j
    unfold upd
    split <;> rfl
  unfold wyc
  rw [e2, e, List.setIfInBounds_toArray]
  simp [List.map_set]
theorem Wy.set {w : World} {B : Nat} {n t d : Int} {H : Nat → Int} (h : Wy w B n t d H) (k : Nat) (x : Int) : Wy (w.setCell ⟨B, 3 + k, none⟩ (.int .i16 (x + 1))) B n t d (upd H k x) := by
  unfold Wy at h ⊢
  rw [← wyc_set]
  simp [World.setCell, Array.getElem?_modify, h]
theorem Wy.keep {K : Nat} {w w' : World} {B : Nat} {n t d : Int} {H : Nat → Int} (h : Wy w B n t d H) (hb : Below K w w') (hB : B < K) : Wy w' B n t d H := (hb.block B hB).trans h
theorem w16 {x : Int} (h1 : -1 ≤ x) (h2 : x ≤ 8193) : IntKind.i16.wrap (x + 1) = x + 1 := by
  simp [IntKind.wrap, IntKind.signed, IntKind.bits]
  omega
theorem w64 {x : Int} (h1 : -9223372036854775808 ≤ x) (h2 : x ≤ 9223372036854775807) : IntKind.i64.wrap x = x := by
  simp [IntKind.wrap, IntKind.signed, IntKind.bits]
  omega
end Go.Proofs.Ytgknjjaemjkloaa.CBx

namespace Go.Proofs.Ytgknjjaemjkloaa.CHt
open Go.RowKit Go.Proofs.Ytgknjjaemjkloaa.IPure Go.Proofs.Ytgknjjaemjkloaa.CPu Go.Proofs.Ytgknjjaemjkloaa.CBx
set_option linter.unusedVariables false

theorem height_c {w : World} {B : Nat} {n t d : Int} {H : Nat → Int} (h : Wy w B n t d H) (hH : Hb H) {k : Nat} (hk : k < 8193) :
    Calls Try.prog 92 #[.pointer (some ⟨B, 0, none⟩), .int .i64 (k : Nat)] w fun e w' => e = .returned (.int .i64 (H k)) ∧ w = w' := by
  have hc := h.at hk
  have hx := hH k
  have hwA : IntKind.i64.wrap (H k + 1) = H k + 1 := w64 (by omega) (by omega)
  have hwB : IntKind.i64.wrap (H k) = H k := w64 (by omega) (by omega)
  generalize H k = x at *
  go_enter Try.func92, Try.ntmps92
  go_wp2_with fail
  go_ret
  exact ⟨rfl, rfl⟩
/-- What lead answers. -/
def LR (B : Nat) (w : World) (n t d : Int) (H : Nat → Int) (k : Nat) (x : Int) (e : Ending) (w' : World) : Prop := e = .returned (.bool (ldb H k x)) ∧ Wy w' B n t d (ld H k x) ∧ Below B w w'
set_option maxHeartbeats 800000 in
theorem lead_c {w : World} {B : Nat} {n t d : Int} {H : Nat → Int} (h : Wy w B n t d H) (hH : Hb H) {k : Nat} (hk : k < 8193) {x : Int} (h1 : 0 ≤ x) (h2 : x ≤ k) :
    Calls Try.prog 90 #[.pointer (some ⟨B, 0, none⟩), .int .i64 (k : Nat), .int .i64 x] w fun e w' => LR B w n t d H k x e w' := by
  have c1 := height_c h hH hk
  by_cases hn : H k < 0
  · have e1 : ldb H k x = true := by simp [ldb, hn]
    have e2 : ld H k x = upd H k x := by simp [ld, hn]
    have h' := h.set k x
    have hH' : Hb (upd H k x) := by rw [← e2]; exact ld_hb hH h1 h2
    have c2 := height_c h' hH' hk
    have e3 : upd H k x k = x := by simp [upd]
    rw [e3] at c2
    have hwA : IntKind.i64.wrap (x + 1) = x + 1 := w64 (by omega) (by omega)
    have hwB : IntKind.i16.wrap (x + 1) = x + 1 := w16 (by omega) (by omega)
    have hlt : decide (H k < 0) = true := by simp [hn]
    have hc := h.at hk
    have hf := h.free (3 + k)
    have hb : Below B w (w.setCell ⟨B, 3 + k, none⟩ (.int .i16 (x + 1))) := (Below.refl _ w).setCell (p := ⟨B, 3 + k, none⟩) (Nat.le_refl _) _
    unfold LR
    rw [e1, e2]
    have HP : Hid (Wy (w.setCell ⟨B, 3 + k, none⟩ (.int .i16 (x + 1))) B n t d (upd H k x)) := h'
    clear h h' hH hH' e1 e2 e3
    generalize H k = y at *
    clear hn
    go_enter Try.func90, Try.ntmps90
    go_wp2_with fail
    refine c1.mono ?_
    rintro e w1 ⟨rfl, rfl⟩
    go_wp2_with fail
    refine c2.mono ?_
    rintro e w1 ⟨rfl, rfl⟩
    go_wp2_with fail
    go_ret
    exact ⟨rfl, HP.out, hb⟩
  · have e1 : ldb H k x = (H k == x) := by simp [ldb, hn]
    have e2 : ld H k x = H := by simp [ld, hn]
    have hlt : decide (H k < 0) = false := by simp [hn]
    unfold LR
    rw [e1, e2]
    have HP : Hid (Wy w B n t d H) := h
    clear h hH e1 e2
    generalize H k = y at *
    clear hn
    go_enter Try.func90, Try.ntmps90
    go_wp2_with fail
    refine c1.mono ?_
    rintro e w1 ⟨rfl, rfl⟩
    go_wp2_with fail
    refine c1.mono ?_
    rintro e w1 ⟨rfl, rfl⟩
    go_wp2_with fail
    go_ret
    exact ⟨rfl, HP.out, Below.refl _ _⟩
theorem needs_c (o : Int) (w : World) : Calls Try.prog 150 #[.int .i64 o] w fun e w' => e = .returned (.int .i64 (nd o)) ∧ w = w' := by
  unfold nd
  generalize hn1 : decide (o ≤ 6) = x1
  generalize hn2 : (o == 33) = x2
  generalize hn3 : (o == 8) = x3
  generalize hn4 : decide (12 ≤ o) = x4
  generalize hn5 : decide (o ≤ 28) = x5
  cases x1 <;> cases x2 <;> cases x3 <;> cases x4 <;> cases x5 <;> (
    go_enter Try.func150, Try.ntmps150
    go_wp2_with fail
    go_ret
    exact ⟨rfl, rfl⟩)
theorem isJump_c (o : Int) (w : World) : Calls Try.prog 129 #[.int .i64 o] w fun e w' => e = .returned (.bool (ijp o)) ∧ w = w' := by
  unfold ijp
  generalize hn4 : decide (30 ≤ o) = x4
  generalize hn5 : decide (o ≤ 33) = x5
  cases x4 <;> cases x5 <;> (
    go_enter Try.func129, Try.ntmps129
    go_wp2_with fail
    go_ret
    exact ⟨rfl, rfl⟩)
end Go.Proofs.Ytgknjjaemjkloaa.CHt

namespace Go.Proofs.Ytgknjjaemjkloaa.CLo
open Go.RowKit Go.Proofs.Ytgknjjaemjkloaa.IPure Go.Proofs.Ytgknjjaemjkloaa.CPu Go.Proofs.Ytgknjjaemjkloaa.CBx Go.Proofs.Ytgknjjaemjkloaa.CHt
open Go.Proofs.Ytgknjjaemjkloaa.IBase (heap_alloc_new)
set_option linter.unusedVariables false

theorem two_box {w : World} {B : Nat} {t : TypeId} {x y : Value} (h : w.heap[B]? = some (.cells #[x, y] t (0, 0))) : w.cell? ⟨B, 0, none⟩ = some x ∧ w.cell? ⟨B, 1, none⟩ = some y := by
  constructor <;> simp [World.cell?, h]
theorem box1 (w : World) (x y : Value) (t : TypeId) : ∃ W, w.alloc (.cells #[x, y] t) = W ∧ Below w.heap.size w W ∧ W.heap.size = w.heap.size + 1 ∧ W.cell? ⟨w.heap.size, 0, none⟩ = some x ∧ W.cell? ⟨w.heap.size, 1, none⟩ = some y :=
  ⟨_, rfl, (Below.refl _ w).alloc (Nat.le_refl _) _, by simp, (two_box (heap_alloc_new w _)).1, (two_box (heap_alloc_new w _)).2⟩
set_option maxHeartbeats 1600000 in
theorem isFormed_c (o a : Int) (w : World) : Calls Try.prog 127 #[.agg #[.int .i64 o, .int .i64 a]] w fun e w' => e = .returned (.bool (fmd o a)) ∧ Below w.heap.size w w' := by
  obtain ⟨W, hW, hb, hs, c0, c1⟩ := box1 w (.int .i64 o) (.int .i64 a) 49
  unfold fmd
  cases h4 : (o == 4)
  case true =>
    go_enter Try.func127, Try.ntmps127
    go_wp2_with fail
    go_ret
    exact ⟨rfl, hb⟩
  cases h5 : (o == 5)
  case true =>
    go_enter Try.func127, Try.ntmps127
    go_wp2_with fail
    go_ret
    exact ⟨rfl, hb⟩
  cases h6 : (o == 6)
  case true =>
    go_enter Try.func127, Try.ntmps127
    go_wp2_with fail
    go_ret
    exact ⟨rfl, hb⟩
  cases h7 : (o == 7)
  case true =>
    go_enter Try.func127, Try.ntmps127
    go_wp2_with fail
    go_ret
    exact ⟨rfl, hb⟩
  cases h30 : (o == 30)
  case true =>
    go_enter Try.func127, Try.ntmps127
    go_wp2_with fail
    go_ret
    exact ⟨rfl, hb⟩
  cases h31 : (o == 31)
  case true =>
    go_enter Try.func127, Try.ntmps127
    go_wp2_with fail
    go_ret
    exact ⟨rfl, hb⟩
  cases h32 : (o == 32)
  case true =>
    go_enter Try.func127, Try.ntmps127
    go_wp2_with fail
    go_ret
    exact ⟨rfl, hb⟩
  cases h33 : (o == 33)
  case true =>
    go_enter Try.func127, Try.ntmps127
    go_wp2_with fail
    go_ret
    exact ⟨rfl, hb⟩
  cases h9 : (o == 9)
  case true =>
    cases d1 : decide (1 ≤ a) <;> cases d2 : decide (a ≤ 8) <;> (
      go_enter Try.func127, Try.ntmps127
      go_wp2_with fail
      go_ret
      exact ⟨rfl, hb⟩)
  cases d1 : decide (1 ≤ o) <;> cases d2 : decide (o ≤ 33) <;> cases d3 : (a == 0) <;> (
    go_enter Try.func127, Try.ntmps127
    go_wp2_with fail
    go_ret
    exact ⟨rfl, hb⟩)
set_option maxHeartbeats 1600000 in
theorem hasName_c {w : World} {B : Nat} {n t d : Int} {H : Nat → Int} (h : Wy w B n t d H) (o a : Int) :
    Calls Try.prog 128 #[.pointer (some ⟨B, 0, none⟩), .agg #[.int .i64 o, .int .i64 a]] w fun e w' => e = .returned (.bool (hnm t d o a)) ∧ Below w.heap.size w w' := by
  obtain ⟨W, hW, hb, hs, c0, c1⟩ := box1 w (.int .i64 o) (.int .i64 a) 49
  have h2 := h.keep hb h.lt
  have q1 := h2.t
  have q2 := h2.d
  clear h h2
  unfold hnm
  cases h5 : (o == 5)
  case true =>
    cases d1 : decide (0 ≤ a) <;> cases d2 : decide (a < t) <;> (
      go_enter Try.func128, Try.ntmps128
      go_wp2_with fail
      go_quiet (fail)
      go_wp2_with fail
      go_ret
      exact ⟨rfl, IBase.below_drewN hb⟩)
  cases h7 : (o == 7)
  case true =>
    cases d1 : decide (0 ≤ a) <;> cases d2 : decide (a < t) <;> (
      go_enter Try.func128, Try.ntmps128
      go_wp2_with fail
      go_quiet (fail)
      go_wp2_with fail
      go_ret
      exact ⟨rfl, IBase.below_drewN hb⟩)
  cases h6 : (o == 6)
  case true =>
    cases d1 : decide (0 ≤ a) <;> cases d2 : decide (a < d) <;> (
      go_enter Try.func128, Try.ntmps128
      go_wp2_with fail
      go_quiet (fail)
      go_wp2_with fail
      go_ret
      exact ⟨rfl, IBase.below_drewN hb⟩)
  go_enter Try.func128, Try.ntmps128
  go_wp2_with fail
  go_ret
  exact ⟨rfl, hb⟩
end Go.Proofs.Ytgknjjaemjkloaa.CLo

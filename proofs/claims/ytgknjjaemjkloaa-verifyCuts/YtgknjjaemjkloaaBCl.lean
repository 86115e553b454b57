/- The blocks of an operation are taken (package verify): claims. -/
import Derived.Test.YtgknjjaemjkloaaBIn
import Derived.Lib.SliceRun
namespace Go.Proofs.Ytgknjjaemjkloaa.BDf
open Go.RowKit Go.Proofs.Ytgknjjaemjkloaa.BPl Go.Proofs.Ytgknjjaemjkloaa.YRr Go.Proofs.Ytgknjjaemjkloaa.YRs Go.Proofs.Ytgknjjaemjkloaa.BBx Go.Proofs.Ytgknjjaemjkloaa.BIx Go.Proofs.Ytgknjjaemjkloaa.BSm Go.Proofs.Ytgknjjaemjkloaa.BIn
open Go.Proofs.Ytgknjjaemjkloaa.YPl (Oq Bk Pg)
open Go.Proofs.Ytgknjjaemjkloaa.IBase (heap_alloc_new)
set_option linter.unusedVariables false

theorem zero_c (x : Int) (w : World) : Calls Try.prog 155 #[.int .i64 x] w fun e w' => e = .returned (.bool (x == 0)) ∧ w' = w := by
  go_enter Try.func155, Try.ntmps155
  go_wp2_with fail
  go_ret
  exact ⟨rfl, rfl⟩
/-- A row of two of one's own, that is read. -/
theorem two_row {w : World} {g : Nat} {b c : Int} (hx : w.heap[g]? = some (.cells #[.int .i64 b, .int .i64 c] 3 (0, 0))) (hb : i64 b) (hc : i64 c) : RrS 1 LyI (fun k => k = g) w (.slice (some ⟨g, 0, none⟩) 2 2) [b, c] := by
  refine ⟨_, 2, rfl, by simp, by omega, by simp, by simp, .inr ⟨g, 0, rfl, rfl, fun j hj => ?_⟩⟩
  match j, hj with
  | 0, _ => exact ⟨cell_of hx 0 _ rfl, hb⟩
  | 1, _ => exact ⟨cell_of hx 1 _ rfl, hc⟩
/-- Cells set to 0. -/
theorem set_1 {w : World} {g : Nat} {x y : Value} {t : TypeId} (hx : w.heap[g]? = some (.cells #[x, y] t (0, 0))) (z : Value) : (w.setCells g 1 [z]).heap[g]? = some (.cells #[x, z] t (0, 0)) ∧ Below g w (w.setCells g 1 [z]) := by
  have e : w.setCells g 1 [z] = w.setCell ⟨g, 1, none⟩ z := rfl
  rw [e]
  exact ⟨by simp [World.setCell, Array.getElem?_modify, hx], (Below.refl _ w).setCell (p := ⟨g, 1, none⟩) (Nat.le_refl _) _⟩
theorem set_0 {w : World} {g : Nat} {x y : Value} {t : TypeId} (hx : w.heap[g]? = some (.cells #[x, y] t (0, 0))) (z : Value) : (w.setCells g 0 [z, z]).heap[g]? = some (.cells #[z, z] t (0, 0)) ∧ Below g w (w.setCells g 0 [z, z]) := by
  have e : w.setCells g 0 [z, z] = (w.setCell ⟨g, 0, none⟩ z).setCell ⟨g, 1, none⟩ z := rfl
  rw [e]
  exact ⟨by simp [World.setCell, Array.getElem?_modify, hx], ((Below.refl _ w).setCell (p := ⟨g, 0, none⟩) (Nat.le_refl _) _).setCell (p := ⟨g, 1, none⟩) (Nat.le_refl _) _⟩
/-- What DeleteFunc leaves of two. -/
def DR (w : World) (g : Nat) (b c : Int) (e : Ending) (w' : World) : Prop := ∃ n x y, e = .returned (.slice (some ⟨g, 0, none⟩) n 2) ∧ w'.heap[g]? = some (.cells #[.int .i64 x, .int .i64 y] 3 (0, 0)) ∧ n ≤ 2 ∧ [x, y].take n = [b, c].filter (fun i => !(i == 0)) ∧ Below g w w' ∧ w.heap.size ≤ w'.heap.size
set_option maxRecDepth 20000 in
set_option maxHeartbeats 3200000 in
theorem del_c {w : World} {g : Nat} {b c : Int} (hx : w.heap[g]? = some (.cells #[.int .i64 b, .int .i64 c] 3 (0, 0))) (hb : i64 b) (hc : i64 c) :
    Calls Try.prog 154 #[.slice (some ⟨g, 0, none⟩) 2 2, .func (.func 155) #[] #[]] w fun e w' => DR w g b c e w' := by
  have hg : g < w.heap.size := (Array.getElem?_eq_some_iff.1 hx).1
  have cI := index_zo (two_row hx hb hc) (fun k hk => by omega) (fun i => i == 0) fun W x _ _ => (zero_c x W).mono fun e w' h => ⟨h.1, h.2 ▸ Below.refl _ _⟩
  have cZ := fun W => zero_c c W
  have HX : Hid (w.heap[g]? = some (.cells #[.int .i64 b, .int .i64 c] 3 (0, 0))) := hx
  have v3 : ∀ w, (zeroValue 3).run Try.prog w = .ok (.int .i64 0) w := fun w => by go_simp
  unfold DR
  cases h1 : (b == 0) with
  | false =>
    cases h2 : (c == 0) with
    | false =>
      have e1 : ixf (fun x => !(x == 0)) 0 [b, c] = -1 := by simp [ixf, h1, h2]
      have e2 : [b, c].filter (fun i => !(i == 0)) = [b, c] := by simp [List.filter, h1, h2]
      rw [e1] at cI
      rw [e2]
      clear e1 e2 hx
      go_enter Try.func154, Try.ntmps154
      go_wp2_with fail
      refine cI.mono ?_
      rintro e W1 ⟨rfl, b1⟩
      have HB1 : Hid (Below w.heap.size w W1) := b1
      clear b1 cI
      go_wp2_with fail
      go_ret
      exact ⟨2, b, c, rfl, (HB1.out.block g hg).trans HX.out, Nat.le_refl _, rfl, HB1.out.mono (by omega), HB1.out.size⟩
    | true =>
      have e1 : ixf (fun x => !(x == 0)) 0 [b, c] = 1 := by simp [ixf, h1, h2]
      have e2 : [b, c].filter (fun i => !(i == 0)) = [b] := by simp [List.filter, h1, h2]
      rw [e1] at cI
      rw [e2]
      clear e1 e2 hx
      go_enter Try.func154, Try.ntmps154
      go_wp2_with fail
      refine cI.mono ?_
      rintro e W1 ⟨rfl, b1⟩
      have HB1 : Hid (Below w.heap.size w W1) := b1
      have hx1 := (b1.block g hg).trans HX.out
      have HX1 : Hid _ := hx1
      have k1 := cell_of hx1 1 _ rfl
      have f1 := frz hx1 1
      clear b1 cI hx1
      go_wp2_with fail
      go_loopw [5, 6] (fun i j wr => i = .int .i64 1 ∧ j = .int .i64 2 ∧ wr = W1) (fun _ _ _ => 0)
      case atStart => exact ⟨rfl, rfl, rfl⟩
      case round =>
        obtain ⟨rfl, rfl, rfl⟩ := hrel
        have hcl : ∀ ty, (Builtin.clear_ #[41] ty #[.slice (some ⟨g, 1, none⟩) 1 1]).run Try.prog wr = .ok (.tuple #[]) (wr.setCells g 1 [.int .i64 0]) :=
          fun ty => Lib.run_clear_slice wr _ _ ty _ Try.underlying41 v3 rfl rfl g 1 1 _ (by omega) (fun j hj => by have hj : j = 0 := (by omega); subst hj; simp [k1]) (fun j hj => by have hj : j = 0 := (by omega); subst hj; exact f1)
        obtain ⟨s1, s2⟩ := set_1 HX1.out (.int .i64 0)
        obtain ⟨W9, hW9⟩ : ∃ W9, wr.setCells g 1 [.int .i64 0] = W9 := ⟨_, rfl⟩
        rw [hW9] at hcl s1 s2
        have S1 : Hid _ := s1
        have S2 : Hid _ := s2
        clear s1 s2 hW9
        go_wp2_with fail
        go_ret
        exact ⟨1, b, 0, rfl, S1.out, by omega, rfl, (HB1.out.mono (by omega)).trans S2.out, Nat.le_trans HB1.out.size S2.out.size⟩
  | true =>
    cases h2 : (c == 0) with
    | false =>
      have e1 : ixf (fun x => !(x == 0)) 0 [b, c] = 0 := by simp [ixf, h1]
      have e2 : [b, c].filter (fun i => !(i == 0)) = [c] := by simp [List.filter, h1, h2]
      rw [e1] at cI
      rw [e2]
      rw [h2] at cZ
      clear e1 e2 hx
      go_enter Try.func154, Try.ntmps154
      go_wp2_with fail
      refine cI.mono ?_
      rintro e W1 ⟨rfl, b1⟩
      have HB1 : Hid (Below w.heap.size w W1) := b1
      have hx1 := (b1.block g hg).trans HX.out
      have HX1 : Hid (W1.heap[g]? = some (.cells #[.int .i64 b, .int .i64 c] 3 (0, 0))) := hx1
      clear b1 cI hx1
      go_wp2_with fail
      go_loopw [5, 6] (fun i j wr => (i = .int .i64 0 ∧ j = .int .i64 1 ∧ wr = W1) ∨ (i = .int .i64 1 ∧ j = .int .i64 2 ∧ wr = W1.setCell ⟨g, 0, none⟩ (.int .i64 c))) (fun _ j _ => 2 - (intOf j).toNat)
      case atStart => exact .inl ⟨rfl, rfl, rfl⟩
      case round =>
        rcases hrel with ⟨rfl, rfl, rfl⟩ | ⟨rfl, rfl, rfl⟩
        · have k0 := cell_of HX1.out 0 _ rfl
          have k1 := cell_of HX1.out 1 _ rfl
          have f0 := frz HX1.out 0
          go_wp2_with (first | (go_at_call 155; refine (cZ _).mono ?_; rintro e w1 ⟨rfl, rfl⟩))
          go_roundw
          case rel => exact .inr ⟨rfl, rfl, trivial⟩
          case measure => simp [intOf]
        · have hx2 : (W1.setCell ⟨g, 0, none⟩ (.int .i64 c)).heap[g]? = some (.cells #[.int .i64 c, .int .i64 c] 3 (0, 0)) := by simp [World.setCell, Array.getElem?_modify, HX1.out]
          have b2 : Below g W1 (W1.setCell ⟨g, 0, none⟩ (.int .i64 c)) := (Below.refl _ W1).setCell (p := ⟨g, 0, none⟩) (Nat.le_refl _) _
          obtain ⟨W2, hW2⟩ : ∃ W2, W1.setCell ⟨g, 0, none⟩ (.int .i64 c) = W2 := ⟨_, rfl⟩
          rw [hW2] at hx2 b2 ⊢
          have k1 := cell_of hx2 1 _ rfl
          have f1 := frz hx2 1
          have hcl : ∀ ty, (Builtin.clear_ #[41] ty #[.slice (some ⟨g, 1, none⟩) 1 1]).run Try.prog W2 = .ok (.tuple #[]) (W2.setCells g 1 [.int .i64 0]) :=
            fun ty => Lib.run_clear_slice W2 _ _ ty _ Try.underlying41 v3 rfl rfl g 1 1 _ (by omega) (fun j hj => by have hj : j = 0 := (by omega); subst hj; simp [k1]) (fun j hj => by have hj : j = 0 := (by omega); subst hj; exact f1)
          obtain ⟨s1, s2⟩ := set_1 hx2 (.int .i64 0)
          obtain ⟨W9, hW9⟩ : ∃ W9, W2.setCells g 1 [.int .i64 0] = W9 := ⟨_, rfl⟩
          rw [hW9] at hcl s1 s2
          have S1 : Hid _ := s1
          have S2 : Hid _ := b2.trans s2
          clear s1 s2 hW9 hx2 b2 hW2
          go_wp2_with fail
          go_ret
          exact ⟨1, c, 0, rfl, S1.out, by omega, rfl, (HB1.out.mono (by omega)).trans S2.out, Nat.le_trans HB1.out.size S2.out.size⟩
    | true =>
      have e1 : ixf (fun x => !(x == 0)) 0 [b, c] = 0 := by simp [ixf, h1]
      have e2 : [b, c].filter (fun i => !(i == 0)) = [] := by simp [List.filter, h1, h2]
      rw [e1] at cI
      rw [e2]
      rw [h2] at cZ
      clear e1 e2 hx
      go_enter Try.func154, Try.ntmps154
      go_wp2_with fail
      refine cI.mono ?_
      rintro e W1 ⟨rfl, b1⟩
      have HB1 : Hid (Below w.heap.size w W1) := b1
      have hx1 := (b1.block g hg).trans HX.out
      have HX1 : Hid (W1.heap[g]? = some (.cells #[.int .i64 b, .int .i64 c] 3 (0, 0))) := hx1
      have k0 := cell_of hx1 0 _ rfl
      have k1 := cell_of hx1 1 _ rfl
      have f0 := frz hx1 0
      have f1 := frz hx1 1
      clear b1 cI hx1
      go_wp2_with fail
      go_loopw [5, 6] (fun i j wr => (i = .int .i64 0 ∧ j = .int .i64 1 ∧ wr = W1) ∨ (i = .int .i64 0 ∧ j = .int .i64 2 ∧ wr = W1)) (fun _ j _ => 2 - (intOf j).toNat)
      case atStart => exact .inl ⟨rfl, rfl, rfl⟩
      case round =>
        rcases hrel with ⟨rfl, rfl, rfl⟩ | ⟨rfl, rfl, rfl⟩
        · go_wp2_with (first | (go_at_call 155; refine (cZ _).mono ?_; rintro e w1 ⟨rfl, rfl⟩))
          go_roundw
          case rel => exact .inr ⟨rfl, rfl, trivial⟩
          case measure => simp [intOf]
        · have hcl : ∀ ty, (Builtin.clear_ #[41] ty #[.slice (some ⟨g, 0, none⟩) 2 2]).run Try.prog wr = .ok (.tuple #[]) (wr.setCells g 0 [.int .i64 0, .int .i64 0]) :=
            fun ty => Lib.run_clear_slice wr _ _ ty _ Try.underlying41 v3 rfl rfl g 0 2 _ (by omega) (fun j hj => by rcases (show j = 0 ∨ j = 1 by omega) with hj | hj <;> subst hj <;> simp [k0, k1]) (fun j hj => by rcases (show j = 0 ∨ j = 1 by omega) with hj | hj <;> subst hj <;> first | exact f0 | exact f1)
          obtain ⟨s1, s2⟩ := set_0 HX1.out (.int .i64 0)
          obtain ⟨W9, hW9⟩ : ∃ W9, wr.setCells g 0 [.int .i64 0, .int .i64 0] = W9 := ⟨_, rfl⟩
          rw [hW9] at hcl s1 s2
          have S1 : Hid _ := s1
          have S2 : Hid _ := s2
          clear s1 s2 hW9
          go_wp2_with fail
          go_ret
          exact ⟨0, 0, 0, rfl, S1.out, by omega, rfl, (HB1.out.mono (by omega)).trans S2.out, Nat.le_trans HB1.out.size S2.out.size⟩
/-- What blocksOf answers: a row of its own. -/
def BO (w : World) (l : List Int) (e : Ending) (w' : World) : Prop := ∃ v, e = .returned v ∧ RrS 1 LyI (fun k => w.heap.size ≤ k ∧ k < w'.heap.size) w' v l ∧ Below w.heap.size w w'
theorem row_n {w : World} {S : Nat → Prop} {g n : Nat} {x y : Int} (hx : w.heap[g]? = some (.cells #[.int .i64 x, .int .i64 y] 3 (0, 0))) (hS : S g) (hn : n ≤ 2) {l : List Int} (hl : [x, y].take n = l) (hi : ∀ z ∈ l, i64 z) : RrS 1 LyI S w (.slice (some ⟨g, 0, none⟩) n 2) l := by
  have hlen : l.length = n := by rw [← hl]; simp; omega
  refine ⟨_, 2, by rw [hlen], by omega, by omega, by omega, by simp, .inr ⟨g, 0, rfl, hS, fun j hj => ⟨?_, hi _ (List.getElem_mem hj)⟩⟩⟩
  subst hl
  have hj2 : j < 2 := by simp at hj; omega
  rw [List.getElem_take]
  match j, hj2 with
  | 0, _ => exact cell_of hx 0 _ rfl
  | 1, _ => exact cell_of hx 1 _ rfl
set_option maxRecDepth 20000 in
set_option maxHeartbeats 1600000 in
theorem blocks_c (o : Oq) (a : Option Addr) (cap : Nat) (hb : i64 o.b) (hc : i64 o.c) (w : World) :
    Calls Try.prog 141 #[opv o (.slice a o.l.length cap)] w fun e w' => BO w (bks o) e w' := by
  obtain ⟨W, hW, b0, hs, hx⟩ := box5 w (.int .i64 o.k) (.int .i64 o.a) (.int .i64 o.b) (.int .i64 o.c) (.slice a o.l.length cap) 46
  have c0 := cell_of hx 0 _ rfl
  have c2 := cell_of hx 2 _ rfl
  have c3 := cell_of hx 3 _ rfl
  have HB : Hid (Below w.heap.size w W) := b0
  unfold bks
  obtain ⟨k, x, y, z, l⟩ := o
  dsimp only at *
  clear hx b0
  by_cases h8 : k = 8
  · rw [if_pos h8]
    subst h8
    obtain ⟨W2, hW2⟩ : ∃ W2, W.alloc (.cells #[.int .i64 y, .int .i64 z] 3) = W2 := ⟨_, rfl⟩
    have g2 : W2.heap[w.heap.size + 1]? = some (.cells #[.int .i64 y, .int .i64 z] 3 (0, 0)) := by rw [← hW2, ← hs]; exact heap_alloc_new W _
    have b2 : Below w.heap.size w W2 := by rw [← hW2]; exact HB.out.alloc HB.out.size _
    have s2 : W2.heap.size = w.heap.size + 2 := by rw [← hW2]; simp; omega
    have cD := del_c g2 hb hc
    have H2 : Hid (Below w.heap.size w W2) := b2
    clear b2 g2
    go_enter Try.func141, Try.ntmps141
    go_wp2_with fail
    refine cD.mono ?_
    rintro e W3 ⟨n, p, q, rfl, d1, d2, d3, d4, d5⟩
    have HD : Hid (RrS 1 LyI (fun k => w.heap.size ≤ k ∧ k < W3.heap.size) W3 (.slice (some ⟨w.heap.size + 1, 0, none⟩) n 2) ([y, z].filter (fun i => !(i == 0)))) := row_n d1 ⟨by omega, by omega⟩ d2 d3 (fun t ht => by
      have := (List.mem_filter.1 ht).1
      simp only [List.mem_cons, List.not_mem_nil, or_false] at this
      rcases this with rfl | rfl
      · exact hb
      · exact hc)
    have H3 : Hid (Below w.heap.size w W3) := H2.out.trans (d4.mono (by omega))
    clear cD d1 d2 d3 d4 d5
    go_wp2_with fail
    go_ret
    exact ⟨_, rfl, HD.out, H3.out⟩
  rw [if_neg h8]
  have d8 : (k == 8) = false := by simp [h8]
  by_cases h9 : k = 9 ∨ k = 10
  · rw [if_pos h9]
    obtain ⟨W2, hW2⟩ : ∃ W2, W.alloc (.cells #[.int .i64 z] 3) = W2 := ⟨_, rfl⟩
    have g2 : W2.heap[w.heap.size + 1]? = some (.cells #[.int .i64 z] 3 (0, 0)) := by rw [← hW2, ← hs]; exact heap_alloc_new W _
    have b2 : Below w.heap.size w W2 := by rw [← hW2]; exact HB.out.alloc HB.out.size _
    have s2 : W2.heap.size = w.heap.size + 2 := by rw [← hW2]; simp; omega
    have HD : Hid (RrS 1 LyI (fun k => w.heap.size ≤ k ∧ k < W2.heap.size) W2 (.slice (some ⟨w.heap.size + 1, 0, none⟩) 1 1) [z]) := by
      refine ⟨_, 1, rfl, by simp, by omega, by simp, by simp, .inr ⟨_, 0, rfl, ⟨by omega, by omega⟩, fun j hj => ?_⟩⟩
      obtain rfl : j = 0 := by simp at hj; omega
      exact ⟨cell_of g2 0 _ rfl, hc⟩
    have H2 : Hid (Below w.heap.size w W2) := b2
    clear b2 g2 h8
    rcases h9 with rfl | rfl <;> (
      go_enter Try.func141, Try.ntmps141
      go_wp2_with fail
      go_ret
      exact ⟨_, rfl, HD.out, H2.out⟩)
  rw [if_neg h9]
  have d9 : (k == 9) = false := by simp; omega
  have d10 : (k == 10) = false := by simp; omega
  clear h8 h9
  go_enter Try.func141, Try.ntmps141
  go_wp2_with fail
  go_ret
  exact ⟨_, rfl, ⟨none, 0, rfl, by simp, by omega, by simp, fun _ => rfl, .inl rfl⟩, HB.out⟩
end Go.Proofs.Ytgknjjaemjkloaa.BDf

namespace Go.Proofs.Ytgknjjaemjkloaa.BHm
open Go.RowKit Go.Proofs.Ytgknjjaemjkloaa.BPl Go.Proofs.Ytgknjjaemjkloaa.YRr Go.Proofs.Ytgknjjaemjkloaa.YRs Go.Proofs.Ytgknjjaemjkloaa.BBx Go.Proofs.Ytgknjjaemjkloaa.BIn
open Go.Proofs.Ytgknjjaemjkloaa.TBase (T Keep)
set_option linter.unusedVariables false

/-- The cells of what is around a block, of all. -/
def hc (A : Ar) : List Value := [.bool A.ow, .bool A.lp, .int .i64 A.st, .int .i64 A.el, .int .i64 A.ls]
def hcs : List Ar → List Value
  | [] => []
  | A :: r => hc A ++ hcs r
theorem hcs_len : ∀ H : List Ar, (hcs H).length = H.length * 5
  | [] => rfl
  | A :: r => by rw [hcs, List.length_append, hcs_len r, List.length_cons]; simp [hc]; omega
theorem hcs_at : ∀ (H : List Ar) (q j : Nat) (hq : q < H.length), j < 5 → (hcs H)[q * 5 + j]? = (hc H[q])[j]?
  | A :: r, 0, j, _, hj => by
    rw [hcs, List.getElem?_append_left (by simp [hc]; omega)]
    simp
  | A :: r, q + 1, j, hq, hj => by
    rw [hcs, List.getElem?_append_right (by simp [hc]; omega)]
    have e : (q + 1) * 5 + j - (hc A).length = q * 5 + j := by simp [hc]; omega
    rw [e, hcs_at r q j (by simpa using hq) hj]
    rfl
theorem hcs_set : ∀ (H : List Ar) (q : Nat) (B : Ar), q < H.length → (((((hcs H).set (q * 5) (.bool B.ow)).set (q * 5 + 1) (.bool B.lp)).set (q * 5 + 2) (.int .i64 B.st)).set (q * 5 + 3) (.int .i64 B.el)).set (q * 5 + 4) (.int .i64 B.ls) = hcs (H.set q B)
  | A :: r, 0, B, _ => by simp [hcs, hc]
  | A :: r, q + 1, B, hq => by
    have h := hcs_set r q B (by simpa using hq)
    have e : (q + 1) * 5 = q * 5 + 1 + 1 + 1 + 1 + 1 := by omega
    rw [List.set_cons_succ, hcs, hcs, ← h]
    simp only [hc, e, List.cons_append, List.nil_append, List.set_cons_succ, Nat.add_assoc, Nat.reduceAdd]
/-- The row of homes lies in block Q. -/
def Hw (w : World) (Q : Nat) (H : List Ar) : Prop := w.heap[Q]? = some (.cells (hcs H).toArray 78 (0, 0))
theorem Hw.cell {w : World} {Q : Nat} {H : List Ar} (h : Hw w Q H) {q : Nat} (hq : q < H.length) {j : Nat} (hj : j < 5) {v : Value} (hv : (hc H[q])[j]? = some v) : w.cell? ⟨Q, q * 5 + j, none⟩ = some v := by
  unfold Hw at h
  have := (hcs_at H q j hq hj).trans hv
  simp only [World.cell?, h]
  simpa using this
theorem Hw.set {w : World} {Q : Nat} {H : List Ar} (h : Hw w Q H) {q : Nat} (hq : q < H.length) (B : Ar) : Hw (((((w.setCell ⟨Q, q * 5, none⟩ (.bool B.ow)).setCell ⟨Q, q * 5 + 1, none⟩ (.bool B.lp)).setCell ⟨Q, q * 5 + 2, none⟩ (.int .i64 B.st)).setCell ⟨Q, q * 5 + 3, none⟩ (.int .i64 B.el)).setCell ⟨Q, q * 5 + 4, none⟩ (.int .i64 B.ls)) Q (H.set q B) := by
  unfold Hw at *
  rw [← hcs_set H q B hq]
  simp [World.setCell, Array.getElem?_modify, h]
/-- Only block Q and newer ones have changed. -/
def Xb (Q : Nat) (w w' : World) : Prop := Below Q w w' ∧ ∀ g, g < w.heap.size → g ≠ Q → w'.heap[g]? = w.heap[g]?
theorem Xb.refl (Q : Nat) (w : World) : Xb Q w w := ⟨Below.refl _ _, fun _ _ _ => rfl⟩
theorem Xb.trans {Q : Nat} {a b c : World} (h : Xb Q a b) (k : Xb Q b c) : Xb Q a c := ⟨h.1.trans k.1, fun g hg hq => (k.2 g (Nat.lt_of_lt_of_le hg h.1.size) hq).trans (h.2 g hg hq)⟩
theorem Xb.of {Q : Nat} {w w' : World} (h : Below w.heap.size w w') (hQ : Q ≤ w.heap.size) : Xb Q w w' := ⟨h.mono hQ, fun g hg _ => h.block g hg⟩
theorem Xb.keep {Q : Nat} {w w' : World} (h : Xb Q w w') {R : Nat → Prop} (hR : ∀ g, R g → g ≠ Q) : Keep R w w' := fun b hb hl => h.2 b hl (hR b hb)
theorem Xb.set5 {Q : Nat} {w : World} (o : Nat) (x0 x1 x2 x3 x4 : Value) : Xb Q w (((((w.setCell ⟨Q, o, none⟩ x0).setCell ⟨Q, o + 1, none⟩ x1).setCell ⟨Q, o + 2, none⟩ x2).setCell ⟨Q, o + 3, none⟩ x3).setCell ⟨Q, o + 4, none⟩ x4) := by
  refine ⟨(((((Below.refl _ w).setCell (p := ⟨Q, o, none⟩) (Nat.le_refl _) x0).setCell (p := ⟨Q, o + 1, none⟩) (Nat.le_refl _) x1).setCell (p := ⟨Q, o + 2, none⟩) (Nat.le_refl _) x2).setCell (p := ⟨Q, o + 3, none⟩) (Nat.le_refl _) x3).setCell (p := ⟨Q, o + 4, none⟩) (Nat.le_refl _) x4, fun g hg hq => ?_⟩
  rw [Below.heap_setCell _ _ _ _ hq, Below.heap_setCell _ _ _ _ hq, Below.heap_setCell _ _ _ _ hq, Below.heap_setCell _ _ _ _ hq, Below.heap_setCell _ _ _ _ hq]
end Go.Proofs.Ytgknjjaemjkloaa.BHm

namespace Go.Proofs.Ytgknjjaemjkloaa.BCl
open Go.RowKit Go.Proofs.Ytgknjjaemjkloaa.BPl Go.Proofs.Ytgknjjaemjkloaa.YRr Go.Proofs.Ytgknjjaemjkloaa.YRs Go.Proofs.Ytgknjjaemjkloaa.BBx Go.Proofs.Ytgknjjaemjkloaa.BIx Go.Proofs.Ytgknjjaemjkloaa.BSm Go.Proofs.Ytgknjjaemjkloaa.BIn Go.Proofs.Ytgknjjaemjkloaa.BDf Go.Proofs.Ytgknjjaemjkloaa.BHm
open Go.Proofs.Ytgknjjaemjkloaa.YPl (Oq Bk Pg)
open Go.Proofs.Ytgknjjaemjkloaa.TBase (T Keep)
open Go.Proofs.Ytgknjjaemjkloaa.Tak
set_option linter.unusedVariables false

/-- What claims answers. -/
def CR (Q : Nat) (n : Nat) (X : Option (List Ar)) (w : World) (e : Ending) (w' : World) : Prop := e = .returned (.bool X.isSome) ∧ (∃ H', Hw w' Q H' ∧ H'.length = n ∧ (X = none ∨ X = some H')) ∧ Xb Q w w'
theorem clm_cons (nb : Nat) (A : Ar) {l : List Int} {q : Nat} (h : q < l.length) (H : List Ar) : clm nb A (l.drop q) H = if l[q] ≤ (nb : Int) ∨ (H.length : Int) ≤ l[q] ∨ (H.getD l[q].toNat ar0).ow = true then none else clm nb A (l.drop (q + 1)) (H.set l[q].toNat A) := by
  rw [List.drop_eq_getElem_cons h, clm]
set_option maxRecDepth 20000 in
set_option maxHeartbeats 3200000 in
theorem claims_c {R : Nat → Prop} {w : World} {B P Q : Nat} {S : Sh} {hcap : Nat} {A : Ar} {nb : Nat} {ov : Value} {lt : Int} {uv : Value} {cl : Int} {H : List Ar} (h : Pw R w P S (.slice (some ⟨Q, 0, none⟩) H.length hcap)) (hR : ∀ g, R g → g < w.heap.size) (hRQ : ∀ g, R g → g ≠ Q) (hB : Bw w B P A nb ov lt uv cl) (hBQ : B ≠ Q) (hH : Hw w Q H) (hc : H.length ≤ hcap) (hH4 : H.length ≤ 140737488351232) (o : Oq) (a : Option Addr) (cap : Nat)
    (hst : 0 ≤ A.st ∧ A.st ≤ 64) (hls : 0 ≤ A.ls ∧ A.ls ≤ 64) (ho : o.l.length ≤ 140737488351232) (hob : i64 o.b) (hoc : i64 o.c) :
    Calls Try.prog 104 #[.pointer (some ⟨B, 0, none⟩), opv o (.slice a o.l.length cap)] w fun e w' => CR Q H.length (clm nb (ins A o) (bks o) H) w e w' := by
  obtain ⟨W, hW, b0, hs, hx⟩ := box5 w (.int .i64 o.k) (.int .i64 o.a) (.int .i64 o.b) (.int .i64 o.c) (.slice a o.l.length cap) 46
  have hQ : Q < w.heap.size := (Array.getElem?_eq_some_iff.1 hH).1
  have hBl := hB.lt
  obtain ⟨tv, nv, dv, hP, hRP, -⟩ := h
  have hPl := hR P hRP
  have hPQ := hRQ P hRP
  clear hR hRQ
  have cB := blocks_c o a cap hob hoc W
  obtain ⟨Z, hZ⟩ : ∃ Z, clm nb (ins A o) (bks o) H = Z := ⟨_, rfl⟩
  rw [hZ]
  have HZ : Hid (clm nb (ins A o) ((bks o).drop 0) H = Z) := hZ
  have HI : Hid (∀ W', Bw W' B P A nb ov lt uv cl → Calls Try.prog 142 #[.pointer (some ⟨B, 0, none⟩), opv o (.slice a o.l.length cap)] W' fun e w' => e = .returned (arv (ins A o)) ∧ Below W'.heap.size W' w') := fun W' hb => inside_c hb o a cap hst hls ho
  have c0 := cell_of hx 0 _ rfl
  have c1 := cell_of hx 1 _ rfl
  have c2 := cell_of hx 2 _ rfl
  have c3 := cell_of hx 3 _ rfl
  have c4 := cell_of hx 4 _ rfl
  have HX : Hid (W.heap[w.heap.size]? = some (.cells #[.int .i64 o.k, .int .i64 o.a, .int .i64 o.b, .int .i64 o.c, .slice a o.l.length cap] 46 (0, 0))) := hx
  have HB0 : Hid (Below w.heap.size w W) := b0
  have HBw : Hid (Bw W B P A nb ov lt uv cl) := hB.keep b0
  have HPp : Hid (W.heap[P]? = some (.cells #[tv, nv, dv, .slice (some ⟨Q, 0, none⟩) H.length hcap] 81 (0, 0))) := (b0.block P hPl).trans hP
  have HHw : Hid (Hw W Q H) := (b0.block Q hQ).trans hH
  clear hZ hx b0 hB hP hH
  generalize ins A o = I at *
  obtain ⟨L, hL⟩ : ∃ L, bks o = L := ⟨_, rfl⟩
  rw [hL] at cB
  have HZ : Hid (clm nb I (L.drop 0) H = Z) := by have := HZ.out; rw [hL] at this; exact this
  clear hL
  go_enter Try.func104, Try.ntmps104
  go_wp2_with fail
  refine cB.mono ?_
  rintro e W1 ⟨v, rfl, hr, b1⟩
  have HR : Hid (RrS 1 LyI (fun k => W.heap.size ≤ k ∧ k < W1.heap.size) W1 v L) := hr
  have HB1 : Hid (Below W.heap.size W W1) := b1
  obtain ⟨va, vc, rfl, hl1, hl2, hl3, hl4, hl5⟩ := hr
  clear cB b1 hl5 hl4 c0 c1 c2 c3 c4
  go_wp2_with fail
  go_loopw [10] (fun i wr => ∃ (q : Nat) (Hq : List Ar), q ≤ L.length ∧ i = .int .i64 q ∧ clm nb I (L.drop q) Hq = Z ∧ Hq.length = H.length ∧ Hw wr Q Hq ∧ Xb Q W1 wr) (fun i _ => L.length - (intOf i).toNat)
  case atStart => exact ⟨0, H, by omega, rfl, HZ.out, rfl, (HB1.out.block Q (by omega)).trans HHw.out, Xb.refl _ _⟩
  case round =>
    clear HZ
    obtain ⟨q, Hq, hq, rfl, hM, hHl, hHq, hX⟩ := hrel
    have HX' : Hid (Xb Q W1 wr) := hX
    have HQ' : Hid (Hw wr Q Hq) := hHq
    by_cases hlt : q < L.length
    · have d0 : decide ((q : Int) < (L.length : Int)) = true := by simp; omega
      have i0 : (0 : Int) ≤ (q : Int) := by omega
      have i1 : (q : Int) < (L.length : Int) := by omega
      obtain ⟨g, oo, cap', hsl, hl, hm, ⟨hg1, hg2⟩, k0⟩ := RrS.at HR.out hlt
      cases hsl
      have hi64 := k0.2
      have k0 := (World.cell?_of_block (w := W1) (hX.2 g hg2 (by omega))).trans k0.1
      rw [Nat.mul_one] at k0
      rw [clm_cons nb I hlt] at hM
      generalize L[q] = s at *
      have hW1 : ∀ g, g < W.heap.size → g ≠ Q → wr.heap[g]? = W.heap[g]? := fun g hg hgq => (hX.2 g (Nat.lt_of_lt_of_le hg HB1.out.size) hgq).trans (HB1.out.block g hg)
      have qB : Bw wr B P A nb ov lt uv cl := (hW1 B (by omega) hBQ).trans HBw.out
      have qP := (hW1 P (by omega) hPQ).trans HPp.out
      have qX := (hW1 w.heap.size (by omega) (by omega)).trans HX.out
      have e0 := cell_of qB 0 _ rfl
      have e6 := cell_of qB 6 _ rfl
      have p3 := cell_of qP 3 _ rfl
      have c0 := cell_of qX 0 _ rfl
      have c1 := cell_of qX 1 _ rfl
      have c2 := cell_of qX 2 _ rfl
      have c3 := cell_of qX 3 _ rfl
      have c4 := cell_of qX 4 _ rfl
      have HqB : Hid (Bw wr B P A nb ov lt uv cl) := qB
      have HqP : Hid (wr.heap[P]? = some (.cells #[tv, nv, dv, .slice (some ⟨Q, 0, none⟩) H.length hcap] 81 (0, 0))) := qP
      have HqX : Hid (wr.heap[w.heap.size]? = some (.cells #[.int .i64 o.k, .int .i64 o.a, .int .i64 o.b, .int .i64 o.c, .slice a o.l.length cap] 46 (0, 0))) := qX
      have hsz : W1.heap.size ≤ wr.heap.size := hX.1.size
      clear qB qP qX hW1 hX hHq
      by_cases hbad : s ≤ (nb : Int) ∨ (Hq.length : Int) ≤ s ∨ (Hq.getD s.toNat ar0).ow = true
      · rw [if_pos hbad] at hM
        subst hM
        rw [hHl] at hbad
        by_cases g1 : s ≤ (nb : Int)
        · have d1 : decide (s ≤ (nb : Int)) = true := by simp [g1]
          clear hbad g1
          go_wp2_with fail
          go_ret
          exact ⟨rfl, ⟨Hq, HQ'.out, hHl, .inl rfl⟩, (Xb.of HB0.out (by omega)).trans ((Xb.of HB1.out (by omega)).trans HX'.out)⟩
        have d1 : decide (s ≤ (nb : Int)) = false := by simp; omega
        by_cases g2 : (H.length : Int) ≤ s
        · have d2 : decide ((H.length : Int) ≤ s) = true := by simp [g2]
          clear hbad g1 g2
          go_wp2_with fail
          go_ret
          exact ⟨rfl, ⟨Hq, HQ'.out, hHl, .inl rfl⟩, (Xb.of HB0.out (by omega)).trans ((Xb.of HB1.out (by omega)).trans HX'.out)⟩
        have d2 : decide ((H.length : Int) ≤ s) = false := by simp; omega
        have g3 := (hbad.resolve_left g1).resolve_left g2
        obtain ⟨t, rfl⟩ : ∃ t : Nat, s = (t : Int) := ⟨s.toNat, by omega⟩
        have ht : t < Hq.length := by omega
        rw [getD_at ht] at g3
        have k5 := HQ'.out.cell ht (j := 0) (by omega) (v := .bool true) (by simp [BHm.hc, g3])
        rw [Nat.add_zero] at k5
        have j0 : (0 : Int) ≤ (t : Int) := by omega
        have j1 : (t : Int) < (H.length : Int) := by omega
        have d1' : decide (t ≤ nb) = false := by simp; omega
        have d2' : decide (H.length ≤ t) = false := by simp; omega
        clear hbad g1 g2 g3
        go_wp2_with fail
        go_ret
        exact ⟨rfl, ⟨Hq, HQ'.out, hHl, .inl rfl⟩, (Xb.of HB0.out (by omega)).trans ((Xb.of HB1.out (by omega)).trans HX'.out)⟩
      · rw [if_neg hbad] at hM
        have g1 : ¬ s ≤ (nb : Int) := fun h => hbad (.inl h)
        have g2 : ¬ (Hq.length : Int) ≤ s := fun h => hbad (.inr (.inl h))
        have g3 : ¬ (Hq.getD s.toNat ar0).ow = true := fun h => hbad (.inr (.inr h))
        rw [hHl] at g2
        have d1 : decide (s ≤ (nb : Int)) = false := by simp; omega
        have d2 : decide ((H.length : Int) ≤ s) = false := by simp; omega
        obtain ⟨t, rfl⟩ : ∃ t : Nat, s = (t : Int) := ⟨s.toNat, by omega⟩
        have ht : t < Hq.length := by omega
        rw [getD_at ht] at g3
        rw [Int.toNat_natCast] at hM
        have k5 := HQ'.out.cell ht (j := 0) (by omega) (v := .bool false) (by simpa [BHm.hc] using g3)
        rw [Nat.add_zero] at k5
        have j0 : (0 : Int) ≤ (t : Int) := by omega
        have j1 : (t : Int) < (H.length : Int) := by omega
        have d1' : decide (t ≤ nb) = false := by simp; omega
        have d2' : decide (H.length ≤ t) = false := by simp; omega
        have HM : Hid (clm nb I (L.drop (q + 1)) (Hq.set t I) = Z) := hM
        clear hbad g1 g2 g3 hM
        have cI := HI.out wr.drew HqB.out
        have HSd : Hid (wr.drew.heap.size = wr.heap.size) := rfl
        go_wp2_with fail
        refine wp_region_held_drew (S := fun w' => w'.cell? ⟨B, 0, none⟩ = some (.pointer (some ⟨P, 0, none⟩)) ∧ w'.cell? ⟨P, 3, none⟩ = some (.slice (some ⟨Q, 0, none⟩) H.length hcap) ∧ w'.cell? ⟨w.heap.size, 0, none⟩ = some (.int .i64 o.k) ∧ w'.cell? ⟨w.heap.size, 1, none⟩ = some (.int .i64 o.a) ∧ w'.cell? ⟨w.heap.size, 2, none⟩ = some (.int .i64 o.b) ∧ w'.cell? ⟨w.heap.size, 3, none⟩ = some (.int .i64 o.c) ∧ w'.cell? ⟨w.heap.size, 4, none⟩ = some (.slice a o.l.length cap)) (by kernel_rfl) (by exact ⟨e0, p3, c0, c1, c2, c3, c4⟩) (fun hHeld => ?_)
        refine tkH 0 rfl ?_; try simp only [ptH]
        refine tkH 1 rfl ?_; try simp only [ptH]
        refine tkH 2 rfl ?_; try simp only [ptH]
        refine tkH 3 rfl ?_; try simp only [ptH]
        refine tkH 4 rfl ?_; try simp only [ptH]
        refine tkH 5 rfl ?_; try simp only [ptH]
        refine tkH 6 rfl ?_; try simp only [ptH]
        refine tkH 7 rfl ?_; try simp only [ptH]
        refine tkH 8 rfl ?_; try simp only [ptH]
        refine tkH 9 rfl ?_; try simp only [ptH]
        refine rdH [10] ?_
        refine alH rfl fun K0 hK => ?_
        go_simp
        refine cI.mono ?_
        rintro e W7 ⟨rfl, b7⟩
        have hsz7 : wr.heap.size ≤ W7.heap.size := b7.size
        have q7 : ∀ g, g < wr.heap.size → W7.heap[g]? = wr.heap[g]? := fun g hg => b7.block g hg
        have z0 := cell_of ((q7 B (by omega)).trans HqB.out) 0 _ rfl
        have z3 := cell_of ((q7 P (by omega)).trans HqP.out) 3 _ rfl
        have x0 := cell_of ((q7 w.heap.size (by omega)).trans HqX.out) 0 _ rfl
        have x1 := cell_of ((q7 w.heap.size (by omega)).trans HqX.out) 1 _ rfl
        have x2 := cell_of ((q7 w.heap.size (by omega)).trans HqX.out) 2 _ rfl
        have x3 := cell_of ((q7 w.heap.size (by omega)).trans HqX.out) 3 _ rfl
        have x4 := cell_of ((q7 w.heap.size (by omega)).trans HqX.out) 4 _ rfl
        have hH7 : Hw W7 Q Hq := (q7 Q (by omega)).trans HQ'.out
        have HH7 : Hid (Hw W7 Q Hq) := hH7
        have m0 := hH7.cell ht (j := 0) (by omega) rfl
        have m1 := hH7.cell ht (j := 1) (by omega) rfl
        have m2 := hH7.cell ht (j := 2) (by omega) rfl
        have m3 := hH7.cell ht (j := 3) (by omega) rfl
        have m4 := hH7.cell ht (j := 4) (by omega) rfl
        rw [Nat.add_zero] at m0
        have r0 := frz hH7 (t * 5)
        have r1 := frz hH7 (t * 5 + 1)
        have r2 := frz hH7 (t * 5 + 2)
        have r3 := frz hH7 (t * 5 + 3)
        have r4 := frz hH7 (t * 5 + 4)
        have X7 : Hid (Xb Q wr W7) := ⟨⟨b7.os, b7.tape, b7.output, hsz7, fun g hg => q7 g (by omega)⟩, fun g hg _ => q7 g hg⟩
        have ZC : Hid (∀ g j u, g < wr.heap.size → g ≠ Q → W7.cell? ⟨g, j, none⟩ = some u → (((((W7.setCell ⟨Q, t * 5, none⟩ (.bool I.ow)).setCell ⟨Q, t * 5 + 1, none⟩ (.bool I.lp)).setCell ⟨Q, t * 5 + 2, none⟩ (.int .i64 I.st)).setCell ⟨Q, t * 5 + 3, none⟩ (.int .i64 I.el)).setCell ⟨Q, t * 5 + 4, none⟩ (.int .i64 I.ls)).cell? ⟨g, j, none⟩ = some u) := fun g j u hg hgq hu => cell_ne hgq (cell_ne hgq (cell_ne hgq (cell_ne hgq (cell_ne hgq hu))))
        clear b7 q7 hH7 cI
        refine hK.out _ _ ⟨z0, z3, x0, x1, x2, x3, x4⟩ (fun hHeld => ?_)
        clear hK K0
        try simp only [ptH]
        refine tkH 11 rfl ?_; try simp only [ptH]
        refine rdH [12] ?_
        refine alH rfl fun K0 hK => ?_
        go_simp
        refine hK.out _ _ ⟨ZC.out _ _ _ (by omega) hBQ z0, ZC.out _ _ _ (by omega) hPQ z3, ZC.out _ _ _ (by omega) (by omega) x0, ZC.out _ _ _ (by omega) (by omega) x1, ZC.out _ _ _ (by omega) (by omega) x2, ZC.out _ _ _ (by omega) (by omega) x3, ZC.out _ _ _ (by omega) (by omega) x4⟩ (fun hHeld => ?_)
        clear hK K0 hHeld
        try simp only [ptH]
        refine dnH ?_
        have HN : Hid (Hw (((((W7.setCell ⟨Q, t * 5, none⟩ (.bool I.ow)).setCell ⟨Q, t * 5 + 1, none⟩ (.bool I.lp)).setCell ⟨Q, t * 5 + 2, none⟩ (.int .i64 I.st)).setCell ⟨Q, t * 5 + 3, none⟩ (.int .i64 I.el)).setCell ⟨Q, t * 5 + 4, none⟩ (.int .i64 I.ls)) Q (Hq.set t I)) := HH7.out.set ht I
        have HX9 : Hid (Xb Q W1 (((((W7.setCell ⟨Q, t * 5, none⟩ (.bool I.ow)).setCell ⟨Q, t * 5 + 1, none⟩ (.bool I.lp)).setCell ⟨Q, t * 5 + 2, none⟩ (.int .i64 I.st)).setCell ⟨Q, t * 5 + 3, none⟩ (.int .i64 I.el)).setCell ⟨Q, t * 5 + 4, none⟩ (.int .i64 I.ls))) := HX'.out.trans (X7.out.trans (Xb.set5 _ _ _ _ _ _))
        obtain ⟨W9, hW9⟩ : ∃ W9, (((((W7.setCell ⟨Q, t * 5, none⟩ (.bool I.ow)).setCell ⟨Q, t * 5 + 1, none⟩ (.bool I.lp)).setCell ⟨Q, t * 5 + 2, none⟩ (.int .i64 I.st)).setCell ⟨Q, t * 5 + 3, none⟩ (.int .i64 I.el)).setCell ⟨Q, t * 5 + 4, none⟩ (.int .i64 I.ls)) = W9 := ⟨_, rfl⟩
        rw [hW9] at HN HX9 ⊢
        clear hW9 ZC z0 z3 x0 x1 x2 x3 x4 m0 m1 m2 m3 m4 r0 r1 r2 r3 r4 k5
        go_wp2_with fail
        go_roundw
        case rel => exact ⟨q + 1, Hq.set t I, by omega, by go_num, HM.out, by simp [hHl], HN.out, HX9.out⟩
        case measure => simp only [intOf]; omega
    · have d0 : decide ((q : Int) < (L.length : Int)) = false := by simp; omega
      have hT : some Hq = Z := by
        rw [List.drop_eq_nil_of_le (by omega)] at hM
        exact hM
      subst hT
      clear hM hX hHq
      go_wp2_with fail
      go_ret
      exact ⟨rfl, ⟨Hq, HQ'.out, hHl, .inr rfl⟩, (Xb.of HB0.out (by omega)).trans ((Xb.of HB1.out (by omega)).trans HX'.out)⟩
end Go.Proofs.Ytgknjjaemjkloaa.BCl

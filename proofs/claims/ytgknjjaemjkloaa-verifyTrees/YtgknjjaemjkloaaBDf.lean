/- The blocks of an operation (package verify): slices.DeleteFunc over two numbers, blocksOf. -/
import Derived.Test.YtgknjjaemjkloaaBIn
import Derived.Lib.SliceRun
namespace Go.Proofs.Ytgknjjaemjkloaa.BDf
open Go.RowKit Go.Proofs.Ytgknjjaemjkloaa.BPl Go.Proofs.Ytgknjjaemjkloaa.YRr Go.Proofs.Ytgknjjaemjkloaa.YRs Go.Proofs.Ytgknjjaemjkloaa.BBx Go.Proofs.Ytgknjjaemjkloaa.BIx Go.Proofs.Ytgknjjaemjkloaa.BSm Go.Proofs.Ytgknjjaemjkloaa.BIn
open Go.Proofs.Ytgknjjaemjkloaa.YPl (Oq Bk Pg)
open Go.Proofs.Ytgknjjaemjkloaa.IBase (heap_alloc_new)
set_option linter.unusedVariables false

theorem zero_c (x : Int) (w : World) : Calls Try.prog 155 #[.int .i64 x] w fun e w' => e = .returned (.bool (x == 0)) ∧ w' = w := by
  go_enter Try.func155, Try.ntmps155
  go_wp2_with fail
  go_ret
  exact ⟨rfl, rfl⟩
/-- A row of two of one's own, that is read. -/
theorem two_row {w : World} {g : Nat} {b c : Int} (hx : w.heap[g]? = some (.cells #[.int .i64 b, .int .i64 c] 3 (0, 0))) (hb : i64 b) (hc : i64 c) : RrS 1 LyI (fun k => k = g) w (.slice (some ⟨g, 0, none⟩) 2 2) [b, c] := by
  refine ⟨_, 2, rfl, by simp, by omega, by simp, by simp, .inr ⟨g, 0, rfl, rfl, fun j hj => ?_⟩⟩
  match j, hj with
  | 0, _ => exact ⟨cell_of hx 0 _ rfl, hb⟩
  | 1, _ => exact ⟨cell_of hx 1 _ rfl, hc⟩
/-- Cells set to 0. -/
theorem set_1 {w : World} {g : Nat} {x y : Value} {t : TypeId} (hx : w.heap[g]? = some (.cells #[x, y] t (0, 0))) (z : Value) : (w.setCells g 1 [z]).heap[g]? = some (.cells #[x, z] t (0, 0)) ∧ Below g w (w.setCells g 1 [z]) := by
  have e : w.setCells g 1 [z] = w.setCell ⟨g, 1, none⟩ z := rfl
  rw [e]
  exact ⟨by simp [World.setCell, Array.getElem?_modify, hx], (Below.refl _ w).setCell (p := ⟨g, 1, none⟩) (Nat.le_refl _) _⟩
theorem set_0 {w : World} {g : Nat} {x y : Value} {t : TypeId} (hx : w.heap[g]? = some (.cells #[x, y] t (0, 0))) (z : Value) : (w.setCells g 0 [z, z]).heap[g]? = some (.cells #[z, z] t (0, 0)) ∧ Below g w (w.setCells g 0 [z, z]) := by
  have e : w.setCells g 0 [z, z] = (w.setCell ⟨g, 0, none⟩ z).setCell ⟨g, 1, none⟩ z := rfl
  rw [e]
  exact ⟨by simp [World.setCell, Array.getElem?_modify, hx], ((Below.refl _ w).setCell (p := ⟨g, 0, none⟩) (Nat.le_refl _) _).setCell (p := ⟨g, 1, none⟩) (Nat.le_refl _) _⟩
/-- What DeleteFunc leaves of two. -/
def DR (w : World) (g : Nat) (b c : Int) (e : Ending) (w' : World) : Prop := ∃ n x y, e = .returned (.slice (some ⟨g, 0, none⟩) n 2) ∧ w'.heap[g]? = some (.cells #[.int .i64 x, .int .i64 y] 3 (0, 0)) ∧ n ≤ 2 ∧ [x, y].take n = [b, c].filter (fun i => !(i == 0)) ∧ Below g w w' ∧ w.heap.size ≤ w'.heap.size
set_option maxRecDepth 20000 in
set_option maxHeartbeats 3200000 in
theorem del_c {w : World} {g : Nat} {b c : Int} (hx : w.heap[g]? = some (.cells #[.int .i64 b, .int .i64 c] 3 (0, 0))) (hb : i64 b) (hc : i64 c) :
    Calls Try.prog 154 #[.slice (some ⟨g, 0, none⟩) 2 2, .func (.func 155) #[] #[]] w fun e w' => DR w g b c e w' := by
  have hg : g < w.heap.size := (Array.getElem?_eq_some_iff.1 hx).1
  have cI := index_zo (two_row hx hb hc) (fun k hk => by omega) (fun i => i == 0) fun W x _ _ => (zero_c x W).mono fun e w' h => ⟨h.1, h.2 ▸ Below.refl _ _⟩
  have cZ := fun W => zero_c c W
  have HX : Hid (w.heap[g]? = some (.cells #[.int .i64 b, .int .i64 c] 3 (0, 0))) := hx
  have v3 : ∀ w, (zeroValue 3).run Try.prog w = .ok (.int .i64 0) w := fun w => by go_simp
  unfold DR
  cases h1 : (b == 0) with
  | false =>
    cases h2 : (c == 0) with
    | false =>
      have e1 : ixf (fun x => !(x == 0)) 0 [b, c] = -1 := by simp [ixf, h1, h2]
      have e2 : [b, c].filter (fun i => !(i == 0)) = [b, c] := by simp [List.filter, h1, h2]
      rw [e1] at cI
      rw [e2]
      clear e1 e2 hx
      go_enter Try.func154, Try.ntmps154
      go_wp2_with fail
      refine cI.mono ?_
      rintro e W1 ⟨rfl, b1⟩
      have HB1 : Hid (Below w.heap.size w W1) := b1
      clear b1 cI
      go_wp2_with fail
      go_ret
      exact ⟨2, b, c, rfl, (HB1.out.block g hg).trans HX.out, Nat.le_refl _, rfl, HB1.out.mono (by omega), HB1.out.size⟩
    | true =>
      have e1 : ixf (fun x => !(x == 0)) 0 [b, c] = 1 := by simp [ixf, h1, h2]
      have e2 : [b, c].filter (fun i => !(i == 0)) = [b] := by simp [List.filter, h1, h2]
      rw [e1] at cI
      rw [e2]
      clear e1 e2 hx
      go_enter Try.func154, Try.ntmps154
      go_wp2_with fail
      refine cI.mono ?_
      rintro e W1 ⟨rfl, b1⟩
      have HB1 : Hid (Below w.heap.size w W1) := b1
      have hx1 := (b1.block g hg).trans HX.out
      have HX1 : Hid _ := hx1
      have k1 := cell_of hx1 1 _ rfl
      have f1 := frz hx1 1
      clear b1 cI hx1
      go_wp2_with fail
      go_loopw [5, 6] (fun i j wr => i = .int .i64 1 ∧ j = .int .i64 2 ∧ wr = W1) (fun _ _ _ => 0)
      case atStart => exact ⟨rfl, rfl, rfl⟩
      case round =>
        obtain ⟨rfl, rfl, rfl⟩ := hrel
        have hcl : ∀ ty, (Builtin.clear_ #[41] ty #[.slice (some ⟨g, 1, none⟩) 1 1]).run Try.prog wr = .ok (.tuple #[]) (wr.setCells g 1 [.int .i64 0]) :=
          fun ty => Lib.run_clear_slice wr _ _ ty _ Try.underlying41 v3 rfl rfl g 1 1 _ (by omega) (fun j hj => by have hj : j = 0 := (by omega); subst hj; simp [k1]) (fun j hj => by have hj : j = 0 := (by omega); subst hj; exact f1)
        obtain ⟨s1, s2⟩ := set_1 HX1.out (.int .i64 0)
        obtain ⟨W9, hW9⟩ : ∃ W9, wr.setCells g 1 [.int .i64 0] = W9 := ⟨_, rfl⟩
        rw [hW9] at hcl s1 s2
        have S1 : Hid _ := s1
        have S2 : Hid _ := s2
        clear s1 s2 hW9
        go_wp2_with fail
        go_ret
        exact ⟨1, b, 0, rfl, S1.out, by omega, rfl, (HB1.out.mono (by omega)).trans S2.out, Nat.le_trans HB1.out.size S2.out.size⟩
  | true =>
    cases h2 : (c == 0) with
    | false =>
      have e1 : ixf (fun x => !(x == 0)) 0 [b, c] = 0 := by simp [ixf, h1]
      have e2 : [b, c].filter (fun i => !(i == 0)) = [c] := by simp [List.filter, h1, h2]
      rw [e1] at cI
      rw [e2]
      rw [h2] at cZ
      clear e1 e2 hx
      go_enter Try.func154, Try.ntmps154
      go_wp2_with fail
      refine cI.mono ?_
      rintro e W1 ⟨rfl, b1⟩
      have HB1 : Hid (Below w.heap.size w W1) := b1
      have hx1 := (b1.block g hg).trans HX.out
      have HX1 : Hid (W1.heap[g]? = some (.cells #[.int .i64 b, .int .i64 c] 3 (0, 0))) := hx1
      clear b1 cI hx1
      go_wp2_with fail
      go_loopw [5, 6] (fun i j wr => (i = .int .i64 0 ∧ j = .int .i64 1 ∧ wr = W1) ∨ (i = .int .i64 1 ∧ j = .int .i64 2 ∧ wr = W1.setCell ⟨g, 0, none⟩ (.int .i64 c))) (fun _ j _ => 2 - (intOf j).toNat)
      case atStart => exact .inl ⟨rfl, rfl, rfl⟩
      case round =>
        rcases hrel with ⟨rfl, rfl, rfl⟩ | ⟨rfl, rfl, rfl⟩
        · have k0 := cell_of HX1.out 0 _ rfl
          have k1 := cell_of HX1.out 1 _ rfl
          have f0 := frz HX1.out 0
          go_wp2_with (first | (go_at_call 155; refine (cZ _).mono ?_; rintro e w1 ⟨rfl, rfl⟩))
          go_roundw
          case rel => exact .inr ⟨rfl, rfl, trivial⟩
          case measure => simp [intOf]
        · have hx2 : (W1.setCell ⟨g, 0, none⟩ (.int .i64 c)).heap[g]? = some (.cells #[.int .i64 c, .int .i64 c] 3 (0, 0)) := by simp [World.setCell, Array.getElem?_modify, HX1.out]
          have b2 : Below g W1 (W1.setCell ⟨g, 0, none⟩ (.int .i64 c)) := (Below.refl _ W1).setCell (p := ⟨g, 0, none⟩) (Nat.le_refl _) _
          obtain ⟨W2, hW2⟩ : ∃ W2, W1.setCell ⟨g, 0, none⟩ (.int .i64 c) = W2 := ⟨_, rfl⟩
          rw [hW2] at hx2 b2 ⊢
          have k1 := cell_of hx2 1 _ rfl
          have f1 := frz hx2 1
          have hcl : ∀ ty, (Builtin.clear_ #[41] ty #[.slice (some ⟨g, 1, none⟩) 1 1]).run Try.prog W2 = .ok (.tuple #[]) (W2.setCells g 1 [.int .i64 0]) :=
            fun ty => Lib.run_clear_slice W2 _ _ ty _ Try.underlying41 v3 rfl rfl g 1 1 _ (by omega) (fun j hj => by have hj : j = 0 := (by omega); subst hj; simp [k1]) (fun j hj => by have hj : j = 0 := (by omega); subst hj; exact f1)
          obtain ⟨s1, s2⟩ := set_1 hx2 (.int .i64 0)
          obtain ⟨W9, hW9⟩ : ∃ W9, W2.setCells g 1 [.int .i64 0] = W9 := ⟨_, rfl⟩
          rw [hW9] at hcl s1 s2
          have S1 : Hid _ := s1
          have S2 : Hid _ := b2.trans s2
          clear s1 s2 hW9 hx2 b2 hW2
          go_wp2_with fail
          go_ret
          exact ⟨1, c, 0, rfl, S1.out, by omega, rfl, (HB1.out.mono (by omega)).trans S2.out, Nat.le_trans HB1.out.size S2.out.size⟩
    | true =>
      have e1 : ixf (fun x => !(x == 0)) 0 [b, c] = 0 := by simp [ixf, h1]
      have e2 : [b, c].filter (fun i => !(i == 0)) = [] := by simp [List.filter, h1, h2]
      rw [e1] at cI
      rw [e2]
      rw [h2] at cZ
      clear e1 e2 hx
      go_enter Try.func154, Try.ntmps154
      go_wp2_with fail
      refine cI.mono ?_
      rintro e W1 ⟨rfl, b1⟩
      have HB1 : Hid (Below w.heap.size w W1) := b1
      have hx1 := (b1.block g hg).trans HX.out
      have HX1 : Hid (W1.heap[g]? = some (.cells #[.int .i64 b, .int .i64 c] 3 (0, 0))) := hx1
      have k0 := cell_of hx1 0 _ rfl
      have k1 := cell_of hx1 1 _ rfl
      have f0 := frz hx1 0
      have f1 := frz hx1 1
      clear b1 cI hx1
      go_wp2_with fail
      go_loopw [5, 6] (fun i j wr => (i = .int .i64 0 ∧ j = .int .i64 1 ∧ wr = W1) ∨ (i = .int .i64 0 ∧ j = .int .i64 2 ∧ wr = W1)) (fun _ j _ => 2 - (intOf j).toNat)
      case atStart => exact .inl ⟨rfl, rfl, rfl⟩
      case round =>
        rcases hrel with ⟨rfl, rfl, rfl⟩ | ⟨rfl, rfl, rfl⟩
        · go_wp2_with (first | (go_at_call 155; refine (cZ _).mono ?_; rintro e w1 ⟨rfl, rfl⟩))
          go_roundw
          case rel => exact .inr ⟨rfl, rfl, trivial⟩
          case measure => simp [intOf]
        · have hcl : ∀ ty, (Builtin.clear_ #[41] ty #[.slice (some ⟨g, 0, none⟩) 2 2]).run Try.prog wr = .ok (.tuple #[]) (wr.setCells g 0 [.int .i64 0, .int .i64 0]) :=
            fun ty => Lib.run_clear_slice wr _ _ ty _ Try.underlying41 v3 rfl rfl g 0 2 _ (by omega) (fun j hj => by rcases (show j = 0 ∨ j = 1 by omega) with hj | hj <;> subst hj <;> simp [k0, k1]) (fun j hj => by rcases (show j = 0 ∨ j = 1 by omega) with hj | hj <;> subst hj <;> first | exact f0 | exact f1)
          obtain ⟨s1, s2⟩ := set_0 HX1.out (.int .i64 0)
          obtain ⟨W9, hW9⟩ : ∃ W9, wr.setCells g 0 [.int .i64 0, .int .i64 0] = W9 := ⟨_, rfl⟩
          rw [hW9] at hcl s1 s2
          have S1 : Hid _ := s1
          have S2 : Hid _ := s2
          clear s1 s2 hW9
          go_wp2_with fail
          go_ret
          exact ⟨0, 0, 0, rfl, S1.out, by omega, rfl, (HB1.out.mono (by omega)).trans S2.out, Nat.le_trans HB1.out.size S2.out.size⟩
/-- What blocksOf answers: a row of its own. -/
def BO (w : World) (l : List Int) (e : Ending) (w' : World) : Prop := ∃ v, e = .returned v ∧ RrS 1 LyI (fun k => w.heap.size ≤ k ∧ k < w'.heap.size) w' v l ∧ Below w.heap.size w w'
theorem row_n {w : World} {S : Nat → Prop} {g n : Nat} {x y : Int} (hx : w.heap[g]? = some (.cells #[.int .i64 x, .int .i64 y] 3 (0, 0))) (hS : S g) (hn : n ≤ 2) {l : List Int} (hl : [x, y].take n = l) (hi : ∀ z ∈ l, i64 z) : RrS 1 LyI S w (.slice (some ⟨g, 0, none⟩) n 2) l := by
  have hlen : l.length = n := by rw [← hl]; simp; omega
  refine ⟨_, 2, by rw [hlen], by omega, by omega, by omega, by simp, .inr ⟨g, 0, rfl, hS, fun j hj => ⟨?_, hi _ (List.getElem_mem hj)⟩⟩⟩
  subst hl
  have hj2 : j < 2 := by simp at hj; omega
  rw [List.getElem_take]
  match j, hj2 with
  | 0, _ => exact cell_of hx 0 _ rfl
  | 1, _ => exact cell_of hx 1 _ rfl
set_option maxRecDepth 20000 in
set_option maxHeartbeats 1600000 in
theorem blocks_c (o : Oq) (a : Option Addr) (cap : Nat) (hb : i64 o.b) (hc : i64 o.c) (w : World) :
    Calls Try.prog 141 #[opv o (.slice a o.l.length cap)] w fun e w' => BO w (bks o) e w' := by
  obtain ⟨W, hW, b0, hs, hx⟩ := box5 w (.int .i64 o.k) (.int .i64 o.a) (.int .i64 o.b) (.int .i64 o.c) (.slice a o.l.length cap) 46
  have c0 := cell_of hx 0 _ rfl
  have c2 := cell_of hx 2 _ rfl
  have c3 := cell_of hx 3 _ rfl
  have HB : Hid (Below w.heap.size w W) := b0
  unfold bks
  obtain ⟨k, x, y, z, l⟩ := o
  dsimp only at *
  clear hx b0
  by_cases h8 : k = 8
  · rw [if_pos h8]
    subst h8
    obtain ⟨W2, hW2⟩ : ∃ W2, W.alloc (.cells #[.int .i64 y, .int .i64 z] 3) = W2 := ⟨_, rfl⟩
    have g2 : W2.heap[w.heap.size + 1]? = some (.cells #[.int .i64 y, .int .i64 z] 3 (0, 0)) := by rw [← hW2, ← hs]; exact heap_alloc_new W _
    have b2 : Below w.heap.size w W2 := by rw [← hW2]; exact HB.out.alloc HB.out.size _
    have s2 : W2.heap.size = w.heap.size + 2 := by rw [← hW2]; simp; omega
    have cD := del_c g2 hb hc
    have H2 : Hid (Below w.heap.size w W2) := b2
    clear b2 g2
    go_enter Try.func141, Try.ntmps141
    go_wp2_with fail
    refine cD.mono ?_
    rintro e W3 ⟨n, p, q, rfl, d1, d2, d3, d4, d5⟩
    have HD : Hid (RrS 1 LyI (fun k => w.heap.size ≤ k ∧ k < W3.heap.size) W3 (.slice (some ⟨w.heap.size + 1, 0, none⟩) n 2) ([y, z].filter (fun i => !(i == 0)))) := row_n d1 ⟨by omega, by omega⟩ d2 d3 (fun t ht => by
      have := (List.mem_filter.1 ht).1
      simp only [List.mem_cons, List.not_mem_nil, or_false] at this
      rcases this with rfl | rfl
      · exact hb
      · exact hc)
    have H3 : Hid (Below w.heap.size w W3) := H2.out.trans (d4.mono (by omega))
    clear cD d1 d2 d3 d4 d5
    go_wp2_with fail
    go_ret
    exact ⟨_, rfl, HD.out, H3.out⟩
  rw [if_neg h8]
  have d8 : (k == 8) = false := by simp [h8]
  by_cases h9 : k = 9 ∨ k = 10
  · rw [if_pos h9]
    obtain ⟨W2, hW2⟩ : ∃ W2, W.alloc (.cells #[.int .i64 z] 3) = W2 := ⟨_, rfl⟩
    have g2 : W2.heap[w.heap.size + 1]? = some (.cells #[.int .i64 z] 3 (0, 0)) := by rw [← hW2, ← hs]; exact heap_alloc_new W _
    have b2 : Below w.heap.size w W2 := by rw [← hW2]; exact HB.out.alloc HB.out.size _
    have s2 : W2.heap.size = w.heap.size + 2 := by rw [← hW2]; simp; omega
    have HD : Hid (RrS 1 LyI (fun k => w.heap.size ≤ k ∧ k < W2.heap.size) W2 (.slice (some ⟨w.heap.size + 1, 0, none⟩) 1 1) [z]) := by
      refine ⟨_, 1, rfl, by simp, by omega, by simp, by simp, .inr ⟨_, 0, rfl, ⟨by omega, by omega⟩, fun j hj => ?_⟩⟩
      obtain rfl : j = 0 := by simp at hj; omega
      exact ⟨cell_of g2 0 _ rfl, hc⟩
    have H2 : Hid (Below w.heap.size w W2) := b2
    clear b2 g2 h8
    rcases h9 with rfl | rfl <;> (
      go_enter Try.func141, Try.ntmps141
      go_wp2_with fail
      go_ret
      exact ⟨_, rfl, HD.out, H2.out⟩)
  rw [if_neg h9]
  have d9 : (k == 9) = false := by simp; omega
  have d10 : (k == 10) = false := by simp; omega
  clear h8 h9
  go_enter Try.func141, Try.ntmps141
  go_wp2_with fail
  go_ret
  exact ⟨_, rfl, ⟨none, 0, rfl, by simp, by omega, by simp, fun _ => rfl, .inl rfl⟩, HB.out⟩
end Go.Proofs.Ytgknjjaemjkloaa.BDf

/- Rows that hold the same are the same: operations, blocks. -/
import Derived.Test.YthclndiekjaalaaYSm
namespace Go.Proofs.Ythclndiekjaalaa.YSp
open Go.RowKit Go.Proofs.Ythclndiekjaalaa.YPl Go.Proofs.Ythclndiekjaalaa.YRr Go.Proofs.Ythclndiekjaalaa.YSm
set_option linter.unusedVariables false

theorem bdn {B : Nat} {a w : World} (h : Below B a w) (n : Nat) : Below B a (w.drewN n) := h.trans ⟨rfl, rfl, rfl, Nat.le_refl _, fun _ _ => rfl⟩
theorem rr_i {K : Nat} {w w' : World} {v : Value} {l : List Int} (h : Rr 1 LyI K w v l) (hb : Below K w w') : Rr 1 LyI K w' v l := h.keep (Nat.le_refl _) fun g o x _ hg h => h.below hb hg
theorem rr_o {K : Nat} {w w' : World} {v : Value} {l : List Oq} (h : Rr 5 (LyO K) K w v l) (hb : Below K w w') : Rr 5 (LyO K) K w' v l := h.keep (Nat.le_refl _) fun g o x _ hg h => h.below hb hg
theorem rr_sl {α : Type} {n K : Nat} {Ly : World → Nat → Nat → α → Prop} {w : World} {v : Value} {l : List α} (h : Rr n Ly K w v l) : ∃ a c, v = .slice a l.length c := by obtain ⟨a, c, h, -⟩ := h; exact ⟨a, c, h⟩
set_option maxRecDepth 20000 in
set_option maxHeartbeats 1600000 in
theorem same_op {K : Nat} {w : World} {u v : Value} (x : Oq) (hu : Rr 1 LyI K w u x.l) (hv : Rr 1 LyI K w v x.l) (hK : K ≤ w.heap.size) :
    Calls Try.prog 126 #[.agg #[.int .i64 x.k, .int .i64 x.a, .int .i64 x.b, .int .i64 x.c, u], .agg #[.int .i64 x.k, .int .i64 x.a, .int .i64 x.b, .int .i64 x.c, v]] w fun e w' => e = .returned (.bool true) ∧ Below w.heap.size w w' := by
  obtain ⟨ua, uc, rfl⟩ := rr_sl hu
  obtain ⟨va, vc, rfl⟩ := rr_sl hv
  obtain ⟨W0, hW0⟩ : ∃ W0, (w.alloc (.cells #[.int .i64 x.k, .int .i64 x.a, .int .i64 x.b, .int .i64 x.c, .slice ua x.l.length uc] 46)).alloc (.cells #[.int .i64 x.k, .int .i64 x.a, .int .i64 x.b, .int .i64 x.c, .slice va x.l.length vc] 46) = W0 := ⟨_, rfl⟩
  have hb0 : Below w.heap.size w W0 := by rw [← hW0]; exact ((Below.refl _ w).alloc (Nat.le_refl _) _).alloc (by simp) _
  have hx0 : W0.heap[w.heap.size]? = some (.cells #[.int .i64 x.k, .int .i64 x.a, .int .i64 x.b, .int .i64 x.c, .slice ua x.l.length uc] 46 (0, 0)) := by
    rw [← hW0, Below.heap_alloc _ _ _ (by simp), heap_alloc_new]
  have hx1 : W0.heap[w.heap.size + 1]? = some (.cells #[.int .i64 x.k, .int .i64 x.a, .int .i64 x.b, .int .i64 x.c, .slice va x.l.length vc] 46 (0, 0)) := by
    have := heap_alloc_new (w.alloc (.cells #[.int .i64 x.k, .int .i64 x.a, .int .i64 x.b, .int .i64 x.c, .slice ua x.l.length uc] 46)) (.cells #[.int .i64 x.k, .int .i64 x.a, .int .i64 x.b, .int .i64 x.c, .slice va x.l.length vc] 46)
    rwa [hW0, World.size_alloc] at this
  have cI := same_i (rr_i hu (hb0.mono hK)) (rr_i hv (hb0.mono hK)) (Nat.le_trans hK hb0.size)
  have d0 := cell_of hx0 0 _ rfl
  have d1 := cell_of hx0 1 _ rfl
  have d2 := cell_of hx0 2 _ rfl
  have d3 := cell_of hx0 3 _ rfl
  have d4 := cell_of hx0 4 _ rfl
  have e0 := cell_of hx1 0 _ rfl
  have e1 := cell_of hx1 1 _ rfl
  have e2 := cell_of hx1 2 _ rfl
  have e3 := cell_of hx1 3 _ rfl
  have e4 := cell_of hx1 4 _ rfl
  have HB : Hid _ := hb0
  clear hx0 hx1 hb0 hu hv
  go_enter Try.func126, Try.ntmps126
  go_wp2_with fail
  try rw [hW0]
  refine cI.mono ?_
  rintro e w1 ⟨rfl, k, rfl⟩
  go_wp2_with fail
  go_ret
  exact ⟨rfl, bdn HB.out k⟩
set_option maxRecDepth 20000 in
set_option maxHeartbeats 1600000 in
theorem same_os {K : Nat} {w : World} {u v : Value} {l : List Oq} (hu : Rr 5 (LyO K) K w u l) (hv : Rr 5 (LyO K) K w v l) (hK : K ≤ w.heap.size) :
    Calls Try.prog 88 #[u, v] w fun e w' => e = .returned (.bool true) ∧ Below w.heap.size w w' := by
  obtain ⟨a, cap, rfl, hlc, hcm, hlb, hnil, hrow⟩ := hu
  obtain ⟨a', cap', rfl, hlc', hcm', -, hnil', hrow'⟩ := hv
  have HR : Hid _ := hrow
  have HR' : Hid _ := hrow'
  clear hrow hrow'
  go_enter Try.func88, Try.ntmps88
  go_wp2_with fail
  go_loopw [5] (fun i wr => ∃ q : Nat, i = .int .i64 q ∧ q ≤ l.length ∧ Below w.heap.size w wr) (fun i _ => l.length - (intOf i).toNat)
  case atStart => exact ⟨0, rfl, by omega, Below.refl _ _⟩
  case round =>
    obtain ⟨q, rfl, hq, hb⟩ := hrel
    by_cases hlt : q < l.length
    · rcases HR.out with h0 | ⟨g, o, rfl, hg, hc⟩
      · rw [h0] at hlt; simp at hlt
      rcases HR'.out with h0 | ⟨g', o', rfl, hg', hc'⟩
      · rw [h0] at hlt; simp at hlt
      have bK := hb.mono hK
      have he := (hc q hlt).below bK hg
      have hf := (hc' q hlt).below bK hg'
      obtain ⟨x, hx⟩ : ∃ x, l[q] = x := ⟨_, rfl⟩
      rw [hx] at he hf
      obtain ⟨y, p0, p1, p2, p3, p4, -, pr⟩ := he
      obtain ⟨z, q0, q1, q2, q3, q4, -, qr⟩ := hf
      have hd := (Below.refl wr.heap.size wr).drew
      have hKw := Nat.le_trans hK hb.size
      have cS := same_op (w := wr.drew) x (rr_i pr (hd.mono hKw)) (rr_i qr (hd.mono hKw)) hKw
      obtain ⟨ya, yc, rfl⟩ := rr_sl pr
      obtain ⟨za, zc, rfl⟩ := rr_sl qr
      clear pr qr
      clear hc hc' bK
      go_wp2_with fail
      go_region_with (go_at_call 126; refine cS.mono ?_; rintro e w1 ⟨rfl, b1⟩)
      all_goals go_wp2_with fail
      all_goals go_roundw
      all_goals first
        | (case rel => exact ⟨q + 1, by go_num, by omega, hb.drew.trans (b1.mono hb.size)⟩)
        | (case measure => simp only [intOf]; omega)
    · have hlt' : decide ((q : Int) < (l.length : Int)) = false := by simp; omega
      go_wp2_with fail
      go_ret
      exact ⟨rfl, hb⟩
set_option maxRecDepth 20000 in
set_option maxHeartbeats 1600000 in
theorem same_bk {K : Nat} {w : World} {u v u' v' : Value} (x : Bk) (hu : Rr 5 (LyO K) K w u x.o) (hv : Rr 5 (LyO K) K w v x.o) (hu' : Rr 1 LyI K w u' x.u) (hv' : Rr 1 LyI K w v' x.u) (hK : K ≤ w.heap.size) :
    Calls Try.prog 52 #[.agg #[.int .i64 x.d, u, u'], .agg #[.int .i64 x.d, v, v']] w fun e w' => e = .returned (.bool true) ∧ Below w.heap.size w w' := by
  obtain ⟨ua, uc, rfl⟩ := rr_sl hu
  obtain ⟨va, vc, rfl⟩ := rr_sl hv
  obtain ⟨xa, xc, rfl⟩ := rr_sl hu'
  obtain ⟨ya, yc, rfl⟩ := rr_sl hv'
  obtain ⟨A, hA⟩ : ∃ A, Obj.cells #[.int .i64 x.d, .slice ua x.o.length uc, .slice xa x.u.length xc] 44 (0, 0) = A := ⟨_, rfl⟩
  obtain ⟨B, hB⟩ : ∃ B, Obj.cells #[.int .i64 x.d, .slice va x.o.length vc, .slice ya x.u.length yc] 44 (0, 0) = B := ⟨_, rfl⟩
  obtain ⟨W0, hW0⟩ : ∃ W0, (w.alloc A).alloc B = W0 := ⟨_, rfl⟩
  have hb0 : Below w.heap.size w W0 := by rw [← hW0]; exact ((Below.refl _ w).alloc (Nat.le_refl _) _).alloc (by simp) _
  have hz0 : W0.heap.size = w.heap.size + 2 := by rw [← hW0]; simp
  have hx0 : W0.heap[w.heap.size]? = some A := by rw [← hW0, Below.heap_alloc _ _ _ (by simp), heap_alloc_new]
  have hx1 : W0.heap[w.heap.size + 1]? = some B := by
    have := heap_alloc_new (w.alloc A) B
    rwa [hW0, World.size_alloc] at this
  rw [← hA] at hx0
  rw [← hB] at hx1
  have cO := same_os (rr_o hu (hb0.mono hK)) (rr_o hv (hb0.mono hK)) (Nat.le_trans hK hb0.size)
  have cI := fun W1 (hb1 : Below W0.heap.size W0 W1) => same_i (rr_i (rr_i hu' (hb0.mono hK)) (hb1.mono (Nat.le_trans hK hb0.size))) (rr_i (rr_i hv' (hb0.mono hK)) (hb1.mono (Nat.le_trans hK hb0.size))) (Nat.le_trans hK (Nat.le_trans hb0.size hb1.size))
  have d0 := cell_of hx0 0 _ rfl
  have d1 := cell_of hx0 1 _ rfl
  have e0 := cell_of hx1 0 _ rfl
  have e1 := cell_of hx1 1 _ rfl
  have HB : Hid _ := hb0
  have HX0 : Hid _ := hx0
  have HX1 : Hid _ := hx1
  clear hx0 hx1 hb0 hu hv hu' hv'
  go_enter Try.func52, Try.ntmps52
  go_wp2_with fail
  try rw [hA, hB]
  try rw [hW0]
  refine cO.mono ?_
  rintro e W1 ⟨rfl, b1⟩
  have cI := cI W1 b1
  have d2 := cell_of ((b1.block w.heap.size (by omega)).trans HX0.out) 2 _ rfl
  have e2 := cell_of ((b1.block (w.heap.size + 1) (by omega)).trans HX1.out) 2 _ rfl
  have HB1 : Hid (Below w.heap.size w W1) := HB.out.trans (b1.mono HB.out.size)
  clear cO b1 d0 d1 e0 e1 hW0 hA hB
  go_wp2_with fail
  refine cI.mono ?_
  rintro e w1 ⟨rfl, k, rfl⟩
  go_wp2_with fail
  go_ret
  exact ⟨rfl, bdn HB1.out k⟩
set_option maxRecDepth 20000 in
set_option maxHeartbeats 1600000 in
theorem same_bs {K : Nat} {w : World} {u v : Value} {l : List Bk} (hu : Rr 3 (LyB K) K w u l) (hv : Rr 3 (LyB K) K w v l) (hK : K ≤ w.heap.size) :
    Calls Try.prog 26 #[u, v] w fun e w' => e = .returned (.bool true) ∧ Below w.heap.size w w' := by
  obtain ⟨a, cap, rfl, hlc, hcm, hlb, hnil, hrow⟩ := hu
  obtain ⟨a', cap', rfl, hlc', hcm', -, hnil', hrow'⟩ := hv
  have HR : Hid _ := hrow
  have HR' : Hid _ := hrow'
  clear hrow hrow'
  go_enter Try.func26, Try.ntmps26
  go_wp2_with fail
  go_loopw [5] (fun i wr => ∃ q : Nat, i = .int .i64 q ∧ q ≤ l.length ∧ Below w.heap.size w wr) (fun i _ => l.length - (intOf i).toNat)
  case atStart => exact ⟨0, rfl, by omega, Below.refl _ _⟩
  case round =>
    obtain ⟨q, rfl, hq, hb⟩ := hrel
    by_cases hlt : q < l.length
    · rcases HR.out with h0 | ⟨g, o, rfl, hg, hc⟩
      · rw [h0] at hlt; simp at hlt
      rcases HR'.out with h0 | ⟨g', o', rfl, hg', hc'⟩
      · rw [h0] at hlt; simp at hlt
      have bK := hb.mono hK
      have he := (hc q hlt).below bK hg
      have hf := (hc' q hlt).below bK hg'
      obtain ⟨x, hx⟩ : ∃ x, l[q] = x := ⟨_, rfl⟩
      rw [hx] at he hf
      obtain ⟨y, y', p0, p1, p2, -, pr, pr'⟩ := he
      obtain ⟨z, z', q0, q1, q2, -, qr, qr'⟩ := hf
      have hd := (Below.refl wr.heap.size wr).drew
      have hKw := Nat.le_trans hK hb.size
      have cS := same_bk (w := wr.drew) x (rr_o pr (hd.mono hKw)) (rr_o qr (hd.mono hKw)) (rr_i pr' (hd.mono hKw)) (rr_i qr' (hd.mono hKw)) hKw
      obtain ⟨ya, yc, rfl⟩ := rr_sl pr
      obtain ⟨za, zc, rfl⟩ := rr_sl qr
      obtain ⟨xa, xc, rfl⟩ := rr_sl pr'
      obtain ⟨ta, tc, rfl⟩ := rr_sl qr'
      clear pr qr pr' qr'
      clear hc hc' bK
      go_wp2_with fail
      go_region_with (go_at_call 52; refine cS.mono ?_; rintro e w1 ⟨rfl, b1⟩)
      all_goals go_wp2_with fail
      all_goals go_roundw
      all_goals first
        | (case rel => exact ⟨q + 1, by go_num, by omega, hb.drew.trans (b1.mono hb.size)⟩)
        | (case measure => simp only [intOf]; omega)
    · have hlt' : decide ((q : Int) < (l.length : Int)) = false := by simp; omega
      go_wp2_with fail
      go_ret
      exact ⟨rfl, hb⟩
end Go.Proofs.Ythclndiekjaalaa.YSp

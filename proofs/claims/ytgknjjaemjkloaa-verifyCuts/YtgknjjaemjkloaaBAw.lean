/- awake (stencillaw22): small programs. -/
import Derived.Test.YtgknjjaemjkloaaZTk
import Derived.Laws.BytesArg
import Derived.Test.YtgknjjaemjkloaaBVf
namespace Go.Proofs.Ytgknjjaemjkloaa.Leb
set_option linter.unusedVariables false
open Go.ChangeShapes Go.WideShapes Go.ChangeAt Go.RowKit

theorem seen_conv {w : World} {v : Value} {L : List UInt8} (h : Seen w v L) : (convert 30 9 v).run Try.prog w = .ok (.string ⟨L.toArray⟩) w := by
  obtain ⟨a, cap, rfl, hlc, hm, hnil, hcell⟩ := h
  cases a with
  | none =>
    have := hnil rfl
    obtain rfl : L = [] := List.eq_nil_of_length_eq_zero (by omega)
    exact run_convert_bytes_nil (P := Try.prog) w 30 5 Try.underlying30 Try.underlying5 _ _ 9 Try.underlying9
  | some x =>
    obtain ⟨g, o, sp⟩ := x
    refine run_convert_bytes_back (P := Try.prog) w 30 9 5 ⟨g, o, sp⟩ cap L Try.underlying30 Try.underlying5 Try.underlying9 fun j hj => ?_
    obtain ⟨rfl, hc⟩ := hcell g o sp rfl j hj
    rw [add_none]
    exact hc
theorem same_c (v u : Value) (L : List UInt8) (w : World) (h1 : Seen w v L) (h2 : Seen w u L) :
    Calls Try.prog 17 #[v, u] w fun e w' => e = .returned (.bool true) ∧ w' = w := by
  have c1 := seen_conv h1
  have c2 := seen_conv h2
  go_enter Try.func17, Try.ntmps17
  go_wp2
  go_ret
  exact ⟨rfl, rfl⟩
theorem num_c (k : Int) (w : World) : Calls Try.prog 10 #[.int .i64 k] w fun e w' => e = .returned (.int .i64 k) ∧ w' = w := by
  go_enter Try.func10, Try.ntmps10
  go_wp2
  go_ret
  exact ⟨rfl, rfl⟩
theorem cellsL_seen {w : World} {g o : Nat} {L : List UInt8} (h : ∀ j (hj : j < L.length), w.cell? ⟨g, o + j, none⟩ = some (.int .u8 (L[j].toNat : Int))) (j : Nat) (u : Value) (hj : (cellsL L)[j]? = some u) : w.cell? ((⟨g, o, none⟩ : Addr).add j) = some u := by
  have hl : j < L.length := by
    have := (List.getElem?_eq_some_iff.1 hj).1
    rwa [cellsL_length] at this
  rw [add_none, h j hl]
  simp [cellsL, List.getElem?_eq_getElem hl] at hj
  rw [hj]
end Go.Proofs.Ytgknjjaemjkloaa.Leb

namespace Go.Proofs.Ytgknjjaemjkloaa.BAw
open Go.Proofs.Ytgknjjaemjkloaa.Tak
open Go.RowKit Go.Proofs.Ytgknjjaemjkloaa.BPl Go.Proofs.Ytgknjjaemjkloaa.YRr Go.Proofs.Ytgknjjaemjkloaa.YRs Go.Proofs.Ytgknjjaemjkloaa.BBx Go.Proofs.Ytgknjjaemjkloaa.BIx Go.Proofs.Ytgknjjaemjkloaa.BSm Go.Proofs.Ytgknjjaemjkloaa.BIn Go.Proofs.Ytgknjjaemjkloaa.BVf
open Go.Proofs.Ytgknjjaemjkloaa.BSf (hid)
open Go.Proofs.Ytgknjjaemjkloaa.YPl (Oq Bk Pg)
open Go.Proofs.Ytgknjjaemjkloaa.YEn (InPg)
open Go.Proofs.Ytgknjjaemjkloaa.TBase (heap_alloc_new)
set_option linter.unusedVariables false

def ta : ByteArray := ⟨#[97]⟩
def tp : ByteArray := ⟨#[112]⟩
/-- The small program, with its first n operations. -/
def smo : List Oq := [⟨3, 1, 0, 0, []⟩, ⟨1, 0, 0, 0, []⟩, ⟨6, 0, 0, 0, []⟩]
def smP (n : Nat) : Pg := ⟨[ta, tp], [], [], [⟨1, smo.take n, [1]⟩]⟩
theorem vf_3 : vf (smP 3) = (0, 0, 0) := by decide +kernel
theorem vf_2 : vf (smP 2) = (0, 2, 2204) := by decide +kernel
theorem vf_0 : vf ⟨[], [], [], []⟩ = (0, 0, 2205) := by decide +kernel
/-- Its rows in memory. -/
def Sm (w : World) (n g1 g2 g3 g4 : Nat) : Prop :=
  w.heap[g1]? = some (.cells #[.string ta, .string tp] 9 (0, 0)) ∧
  w.heap[g2]? = some (.cells #[.int .i64 3, .int .i64 1, .int .i64 0, .int .i64 0, .slice none 0 0, .int .i64 1, .int .i64 0, .int .i64 0, .int .i64 0, .slice none 0 0, .int .i64 6, .int .i64 0, .int .i64 0, .int .i64 0, .slice none 0 0] 46 (0, 0)) ∧
  w.heap[g3]? = some (.cells #[.int .i64 1] 3 (0, 0)) ∧
  w.heap[g4]? = some (.cells #[.int .i64 1, .slice (some ⟨g2, 0, none⟩) n 3, .slice (some ⟨g3, 0, none⟩) 1 1] 44 (0, 0))
theorem Sm.lt {w : World} {n g1 g2 g3 g4 : Nat} (h : Sm w n g1 g2 g3 g4) : g1 < w.heap.size ∧ g2 < w.heap.size ∧ g3 < w.heap.size ∧ g4 < w.heap.size :=
  ⟨(Array.getElem?_eq_some_iff.1 h.1).1, (Array.getElem?_eq_some_iff.1 h.2.1).1, (Array.getElem?_eq_some_iff.1 h.2.2.1).1, (Array.getElem?_eq_some_iff.1 h.2.2.2).1⟩
theorem Sm.keep {w w' : World} {n g1 g2 g3 g4 : Nat} (h : Sm w n g1 g2 g3 g4) (hb : Below w.heap.size w w') : Sm w' n g1 g2 g3 g4 :=
  ⟨(hb.block g1 h.lt.1).trans h.1, (hb.block g2 h.lt.2.1).trans h.2.1, (hb.block g3 h.lt.2.2.1).trans h.2.2.1, (hb.block g4 h.lt.2.2.2).trans h.2.2.2⟩
theorem rr_nil {α : Type} {n K : Nat} {Ly : World → Nat → Nat → α → Prop} {w : World} : Rr n Ly K w (.slice none 0 0) ([] : List α) := ⟨none, 0, rfl, Nat.le_refl _, by omega, by simp, fun _ => rfl, .inl rfl⟩
theorem sm_in {w : World} {n g1 g2 g3 g4 : Nat} (h : Sm w n g1 g2 g3 g4) (hn : n ≤ 3) : InPg w.heap.size 1 w (.agg #[.slice (some ⟨g1, 0, none⟩) 2 2, .slice none 0 0, .slice none 0 0, .slice (some ⟨g4, 0, none⟩) 1 1]) (smP n) := by
  have hl := h.lt
  obtain ⟨h1, h2, h3, h4⟩ := h
  refine ⟨_, _, _, _, _, _, _, _, _, _, _, _, rfl, ⟨some ⟨g1, 0, none⟩, 2, rfl, Nat.le_refl _, by omega, by simp [smP], (by intro e; cases e), .inr ⟨g1, 0, rfl, hl.1, fun j hj => ?_⟩⟩, rr_nil, ⟨none, 0, rfl, Nat.le_refl _, by omega, by simp [smP], (fun _ => rfl), .inl ⟨rfl, rfl⟩⟩, ⟨some ⟨g4, 0, none⟩, 1, rfl, Nat.le_refl _, by omega, by simp [smP], (by intro e; cases e), .inr ⟨g4, 0, rfl, hl.2.2.2, fun j hj => ?_⟩⟩⟩
  · have hj2 : j < 2 := hj
    match j, hj2 with
    | 0, _ => exact ⟨cell_of h1 0 _ rfl, (by decide : ta.size ≤ 140737488351232)⟩
    | 1, _ => exact ⟨cell_of h1 1 _ rfl, (by decide : tp.size ≤ 140737488351232)⟩
  · have hj1 : j < 1 := hj
    match j, hj1 with
    | 0, _ =>
      have hlen : (smo.take n).length = n := by rw [List.length_take]; show min n 3 = n; omega
      refine ⟨.slice (some ⟨g2, 0, none⟩) n 3, .slice (some ⟨g3, 0, none⟩) 1 1, cell_of h4 0 _ rfl, cell_of h4 1 _ rfl, cell_of h4 2 _ rfl, (⟨by decide, by decide⟩ : i64 1), ⟨some ⟨g2, 0, none⟩, 3, ?_, ?_, by omega, ?_, (by intro e; cases e), .inr ⟨g2, 0, rfl, hl.2.1, fun i hi => ?_⟩⟩, ⟨some ⟨g3, 0, none⟩, 1, rfl, Nat.le_refl _, by omega, by simp [smP], (by intro e; cases e), .inr ⟨g3, 0, rfl, hl.2.2.1, fun i hi => ?_⟩⟩⟩
      · show _ = Value.slice _ (smo.take n).length 3
        rw [hlen]
      · show (smo.take n).length ≤ 3
        omega
      · show (smo.take n).length ≤ _
        omega
      · have hi' : i < (smo.take n).length := hi
        have hi3 : i < 3 := by omega
        show LyO _ w g2 (0 + i * 5) (smo.take n)[i]
        rw [List.getElem_take]
        match i, hi3 with
        | 0, _ => exact ⟨.slice none 0 0, cell_of h2 0 _ rfl, cell_of h2 1 _ rfl, cell_of h2 2 _ rfl, cell_of h2 3 _ rfl, cell_of h2 4 _ rfl, (⟨⟨by decide, by decide⟩, ⟨by decide, by decide⟩, ⟨by decide, by decide⟩, ⟨by decide, by decide⟩⟩ : i64 3 ∧ i64 1 ∧ i64 0 ∧ i64 0), rr_nil⟩
        | 1, _ => exact ⟨.slice none 0 0, cell_of h2 5 _ rfl, cell_of h2 6 _ rfl, cell_of h2 7 _ rfl, cell_of h2 8 _ rfl, cell_of h2 9 _ rfl, (⟨⟨by decide, by decide⟩, ⟨by decide, by decide⟩, ⟨by decide, by decide⟩, ⟨by decide, by decide⟩⟩ : i64 1 ∧ i64 0 ∧ i64 0 ∧ i64 0), rr_nil⟩
        | 2, _ => exact ⟨.slice none 0 0, cell_of h2 10 _ rfl, cell_of h2 11 _ rfl, cell_of h2 12 _ rfl, cell_of h2 13 _ rfl, cell_of h2 14 _ rfl, (⟨⟨by decide, by decide⟩, ⟨by decide, by decide⟩, ⟨by decide, by decide⟩, ⟨by decide, by decide⟩⟩ : i64 6 ∧ i64 0 ∧ i64 0 ∧ i64 0), rr_nil⟩
      · have hi' : i < 1 := hi
        match i, hi' with
        | 0, _ => exact ⟨cell_of h3 0 _ rfl, (⟨by decide, by decide⟩ : i64 1)⟩
theorem em_in (w : World) : InPg w.heap.size 1 w (.agg #[.slice none 0 0, .slice none 0 0, .slice none 0 0, .slice none 0 0]) ⟨[], [], [], []⟩ :=
  ⟨_, _, _, _, _, _, _, _, _, _, _, _, rfl, rr_nil, rr_nil, ⟨none, 0, rfl, Nat.le_refl _, by omega, by simp, (fun _ => rfl), .inl ⟨rfl, rfl⟩⟩, rr_nil⟩
theorem five (w : World) (c1 c2 c3 c4 c5 : Array Value) (t1 t2 t3 t4 t5 : TypeId) : ∃ W, ((((w.alloc (.cells c1 t1)).alloc (.cells c2 t2)).alloc (.cells c3 t3)).alloc (.cells c4 t4)).alloc (.cells c5 t5) = W ∧ Below w.heap.size w W ∧ W.heap[w.heap.size]? = some (.cells c1 t1 (0, 0)) ∧ W.heap[w.heap.size + 1]? = some (.cells c2 t2 (0, 0)) ∧ W.heap[w.heap.size + 1 + 1]? = some (.cells c3 t3 (0, 0)) ∧ W.heap[w.heap.size + 1 + 1 + 1]? = some (.cells c4 t4 (0, 0)) ∧ W.heap[w.heap.size + 1 + 1 + 1 + 1]? = some (.cells c5 t5 (0, 0)) := by
  obtain ⟨W, hW, b, hs, h1, h2, h3⟩ := three w c1 c2 c3 t1 t2 t3
  rw [hW]
  have b4 := (Below.refl W.heap.size W).alloc (Nat.le_refl _) (.cells c4 t4)
  have s4 : (W.alloc (.cells c4 t4)).heap.size = W.heap.size + 1 := by simp
  have b5 := (Below.refl (W.alloc (.cells c4 t4)).heap.size (W.alloc (.cells c4 t4))).alloc (Nat.le_refl _) (.cells c5 t5)
  have n4 := heap_alloc_new W (.cells c4 t4)
  have n5 := heap_alloc_new (W.alloc (.cells c4 t4)) (.cells c5 t5)
  have bb := b4.trans (b5.mono (by omega))
  refine ⟨_, rfl, b.trans (bb.mono (by omega)), (bb.block _ (by omega)).trans h1, (bb.block _ (by omega)).trans h2, (bb.block _ (by omega)).trans h3, ?_, ?_⟩
  · have e : w.heap.size + 1 + 1 + 1 = W.heap.size := by omega
    rw [e]
    exact (b5.block _ (by omega)).trans n4
  · have e : w.heap.size + 1 + 1 + 1 + 1 = (W.alloc (.cells c4 t4)).heap.size := by omega
    rw [e]
    exact n5
set_option maxRecDepth 20000 in
set_option maxHeartbeats 1600000 in
theorem small_c (w : World) :
    Calls Try.prog 27 #[] w fun e w' => ∃ g1 g2 g3 g4, e = .returned (.agg #[.slice (some ⟨g1, 0, none⟩) 2 2, .slice none 0 0, .slice none 0 0, .slice (some ⟨g4, 0, none⟩) 1 1]) ∧ Sm w' 3 g1 g2 g3 g4 ∧ (w.heap.size ≤ g1 ∧ w.heap.size ≤ g4 ∧ g4 ≠ g1 ∧ g4 ≠ g2 ∧ g4 ≠ g3) ∧ Below w.heap.size w w' := by
  obtain ⟨W, hW, b0, x0, x1, x2, x3, x4⟩ := five w #[.slice (some ⟨w.heap.size + 1, 0, none⟩) 2 2, .slice none 0 0, .slice none 0 0, .slice (some ⟨w.heap.size + 1 + 1 + 1 + 1, 0, none⟩) 1 1] #[.string ta, .string tp] #[.int .i64 3, .int .i64 1, .int .i64 0, .int .i64 0, .slice none 0 0, .int .i64 1, .int .i64 0, .int .i64 0, .int .i64 0, .slice none 0 0, .int .i64 6, .int .i64 0, .int .i64 0, .int .i64 0, .slice none 0 0] #[.int .i64 1] #[.int .i64 1, .slice (some ⟨w.heap.size + 1 + 1, 0, none⟩) 3 3, .slice (some ⟨w.heap.size + 1 + 1 + 1, 0, none⟩) 1 1] 27 9 46 3 44
  have HW := hid hW
  have HB := hid b0
  have H0 := hid x0
  have HS := hid (⟨x1, x2, x3, x4⟩ : Sm W 3 (w.heap.size + 1) (w.heap.size + 1 + 1) (w.heap.size + 1 + 1 + 1) (w.heap.size + 1 + 1 + 1 + 1))
  clear hW b0 x0 x1 x2 x3 x4
  unfold ta tp at HW
  go_enter Try.func27, Try.ntmps27
  go_wp2_with fail
  rw [HW.out]
  refine bodyPost_ret (results_cell_row rfl _ W w.heap.size 27 _ (0, 0) _ rfl H0.out Try.underlying27 rfl (by kernel_rfl)) rfl ?_
  exact ⟨_, _, _, _, rfl, HS.out, ⟨by omega, by omega, by omega, by omega, by omega⟩, HB.out⟩
set_option maxRecDepth 20000 in
set_option maxHeartbeats 3200000 in
theorem awake_c (w : World) : Calls Try.prog 13 #[] w fun e w' => e = .returned (.bool true) ∧ Below w.heap.size w w' := by
  have cS := small_c w
  go_enter Try.func13, Try.ntmps13
  go_wp2_with fail
  refine cS.mono ?_
  rintro e W1 ⟨j1, j2, j3, j4, rfl, hS, -, b1⟩
  have cV := verify_c (sm_in hS (by omega)) (Nat.le_refl _)
  rw [vf_3] at cV
  have HB1 := hid b1
  clear cS hS b1
  go_wp2_with fail
  refine cV.mono ?_
  rintro e W2 ⟨rfl, b2⟩
  have HB2 := hid (HB1.out.trans (b2.mono HB1.out.size) : Below w.heap.size w W2)
  have cS2 := small_c W2
  clear cV b2 HB1
  go_wp2_with fail
  refine cS2.mono ?_
  rintro e W3 ⟨g1, g2, g3, g4, rfl, hS, ⟨hg1, hg4, hn1, hn2, hn3⟩, b3⟩
  have HB3 := hid (HB2.out.trans (b3.mono HB2.out.size) : Below w.heap.size w W3)
  have HS3 := hid hS
  have hl := hS.lt
  obtain ⟨W4, hW4⟩ : ∃ W4, W3.alloc (.cells #[.slice (some ⟨g1, 0, none⟩) 2 2, .slice none 0 0, .slice none 0 0, .slice (some ⟨g4, 0, none⟩) 1 1] 27) = W4 := ⟨_, rfl⟩
  have b4 : Below W3.heap.size W3 W4 := by rw [← hW4]; exact (Below.refl _ _).alloc (Nat.le_refl _) _
  have x4 : W4.heap[W3.heap.size]? = some (.cells #[.slice (some ⟨g1, 0, none⟩) 2 2, .slice none 0 0, .slice none 0 0, .slice (some ⟨g4, 0, none⟩) 1 1] 27 (0, 0)) := by rw [← hW4]; exact heap_alloc_new W3 _
  have hS4 := hS.keep b4
  obtain ⟨p0, p1, p2, p3⟩ := TBase.four_box x4
  have q1 := cell_of hS4.2.2.2 1 _ rfl
  have f1 := frz hS4.2.2.2 1
  obtain ⟨W5, hW5⟩ : ∃ W5, (W4.setCell ⟨g4, 1, none⟩ (.slice (some ⟨g2, 0, none⟩) 2 3)).drew = W5 := ⟨_, rfl⟩
  have k5 : ∀ k, k ≠ g4 → W5.heap[k]? = W4.heap[k]? := fun k hk => by rw [← hW5]; exact Below.heap_setCell _ _ _ _ hk
  have hS5 : Sm W5 2 g1 g2 g3 g4 := ⟨(k5 g1 hn1.symm).trans hS4.1, (k5 g2 hn2.symm).trans hS4.2.1, (k5 g3 hn3.symm).trans hS4.2.2.1, by rw [← hW5]; exact cell_set hS4.2.2.2 1 _⟩
  have x5 := (k5 W3.heap.size (by omega)).trans x4
  have b5 : Below w.heap.size w W5 := by
    have h1 := HB3.out.trans (b4.mono HB3.out.size)
    have h2 := HB2.out.size
    rw [← hW5]
    exact (h1.setCell (p := ⟨g4, 1, none⟩) (show w.heap.size ≤ g4 by omega) _).drew
  have HB5 := hid b5
  have cV2 := verify_c (sm_in hS5 (by omega)) (Nat.le_refl _)
  rw [vf_2] at cV2
  obtain ⟨r0, r1, r2, r3⟩ := TBase.four_box x5
  have HR := hid (⟨r0, r1, r2, r3⟩ : _ ∧ _ ∧ _ ∧ _)
  have HW5 := hid hW5
  clear cS2 hS b3 b4 x4 hS4 k5 hS5 x5 b5 r0 r1 r2 r3 hW5 hl hn1 hn2 hn3 HS3
  go_wp2_with fail
  go_region
  rw [HW5.out]
  obtain ⟨r0, r1, r2, r3⟩ := HR.out
  clear p0 p1 p2 p3 q1 f1 hW4
  go_wp2_with fail
  refine cV2.mono ?_
  rintro e W6 ⟨rfl, b6⟩
  have HB6 := hid (HB5.out.trans (b6.mono HB5.out.size) : Below w.heap.size w W6)
  have cV3 := verify_c (em_in W6) (Nat.le_refl _)
  rw [vf_0] at cV3
  clear cV2 b6 r0 r1 r2 r3
  go_wp2_with fail
  refine cV3.mono ?_
  rintro e W7 ⟨rfl, b7⟩
  have HB7 := hid (HB6.out.trans (b7.mono HB6.out.size) : Below w.heap.size w W7)
  have cN (k : Int) : Calls Try.prog 10 #[.int .i64 k] W7 fun e w' => e = .returned (.int .i64 k) ∧ W7 = w' := (Leb.num_c k W7).mono fun e w' h => ⟨h.1, h.2.symm⟩
  clear cV3 b7
  go_wp2_with (first | (go_at_call 10; refine (cN _).mono ?_; rintro e w9 ⟨rfl, h9⟩; obtain rfl := h9))
  go_ret
  exact ⟨rfl, HB7.out⟩
end Go.Proofs.Ytgknjjaemjkloaa.BAw

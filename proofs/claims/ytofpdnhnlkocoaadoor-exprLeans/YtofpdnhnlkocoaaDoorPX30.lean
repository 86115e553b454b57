import Derived.BigQuiet
import Derived.Laws.BitsLemmas
import Derived.WalkKit
import Derived.Test.YtofpdnhnlkocoaaDoorPX21
import Derived.Test.YtofpdnhnlkocoaaDoorPX25
import Derived.Test.YtofpdnhnlkocoaaDoorPX26
import Derived.Test.YtofpdnhnlkocoaaDoorPX28
import Derived.Test.YtofpdnhnlkocoaaDoorPX29
namespace Go.Proofs.YtofpdnhnlkocoaaDoor.EAw
open Go.RowKit Go.Proofs.YtofpdnhnlkocoaaDoor.Base Go.Proofs.YtofpdnhnlkocoaaDoor.EPure Go.Proofs.YtofpdnhnlkocoaaDoor.ECh Go.Proofs.YtofpdnhnlkocoaaDoor.EChr Go.Proofs.YtofpdnhnlkocoaaDoor.EPs Go.Proofs.YtofpdnhnlkocoaaDoor.ELn Go.Proofs.YtofpdnhnlkocoaaDoor.EBk
open Go.Proofs.YtofpdnhnlkocoaaDoor.XBase (four_box two_box frozen_box Rg)
open Go.Proofs.YtofpdnhnlkocoaaDoor.PPr (pr)
open Go.Proofs.YtofpdnhnlkocoaaDoor.PMay (mayL mayL_one mayL_cons mayL_nil)
set_option linter.unusedVariables false
/-- The tables of the library hold what they are laid with. -/
structure TX (w : World) : Prop where
  tab : Digits.Tab w
  utf : Tabs w
  lt1 : 2 < w.heap.size
  lt2 : 3 < w.heap.size
theorem TX.later {w w' : World} (h : TX w) (hb : Below w.heap.size w w') : TX w' :=
  ⟨h.tab.later hb, tab_keep h.utf (hb.block _ h.lt1) (hb.block _ h.lt2), Nat.lt_of_lt_of_le h.lt1 hb.size, Nat.lt_of_lt_of_le h.lt2 hb.size⟩
theorem parse_x {w : World} {s : ByteArray} (hs : s.size ≤ 140737488351300) (ht : TX w) : Calls Tryd.prog 11 #[.string s] w fun e w' => Pout w e w' (prs s) :=
  parse_c hs ht.utf ⟨ht.lt1, ht.lt2⟩
theorem print_x {m : Nat} {x : Ex} {w : World} {u : Value} (hin : XBase.In false (fun b => b < w.heap.size) w m u x) (ht : TX w) :
    Calls Tryd.prog 9 #[u] w fun e w' => e = .returned (.tuple #[.string ⟨(PPp.ptx x).toArray⟩, .int .i64 (PPp.pcd x)]) ∧ Below w.heap.size w w' :=
  PLen.print_c hin fun W' hb => ht.tab.later hb
theorem num_c (x : Int) (w : World) : Calls Tryd.prog 10 #[.int .i64 x] w fun e w' => e = .returned (.int .i64 x) ∧ w' = w := by
  go_enter Tryd.func10, Tryd.ntmps10
  go_wp2_with fail
  go_ret
  exact ⟨rfl, rfl⟩
/-- The two texts, and what they say. -/
def t1 : List UInt8 := [45, 40, 97, 126, 39, 120, 39, 41, 32, 63, 32, 33, 98, 32, 58, 32, 40, 40, 99, 41, 41]
def t2 : List UInt8 := [97, 32, 98]
def vx : Ex := .mk 5 0 ⟨#[120]⟩ []
def x1 : Ex := nd 31 [nd 10 [nd 17 [va, vx]], nd 11 [vb], vc]
def isx6 (t : List UInt8) (x : Ex) : Bool := match prs ⟨t.toArray⟩ with
  | .ok y => eqx 6 y x
  | .error _ => false
def ise (t : List UInt8) (f : F) : Bool := match prs ⟨t.toArray⟩ with
  | .ok _ => false
  | .error e => e == f
theorem d1 : isx6 t1 x1 = true := by decide +kernel
theorem d2 : ise t2 (1000, 2) = true := by decide +kernel
theorem prs1 : prs ⟨t1.toArray⟩ = .ok x1 := by
  have h := d1
  unfold isx6 at h
  cases hp : prs ⟨t1.toArray⟩ with
  | error e => rw [hp] at h; cases h
  | ok y => rw [hp] at h; rw [eqx_eq _ _ _ h]
theorem prs2 : prs ⟨t2.toArray⟩ = .error (1000, 2) := by
  have h := d2
  unfold ise at h
  cases hp : prs ⟨t2.toArray⟩ with
  | error e => rw [hp] at h; simp only [beq_iff_eq] at h; rw [h]
  | ok y => rw [hp] at h; cases h
theorem pr_va : ∀ z : Int, z ≤ 12 → pr z va = [97] := fun z hz => by rw [pr_own (x := va) (by show ¬ (12 : Int) < z; omega)]; exact tx_var _
theorem pr_vb : ∀ z : Int, z ≤ 12 → pr z vb = [98] := fun z hz => by rw [pr_own (x := vb) (by show ¬ (12 : Int) < z; omega)]; exact tx_var _
theorem pr_vc : ∀ z : Int, z ≤ 12 → pr z vc = [99] := fun z hz => by rw [pr_own (x := vc) (by show ¬ (12 : Int) < z; omega)]; exact tx_var _
theorem pr_vx : ∀ z : Int, z ≤ 12 → pr z vx = [39, 120, 39] := fun z hz => by rw [pr_own (x := vx) (by show ¬ (12 : Int) < z; omega)]; exact tx_str _
theorem pr1 : pr (-1) x1 = [45, 40, 97, 32, 126, 32, 39, 120, 39, 41, 32, 63, 32, 33, 98, 32, 58, 32, 99] := by
  unfold x1
  rw [tx_if, pr_own (z := 0) (x := nd 10 [nd 17 [va, vx]]) (by show ¬ PPl.lvl 10 < 0; decide), tx_sg (.inl rfl), pr_par (z := 11) (x := nd 17 [va, vx]) (by show PPl.lvl 17 < 11; decide), tx_op (by decide) (by decide), pr_va _ (by decide), pr_vx _ (by decide), tx_sg (.inr rfl), pr_vb _ (by decide), pr_vc _ (by decide)]
  rfl
theorem may1 : (mayL [x1] 512).1 = true := by
  have hv : UBase.verr ⟨#[120]⟩ = 0 := by
    have h1 : UBase.len ⟨#[120]⟩ 0 = 1 := by decide
    unfold UBase.verr
    rw [UBase.bad_step (by decide) (by rw [h1]; decide), h1, UBase.bad_end (by decide)]
    rfl
  have htx : PFit.tx ⟨#[120]⟩ = true := by
    unfold PFit.tx PFit.tg
    rw [hv]
    decide
  have h31 : PFit.ft 31 0 ⟨#[]⟩ = true := by decide
  have h10 : PFit.ft 10 0 ⟨#[]⟩ = true := by decide
  have h11 : PFit.ft 11 0 ⟨#[]⟩ = true := by decide
  have h17 : PFit.ft 17 0 ⟨#[]⟩ = true := by decide
  have ha : PFit.ft 6 0 ⟨#[97]⟩ = true := by decide +kernel
  have hb : PFit.ft 6 0 ⟨#[98]⟩ = true := by decide +kernel
  have hc : PFit.ft 6 0 ⟨#[99]⟩ = true := by decide +kernel
  have hx : PFit.ft 5 0 ⟨#[120]⟩ = true := by
    show ((0 : Int) == 0 && PFit.tx ⟨#[120]⟩) = true
    rw [htx]; rfl
  have k31 : PPl.kd 31 = 3 := by decide
  have k10 : PPl.kd 10 = 1 := by decide
  have k11 : PPl.kd 11 = 1 := by decide
  have k17 : PPl.kd 17 = 2 := by decide
  have k6 : PPl.kd 6 = 0 := by decide
  have k5 : PPl.kd 5 = 0 := by decide
  simp [x1, nd, va, vb, vc, vx, mayL, h31, h10, h11, h17, ha, hb, hc, hx, k31, k10, k11, k17, k6, k5]
set_option maxRecDepth 20000 in
set_option maxHeartbeats 3200000 in
theorem awake_c {w : World} (ht : TX w) : Calls Tryd.prog 7 #[] w fun e w' => e = .returned (.bool true) ∧ Below w.heap.size w w' := by
  have c1 := parse_x (s := ⟨t1.toArray⟩) (by decide) ht
  rw [prs1] at c1
  have e1 : t1.toArray = #[45, 40, 97, 126, 39, 120, 39, 41, 32, 63, 32, 33, 98, 32, 58, 32, 40, 40, 99, 41, 41] := rfl
  rw [e1] at c1
  have HT : Hid (TX w) := ht
  clear ht e1
  go_enter Tryd.func7, Tryd.ntmps7
  go_wp2_with fail
  refine c1.mono ?_
  rintro e W1 ⟨b1, m, a, cap, rfl, hin⟩
  have HB1 : Hid (Below w.heap.size w W1) := b1
  have HIN : Hid (XBase.In false (Rg w.heap.size W1.heap.size) W1 m (.agg #[.int .i64 x1.o, .int .i64 x1.i, .string x1.s, .slice a x1.l.length cap]) x1) := hin
  clear c1 b1 hin
  go_wp2_with fail
  obtain ⟨W2, hW2⟩ : ∃ W2, W1.alloc (.cells #[.int .i64 x1.o, .int .i64 x1.i, .string x1.s, .slice a x1.l.length cap] 24) = W2 := ⟨_, rfl⟩
  have b2 : Below W1.heap.size W1 W2 := by rw [← hW2]; exact (Below.refl _ W1).alloc (Nat.le_refl _) _
  have hb2 : Below w.heap.size w W2 := HB1.out.trans (b2.mono HB1.out.size)
  have hin2 := (HIN.out.below b2).weak (S' := fun b => b < W2.heap.size) (fun b hb => Nat.lt_of_lt_of_le hb.2 b2.size) false id m (Nat.le_refl _)
  have c2 := print_x hin2 (HT.out.later hb2)
  rw [show PPp.ptx x1 = _ from by unfold PPp.ptx; rw [if_pos may1, pr1], show PPp.pcd x1 = 0 from by unfold PPp.pcd; rw [if_pos may1]] at c2
  have HB2 : Hid (Below w.heap.size w W2) := hb2
  clear b2 hb2 hin2 HIN HB1
  rw [hW2]
  clear hW2
  refine c2.mono ?_
  rintro e W3 ⟨rfl, b3⟩
  have hb3 : Below w.heap.size w W3 := HB2.out.trans (b3.mono HB2.out.size)
  have c3 := parse_x (s := ⟨t2.toArray⟩) (by decide) (HT.out.later hb3)
  rw [prs2, show t2.toArray = #[97, 32, 98] from rfl] at c3
  have HB3 : Hid (Below w.heap.size w W3) := hb3
  clear c2 b3 hb3 HB2
  go_wp2_with fail
  refine c3.mono ?_
  rintro e W4 ⟨b4, rfl⟩
  have HB4 : Hid (Below w.heap.size w W4) := HB3.out.trans (b4.mono HB3.out.size)
  clear c3 b4 HB3
  go_wp2_with (first | (go_at_call 10; refine (num_c _ _).mono ?_; rintro e w' ⟨rfl, rfl⟩))
  go_ret
  exact ⟨rfl, HB4.out.alloc HB4.out.size _⟩
end Go.Proofs.YtofpdnhnlkocoaaDoor.EAw
namespace Go.Proofs.YtofpdnhnlkocoaaDoor.ELv2
open Go.RowKit Go.Proofs.YtofpdnhnlkocoaaDoor.Base Go.Proofs.YtofpdnhnlkocoaaDoor.EPure
set_option linter.unusedVariables false
/-- The table of levels, in memory. -/
def Lt (w : World) (g : Nat) : Prop := ∀ k, k < 11 → ∃ b, w.cell? ⟨g, k, none⟩ = some (.slice (some ⟨b, 0, none⟩) (lvs.getD k []).length (lvs.getD k []).length) ∧ ∀ i, i < (lvs.getD k []).length → w.cell? ⟨b, i, none⟩ = some (.string ⟨((lvs.getD k []).getD i ([], 0)).1.toArray⟩)
/-- One block behind the other. -/
def allocs (w : World) : List Obj → World
  | [] => w
  | o :: L => allocs (w.alloc o) L
theorem allocs_below : ∀ (L : List Obj) (w : World) (B : Nat), B ≤ w.heap.size → Below B w (allocs w L)
  | [], w, B, h => Below.refl B w
  | o :: L, w, B, h => ((Below.refl B w).alloc h o).trans (allocs_below L (w.alloc o) B (by rw [World.size_alloc]; omega))
theorem allocs_at : ∀ (L : List Obj) (w : World) (j : Nat), j < L.length → (allocs w L).heap[w.heap.size + j]? = L[j]?
  | o :: L, w, 0, _ => by
    rw [allocs, Nat.add_zero, (allocs_below L (w.alloc o) (w.heap.size + 1) (by rw [World.size_alloc]; omega)).block w.heap.size (by omega), heap_alloc_new]
    rfl
  | o :: L, w, j + 1, h => by
    have := allocs_at L (w.alloc o) j (by simpa using h)
    rw [World.size_alloc] at this
    rw [allocs, show w.heap.size + (j + 1) = w.heap.size + 1 + j by omega, this]
    rfl
set_option maxRecDepth 20000 in
set_option maxHeartbeats 3200000 in
theorem levels_c (w : World) : Calls Tryd.prog 13 #[] w fun e w' => Below w.heap.size w w' ∧ ∃ g, e = .returned (.slice (some ⟨g, 0, none⟩) 11 11) ∧ Lt w' g := by
  go_enter Tryd.func13, Tryd.ntmps13
  go_wp2_with fail
  go_ret
  obtain ⟨L, hL⟩ : ∃ L : List Obj, L = [.cells #[.string ⟨#[124, 124]⟩] 9, .cells #[.string ⟨#[38, 38]⟩] 9, .cells #[.string ⟨#[61, 61]⟩, .string ⟨#[33, 61]⟩] 9, .cells #[.string ⟨#[60]⟩, .string ⟨#[60, 61]⟩, .string ⟨#[62]⟩, .string ⟨#[62, 61]⟩] 9, .cells #[.string ⟨#[124]⟩] 9, .cells #[.string ⟨#[94]⟩] 9, .cells #[.string ⟨#[38]⟩] 9, .cells #[.string ⟨#[60, 60]⟩, .string ⟨#[62, 62]⟩] 9, .cells #[.string ⟨#[126]⟩] 9, .cells #[.string ⟨#[43]⟩, .string ⟨#[45]⟩] 9, .cells #[.string ⟨#[42]⟩, .string ⟨#[47]⟩, .string ⟨#[37]⟩] 9, .cells #[.slice (some ⟨w.heap.size, 0, none⟩) 1 1, .slice (some ⟨w.heap.size + 1, 0, none⟩) 1 1, .slice (some ⟨w.heap.size + 1 + 1, 0, none⟩) 2 2, .slice (some ⟨w.heap.size + 1 + 1 + 1, 0, none⟩) 4 4, .slice (some ⟨w.heap.size + 1 + 1 + 1 + 1, 0, none⟩) 1 1, .slice (some ⟨w.heap.size + 1 + 1 + 1 + 1 + 1, 0, none⟩) 1 1, .slice (some ⟨w.heap.size + 1 + 1 + 1 + 1 + 1 + 1, 0, none⟩) 1 1, .slice (some ⟨w.heap.size + 1 + 1 + 1 + 1 + 1 + 1 + 1, 0, none⟩) 2 2, .slice (some ⟨w.heap.size + 1 + 1 + 1 + 1 + 1 + 1 + 1 + 1, 0, none⟩) 1 1, .slice (some ⟨w.heap.size + 1 + 1 + 1 + 1 + 1 + 1 + 1 + 1 + 1, 0, none⟩) 2 2, .slice (some ⟨w.heap.size + 1 + 1 + 1 + 1 + 1 + 1 + 1 + 1 + 1 + 1, 0, none⟩) 3 3] 37] := ⟨_, rfl⟩
  have hlen : L.length = 12 := by rw [hL]; rfl
  have hW : ∀ j, j < 12 → (allocs w L).heap[w.heap.size + j]? = L[j]? := fun j hj => allocs_at L w j (by omega)
  have hb := allocs_below L w w.heap.size (Nat.le_refl _)
  have key : Lt (allocs w L) (w.heap.size + 11) := by
    have h0 : (allocs w L).heap[w.heap.size + 0]? = some (.cells #[.string ⟨#[124, 124]⟩] 9 (0, 0)) := (hW 0 (by omega)).trans (by rw [hL]; rfl)
    have h1 : (allocs w L).heap[w.heap.size + 1]? = some (.cells #[.string ⟨#[38, 38]⟩] 9 (0, 0)) := (hW 1 (by omega)).trans (by rw [hL]; rfl)
    have h2 : (allocs w L).heap[w.heap.size + 2]? = some (.cells #[.string ⟨#[61, 61]⟩, .string ⟨#[33, 61]⟩] 9 (0, 0)) := (hW 2 (by omega)).trans (by rw [hL]; rfl)
    have h3 : (allocs w L).heap[w.heap.size + 3]? = some (.cells #[.string ⟨#[60]⟩, .string ⟨#[60, 61]⟩, .string ⟨#[62]⟩, .string ⟨#[62, 61]⟩] 9 (0, 0)) := (hW 3 (by omega)).trans (by rw [hL]; rfl)
    have h4 : (allocs w L).heap[w.heap.size + 4]? = some (.cells #[.string ⟨#[124]⟩] 9 (0, 0)) := (hW 4 (by omega)).trans (by rw [hL]; rfl)
    have h5 : (allocs w L).heap[w.heap.size + 5]? = some (.cells #[.string ⟨#[94]⟩] 9 (0, 0)) := (hW 5 (by omega)).trans (by rw [hL]; rfl)
    have h6 : (allocs w L).heap[w.heap.size + 6]? = some (.cells #[.string ⟨#[38]⟩] 9 (0, 0)) := (hW 6 (by omega)).trans (by rw [hL]; rfl)
    have h7 : (allocs w L).heap[w.heap.size + 7]? = some (.cells #[.string ⟨#[60, 60]⟩, .string ⟨#[62, 62]⟩] 9 (0, 0)) := (hW 7 (by omega)).trans (by rw [hL]; rfl)
    have h8 : (allocs w L).heap[w.heap.size + 8]? = some (.cells #[.string ⟨#[126]⟩] 9 (0, 0)) := (hW 8 (by omega)).trans (by rw [hL]; rfl)
    have h9 : (allocs w L).heap[w.heap.size + 9]? = some (.cells #[.string ⟨#[43]⟩, .string ⟨#[45]⟩] 9 (0, 0)) := (hW 9 (by omega)).trans (by rw [hL]; rfl)
    have h10 : (allocs w L).heap[w.heap.size + 10]? = some (.cells #[.string ⟨#[42]⟩, .string ⟨#[47]⟩, .string ⟨#[37]⟩] 9 (0, 0)) := (hW 10 (by omega)).trans (by rw [hL]; rfl)
    have h11 : (allocs w L).heap[w.heap.size + 11]? = some (.cells #[.slice (some ⟨w.heap.size, 0, none⟩) 1 1, .slice (some ⟨w.heap.size + 1, 0, none⟩) 1 1, .slice (some ⟨w.heap.size + 1 + 1, 0, none⟩) 2 2, .slice (some ⟨w.heap.size + 1 + 1 + 1, 0, none⟩) 4 4, .slice (some ⟨w.heap.size + 1 + 1 + 1 + 1, 0, none⟩) 1 1, .slice (some ⟨w.heap.size + 1 + 1 + 1 + 1 + 1, 0, none⟩) 1 1, .slice (some ⟨w.heap.size + 1 + 1 + 1 + 1 + 1 + 1, 0, none⟩) 1 1, .slice (some ⟨w.heap.size + 1 + 1 + 1 + 1 + 1 + 1 + 1, 0, none⟩) 2 2, .slice (some ⟨w.heap.size + 1 + 1 + 1 + 1 + 1 + 1 + 1 + 1, 0, none⟩) 1 1, .slice (some ⟨w.heap.size + 1 + 1 + 1 + 1 + 1 + 1 + 1 + 1 + 1, 0, none⟩) 2 2, .slice (some ⟨w.heap.size + 1 + 1 + 1 + 1 + 1 + 1 + 1 + 1 + 1 + 1, 0, none⟩) 3 3] 37 (0, 0)) := (hW 11 (by omega)).trans (by rw [hL]; rfl)
    clear hW hb hlen hL
    generalize allocs w L = W at *
    rw [Nat.add_zero] at h0
    intro k hk
    match k, hk with
    | 0, _ =>
      refine ⟨w.heap.size + 0, by simp [World.cell?, h11, lvs], fun i hi => ?_⟩
      match i, hi with
      | 0, _ => simp [World.cell?, h0, lvs]
      | i + 1, h => exact absurd h (by simp [lvs])
    | 1, _ =>
      refine ⟨w.heap.size + 1, by simp [World.cell?, h11, lvs], fun i hi => ?_⟩
      match i, hi with
      | 0, _ => simp [World.cell?, h1, lvs]
      | i + 1, h => exact absurd h (by simp [lvs])
    | 2, _ =>
      refine ⟨w.heap.size + 2, by simp [World.cell?, h11, lvs], fun i hi => ?_⟩
      match i, hi with
      | 0, _ => simp [World.cell?, h2, lvs]
      | 1, _ => simp [World.cell?, h2, lvs]
      | i + 2, h => exact absurd h (by simp [lvs])
    | 3, _ =>
      refine ⟨w.heap.size + 3, by simp [World.cell?, h11, lvs], fun i hi => ?_⟩
      match i, hi with
      | 0, _ => simp [World.cell?, h3, lvs]
      | 1, _ => simp [World.cell?, h3, lvs]
      | 2, _ => simp [World.cell?, h3, lvs]
      | 3, _ => simp [World.cell?, h3, lvs]
      | i + 4, h => exact absurd h (by simp [lvs])
    | 4, _ =>
      refine ⟨w.heap.size + 4, by simp [World.cell?, h11, lvs], fun i hi => ?_⟩
      match i, hi with
      | 0, _ => simp [World.cell?, h4, lvs]
      | i + 1, h => exact absurd h (by simp [lvs])
    | 5, _ =>
      refine ⟨w.heap.size + 5, by simp [World.cell?, h11, lvs], fun i hi => ?_⟩
      match i, hi with
      | 0, _ => simp [World.cell?, h5, lvs]
      | i + 1, h => exact absurd h (by simp [lvs])
    | 6, _ =>
      refine ⟨w.heap.size + 6, by simp [World.cell?, h11, lvs], fun i hi => ?_⟩
      match i, hi with
      | 0, _ => simp [World.cell?, h6, lvs]
      | i + 1, h => exact absurd h (by simp [lvs])
    | 7, _ =>
      refine ⟨w.heap.size + 7, by simp [World.cell?, h11, lvs], fun i hi => ?_⟩
      match i, hi with
      | 0, _ => simp [World.cell?, h7, lvs]
      | 1, _ => simp [World.cell?, h7, lvs]
      | i + 2, h => exact absurd h (by simp [lvs])
    | 8, _ =>
      refine ⟨w.heap.size + 8, by simp [World.cell?, h11, lvs], fun i hi => ?_⟩
      match i, hi with
      | 0, _ => simp [World.cell?, h8, lvs]
      | i + 1, h => exact absurd h (by simp [lvs])
    | 9, _ =>
      refine ⟨w.heap.size + 9, by simp [World.cell?, h11, lvs], fun i hi => ?_⟩
      match i, hi with
      | 0, _ => simp [World.cell?, h9, lvs]
      | 1, _ => simp [World.cell?, h9, lvs]
      | i + 2, h => exact absurd h (by simp [lvs])
    | 10, _ =>
      refine ⟨w.heap.size + 10, by simp [World.cell?, h11, lvs], fun i hi => ?_⟩
      match i, hi with
      | 0, _ => simp [World.cell?, h10, lvs]
      | 1, _ => simp [World.cell?, h10, lvs]
      | 2, _ => simp [World.cell?, h10, lvs]
      | i + 3, h => exact absurd h (by simp [lvs])
    | k + 11, h => exact absurd h (by omega)
  subst hL
  exact ⟨hb, _, rfl, key⟩
end Go.Proofs.YtofpdnhnlkocoaaDoor.ELv2
namespace Go.Proofs.YtofpdnhnlkocoaaDoor.EBit
open Go
theorem i64_mask (n : Int) (j : Nat) (hj : j ≤ 20) : bits .and .i64 n ((2 ^ j - 1 : Nat) : Int) = n % ((2 ^ j : Nat) : Int) := by
  have hp : (2 : Nat) ^ j ≤ 1048576 := Nat.pow_le_pow_right (by decide) hj
  have hp0 : 1 ≤ 2 ^ j := Nat.one_le_two_pow
  have h1 : (BitVec.ofInt 64 ((2 ^ j - 1 : Nat) : Int)).toNat = 2 ^ j - 1 := by
    rw [BitVec.toNat_ofInt]
    omega
  have key : (BitVec.ofInt 64 n &&& BitVec.ofInt 64 ((2 ^ j - 1 : Nat) : Int)).toNat = (n % ((2 ^ 64 : Nat) : Int)).toNat % 2 ^ j := by
    rw [BitVec.toNat_and, BitVec.toNat_ofInt, h1, Nat.and_two_pow_sub_one_eq_mod]
  show IntKind.i64.wrap ((BitVec.ofInt 64 n &&& BitVec.ofInt 64 ((2 ^ j - 1 : Nat) : Int)).toNat : Nat) = n % ((2 ^ j : Nat) : Int)
  rw [key, IntKind.wrap_i64]
  have hd : ((2 ^ 64 : Nat) : Int) = ((2 ^ j : Nat) : Int) * ((2 ^ (64 - j) : Nat) : Int) := by
    rw [← Int.natCast_mul, ← Nat.pow_add, show j + (64 - j) = 64 by omega]
  have hm : (((n % ((2 ^ 64 : Nat) : Int)).toNat % 2 ^ j : Nat) : Int) = n % ((2 ^ j : Nat) : Int) := by
    rw [Int.natCast_emod, Int.toNat_of_nonneg (Int.emod_nonneg _ (by decide)), hd]
    exact Int.emod_emod_of_dvd _ ⟨_, rfl⟩
  rw [hm]
  have hb0 := Int.emod_nonneg n (b := ((2 ^ j : Nat) : Int)) (by omega)
  have hb1 := Int.emod_lt_of_pos n (b := ((2 ^ j : Nat) : Int)) (by omega)
  omega
theorem and3 (n : Int) : bits .and .i64 n 3 = n % 4 := i64_mask n 2 (by decide)
theorem and63 (n : Int) : bits .and .i64 n 63 = n % 64 := i64_mask n 6 (by decide)
theorem and1023 (n : Int) : bits .and .i64 n 1023 = n % 1024 := i64_mask n 10 (by decide)
end Go.Proofs.YtofpdnhnlkocoaaDoor.EBit
namespace Go.Proofs.YtofpdnhnlkocoaaDoor.WLeans
open Go.RowKit Go.Proofs.YtofpdnhnlkocoaaDoor.Base Go.Proofs.YtofpdnhnlkocoaaDoor.EPure Go.Proofs.YtofpdnhnlkocoaaDoor.EPs Go.Proofs.YtofpdnhnlkocoaaDoor.EAw Go.Proofs.YtofpdnhnlkocoaaDoor.ELn Go.Proofs.YtofpdnhnlkocoaaDoor.ELv2 Go.Proofs.YtofpdnhnlkocoaaDoor.EBit Go.Proofs.YtofpdnhnlkocoaaDoor.XSm
open Go.Proofs.YtofpdnhnlkocoaaDoor.XBase (four_box two_box frozen_box Rg)
set_option linter.unusedVariables false
theorem smL_refl : ∀ (n : Nat) (l : List Ex), SizeOf.sizeOf l ≤ n → smL l l = true := by
  intro n
  induction n with
  | zero =>
    intro l h
    cases l with
    | nil => exact smL_nil
    | cons x t => exact absurd h (by simp)
  | succ n ih =>
    intro l h
    cases l with
    | nil => exact smL_nil
    | cons x t =>
      obtain ⟨o, i, s, k⟩ := x
      rw [smL_cons, smL_one, ih k (by simp at h; omega), ih t (by simp at h; omega)]
      simp
theorem apart {o o' : Int} (h : 12 ≤ o) : smL [lt' o o'] [rt' o o'] = false := by
  have e : smL [nd o [va, vb]] [va] = false := by
    show smL [.mk o 0 ⟨#[]⟩ [va, vb]] [.mk 6 0 ⟨#[97]⟩ []] = false
    rw [smL_one, show (o == (6 : Int)) = false by simp; omega, Bool.false_and]
  show smL [.mk o' 0 ⟨#[]⟩ [nd o [va, vb], vc]] [.mk o 0 ⟨#[]⟩ [va, nd o' [vb, vc]]] = false
  rw [smL_one, smL_cons, e]
  simp
theorem isx_eq {t : List UInt8} {x : Ex} (h : isx t x = true) : prs ⟨t.toArray⟩ = .ok x := by
  unfold isx at h
  cases hp : prs ⟨t.toArray⟩ with
  | error e => rw [hp] at h; cases h
  | ok y => rw [hp] at h; rw [eqx_eq _ _ _ h]
theorem app (a b : List UInt8) : (⟨a.toArray⟩ : ByteArray) ++ ⟨b.toArray⟩ = ⟨(a ++ b).toArray⟩ := by
  apply ByteArray.ext
  simp
/-- What the signs' texts say. -/
theorem say {k k' : Nat} {s t : List UInt8 × Int} (h : chk k k' s t = true) : ∃ x l r : Ex, prs (⟨#[97, 32]⟩ ++ ⟨s.1.toArray⟩ ++ ⟨#[32, 98, 32]⟩ ++ ⟨t.1.toArray⟩ ++ ⟨#[32, 99]⟩) = .ok x ∧ prs (⟨#[40, 97, 32]⟩ ++ ⟨s.1.toArray⟩ ++ ⟨#[32, 98, 41, 32]⟩ ++ ⟨t.1.toArray⟩ ++ ⟨#[32, 99]⟩) = .ok l ∧ prs (⟨#[97, 32]⟩ ++ ⟨s.1.toArray⟩ ++ ⟨#[32, 40, 98, 32]⟩ ++ ⟨t.1.toArray⟩ ++ ⟨#[32, 99, 41]⟩) = .ok r ∧ smL [l] [r] = false ∧ (k < k' → smL [x] [r] = true) ∧ (¬ k < k' → smL [x] [l] = true) := by
  unfold chk at h
  simp only [Bool.and_eq_true, decide_eq_true_eq] at h
  obtain ⟨⟨h12, h1⟩, h2, h3⟩ := h
  refine ⟨if k < k' then rt' s.2 t.2 else lt' s.2 t.2, lt' s.2 t.2, rt' s.2 t.2, ?_, ?_, ?_, apart h12, fun hk => ?_, fun hk => ?_⟩
  · rw [← isx_eq h1]
    congr 1
  · rw [← isx_eq h2]
    congr 1
  · rw [← isx_eq h3]
    congr 1
  · rw [if_pos hk]; exact smL_refl _ _ (Nat.le_refl _)
  · rw [if_neg hk]; exact smL_refl _ _ (Nat.le_refl _)
theorem lvs_len : ∀ k, k < 11 → 1 ≤ (lvs.getD k []).length ∧ (lvs.getD k []).length ≤ 4 := by decide
theorem sig_len : ∀ k, k < 11 → ∀ s ∈ lvs.getD k [], s.1.length ≤ 2 := by decide
set_option maxRecDepth 20000 in
set_option maxHeartbeats 3200000 in
theorem walk {w : World} (a0 : Int) (l0 : -9223372036854775808 ≤ a0) (u0 : a0 ≤ 9223372036854775807) (a1 : Int) (l1 : -9223372036854775808 ≤ a1) (u1 : a1 ≤ 9223372036854775807) (ht : TX w) :
    Calls Tryd.prog 5 #[.int .i64 a0, .int .i64 a1] w fun e w' => e = .returned (.bool true) ∧ Below w.heap.size w w' := by
  obtain ⟨m0, hm0, hl0⟩ : ∃ m0 : Nat, bits .and .i64 a0 1023 = m0 ∧ m0 < 1024 := ⟨(a0 % 1024).toNat, by rw [and1023]; omega, by omega⟩
  obtain ⟨m1, hm1, hl1⟩ : ∃ m1 : Nat, bits .and .i64 a1 1023 = m1 ∧ m1 < 1024 := ⟨(a1 % 1024).toNat, by rw [and1023]; omega, by omega⟩
  obtain ⟨p0, hp0, hq0⟩ : ∃ p0 : Nat, bits .and .i64 (a0 / 1024) 3 = p0 ∧ p0 < 4 := ⟨((a0 / 1024) % 4).toNat, by rw [and3]; omega, by omega⟩
  obtain ⟨p1, hp1, hq1⟩ : ∃ p1 : Nat, bits .and .i64 (a1 / 1024) 3 = p1 ∧ p1 < 4 := ⟨((a1 / 1024) % 4).toNat, by rw [and3]; omega, by omega⟩
  have hn0 := lvs_len (m0 % 11) (by omega)
  have hn1 := lvs_len (m1 % 11) (by omega)
  have HL : Hid (∀ W g, Lt W g → ∃ b0 b1, W.cell? ⟨g, m0 % 11, none⟩ = some (.slice (some ⟨b0, 0, none⟩) (lvs.getD (m0 % 11) []).length (lvs.getD (m0 % 11) []).length) ∧ W.cell? ⟨g, m1 % 11, none⟩ = some (.slice (some ⟨b1, 0, none⟩) (lvs.getD (m1 % 11) []).length (lvs.getD (m1 % 11) []).length) ∧ W.cell? ⟨b0, p0 % (lvs.getD (m0 % 11) []).length, none⟩ = some (.string ⟨((lvs.getD (m0 % 11) []).getD (p0 % (lvs.getD (m0 % 11) []).length) ([], 0)).1.toArray⟩) ∧ W.cell? ⟨b1, p1 % (lvs.getD (m1 % 11) []).length, none⟩ = some (.string ⟨((lvs.getD (m1 % 11) []).getD (p1 % (lvs.getD (m1 % 11) []).length) ([], 0)).1.toArray⟩)) := by
    intro W g h
    obtain ⟨b0, h1, h2⟩ := h (m0 % 11) (by omega)
    obtain ⟨b1, h3, h4⟩ := h (m1 % 11) (by omega)
    exact ⟨b0, b1, h1, h3, h2 _ (Nat.mod_lt _ (by omega)), h4 _ (Nat.mod_lt _ (by omega))⟩
  have mem : ∀ (k p : Nat), 1 ≤ (lvs.getD k []).length → (lvs.getD k []).getD (p % (lvs.getD k []).length) ([], 0) ∈ lvs.getD k [] := by
    intro k p h
    have hl : p % (lvs.getD k []).length < (lvs.getD k []).length := Nat.mod_lt _ (by omega)
    generalize p % (lvs.getD k []).length = q at *
    generalize lvs.getD k [] = l at *
    simp [List.getD, hl]
  have hS := mem (m0 % 11) p0 hn0.1
  have hT := mem (m1 % 11) p1 hn1.1
  have hsay := say (all (by omega) hS (by omega) hT)
  have hs2 := sig_len _ (by omega) _ hS
  have ht2 := sig_len _ (by omega) _ hT
  clear mem hS hT
  generalize (lvs.getD (m0 % 11) []).getD (p0 % (lvs.getD (m0 % 11) []).length) ([], 0) = S at *
  generalize (lvs.getD (m1 % 11) []).getD (p1 % (lvs.getD (m1 % 11) []).length) ([], 0) = T at *
  generalize (lvs.getD (m0 % 11) []).length = n0 at *
  generalize (lvs.getD (m1 % 11) []).length = n1 at *
  obtain ⟨x, l, r, e1, e2, e3, f1, f2, f3⟩ := hsay
  have hz : ∀ L : List UInt8, (⟨L.toArray⟩ : ByteArray).size = L.length := fun L => by show L.toArray.size = _; simp
  have zs : (⟨S.1.toArray⟩ : ByteArray).size ≤ 2 := by rw [hz]; exact hs2
  have zt : (⟨T.1.toArray⟩ : ByteArray).size ≤ 2 := by rw [hz]; exact ht2
  clear hs2 ht2 hz
  generalize (⟨S.1.toArray⟩ : ByteArray) = S' at *
  generalize (⟨T.1.toArray⟩ : ByteArray) = T' at *
  have H1 : Hid (∀ W, TX W → Calls Tryd.prog 11 #[.string (⟨#[97, 32]⟩ ++ S' ++ ⟨#[32, 98, 32]⟩ ++ T' ++ ⟨#[32, 99]⟩)] W fun e w' => Pout W e w' (.ok x)) := fun W hW => by
    rw [← e1]; exact parse_x (by simp only [ByteArray.size_append]; have : (⟨#[97, 32]⟩ : ByteArray).size = 2 := rfl; have : (⟨#[32, 98, 32]⟩ : ByteArray).size = 3 := rfl; have : (⟨#[32, 99]⟩ : ByteArray).size = 2 := rfl; omega) hW
  have H2 : Hid (∀ W, TX W → Calls Tryd.prog 11 #[.string (⟨#[40, 97, 32]⟩ ++ S' ++ ⟨#[32, 98, 41, 32]⟩ ++ T' ++ ⟨#[32, 99]⟩)] W fun e w' => Pout W e w' (.ok l)) := fun W hW => by
    rw [← e2]; exact parse_x (by simp only [ByteArray.size_append]; have : (⟨#[40, 97, 32]⟩ : ByteArray).size = 3 := rfl; have : (⟨#[32, 98, 41, 32]⟩ : ByteArray).size = 4 := rfl; have : (⟨#[32, 99]⟩ : ByteArray).size = 2 := rfl; omega) hW
  have H3 : Hid (∀ W, TX W → Calls Tryd.prog 11 #[.string (⟨#[97, 32]⟩ ++ S' ++ ⟨#[32, 40, 98, 32]⟩ ++ T' ++ ⟨#[32, 99, 41]⟩)] W fun e w' => Pout W e w' (.ok r)) := fun W hW => by
    rw [← e3]; exact parse_x (by simp only [ByteArray.size_append]; have : (⟨#[97, 32]⟩ : ByteArray).size = 2 := rfl; have : (⟨#[32, 40, 98, 32]⟩ : ByteArray).size = 4 := rfl; have : (⟨#[32, 99, 41]⟩ : ByteArray).size = 3 := rfl; omega) hW
  have F : Hid (smL [l] [r] = false ∧ (m0 % 11 < m1 % 11 → smL [x] [r] = true) ∧ (¬ m0 % 11 < m1 % 11 → smL [x] [l] = true)) := ⟨f1, f2, f3⟩
  clear e1 e2 e3 f1 f2 f3 l0 u0 l1 u1
  have y0 : p0 % n0 < n0 := Nat.mod_lt _ (by omega)
  have y1 : p1 % n1 < n1 := Nat.mod_lt _ (by omega)
  have x0 : ((p0 : Int) % (n0 : Int) < (n0 : Int)) := by rw [← Int.natCast_emod]; omega
  have x1 : ((p1 : Int) % (n1 : Int) < (n1 : Int)) := by rw [← Int.natCast_emod]; omega
  have HT : Hid (TX w) := ht
  have c0 := awake_c ht
  clear ht
  go_enter Tryd.func5, Tryd.ntmps5
  go_wp2_with fail
  refine c0.mono ?_
  rintro e W1 ⟨rfl, b1⟩
  have HB1 : Hid (Below w.heap.size w W1) := b1
  clear b1 c0
  go_wp2_with fail
  refine (levels_c W1).mono ?_
  rintro e W2 ⟨b2, g, rfl, hLt⟩
  have HB2 : Hid (Below w.heap.size w W2) := HB1.out.trans (b2.mono HB1.out.size)
  have HLT : Hid (Lt W2 g) := hLt
  clear b2 HB1 hLt
  obtain ⟨b0, b1, k0, k1, k2, k3⟩ := HL.out W2 g HLT.out
  clear HL HLT
  go_wp2_with fail
  refine (H1.out W2 (HT.out.later HB2.out)).mono ?_
  rintro e W3 ⟨b3, m3, a3, c3, rfl, in3⟩
  obtain ⟨W4, hW4⟩ : ∃ W4, W3.alloc (.cells #[.int .i64 x.o, .int .i64 x.i, .string x.s, .slice a3 x.l.length c3] 24) = W4 := ⟨_, rfl⟩
  have d4 : Below W3.heap.size W3 W4 := by rw [← hW4]; exact (Below.refl _ W3).alloc (Nat.le_refl _) _
  have x4 : W4.heap[W3.heap.size]? = some (.cells #[.int .i64 x.o, .int .i64 x.i, .string x.s, .slice a3 x.l.length c3] 24 (0, 0)) := by rw [← hW4]; exact heap_alloc_new W3 _
  have z4 : W4.heap.size = W3.heap.size + 1 := by rw [← hW4]; simp
  have HB4 : Hid (Below w.heap.size w W4) := HB2.out.trans ((b3.trans (d4.mono b3.size)).mono HB2.out.size)
  have HX4 : Hid (W4.heap[W3.heap.size]? = some (.cells #[.int .i64 x.o, .int .i64 x.i, .string x.s, .slice a3 x.l.length c3] 24 (0, 0)) ∧ W4.heap.size = W3.heap.size + 1 ∧ Below W2.heap.size W2 W4) := ⟨x4, z4, b3.trans (d4.mono b3.size)⟩
  have HI4 : Hid (XBase.In false (Rg W2.heap.size W3.heap.size) W4 m3 (.agg #[.int .i64 x.o, .int .i64 x.i, .string x.s, .slice a3 x.l.length c3]) x) := in3.below d4
  clear b3 in3 d4 x4 z4
  go_wp2_with fail
  clear hW4
  refine (H2.out W4 (HT.out.later HB4.out)).mono ?_
  rintro e W5 ⟨b5, m5, a5, c5, rfl, in5⟩
  obtain ⟨W6, hW6⟩ : ∃ W6, W5.alloc (.cells #[.int .i64 l.o, .int .i64 l.i, .string l.s, .slice a5 l.l.length c5] 24) = W6 := ⟨_, rfl⟩
  have d6 : Below W5.heap.size W5 W6 := by rw [← hW6]; exact (Below.refl _ W5).alloc (Nat.le_refl _) _
  have x6 : W6.heap[W5.heap.size]? = some (.cells #[.int .i64 l.o, .int .i64 l.i, .string l.s, .slice a5 l.l.length c5] 24 (0, 0)) := by rw [← hW6]; exact heap_alloc_new W5 _
  have z6 : W6.heap.size = W5.heap.size + 1 := by rw [← hW6]; simp
  have HB6 : Hid (Below w.heap.size w W6) := HB4.out.trans ((b5.trans (d6.mono b5.size)).mono HB4.out.size)
  have HX6 : Hid (W6.heap[W5.heap.size]? = some (.cells #[.int .i64 l.o, .int .i64 l.i, .string l.s, .slice a5 l.l.length c5] 24 (0, 0)) ∧ W6.heap.size = W5.heap.size + 1 ∧ Below W4.heap.size W4 W6) := ⟨x6, z6, b5.trans (d6.mono b5.size)⟩
  have HI6 : Hid (XBase.In false (Rg W4.heap.size W5.heap.size) W6 m5 (.agg #[.int .i64 l.o, .int .i64 l.i, .string l.s, .slice a5 l.l.length c5]) l) := in5.below d6
  clear b5 in5 d6 x6 z6
  go_wp2_with fail
  clear hW6
  refine (H3.out W6 (HT.out.later HB6.out)).mono ?_
  rintro e W7 ⟨b7, m7, a7, c7, rfl, in7⟩
  obtain ⟨W8, hW8⟩ : ∃ W8, W7.alloc (.cells #[.int .i64 r.o, .int .i64 r.i, .string r.s, .slice a7 r.l.length c7] 24) = W8 := ⟨_, rfl⟩
  have d8 : Below W7.heap.size W7 W8 := by rw [← hW8]; exact (Below.refl _ W7).alloc (Nat.le_refl _) _
  have x8 : W8.heap[W7.heap.size]? = some (.cells #[.int .i64 r.o, .int .i64 r.i, .string r.s, .slice a7 r.l.length c7] 24 (0, 0)) := by rw [← hW8]; exact heap_alloc_new W7 _
  have z8 : W8.heap.size = W7.heap.size + 1 := by rw [← hW8]; simp
  have HB8 : Hid (Below w.heap.size w W8) := HB6.out.trans ((b7.trans (d8.mono b7.size)).mono HB6.out.size)
  have HX8 : Hid (W8.heap[W7.heap.size]? = some (.cells #[.int .i64 r.o, .int .i64 r.i, .string r.s, .slice a7 r.l.length c7] 24 (0, 0)) ∧ W8.heap.size = W7.heap.size + 1 ∧ Below W6.heap.size W6 W8) := ⟨x8, z8, b7.trans (d8.mono b7.size)⟩
  have HI8 : Hid (XBase.In false (Rg W6.heap.size W7.heap.size) W8 m7 (.agg #[.int .i64 r.o, .int .i64 r.i, .string r.s, .slice a7 r.l.length c7]) r) := in7.below d8
  clear b7 in7 d8 x8 z8
  have q2 := (HX8.out.2.2.block _ (by have := HX6.out.2.1; omega)).trans HX6.out.1
  have q1 := (HX8.out.2.2.block W3.heap.size (by have := HX6.out.2.2.size; have := HX4.out.2.1; omega)).trans ((HX6.out.2.2.block _ (by have := HX4.out.2.1; omega)).trans HX4.out.1)
  have q3 := HX8.out.1
  have i1 := (HI4.out.below HX6.out.2.2).below HX8.out.2.2
  have i2 := HI6.out.below HX8.out.2.2
  have cS := same_c i2 HI8.out
  rw [F.out.1] at cS
  obtain ⟨r20, r21, r22, r23⟩ := four_box q2
  obtain ⟨r30, r31, r32, r33⟩ := four_box q3
  have Q8 : Hid (W3.heap.size < W8.heap.size ∧ W5.heap.size < W8.heap.size ∧ W7.heap.size < W8.heap.size) := ⟨by have := HX8.out.2.2.size; have := HX6.out.2.2.size; have := HX4.out.2.1; omega, by have := HX8.out.2.2.size; have := HX6.out.2.1; omega, by have := HX8.out.2.1; omega⟩
  have HQ1 : Hid (W8.heap[W3.heap.size]? = some (.cells #[.int .i64 x.o, .int .i64 x.i, .string x.s, .slice a3 x.l.length c3] 24 (0, 0))) := q1
  have HQ2 : Hid (W8.heap[W5.heap.size]? = some (.cells #[.int .i64 l.o, .int .i64 l.i, .string l.s, .slice a5 l.l.length c5] 24 (0, 0))) := q2
  have HQ3 : Hid (W8.heap[W7.heap.size]? = some (.cells #[.int .i64 r.o, .int .i64 r.i, .string r.s, .slice a7 r.l.length c7] 24 (0, 0))) := q3
  have HJ1 : Hid (XBase.In false (Rg W2.heap.size W3.heap.size) W8 m3 (.agg #[.int .i64 x.o, .int .i64 x.i, .string x.s, .slice a3 x.l.length c3]) x) := i1
  have HJ2 : Hid (XBase.In false (Rg W4.heap.size W5.heap.size) W8 m5 (.agg #[.int .i64 l.o, .int .i64 l.i, .string l.s, .slice a5 l.l.length c5]) l) := i2
  clear q1 q2 q3 i1 i2 HX4 HX6 HX8 HI4 HI6 HB2 HB4 HB6
  go_wp2_with (first | (go_at_call 10; refine (num_c _ _).mono ?_; rintro e w' ⟨rfl, hw'⟩; subst w') | (go_at_call 12; refine cS.mono ?_; rintro e W9 ⟨rfl, b9⟩))
  clear r20 r21 r22 r23 r30 r31 r32 r33 cS
  by_cases hk : m0 % 11 < m1 % 11
  · have dk : decide (((m1 : Int) % 11) > ((m0 : Int) % 11)) = true := by simp; omega
    go_quiet (fail)
    obtain ⟨W10, hW10⟩ : ∃ W10, W9.drewN nq = W10 := ⟨_, rfl⟩
    have b10 : Below W8.heap.size W8 W10 := by rw [← hW10]; exact b9.trans ⟨rfl, rfl, rfl, by simp, fun _ _ => by simp⟩
    have HB10 : Hid (Below w.heap.size w W10) := HB8.out.trans (b10.mono HB8.out.size)
    have q1 := (b10.block _ Q8.out.1).trans HQ1.out
    have q2 := (b10.block _ Q8.out.2.1).trans HQ2.out
    have q3 := (b10.block _ Q8.out.2.2).trans HQ3.out
    have cR := same_c (HJ1.out.below b10) (HI8.out.below b10)
    rw [F.out.2.1 hk] at cR
    obtain ⟨r10, r11, r12, r13⟩ := four_box q1
    obtain ⟨r20, r21, r22, r23⟩ := four_box q2
    obtain ⟨r30, r31, r32, r33⟩ := four_box q3
    rw [hW10]
    clear q1 q2 q3 HQ1 HQ2 HQ3 HJ1 HJ2 HI8 b9 b10 hW10
    go_wp2_with fail
    refine cR.mono ?_
    rintro e W11 ⟨rfl, b11⟩
    have HB11 : Hid (Below w.heap.size w W11) := HB10.out.trans (b11.mono HB10.out.size)
    clear b11 cR
    go_wp2_with fail
    go_ret
    exact ⟨rfl, HB11.out⟩
  · have dk : decide (((m1 : Int) % 11) > ((m0 : Int) % 11)) = false := by simp; omega
    go_quiet (fail)
    obtain ⟨W10, hW10⟩ : ∃ W10, W9.drewN nq = W10 := ⟨_, rfl⟩
    have b10 : Below W8.heap.size W8 W10 := by rw [← hW10]; exact b9.trans ⟨rfl, rfl, rfl, by simp, fun _ _ => by simp⟩
    have HB10 : Hid (Below w.heap.size w W10) := HB8.out.trans (b10.mono HB8.out.size)
    have q1 := (b10.block _ Q8.out.1).trans HQ1.out
    have q2 := (b10.block _ Q8.out.2.1).trans HQ2.out
    have q3 := (b10.block _ Q8.out.2.2).trans HQ3.out
    have cR := same_c (HJ1.out.below b10) (HJ2.out.below b10)
    rw [F.out.2.2 hk] at cR
    obtain ⟨r10, r11, r12, r13⟩ := four_box q1
    obtain ⟨r20, r21, r22, r23⟩ := four_box q2
    obtain ⟨r30, r31, r32, r33⟩ := four_box q3
    rw [hW10]
    clear q1 q2 q3 HQ1 HQ2 HQ3 HJ1 HJ2 HI8 b9 b10 hW10
    go_wp2_with fail
    refine cR.mono ?_
    rintro e W11 ⟨rfl, b11⟩
    have HB11 : Hid (Below w.heap.size w W11) := HB10.out.trans (b11.mono HB10.out.size)
    clear b11 cR
    go_wp2_with fail
    go_ret
    exact ⟨rfl, HB11.out⟩
end Go.Proofs.YtofpdnhnlkocoaaDoor.WLeans

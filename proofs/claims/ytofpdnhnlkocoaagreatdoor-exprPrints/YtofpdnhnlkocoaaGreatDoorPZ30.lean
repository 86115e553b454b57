import Derived.Deep.RegionWith
import Derived.Test.YtofpdnhnlkocoaaGreatDoorPZ09
import Derived.Test.YtofpdnhnlkocoaaGreatDoorPZ20
import Derived.Test.YtofpdnhnlkocoaaGreatDoorPZ21
import Derived.Test.YtofpdnhnlkocoaaGreatDoorPZ22
import Derived.Test.YtofpdnhnlkocoaaGreatDoorPZ26
import Derived.Test.YtofpdnhnlkocoaaGreatDoorPZ27
import Derived.Test.YtofpdnhnlkocoaaGreatDoorPZ29
namespace Go.Proofs.YtofpdnhnlkocoaaGreatDoor.EAw
open Go.RowKit Go.Proofs.YtofpdnhnlkocoaaGreatDoor.Base Go.Proofs.YtofpdnhnlkocoaaGreatDoor.EPure Go.Proofs.YtofpdnhnlkocoaaGreatDoor.ECh Go.Proofs.YtofpdnhnlkocoaaGreatDoor.EChr Go.Proofs.YtofpdnhnlkocoaaGreatDoor.EPs Go.Proofs.YtofpdnhnlkocoaaGreatDoor.ELn Go.Proofs.YtofpdnhnlkocoaaGreatDoor.EBk
open Go.Proofs.YtofpdnhnlkocoaaGreatDoor.XBase (four_box two_box frozen_box Rg)
open Go.Proofs.YtofpdnhnlkocoaaGreatDoor.PPr (pr)
open Go.Proofs.YtofpdnhnlkocoaaGreatDoor.PMay (mayL mayL_one mayL_cons mayL_nil)
set_option linter.unusedVariables false
/-- The tables of the library hold what they are laid with. -/
structure TX (w : World) : Prop where
  tab : Digits.Tab w
  utf : Tabs w
  lt1 : 1 < w.heap.size
  lt2 : 2 < w.heap.size
theorem TX.later {w w' : World} (h : TX w) (hb : Below w.heap.size w w') : TX w' :=
  ⟨h.tab.later hb, tab_keep h.utf (hb.block _ h.lt1) (hb.block _ h.lt2), Nat.lt_of_lt_of_le h.lt1 hb.size, Nat.lt_of_lt_of_le h.lt2 hb.size⟩
theorem parse_x {w : World} {s : ByteArray} (hs : s.size ≤ 140737488351300) (ht : TX w) : Calls Tryz.prog 5 #[.string s] w fun e w' => Pout w e w' (prs s) :=
  parse_c hs ht.utf ⟨ht.lt1, ht.lt2⟩
theorem print_x {m : Nat} {x : Ex} {w : World} {u : Value} (hin : XBase.In false (fun b => b < w.heap.size) w m u x) (ht : TX w) :
    Calls Tryz.prog 13 #[u] w fun e w' => e = .returned (.tuple #[.string ⟨(PPp.ptx x).toArray⟩, .int .i64 (PPp.pcd x)]) ∧ Below w.heap.size w w' :=
  PLen.print_c hin fun W' hb => ht.tab.later hb
theorem num_c (x : Int) (w : World) : Calls Tryz.prog 7 #[.int .i64 x] w fun e w' => e = .returned (.int .i64 x) ∧ w' = w := by
  go_enter Tryz.func7, Tryz.ntmps7
  go_wp2_with fail
  go_ret
  exact ⟨rfl, rfl⟩
/-- The two texts, and what they say. -/
def t1 : List UInt8 := [45, 40, 97, 126, 39, 120, 39, 41, 32, 63, 32, 33, 98, 32, 58, 32, 40, 40, 99, 41, 41]
def t2 : List UInt8 := [97, 32, 98]
def vx : Ex := .mk 5 0 ⟨#[120]⟩ []
def x1 : Ex := nd 31 [nd 10 [nd 17 [va, vx]], nd 11 [vb], vc]
def isx6 (t : List UInt8) (x : Ex) : Bool := match prs ⟨t.toArray⟩ with
  | .ok y => eqx 6 y x
  | .error _ => false
def ise (t : List UInt8) (f : F) : Bool := match prs ⟨t.toArray⟩ with
  | .ok _ => false
  | .error e => e == f
theorem d1 : isx6 t1 x1 = true := by decide +kernel
theorem d2 : ise t2 (1000, 2) = true := by decide +kernel
theorem prs1 : prs ⟨t1.toArray⟩ = .ok x1 := by
  have h := d1
  unfold isx6 at h
  cases hp : prs ⟨t1.toArray⟩ with
  | error e => rw [hp] at h; cases h
  | ok y => rw [hp] at h; rw [eqx_eq _ _ _ h]
theorem prs2 : prs ⟨t2.toArray⟩ = .error (1000, 2) := by
  have h := d2
  unfold ise at h
  cases hp : prs ⟨t2.toArray⟩ with
  | error e => rw [hp] at h; simp only [beq_iff_eq] at h; rw [h]
  | ok y => rw [hp] at h; cases h
theorem pr_va : ∀ z : Int, z ≤ 12 → pr z va = [97] := fun z hz => by rw [pr_own (x := va) (by show ¬ (12 : Int) < z; omega)]; exact tx_var _
theorem pr_vb : ∀ z : Int, z ≤ 12 → pr z vb = [98] := fun z hz => by rw [pr_own (x := vb) (by show ¬ (12 : Int) < z; omega)]; exact tx_var _
theorem pr_vc : ∀ z : Int, z ≤ 12 → pr z vc = [99] := fun z hz => by rw [pr_own (x := vc) (by show ¬ (12 : Int) < z; omega)]; exact tx_var _
theorem pr_vx : ∀ z : Int, z ≤ 12 → pr z vx = [39, 120, 39] := fun z hz => by rw [pr_own (x := vx) (by show ¬ (12 : Int) < z; omega)]; exact tx_str _
theorem pr1 : pr (-1) x1 = [45, 40, 97, 32, 126, 32, 39, 120, 39, 41, 32, 63, 32, 33, 98, 32, 58, 32, 99] := by
  unfold x1
  rw [tx_if, pr_own (z := 0) (x := nd 10 [nd 17 [va, vx]]) (by show ¬ PPl.lvl 10 < 0; decide), tx_sg (.inl rfl), pr_par (z := 11) (x := nd 17 [va, vx]) (by show PPl.lvl 17 < 11; decide), tx_op (by decide) (by decide), pr_va _ (by decide), pr_vx _ (by decide), tx_sg (.inr rfl), pr_vb _ (by decide), pr_vc _ (by decide)]
  rfl
theorem may1 : (mayL [x1] 512).1 = true := by
  have hv : UBase.verr ⟨#[120]⟩ = 0 := by
    have h1 : UBase.len ⟨#[120]⟩ 0 = 1 := by decide
    unfold UBase.verr
    rw [UBase.bad_step (by decide) (by rw [h1]; decide), h1, UBase.bad_end (by decide)]
    rfl
  have htx : PFit.tx ⟨#[120]⟩ = true := by
    unfold PFit.tx PFit.tg
    rw [hv]
    decide
  have h31 : PFit.ft 31 0 ⟨#[]⟩ = true := by decide
  have h10 : PFit.ft 10 0 ⟨#[]⟩ = true := by decide
  have h11 : PFit.ft 11 0 ⟨#[]⟩ = true := by decide
  have h17 : PFit.ft 17 0 ⟨#[]⟩ = true := by decide
  have ha : PFit.ft 6 0 ⟨#[97]⟩ = true := by decide +kernel
  have hb : PFit.ft 6 0 ⟨#[98]⟩ = true := by decide +kernel
  have hc : PFit.ft 6 0 ⟨#[99]⟩ = true := by decide +kernel
  have hx : PFit.ft 5 0 ⟨#[120]⟩ = true := by
    show ((0 : Int) == 0 && PFit.tx ⟨#[120]⟩) = true
    rw [htx]; rfl
  have k31 : PPl.kd 31 = 3 := by decide
  have k10 : PPl.kd 10 = 1 := by decide
  have k11 : PPl.kd 11 = 1 := by decide
  have k17 : PPl.kd 17 = 2 := by decide
  have k6 : PPl.kd 6 = 0 := by decide
  have k5 : PPl.kd 5 = 0 := by decide
  simp [x1, nd, va, vb, vc, vx, mayL, h31, h10, h11, h17, ha, hb, hc, hx, k31, k10, k11, k17, k6, k5]
set_option maxRecDepth 20000 in
set_option maxHeartbeats 3200000 in
theorem awake_c {w : World} (ht : TX w) : Calls Tryz.prog 10 #[] w fun e w' => e = .returned (.bool true) ∧ Below w.heap.size w w' := by
  have c1 := parse_x (s := ⟨t1.toArray⟩) (by decide) ht
  rw [prs1] at c1
  have e1 : t1.toArray = #[45, 40, 97, 126, 39, 120, 39, 41, 32, 63, 32, 33, 98, 32, 58, 32, 40, 40, 99, 41, 41] := rfl
  rw [e1] at c1
  have HT : Hid (TX w) := ht
  clear ht e1
  go_enter Tryz.func10, Tryz.ntmps10
  go_wp2_with fail
  refine c1.mono ?_
  rintro e W1 ⟨b1, m, a, cap, rfl, hin⟩
  have HB1 : Hid (Below w.heap.size w W1) := b1
  have HIN : Hid (XBase.In false (Rg w.heap.size W1.heap.size) W1 m (.agg #[.int .i64 x1.o, .int .i64 x1.i, .string x1.s, .slice a x1.l.length cap]) x1) := hin
  clear c1 b1 hin
  go_wp2_with fail
  obtain ⟨W2, hW2⟩ : ∃ W2, W1.alloc (.cells #[.int .i64 x1.o, .int .i64 x1.i, .string x1.s, .slice a x1.l.length cap] 24) = W2 := ⟨_, rfl⟩
  have b2 : Below W1.heap.size W1 W2 := by rw [← hW2]; exact (Below.refl _ W1).alloc (Nat.le_refl _) _
  have hb2 : Below w.heap.size w W2 := HB1.out.trans (b2.mono HB1.out.size)
  have hin2 := (HIN.out.below b2).weak (S' := fun b => b < W2.heap.size) (fun b hb => Nat.lt_of_lt_of_le hb.2 b2.size) false id m (Nat.le_refl _)
  have c2 := print_x hin2 (HT.out.later hb2)
  rw [show PPp.ptx x1 = _ from by unfold PPp.ptx; rw [if_pos may1, pr1], show PPp.pcd x1 = 0 from by unfold PPp.pcd; rw [if_pos may1]] at c2
  have HB2 : Hid (Below w.heap.size w W2) := hb2
  clear b2 hb2 hin2 HIN HB1
  rw [hW2]
  clear hW2
  refine c2.mono ?_
  rintro e W3 ⟨rfl, b3⟩
  have hb3 : Below w.heap.size w W3 := HB2.out.trans (b3.mono HB2.out.size)
  have c3 := parse_x (s := ⟨t2.toArray⟩) (by decide) (HT.out.later hb3)
  rw [prs2, show t2.toArray = #[97, 32, 98] from rfl] at c3
  have HB3 : Hid (Below w.heap.size w W3) := hb3
  clear c2 b3 hb3 HB2
  go_wp2_with fail
  refine c3.mono ?_
  rintro e W4 ⟨b4, rfl⟩
  have HB4 : Hid (Below w.heap.size w W4) := HB3.out.trans (b4.mono HB3.out.size)
  clear c3 b4 HB3
  go_wp2_with (first | (go_at_call 7; refine (num_c _ _).mono ?_; rintro e w' ⟨rfl, rfl⟩))
  go_ret
  exact ⟨rfl, HB4.out.alloc HB4.out.size _⟩
end Go.Proofs.YtofpdnhnlkocoaaGreatDoor.EAw
namespace Go.Proofs.YtofpdnhnlkocoaaGreatDoor.QLv
open Go.RowKit Go.Proofs.YtofpdnhnlkocoaaGreatDoor.Base Go.Proofs.YtofpdnhnlkocoaaGreatDoor.EPure Go.Proofs.YtofpdnhnlkocoaaGreatDoor.PPl
set_option linter.unusedVariables false
/-- One block behind the other. -/
def allocs (w : World) : List Obj → World
  | [] => w
  | o :: L => allocs (w.alloc o) L
theorem allocs_below : ∀ (L : List Obj) (w : World) (B : Nat), B ≤ w.heap.size → Below B w (allocs w L)
  | [], w, B, h => Below.refl B w
  | o :: L, w, B, h => ((Below.refl B w).alloc h o).trans (allocs_below L (w.alloc o) B (by rw [World.size_alloc]; omega))
theorem allocs_at : ∀ (L : List Obj) (w : World) (j : Nat), j < L.length → (allocs w L).heap[w.heap.size + j]? = L[j]?
  | o :: L, w, 0, _ => by
    rw [allocs, Nat.add_zero, (allocs_below L (w.alloc o) (w.heap.size + 1) (by rw [World.size_alloc]; omega)).block w.heap.size (by omega), heap_alloc_new]
    rfl
  | o :: L, w, j + 1, h => by
    have := allocs_at L (w.alloc o) j (by simpa using h)
    rw [World.size_alloc] at this
    rw [allocs, show w.heap.size + (j + 1) = w.heap.size + 1 + j by omega, this]
    rfl
def tb (k i : Nat) : Int := ((lvs.getD k []).getD i ([], 0)).2
def nb (k : Nat) : Nat := (lvs.getD k []).length
/-- The table of Ops, in memory. -/
def Ot (w : World) (g : Nat) : Prop := ∀ k, k < 11 → ∃ b, w.cell? ⟨g, k, none⟩ = some (.slice (some ⟨b, 0, none⟩) (nb k) (nb k)) ∧ ∀ i, i < nb k → w.cell? ⟨b, i, none⟩ = some (.int .i64 (tb k i))
theorem Ot.later {w w' : World} {g : Nat} (h : Ot w g) (hb : Below w.heap.size w w') : Ot w' g := by
  have keep : ∀ (B j : Nat) (v : Value), w.cell? ⟨B, j, none⟩ = some v → w'.cell? ⟨B, j, none⟩ = some v := by
    intro B j v hv
    have hlt : B < w.heap.size := by
      unfold World.cell? at hv
      rcases Nat.lt_or_ge B w.heap.size with h | h
      · exact h
      · simp only [Array.getElem?_eq_none h] at hv; cases hv
    unfold World.cell? at hv ⊢
    simp only at hv ⊢
    rw [hb.block B hlt]
    exact hv
  intro k hk
  obtain ⟨b, h1, h2⟩ := h k hk
  exact ⟨b, keep _ _ _ h1, fun i hi => keep _ _ _ (h2 i hi)⟩
set_option maxRecDepth 20000 in
set_option maxHeartbeats 3200000 in
theorem ops_c (w : World) : Calls Tryz.prog 47 #[] w fun e w' => Below w.heap.size w w' ∧ ∃ g, e = .returned (.slice (some ⟨g, 0, none⟩) 11 11) ∧ Ot w' g := by
  go_enter Tryz.func47, Tryz.ntmps47
  go_wp2_with fail
  go_ret
  obtain ⟨L, hL⟩ : ∃ L : List Obj, L = [.cells #[.int .i64 30] 3, .cells #[.int .i64 29] 3, .cells #[.int .i64 27, .int .i64 28] 3, .cells #[.int .i64 23, .int .i64 24, .int .i64 25, .int .i64 26] 3, .cells #[.int .i64 22] 3, .cells #[.int .i64 21] 3, .cells #[.int .i64 20] 3, .cells #[.int .i64 18, .int .i64 19] 3, .cells #[.int .i64 17] 3, .cells #[.int .i64 15, .int .i64 16] 3, .cells #[.int .i64 12, .int .i64 13, .int .i64 14] 3, .cells #[.slice (some ⟨w.heap.size, 0, none⟩) 1 1, .slice (some ⟨w.heap.size + 1, 0, none⟩) 1 1, .slice (some ⟨w.heap.size + 1 + 1, 0, none⟩) 2 2, .slice (some ⟨w.heap.size + 1 + 1 + 1, 0, none⟩) 4 4, .slice (some ⟨w.heap.size + 1 + 1 + 1 + 1, 0, none⟩) 1 1, .slice (some ⟨w.heap.size + 1 + 1 + 1 + 1 + 1, 0, none⟩) 1 1, .slice (some ⟨w.heap.size + 1 + 1 + 1 + 1 + 1 + 1, 0, none⟩) 1 1, .slice (some ⟨w.heap.size + 1 + 1 + 1 + 1 + 1 + 1 + 1, 0, none⟩) 2 2, .slice (some ⟨w.heap.size + 1 + 1 + 1 + 1 + 1 + 1 + 1 + 1, 0, none⟩) 1 1, .slice (some ⟨w.heap.size + 1 + 1 + 1 + 1 + 1 + 1 + 1 + 1 + 1, 0, none⟩) 2 2, .slice (some ⟨w.heap.size + 1 + 1 + 1 + 1 + 1 + 1 + 1 + 1 + 1 + 1, 0, none⟩) 3 3] 82] := ⟨_, rfl⟩
  have hlen : L.length = 12 := by rw [hL]; rfl
  have hW : ∀ j, j < 12 → (allocs w L).heap[w.heap.size + j]? = L[j]? := fun j hj => allocs_at L w j (by omega)
  have hb := allocs_below L w w.heap.size (Nat.le_refl _)
  have key : Ot (allocs w L) (w.heap.size + 11) := by
    have h0 : (allocs w L).heap[w.heap.size + 0]? = some (.cells #[.int .i64 30] 3 (0, 0)) := (hW 0 (by omega)).trans (by rw [hL]; rfl)
    have h1 : (allocs w L).heap[w.heap.size + 1]? = some (.cells #[.int .i64 29] 3 (0, 0)) := (hW 1 (by omega)).trans (by rw [hL]; rfl)
    have h2 : (allocs w L).heap[w.heap.size + 2]? = some (.cells #[.int .i64 27, .int .i64 28] 3 (0, 0)) := (hW 2 (by omega)).trans (by rw [hL]; rfl)
    have h3 : (allocs w L).heap[w.heap.size + 3]? = some (.cells #[.int .i64 23, .int .i64 24, .int .i64 25, .int .i64 26] 3 (0, 0)) := (hW 3 (by omega)).trans (by rw [hL]; rfl)
    have h4 : (allocs w L).heap[w.heap.size + 4]? = some (.cells #[.int .i64 22] 3 (0, 0)) := (hW 4 (by omega)).trans (by rw [hL]; rfl)
    have h5 : (allocs w L).heap[w.heap.size + 5]? = some (.cells #[.int .i64 21] 3 (0, 0)) := (hW 5 (by omega)).trans (by rw [hL]; rfl)
    have h6 : (allocs w L).heap[w.heap.size + 6]? = some (.cells #[.int .i64 20] 3 (0, 0)) := (hW 6 (by omega)).trans (by rw [hL]; rfl)
    have h7 : (allocs w L).heap[w.heap.size + 7]? = some (.cells #[.int .i64 18, .int .i64 19] 3 (0, 0)) := (hW 7 (by omega)).trans (by rw [hL]; rfl)
    have h8 : (allocs w L).heap[w.heap.size + 8]? = some (.cells #[.int .i64 17] 3 (0, 0)) := (hW 8 (by omega)).trans (by rw [hL]; rfl)
    have h9 : (allocs w L).heap[w.heap.size + 9]? = some (.cells #[.int .i64 15, .int .i64 16] 3 (0, 0)) := (hW 9 (by omega)).trans (by rw [hL]; rfl)
    have h10 : (allocs w L).heap[w.heap.size + 10]? = some (.cells #[.int .i64 12, .int .i64 13, .int .i64 14] 3 (0, 0)) := (hW 10 (by omega)).trans (by rw [hL]; rfl)
    have h11 : (allocs w L).heap[w.heap.size + 11]? = some (.cells #[.slice (some ⟨w.heap.size, 0, none⟩) 1 1, .slice (some ⟨w.heap.size + 1, 0, none⟩) 1 1, .slice (some ⟨w.heap.size + 1 + 1, 0, none⟩) 2 2, .slice (some ⟨w.heap.size + 1 + 1 + 1, 0, none⟩) 4 4, .slice (some ⟨w.heap.size + 1 + 1 + 1 + 1, 0, none⟩) 1 1, .slice (some ⟨w.heap.size + 1 + 1 + 1 + 1 + 1, 0, none⟩) 1 1, .slice (some ⟨w.heap.size + 1 + 1 + 1 + 1 + 1 + 1, 0, none⟩) 1 1, .slice (some ⟨w.heap.size + 1 + 1 + 1 + 1 + 1 + 1 + 1, 0, none⟩) 2 2, .slice (some ⟨w.heap.size + 1 + 1 + 1 + 1 + 1 + 1 + 1 + 1, 0, none⟩) 1 1, .slice (some ⟨w.heap.size + 1 + 1 + 1 + 1 + 1 + 1 + 1 + 1 + 1, 0, none⟩) 2 2, .slice (some ⟨w.heap.size + 1 + 1 + 1 + 1 + 1 + 1 + 1 + 1 + 1 + 1, 0, none⟩) 3 3] 82 (0, 0)) := (hW 11 (by omega)).trans (by rw [hL]; rfl)
    clear hW hb hlen hL
    generalize allocs w L = W at *
    rw [Nat.add_zero] at h0
    intro k hk
    match k, hk with
    | 0, _ =>
      refine ⟨w.heap.size + 0, by simp [World.cell?, h11, nb, lvs], fun i hi => ?_⟩
      match i, hi with
      | 0, _ => simp [World.cell?, h0, tb, lvs]
      | i + 1, h => exact absurd h (by simp [nb, lvs])
    | 1, _ =>
      refine ⟨w.heap.size + 1, by simp [World.cell?, h11, nb, lvs], fun i hi => ?_⟩
      match i, hi with
      | 0, _ => simp [World.cell?, h1, tb, lvs]
      | i + 1, h => exact absurd h (by simp [nb, lvs])
    | 2, _ =>
      refine ⟨w.heap.size + 2, by simp [World.cell?, h11, nb, lvs], fun i hi => ?_⟩
      match i, hi with
      | 0, _ => simp [World.cell?, h2, tb, lvs]
      | 1, _ => simp [World.cell?, h2, tb, lvs]
      | i + 2, h => exact absurd h (by simp [nb, lvs])
    | 3, _ =>
      refine ⟨w.heap.size + 3, by simp [World.cell?, h11, nb, lvs], fun i hi => ?_⟩
      match i, hi with
      | 0, _ => simp [World.cell?, h3, tb, lvs]
      | 1, _ => simp [World.cell?, h3, tb, lvs]
      | 2, _ => simp [World.cell?, h3, tb, lvs]
      | 3, _ => simp [World.cell?, h3, tb, lvs]
      | i + 4, h => exact absurd h (by simp [nb, lvs])
    | 4, _ =>
      refine ⟨w.heap.size + 4, by simp [World.cell?, h11, nb, lvs], fun i hi => ?_⟩
      match i, hi with
      | 0, _ => simp [World.cell?, h4, tb, lvs]
      | i + 1, h => exact absurd h (by simp [nb, lvs])
    | 5, _ =>
      refine ⟨w.heap.size + 5, by simp [World.cell?, h11, nb, lvs], fun i hi => ?_⟩
      match i, hi with
      | 0, _ => simp [World.cell?, h5, tb, lvs]
      | i + 1, h => exact absurd h (by simp [nb, lvs])
    | 6, _ =>
      refine ⟨w.heap.size + 6, by simp [World.cell?, h11, nb, lvs], fun i hi => ?_⟩
      match i, hi with
      | 0, _ => simp [World.cell?, h6, tb, lvs]
      | i + 1, h => exact absurd h (by simp [nb, lvs])
    | 7, _ =>
      refine ⟨w.heap.size + 7, by simp [World.cell?, h11, nb, lvs], fun i hi => ?_⟩
      match i, hi with
      | 0, _ => simp [World.cell?, h7, tb, lvs]
      | 1, _ => simp [World.cell?, h7, tb, lvs]
      | i + 2, h => exact absurd h (by simp [nb, lvs])
    | 8, _ =>
      refine ⟨w.heap.size + 8, by simp [World.cell?, h11, nb, lvs], fun i hi => ?_⟩
      match i, hi with
      | 0, _ => simp [World.cell?, h8, tb, lvs]
      | i + 1, h => exact absurd h (by simp [nb, lvs])
    | 9, _ =>
      refine ⟨w.heap.size + 9, by simp [World.cell?, h11, nb, lvs], fun i hi => ?_⟩
      match i, hi with
      | 0, _ => simp [World.cell?, h9, tb, lvs]
      | 1, _ => simp [World.cell?, h9, tb, lvs]
      | i + 2, h => exact absurd h (by simp [nb, lvs])
    | 10, _ =>
      refine ⟨w.heap.size + 10, by simp [World.cell?, h11, nb, lvs], fun i hi => ?_⟩
      match i, hi with
      | 0, _ => simp [World.cell?, h10, tb, lvs]
      | 1, _ => simp [World.cell?, h10, tb, lvs]
      | 2, _ => simp [World.cell?, h10, tb, lvs]
      | i + 3, h => exact absurd h (by simp [nb, lvs])
    | k + 11, h => exact absurd h (by omega)
  subst hL
  exact ⟨hb, _, rfl, key⟩
/-- The reference's level of an Op. -/
def rl (o : Int) : Int := if 12 ≤ o ∧ o ≤ 30 then lvl o + 1 else if o = 31 then 0 else if o = 10 ∨ o = 11 then 12 else if o = 7 ∨ o = 8 then 13 else if (1 ≤ o ∧ o ≤ 6) ∨ o = 9 then 14 else -1
theorem hit2 : ∀ k, k < 11 → ∀ i, i < nb k → rl (tb k i) = k + 1 := by decide
theorem there : ∀ n : Nat, n < 31 → 12 ≤ n → ∃ k, k < 11 ∧ ∃ i, i < nb k ∧ tb k i = (n : Int) := by decide
theorem nb_le : ∀ k, k < 11 → nb k ≤ 4 := by decide
set_option maxRecDepth 20000 in
set_option maxHeartbeats 3200000 in
theorem level_c (o : Int) (w : World) : Calls Tryz.prog 46 #[.int .i64 o] w fun e w' => e = .returned (.int .i64 (rl o)) ∧ Below w.heap.size w w' := by
  go_enter Tryz.func46, Tryz.ntmps46
  go_wp2_with fail
  refine (ops_c w).mono ?_
  rintro e W1 ⟨b1, g, rfl, hot⟩
  have HO : Hid (Ot W1 g) := hot
  have HB : Hid (Below w.heap.size w W1) := b1
  clear hot b1
  go_wp2_with fail
  go_loopw [4] (fun i wr => ∃ k : Nat, i = .int .i64 k ∧ k ≤ 11 ∧ wr = W1 ∧ ∀ k', k' < k → ∀ j, j < nb k' → tb k' j ≠ o) (fun i _ => 11 - (intOf i).toNat)
  case atStart => exact ⟨0, rfl, by omega, rfl, fun k' h => by omega⟩
  case round =>
    obtain ⟨k, rfl, hk, rfl, hno⟩ := hrel
    have HNO : Hid (∀ k', k' < k → ∀ j, j < nb k' → tb k' j ≠ o) := hno
    clear hno
    by_cases hk11 : k < 11
    · have d11 : decide ((k : Int) < 11) = true := by simp; omega
      obtain ⟨b, q1, q2⟩ := HO.out k hk11
      have hn4 := nb_le k hk11
      have HQ : Hid (∀ i, i < nb k → wr.cell? ⟨b, i, none⟩ = some (.int .i64 (tb k i))) := q2
      obtain ⟨n, hn⟩ : ∃ n, nb k = n := ⟨_, rfl⟩
      rw [hn] at q1 hn4
      have HN : Hid (nb k = n) := hn
      clear q2 hn
      go_wp2_with fail
      go_loopw [5] (fun i wy => ∃ j : Nat, i = .int .i64 j ∧ j ≤ n ∧ wy = wr ∧ ∀ j', j' < j → tb k j' ≠ o) (fun i _ => n - (intOf i).toNat)
      case atStart => exact ⟨0, rfl, by omega, rfl, fun j' h => by omega⟩
      case round =>
        rename_i W2 _ _
        obtain ⟨j, rfl, hj, rfl, hni⟩ := hrel
        have HNI : Hid (∀ j', j' < j → tb k j' ≠ o) := hni
        clear hni
        by_cases hjn : j < n
        · have dj : decide ((j : Int) < (n : Int)) = true := by simp; omega
          have q3 := HQ.out j (by rw [HN.out]; exact hjn)
          obtain ⟨t, ht⟩ : ∃ t, tb k j = t := ⟨_, rfl⟩
          have HTT : Hid (tb k j = t) := ht
          rw [ht] at q3
          clear ht
          by_cases ho : t = o
          · have eo : (t == o) = true := by simp [ho]
            have HR : Hid (rl o = k + 1) := by
              have := hit2 k hk11 j (by rw [HN.out]; exact hjn)
              rw [HTT.out, ho] at this
              exact this
            clear ho
            go_wp2_with fail
            go_ret
            rw [HR.out]
            exact ⟨by simp, HB.out⟩
          · have eo : (t == o) = false := by simp [ho]
            have HNI2 : Hid (∀ j', j' < j + 1 → tb k j' ≠ o) := by
              intro j' hj'
              by_cases e : j' = j
              · rw [e, HTT.out]; exact ho
              · exact HNI.out j' (by omega)
            clear ho
            go_wp2_with fail
            go_roundw
            case rel => exact ⟨j + 1, by go_num, by omega, by first | rfl | trivial, HNI2.out⟩
            case measure => simp only [intOf]; omega
        · have dj : decide ((j : Int) < (n : Int)) = false := by simp; omega
          have HNO2 : Hid (∀ k', k' < k + 1 → ∀ j, j < nb k' → tb k' j ≠ o) := by
            intro k' hk' j' hj'
            by_cases e : k' = k
            · subst e; exact HNI.out j' (by rw [HN.out] at hj'; omega)
            · exact HNO.out k' (by omega) j' hj'
          go_wp2_with fail
          go_roundw
          case rel => exact ⟨k + 1, by go_num, by omega, by first | rfl | trivial, HNO2.out⟩
          case measure => simp only [intOf]; omega
    · have d11 : decide ((k : Int) < 11) = false := by simp; omega
      have hr : ¬ (12 ≤ o ∧ o ≤ 30) := by
        rintro ⟨h1, h2⟩
        obtain ⟨k', hk', i, hi, e⟩ := there o.toNat (by omega) (by omega)
        exact HNO.out k' (by omega) i hi (by rw [e]; omega)
      have HR : Hid (¬ (12 ≤ o ∧ o ≤ 30)) := hr
      clear hr HNO
      go_wp2_with fail
      all_goals
        go_ret
        refine ⟨ret_int ?_, HB.out⟩
        unfold rl
        rw [if_neg HR.out]
        simp_all
        try omega
end Go.Proofs.YtofpdnhnlkocoaaGreatDoor.QLv
namespace Go.Proofs.YtofpdnhnlkocoaaGreatDoor.QAl
open Go.RowKit Go.Proofs.YtofpdnhnlkocoaaGreatDoor.Base Go.Proofs.YtofpdnhnlkocoaaGreatDoor.UBase Go.Proofs.YtofpdnhnlkocoaaGreatDoor.UValid Go.Proofs.YtofpdnhnlkocoaaGreatDoor.EPure Go.Proofs.YtofpdnhnlkocoaaGreatDoor.ENd Go.Proofs.YtofpdnhnlkocoaaGreatDoor.PPl Go.Proofs.YtofpdnhnlkocoaaGreatDoor.PFit Go.Proofs.YtofpdnhnlkocoaaGreatDoor.QLv
open Go.Proofs.YtofpdnhnlkocoaaGreatDoor.XBase (four_box two_box frozen_box)
set_option linter.unusedVariables false
def rk (o : Int) : Int := if 1 ≤ o ∧ o ≤ 6 then 0 else if o = 7 ∨ o = 9 ∨ o = 10 ∨ o = 11 then 1 else if o = 31 then 3 else 2
set_option maxRecDepth 20000 in
set_option maxHeartbeats 1600000 in
theorem kids_c (o : Int) (w : World) : Calls Tryz.prog 90 #[.int .i64 o] w fun e w' => e = .returned (.int .i64 (rk o)) ∧ w' = w := by
  go_enter Tryz.func90, Tryz.ntmps90
  go_wp2_with fail
  all_goals
    go_ret
    refine ⟨ret_int ?_, rfl⟩
    unfold rk
    simp_all
    try omega
theorem rk_kd {o : Int} (h : 0 ≤ rl o) : rk o = kd o := by
  unfold rl at h
  unfold rk kd
  repeat' split at h
  all_goals (repeat' split) <;> omega
theorem rl_neg {o : Int} (h : rl o < 0) : kd o = -1 := by
  have hl : 12 ≤ o → o ≤ 30 → 0 ≤ lvl o := fun h1 h2 => by
    unfold lvl
    repeat' split
    all_goals omega
  unfold rl at h
  unfold kd
  repeat' split at h
  all_goals (repeat' split) <;> first | omega | (have := hl (by omega) (by omega); omega)
set_option maxRecDepth 20000 in
set_option maxHeartbeats 1600000 in
theorem written_c (s : ByteArray) (hs : s.size ≤ 140737488351232) (w : World) : Calls Tryz.prog 92 #[.string s] w fun e w' => e = .returned (.bool (wrt s)) ∧ w' = w := by
  obtain ⟨T, hT⟩ : ∃ T, wrt s = T := ⟨_, rfl⟩
  have HT : Hid (wrt s = T) := hT
  rw [hT]
  clear hT
  go_enter Tryz.func92, Tryz.ntmps92
  go_wp2_with fail
  go_loopw [3] (fun i wr => ∃ k : Nat, i = .int .i64 k ∧ k ≤ s.size ∧ wr = w ∧ ∀ j, j < k → 32 ≤ at' s j ∨ at' s j = 10) (fun i _ => s.size - (intOf i).toNat)
  case atStart => exact ⟨0, rfl, by omega, rfl, fun j h => by omega⟩
  case round =>
    obtain ⟨k, rfl, hk, rfl, hall⟩ := hrel
    have HA : Hid (∀ j, j < k → 32 ≤ at' s j ∨ at' s j = 10) := hall
    clear hall
    by_cases hlt : k < s.size
    · have d : decide ((k : Int) < (s.size : Int)) = true := by simp; omega
      have hat := at_get s k hlt
      have HAT : Hid (at' s k = (s[k]'hlt).toNat) := hat
      obtain ⟨c, hc⟩ : ∃ c, (s[k]'hlt).toNat = c := ⟨_, rfl⟩
      have HC : Hid (at' s k = c) := hat.trans hc
      clear hat
      by_cases h32 : c < 32
      · have d1 : decide ((c : Int) < 32) = true := by simp; omega
        by_cases h10 : c = 10
        · have d2 : ((c : Int) != 10) = false := by simp; omega
          have HA2 : Hid (∀ j, j < k + 1 → 32 ≤ at' s j ∨ at' s j = 10) := fun j hj => by
            by_cases e : j = k
            · rw [e, HC.out]; exact .inr h10
            · exact HA.out j (by omega)
          clear h10 h32
          go_wp2_with fail
          go_roundw
          case rel => exact ⟨k + 1, by go_num, by omega, by first | rfl | trivial, HA2.out⟩
          case measure => simp only [intOf]; omega
        · have d2 : ((c : Int) != 10) = true := by simp; omega
          have HF : Hid (false = T) := by
            show _ = _
            rw [← HT.out]
            unfold wrt
            symm
            apply decide_eq_false
            intro h
            have := h k hlt
            rw [HC.out] at this
            omega
          clear h10 h32
          go_wp2_with fail
          go_ret
          rw [← HF.out]
          exact ⟨rfl, rfl⟩
      · have d1 : decide ((c : Int) < 32) = false := by simp; omega
        have HA2 : Hid (∀ j, j < k + 1 → 32 ≤ at' s j ∨ at' s j = 10) := fun j hj => by
          by_cases e : j = k
          · rw [e, HC.out]; exact .inl (by omega)
          · exact HA.out j (by omega)
        clear h32
        go_wp2_with fail
        go_roundw
        case rel => exact ⟨k + 1, by go_num, by omega, by first | rfl | trivial, HA2.out⟩
        case measure => simp only [intOf]; omega
    · have d : decide ((k : Int) < (s.size : Int)) = false := by simp; omega
      have HF : Hid (true = T) := by
        show _ = _
        rw [← HT.out]
        unfold wrt
        symm
        exact decide_eq_true fun i hi => HA.out i (by omega)
      go_wp2_with fail
      go_ret
      rw [← HF.out]
      exact ⟨rfl, rfl⟩
theorem name_c (s : ByteArray) (hs : s.size ≤ 140737488351232) (w : World) : Calls Tryz.prog 94 #[.string s] w fun e w' => e = .returned (.bool (word s 95)) ∧ w' = w := by
  have c := UWord.ref_c s (by omega) 95 w
  generalize word s 95 = b at *
  go_enter Tryz.func94, Tryz.ntmps94
  go_wp2_with (first | (go_at_call 111; refine c.mono ?_; rintro e w' ⟨rfl, rfl⟩))
  go_ret
  exact ⟨rfl, rfl⟩
theorem good_c (s : ByteArray) (hs : s.size ≤ 140737488351232) (w : World) :
    Calls Tryz.prog 91 #[.string s] w fun r w' => r = .returned (.bool (tg s)) ∧ w' = w := by
  have c72 := rvalid_c s (by omega) w
  by_cases h : s.size ≤ 4096
  · have e : tg s = (verr s == 0) := by simp [tg, h]
    rw [e]
    have hv := PFit.verr_cases s
    generalize verr s = x at *
    generalize vat s = y at *
    have h' : decide ((4096 : Int) < (s.size : Int)) = false := decide_eq_false (by omega)
    clear e
    rcases hv with rfl | rfl
    · go_enter Tryz.func91, Tryz.ntmps91
      go_wp2_with (first | (go_at_call 110; refine c72.mono ?_; rintro e w' ⟨rfl, rfl⟩))
      go_ret
      exact ⟨rfl, rfl⟩
    · go_enter Tryz.func91, Tryz.ntmps91
      go_wp2_with (first | (go_at_call 110; refine c72.mono ?_; rintro e w' ⟨rfl, rfl⟩))
      go_ret
      exact ⟨rfl, rfl⟩
  · have e : tg s = false := by simp [tg, h]
    rw [e]
    have h' : decide ((4096 : Int) < (s.size : Int)) = true := decide_eq_true (by omega)
    clear c72 e
    go_enter Tryz.func91, Tryz.ntmps91
    go_wp2_with fail
    go_ret
    exact ⟨rfl, rfl⟩
/-- A name that is none of the three words. -/
def vr (s : ByteArray) : Bool := word s 95 && !(Lib.containsS wdl s)
theorem vr_eq (s : ByteArray) : vr s = (word s 95 && ((s.toList != [110, 117, 108, 108]) && ((s.toList != [102, 97, 108, 115, 101]) && (s.toList != [116, 114, 117, 101])))) := by
  unfold vr
  cases hw : word s 95 with
  | false => rfl
  | true =>
    rw [Bool.true_and, Bool.true_and]
    have hne : s.toList ≠ [] := by
      intro e
      have : s.size = 0 := by rw [ByteArray.toList_eq] at e; rw [← ByteArray.size_data, ← Array.length_toList, e]; rfl
      unfold word at hw
      simp [this] at hw
    have key : ∀ a : List UInt8, (s = ⟨a.toArray⟩) ↔ s.toList = a := by
      intro a
      rw [ByteArray.toList_eq]
      constructor
      · rintro rfl; simp
      · intro e
        cases s
        congr 1
        apply Array.toList_inj.1
        simpa using e
    rw [Bool.eq_iff_iff]
    simp only [Bool.not_eq_true', Bool.and_eq_true, bne_iff_ne, ne_eq]
    rw [← Bool.not_eq_true, Lib.containsS_iff]
    unfold wdl
    simp only [List.mem_cons, List.not_mem_nil, or_false]
    rw [show (⟨#[]⟩ : ByteArray) = ⟨([] : List UInt8).toArray⟩ from rfl, show (⟨#[110, 117, 108, 108]⟩ : ByteArray) = ⟨[110, 117, 108, 108].toArray⟩ from rfl, show (⟨#[102, 97, 108, 115, 101]⟩ : ByteArray) = ⟨[102, 97, 108, 115, 101].toArray⟩ from rfl, show (⟨#[116, 114, 117, 101]⟩ : ByteArray) = ⟨[116, 114, 117, 101].toArray⟩ from rfl]
    rw [key, key, key, key]
    constructor
    · intro h
      exact ⟨fun e => h (.inr (.inl e)), fun e => h (.inr (.inr (.inl e))), fun e => h (.inr (.inr (.inr e)))⟩
    · rintro ⟨h1, h2, h3⟩ (h | h | h | h)
      · exact hne h
      · exact h1 h
      · exact h2 h
      · exact h3 h
theorem variable_c (s : ByteArray) (hs : s.size ≤ 140737488351232) (w : World) : Calls Tryz.prog 93 #[.string s] w fun e w' => e = .returned (.bool (vr s)) ∧ w' = w := by
  have c := name_c s hs w
  rw [vr_eq]
  generalize word s 95 = b at *
  cases b with
  | false =>
    go_enter Tryz.func93, Tryz.ntmps93
    go_wp2_with (first | (go_at_call 94; refine c.mono ?_; rintro e w' ⟨rfl, rfl⟩))
    go_ret
    exact ⟨rfl, rfl⟩
  | true =>
    simp only [bne]
    cases h1 : (s.toList == [110, 117, 108, 108]) <;> cases h2 : (s.toList == [102, 97, 108, 115, 101]) <;> cases h3 : (s.toList == [116, 114, 117, 101])
    all_goals
      go_enter Tryz.func93, Tryz.ntmps93
      go_wp2_with (first | (go_at_call 94; refine c.mono ?_; rintro e w' ⟨rfl, rfl⟩))
      go_ret
      exact ⟨rfl, rfl⟩
end Go.Proofs.YtofpdnhnlkocoaaGreatDoor.QAl

/- Templates: contracts of interpolation, openingTag, closingTag, tagEnd. -/
import Derived.Test.YtfglbgnjgapehaaLPl
import Derived.BigQuiet
namespace Go.Proofs.Ytfglbgnjgapehaa.LSc
open Go.RowKit Go.Proofs.Ytfglbgnjgapehaa.UBase Go.Proofs.Ytfglbgnjgapehaa.EPure Go.Proofs.Ytfglbgnjgapehaa.LPure Go.Proofs.Ytfglbgnjgapehaa.LRd Go.Proofs.Ytfglbgnjgapehaa.LSk Go.Proofs.Ytfglbgnjgapehaa.LNm Go.Proofs.Ytfglbgnjgapehaa.LUp Go.Proofs.Ytfglbgnjgapehaa.LTe Go.Proofs.Ytfglbgnjgapehaa.LPl
set_option linter.unusedVariables false

/-- A token's cells. -/
abbrev tv (k : Nat) (n t : ByteArray) (a : Nat) : Value := .agg #[.int .i64 k, .string n, .string t, .int .i64 a]
abbrev t0 : Obj := .cells #[.int .i64 0, .string ⟨#[]⟩, .string ⟨#[]⟩, .int .i64 0] 34
/-- The place behind a sign, if it stands here. -/
def mpl (s : ByteArray) (x : List UInt8) (i : Nat) : Nat := if pre s i x = true then i + x.length else i
theorem must_m {w : World} {R : Nat} {s : ByteArray} {i : Nat} {b : Bool} {f : F} (h : Lr w R s i b f) (x : List UInt8) :
    Calls Try.prog 56 #[ptr R, .string ⟨x.toArray⟩] w fun e w' => (∃ r, e = .returned r) ∧ Lr w' R s (mpl s x i) b (fif (pre s i x) f (1202, i)) ∧ Kr R w w' := by
  refine (must_c h x).mono ?_
  rintro e w' ⟨h1, h2, h3⟩
  refine ⟨h1, ?_, h3⟩
  cases hp : pre s i x with
  | true => rw [hp] at h2; unfold mpl; rw [hp]; exact h2
  | false => rw [hp] at h2; unfold mpl; rw [hp]; exact h2
theorem four_box {w : World} {B : Nat} {v0 v1 v2 v3 : Value} {t : TypeId} (h : w.heap[B]? = some (.cells #[v0, v1, v2, v3] t (0, 0))) :
    (w.cell? ⟨B, 0, none⟩ = some v0 ∧ w.cell? ⟨B, 1, none⟩ = some v1 ∧ w.cell? ⟨B, 2, none⟩ = some v2 ∧ w.cell? ⟨B, 3, none⟩ = some v3) ∧ w.frozen? ⟨B, 0, none⟩ = false ∧ w.frozen? ⟨B, 1, none⟩ = false ∧ w.frozen? ⟨B, 2, none⟩ = false ∧ w.frozen? ⟨B, 3, none⟩ = false := by
  refine ⟨⟨?_, ?_, ?_, ?_⟩, ?_, ?_, ?_, ?_⟩ <;> simp [World.cell?, World.frozen?, h]
theorem Kr.off {R B : Nat} {w w' : World} (h : Kr R w w') (hB : w.heap.size ≤ B) (hR : R < B) (j : Nat) (u : Value) : Kr R w (w'.setCell ⟨B, j, none⟩ u) :=
  ⟨h.below.setCell (p := ⟨B, j, none⟩) (by show R ≤ B; omega) u, fun k hk hs => (Below.heap_setCell _ _ _ _ (by simp; omega)).trans (h.other k hk hs)⟩
theorem Lr.off {R B : Nat} {w : World} {s : ByteArray} {i : Nat} {b : Bool} {f : F} (h : Lr w R s i b f) (hR : R < B) (j : Nat) (u : Value) : Lr (w.setCell ⟨B, j, none⟩ u) R s i b f := h.keep (Below.heap_setCell _ _ _ _ (by simp; omega))
theorem set_box4 {w : World} {B : Nat} {u0 u1 u2 u3 v0 v1 v2 v3 : Value} {t : TypeId} (h : w.heap[B]? = some (.cells #[u0, u1, u2, u3] t (0, 0))) :
    ((((w.setCell ⟨B, 0, none⟩ v0).setCell ⟨B, 1, none⟩ v1).setCell ⟨B, 2, none⟩ v2).setCell ⟨B, 3, none⟩ v3).heap[B]? = some (.cells #[v0, v1, v2, v3] t (0, 0)) := by
  simp [World.setCell, Array.getElem?_modify, h]
/-- The library's one number (block 0) is there. -/
def Gm (W : World) : Prop := ∃ m : Int, W.cell? ⟨0, 0, none⟩ = some (.int .i64 m)
theorem Gm.kr {R : Nat} {w w' : World} (h : Gm w) (k : Kr R w w') (hR : 0 < R) (hs : R < w.heap.size) : Gm w' := by
  obtain ⟨m, hm⟩ := h
  refine ⟨m, ?_⟩
  rw [World.cell?, k.other 0 (by omega) (by omega)]
  exact hm
/-- Amid a scanner: the lexer, and the token that is handed out, still empty. -/
structure Sc (w W : World) (R : Nat) (s : ByteArray) (i : Nat) (b : Bool) (f : F) : Prop where
  lr : Lr W R s i b f
  kr : Kr R w W
  box : W.heap[w.heap.size]? = some (.cells #[.int .i64 0, .string ⟨#[]⟩, .string ⟨#[]⟩, .int .i64 0] 34 (0, 0))
theorem Sc.start {w : World} {R : Nat} {s : ByteArray} {i : Nat} {b : Bool} {f : F} (h : Lr w R s i b f) : Sc w (w.alloc t0) R s i b f := by
  have b := (Below.refl w.heap.size w).alloc (Nat.le_refl _) t0
  exact ⟨h.low b, Kr.of_below b (Nat.le_of_lt h.lt), heap_alloc_new w _⟩
theorem Sc.step {w W W' : World} {R : Nat} {s : ByteArray} {i i' : Nat} {b b' : Bool} {f f' : F} (h : Sc w W R s i b f) (hR : R < w.heap.size) (k : Kr R W W') (e : Lr W' R s i' b' f') : Sc w W' R s i' b' f' := by
  have hs := h.kr.below.size
  have hl := (Array.getElem?_eq_some_iff.1 h.box).1
  exact ⟨e, h.kr.trans k, (k.other _ (by omega) hl).trans h.box⟩
theorem Sc.low {w W W' : World} {R : Nat} {s : ByteArray} {i : Nat} {b : Bool} {f : F} (h : Sc w W R s i b f) (hR : R < w.heap.size) (q : Below W.heap.size W W') : Sc w W' R s i b f :=
  h.step hR (Kr.of_below q (Nat.le_of_lt h.lr.lt)) (h.lr.low q)
theorem Sc.fin {w W : World} {R : Nat} {s : ByteArray} {i : Nat} {b : Bool} {f : F} (h : Sc w W R s i b f) (hR : R < w.heap.size) (v0 v1 v2 v3 : Value) :
    ((((W.setCell ⟨w.heap.size, 0, none⟩ v0).setCell ⟨w.heap.size, 1, none⟩ v1).setCell ⟨w.heap.size, 2, none⟩ v2).setCell ⟨w.heap.size, 3, none⟩ v3).heap[w.heap.size]? = some (.cells #[v0, v1, v2, v3] 34 (0, 0)) ∧
    Lr ((((W.setCell ⟨w.heap.size, 0, none⟩ v0).setCell ⟨w.heap.size, 1, none⟩ v1).setCell ⟨w.heap.size, 2, none⟩ v2).setCell ⟨w.heap.size, 3, none⟩ v3) R s i b f ∧
    Kr R w ((((W.setCell ⟨w.heap.size, 0, none⟩ v0).setCell ⟨w.heap.size, 1, none⟩ v1).setCell ⟨w.heap.size, 2, none⟩ v2).setCell ⟨w.heap.size, 3, none⟩ v3) :=
  ⟨set_box4 h.box, Lr.off (Lr.off (Lr.off (Lr.off h.lr hR 0 v0) hR 1 v1) hR 2 v2) hR 3 v3, Kr.off (Kr.off (Kr.off (Kr.off h.kr (Nat.le_refl _) hR 0 v0) (Nat.le_refl _) hR 1 v1) (Nat.le_refl _) hR 2 v2) (Nat.le_refl _) hR 3 v3⟩
theorem sub_small {s : ByteArray} (i j : Nat) (h : s.size ≤ 65536) : (sub s i j).size ≤ 65536 := by unfold sub; rw [ByteArray.size_extract]; omega
theorem utx_small {s : ByteArray} (i : Nat) (x : List UInt8) (h : s.size ≤ 65536) : (utx s i x).size ≤ 65536 := by
  unfold utx
  split
  · exact sub_small _ _ h
  · exact Nat.zero_le _
set_option maxRecDepth 20000 in
set_option maxHeartbeats 800000 in
theorem interpolation_c {w : World} {R : Nat} {s : ByteArray} {i : Nat} {b : Bool} {f : F} (h : Lr w R s i b f) (hg : Gm w) (hR0 : 0 < R) (hp : pre s i [123, 123] = true) :
    Calls Try.prog 42 #[ptr R] w fun e w' => e = .returned (tv 2 ⟨#[]⟩ (utx s (i + 2) [125, 125]) i) ∧ Lr w' R s (upl s (i + 2) [125, 125]) b (fif (decide (0 ≤ ux s (i + 2) [125, 125])) f (1205, i)) ∧ Kr R w w' := by
  have hlt := h.lt
  obtain ⟨W0, hW0⟩ : ∃ W0, w.alloc t0 = W0 := ⟨_, rfl⟩
  have h0 : Sc w W0 R s i b f := by rw [← hW0]; exact Sc.start h
  have HS0 : Hid (Sc w W0 R s i b f) := h0
  have HG : Hid (Gm w ∧ R < w.heap.size ∧ 0 < R) := ⟨hg, hlt, hR0⟩
  have cM := must_m h0.lr [123, 123]
  unfold mpl at cM
  rw [hp, fif_t, if_pos rfl] at cM
  have hsz := h.sz
  have hla := h.la
  obtain ⟨k0, k1, k2, k3, k4⟩ := h0.lr.cells
  obtain ⟨T, hT⟩ : ∃ T, utx s (i + 2) [125, 125] = T := ⟨_, rfl⟩
  obtain ⟨X, hX⟩ : ∃ X, upl s (i + 2) [125, 125] = X := ⟨_, rfl⟩
  obtain ⟨U, hU⟩ : ∃ U, fif (decide (0 ≤ ux s (i + 2) [125, 125])) f (1205, i) = U := ⟨_, rfl⟩
  have hTs : T.size ≤ 65536 := by rw [← hT]; exact utx_small _ _ hsz
  rw [hT, hX, hU]
  have HU : Hid (utx s (i + 2) [125, 125] = T ∧ upl s (i + 2) [125, 125] = X ∧ fif (decide (0 ≤ ux s (i + 2) [125, 125])) f (1205, i) = U) := ⟨hT, hX, hU⟩
  unfold ptr at cM ⊢
  clear h h0 hg hp hT hX hU hlt hR0
  go_enter Try.func42, Try.ntmps42
  go_wp2_with fail
  refine cM.mono ?_
  rintro e w1 ⟨⟨r, rfl⟩, h1, k1'⟩
  have h1' := HS0.out.step HG.out.2.1 k1' h1
  obtain ⟨m, hm⟩ := HG.out.1.kr h1'.kr HG.out.2.2 HG.out.2.1
  have cU := upTo_c h1 [125, 125] (1205, i) m hm (by decide)
  rw [show i + [(123 : UInt8), 123].length = i + 2 from rfl, HU.out.1, HU.out.2.1, HU.out.2.2] at cU
  unfold ptr at cU
  have HS1 : Hid (Sc w w1 R s (i + 2) b f) := h1'
  clear cM h1 k1' hW0 h1' hm HS0
  go_wp2_with fail
  refine cU.mono ?_
  rintro e w2 ⟨rfl, h2, k2'⟩
  have HS2 : Hid (Sc w w2 R s X b U) := HS1.out.step HG.out.2.1 k2' h2
  have cC := clone_c T (by omega) w2
  clear cU h2 k2' HS1
  go_wp2_with fail
  refine cC.mono ?_
  rintro e w3 ⟨rfl, hb⟩
  have h3 := HS2.out.low HG.out.2.1 hb
  obtain ⟨⟨y0, y1, y2, y3⟩, z0, z1, z2, z3⟩ := four_box h3.box
  obtain ⟨hbx, hlr, hkr⟩ := h3.fin HG.out.2.1 (.int .i64 2) (.string ⟨#[]⟩) (.string T) (.int .i64 i)
  obtain ⟨⟨d0, d1, d2, d3⟩, -⟩ := four_box hbx
  clear cC hb h3 HS2 hbx
  have HL := And.intro hlr hkr
  have HL : Hid (_ ∧ _) := HL
  clear hlr hkr
  go_wp2_with fail
  refine bodyPost_ret (v := tv 2 ⟨#[]⟩ T i) (by simp [results, Try.results42, go_sem, d0, d1, d2, d3]) rfl ?_
  exact ⟨rfl, HL.out⟩
end Go.Proofs.Ytfglbgnjgapehaa.LSc

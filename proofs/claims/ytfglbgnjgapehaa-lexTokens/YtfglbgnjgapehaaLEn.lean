/- Templates: contract of tagEnd. -/
import Derived.Test.YtfglbgnjgapehaaLTx
import Derived.BigQuiet
namespace Go.Proofs.Ytfglbgnjgapehaa.LEn
open Go.RowKit Go.Proofs.Ytfglbgnjgapehaa.UBase Go.Proofs.Ytfglbgnjgapehaa.EPure Go.Proofs.Ytfglbgnjgapehaa.LPure Go.Proofs.Ytfglbgnjgapehaa.LRd Go.Proofs.Ytfglbgnjgapehaa.LSk Go.Proofs.Ytfglbgnjgapehaa.LNm Go.Proofs.Ytfglbgnjgapehaa.LUp Go.Proofs.Ytfglbgnjgapehaa.LTe Go.Proofs.Ytfglbgnjgapehaa.LPl Go.Proofs.Ytfglbgnjgapehaa.LSc
set_option linter.unusedVariables false

/-- Amid a scanner that fills a token of its own. -/
structure S2 (w W : World) (R : Nat) (s : ByteArray) (i : Nat) (b : Bool) (f : F) (v0 v1 v2 v3 : Value) : Prop where
  sc : Sc w W R s i b f
  two : W.heap[w.heap.size + 1]? = some (.cells #[v0, v1, v2, v3] 34 (0, 0))
theorem S2.start {w : World} {R : Nat} {s : ByteArray} {i : Nat} {b : Bool} {f : F} (h : Lr w R s i b f) (v0 v1 v2 v3 : Value) :
    S2 w ((((((w.alloc t0).alloc t0).setCell ⟨w.heap.size + 1, 0, none⟩ v0).setCell ⟨w.heap.size + 1, 1, none⟩ v1).setCell ⟨w.heap.size + 1, 2, none⟩ v2).setCell ⟨w.heap.size + 1, 3, none⟩ v3) R s i b f v0 v1 v2 v3 := by
  have hlt := h.lt
  have h1 := Sc.start h
  have hz : (w.alloc t0).heap.size = w.heap.size + 1 := by show (w.heap.push t0).size = _; simp
  have q := (Below.refl (w.alloc t0).heap.size (w.alloc t0)).alloc (Nat.le_refl _) t0
  have h2 := h1.low hlt q
  have hn : ((w.alloc t0).alloc t0).heap[w.heap.size + 1]? = some (.cells #[.int .i64 0, .string ⟨#[]⟩, .string ⟨#[]⟩, .int .i64 0] 34 (0, 0)) := by rw [← hz]; exact heap_alloc_new _ _
  refine ⟨⟨Lr.off (Lr.off (Lr.off (Lr.off h2.lr ?_ 0 v0) ?_ 1 v1) ?_ 2 v2) ?_ 3 v3, Kr.off (Kr.off (Kr.off (Kr.off h2.kr ?_ ?_ 0 v0) ?_ ?_ 1 v1) ?_ ?_ 2 v2) ?_ ?_ 3 v3, ?_⟩, set_box4 hn⟩
  all_goals (try omega)
  have e : ∀ (W : World) j u, (W.setCell ⟨w.heap.size + 1, j, none⟩ u).heap[w.heap.size]? = W.heap[w.heap.size]? := fun W j u => Below.heap_setCell _ _ _ _ (by simp)
  rw [e, e, e, e]
  exact h2.box
theorem S2.step {w W W' : World} {R : Nat} {s : ByteArray} {i i' : Nat} {b b' : Bool} {f f' : F} {v0 v1 v2 v3 : Value} (h : S2 w W R s i b f v0 v1 v2 v3) (hR : R < w.heap.size) (k : Kr R W W') (e : Lr W' R s i' b' f') : S2 w W' R s i' b' f' v0 v1 v2 v3 := by
  have hl := (Array.getElem?_eq_some_iff.1 h.two).1
  exact ⟨h.sc.step hR k e, (k.other _ (by omega) hl).trans h.two⟩
theorem set_one4 {w : World} {B : Nat} {u0 u1 u2 u3 v : Value} {t : TypeId} (h : w.heap[B]? = some (.cells #[u0, u1, u2, u3] t (0, 0))) :
    (w.setCell ⟨B, 0, none⟩ v).heap[B]? = some (.cells #[v, u1, u2, u3] t (0, 0)) ∧ (w.setCell ⟨B, 1, none⟩ v).heap[B]? = some (.cells #[u0, v, u2, u3] t (0, 0)) ∧ (w.setCell ⟨B, 2, none⟩ v).heap[B]? = some (.cells #[u0, u1, v, u3] t (0, 0)) := by
  refine ⟨?_, ?_, ?_⟩ <;> simp [World.setCell, Array.getElem?_modify, h]
theorem S2.sets {w W : World} {R : Nat} {s : ByteArray} {i : Nat} {b : Bool} {f : F} {v0 v1 v2 v3 : Value} (h : S2 w W R s i b f v0 v1 v2 v3) (hR : R < w.heap.size) (v : Value) :
    S2 w (W.setCell ⟨w.heap.size + 1, 0, none⟩ v) R s i b f v v1 v2 v3 ∧ S2 w (W.setCell ⟨w.heap.size + 1, 1, none⟩ v) R s i b f v0 v v2 v3 ∧ S2 w (W.setCell ⟨w.heap.size + 1, 2, none⟩ v) R s i b f v0 v1 v v3 := by
  have e : ∀ j, (W.setCell ⟨w.heap.size + 1, j, none⟩ v).heap[w.heap.size]? = W.heap[w.heap.size]? := fun j => Below.heap_setCell _ _ _ _ (by simp)
  have g := set_one4 (v := v) h.two
  have sc : ∀ j, Sc w (W.setCell ⟨w.heap.size + 1, j, none⟩ v) R s i b f := fun j => ⟨Lr.off h.sc.lr (by omega) j v, Kr.off h.sc.kr (by omega) (by omega) j v, (e j).trans h.sc.box⟩
  exact ⟨⟨sc 0, g.1⟩, ⟨sc 1, g.2.1⟩, ⟨sc 2, g.2.2⟩⟩
theorem S2.tag {w W : World} {R : Nat} {s : ByteArray} {i : Nat} {b : Bool} {f : F} {v0 v1 v2 v3 : Value} (h : S2 w W R s i b f v0 v1 v2 v3) (hR : R < w.heap.size) (c : Bool) : S2 w (W.setCell ⟨R, 2, none⟩ (.bool c)) R s i c f v0 v1 v2 v3 :=
  h.step hR ((Kr.refl R W).set 2 _) (LOc.Lr.tag h.sc.lr c)
/-- The kind of a tag's end, and the place of its angle. -/
def eK (s : ByteArray) (i : Nat) : Nat := if pre s i [47] = true then 7 else 6
theorem size_alloc0 (w : World) : (w.alloc t0).heap.size = w.heap.size + 1 := by show (w.heap.push t0).size = _; simp
set_option maxRecDepth 20000 in
set_option maxHeartbeats 1600000 in
theorem tagEnd_c {w : World} {R : Nat} {s : ByteArray} {i : Nat} {b : Bool} {f : F} (h : Lr w R s i b f) :
    Calls Try.prog 53 #[ptr R] w fun e w' => e = .returned (tv (eK s i) ⟨#[]⟩ ⟨#[]⟩ i) ∧ Lr w' R s (mpl s [62] (mpl s [47] i)) false (fif (pre s (mpl s [47] i) [62]) f (1202, mpl s [47] i)) ∧ Kr R w w' := by
  have hlt := h.lt
  have hsz := h.sz
  have hla := h.la
  have h2 := S2.start h (.int .i64 6) (.string ⟨#[]⟩) (.string ⟨#[]⟩) (.int .i64 i)
  obtain ⟨W0, hW0⟩ : ∃ W0, w.alloc t0 = W0 := ⟨_, rfl⟩
  have h0 : Sc w W0 R s i b f := by rw [← hW0]; exact Sc.start h
  have hz0 : W0.heap.size = w.heap.size + 1 := by rw [← hW0]; exact size_alloc0 w
  rw [hW0] at h2
  obtain ⟨W1, hW1⟩ : ∃ W1, W0.alloc t0 = W1 := ⟨_, rfl⟩
  have hn : W1.heap[w.heap.size + 1]? = some (.cells #[.int .i64 0, .string ⟨#[]⟩, .string ⟨#[]⟩, .int .i64 0] 34 (0, 0)) := by rw [← hW1, ← hz0]; exact heap_alloc_new _ _
  obtain ⟨⟨u0, u1, u2, u3⟩, x0, x1, x2, x3⟩ := four_box hn
  rw [hW1] at h2
  obtain ⟨W2, hW2⟩ : ∃ W2, (((W1.setCell ⟨w.heap.size + 1, 0, none⟩ (.int .i64 6)).setCell ⟨w.heap.size + 1, 1, none⟩ (.string ⟨#[]⟩)).setCell ⟨w.heap.size + 1, 2, none⟩ (.string ⟨#[]⟩)).setCell ⟨w.heap.size + 1, 3, none⟩ (.int .i64 i) = W2 := ⟨_, rfl⟩
  rw [hW2] at h2
  have HG : Hid (R < w.heap.size) := hlt
  have HS2 : Hid (S2 w W2 R s i b f (.int .i64 6) (.string ⟨#[]⟩) (.string ⟨#[]⟩) (.int .i64 i)) := h2
  have cT := take_c h2.sc.lr [47]
  have cT' : Calls Try.prog 67 #[ptr R, .string ⟨[(47 : UInt8)].toArray⟩] W2 fun e w' => e = .returned (.bool (pre s i [47])) ∧ Lr w' R s (mpl s [47] i) b f ∧ Kr R W2 w' := cT
  obtain ⟨k0, k1, k2, k3, k4⟩ := h0.lr.cells
  obtain ⟨⟨a0, a1, a2, a3⟩, c0, c1, c2, c3⟩ := four_box h2.two
  obtain ⟨Y, hY⟩ : ∃ Y, mpl s [47] i = Y := ⟨_, rfl⟩
  rw [hY] at cT' ⊢
  obtain ⟨Z, hZ⟩ : ∃ Z, mpl s [62] Y = Z := ⟨_, rfl⟩
  obtain ⟨V, hV⟩ : ∃ V, fif (pre s Y [62]) f (1202, Y) = V := ⟨_, rfl⟩
  rw [hZ, hV]
  have HV : Hid (mpl s [62] Y = Z ∧ fif (pre s Y [62]) f (1202, Y) = V) := ⟨hZ, hV⟩
  obtain ⟨K, hK⟩ : ∃ K, eK s i = K := ⟨_, rfl⟩
  rw [hK]
  have hne : w.heap.size + 1 ≠ R := by omega
  have hne2 : w.heap.size ≠ w.heap.size + 1 := by omega
  unfold ptr at cT' ⊢
  cases hp : pre s i [47] with
  | true =>
    have HK : Hid (7 = K) := by show _ = _; rw [← hK]; unfold eK; rw [if_pos hp]
    rw [hp] at cT'
    clear h h0 h2 hn hlt hY hZ hV hK cT hp
    go_enter Try.func53, Try.ntmps53
    go_wp2_with fail
    refine cT'.mono ?_
    rintro e w3 ⟨rfl, h3, k3'⟩
    have h4 := HS2.out.step HG.out k3' h3
    obtain ⟨⟨a0, a1, a2, a3⟩, c0, c1, c2, c3⟩ := four_box h4.two
    obtain ⟨W4, hW4⟩ : ∃ W4, w3.setCell ⟨w.heap.size + 1, 0, none⟩ (.int .i64 7) = W4 := ⟨_, rfl⟩
    have h5 := (h4.sets HG.out (.int .i64 7)).1
    rw [hW4] at h5
    have cM := must_m h5.sc.lr [62]
    rw [HV.out.1, HV.out.2] at cM
    unfold ptr at cM
    have HS5 : Hid (S2 w W4 R s Y b f (.int .i64 7) (.string ⟨#[]⟩) (.string ⟨#[]⟩) (.int .i64 i)) := h5
    clear cT' h3 k3' h4 h5 HS2
    go_wp2_with fail
    refine cM.mono ?_
    rintro e w6 ⟨⟨r, rfl⟩, h6, k6⟩
    have h7 := HS5.out.step HG.out k6 h6
    obtain ⟨W8, hW8⟩ : ∃ W8, w6.setCell ⟨R, 2, none⟩ (.bool false) = W8 := ⟨_, rfl⟩
    have h8 := h7.tag HG.out false
    rw [hW8] at h8
    have g2 := h7.sc.lr.free 2
    obtain ⟨m0, m1, m2, m3, m4⟩ := h7.sc.lr.cells
    obtain ⟨⟨p0, p1, p2, p3⟩, -⟩ := four_box h8.two
    obtain ⟨⟨y0, y1, y2, y3⟩, z0, z1, z2, z3⟩ := four_box h8.sc.box
    obtain ⟨hbx, hlr, hkr⟩ := h8.sc.fin HG.out (.int .i64 7) (.string ⟨#[]⟩) (.string ⟨#[]⟩) (.int .i64 i)
    obtain ⟨⟨d0, d1, d2, d3⟩, -⟩ := four_box hbx
    have HL : Hid (_ ∧ _) := And.intro hlr hkr
    clear cM h6 k6 h7 h8 HS5 hbx hlr hkr hW4 c0 c1 c2 c3 a0 a1 a2 a3
    go_wp2_with fail
    refine bodyPost_ret (v := tv 7 ⟨#[]⟩ ⟨#[]⟩ i) (by simp [results, Try.results53, go_sem, d0, d1, d2, d3]) rfl ?_
    rw [← HK.out]
    exact ⟨rfl, HL.out⟩
  | false =>
    have HK : Hid (6 = K) := by show _ = _; rw [← hK]; unfold eK; rw [if_neg (by rw [hp]; decide)]
    rw [hp] at cT'
    clear h h0 h2 hn hlt hY hZ hV hK cT hp
    go_enter Try.func53, Try.ntmps53
    go_wp2_with fail
    refine cT'.mono ?_
    rintro e w3 ⟨rfl, h3, k3'⟩
    have h5 := HS2.out.step HG.out k3' h3
    have cM := must_m h5.sc.lr [62]
    rw [HV.out.1, HV.out.2] at cM
    unfold ptr at cM
    have HS5 : Hid (S2 w w3 R s Y b f (.int .i64 6) (.string ⟨#[]⟩) (.string ⟨#[]⟩) (.int .i64 i)) := h5
    clear cT' h3 k3' h5 HS2
    go_wp2_with fail
    refine cM.mono ?_
    rintro e w6 ⟨⟨r, rfl⟩, h6, k6⟩
    have h7 := HS5.out.step HG.out k6 h6
    obtain ⟨W8, hW8⟩ : ∃ W8, w6.setCell ⟨R, 2, none⟩ (.bool false) = W8 := ⟨_, rfl⟩
    have h8 := h7.tag HG.out false
    rw [hW8] at h8
    have g2 := h7.sc.lr.free 2
    obtain ⟨m0, m1, m2, m3, m4⟩ := h7.sc.lr.cells
    obtain ⟨⟨p0, p1, p2, p3⟩, -⟩ := four_box h8.two
    obtain ⟨⟨y0, y1, y2, y3⟩, z0, z1, z2, z3⟩ := four_box h8.sc.box
    obtain ⟨hbx, hlr, hkr⟩ := h8.sc.fin HG.out (.int .i64 6) (.string ⟨#[]⟩) (.string ⟨#[]⟩) (.int .i64 i)
    obtain ⟨⟨d0, d1, d2, d3⟩, -⟩ := four_box hbx
    have HL : Hid (_ ∧ _) := And.intro hlr hkr
    clear cM h6 k6 h7 h8 HS5 hbx hlr hkr c0 c1 c2 c3 a0 a1 a2 a3
    go_wp2_with fail
    refine bodyPost_ret (v := tv 6 ⟨#[]⟩ ⟨#[]⟩ i) (by simp [results, Try.results53, go_sem, d0, d1, d2, d3]) rfl ?_
    rw [← HK.out]
    exact ⟨rfl, HL.out⟩
end Go.Proofs.Ytfglbgnjgapehaa.LEn

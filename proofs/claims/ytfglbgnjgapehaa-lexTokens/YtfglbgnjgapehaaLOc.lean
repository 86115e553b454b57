/- Templates: contracts of openingTag, closingTag, text. -/
import Derived.Test.YtfglbgnjgapehaaLSc
import Derived.BigQuiet
namespace Go.Proofs.Ytfglbgnjgapehaa.LOc
open Go.RowKit Go.Proofs.Ytfglbgnjgapehaa.UBase Go.Proofs.Ytfglbgnjgapehaa.EPure Go.Proofs.Ytfglbgnjgapehaa.LPure Go.Proofs.Ytfglbgnjgapehaa.LRd Go.Proofs.Ytfglbgnjgapehaa.LSk Go.Proofs.Ytfglbgnjgapehaa.LNm Go.Proofs.Ytfglbgnjgapehaa.LUp Go.Proofs.Ytfglbgnjgapehaa.LTe Go.Proofs.Ytfglbgnjgapehaa.LPl Go.Proofs.Ytfglbgnjgapehaa.LSc
set_option linter.unusedVariables false

theorem Lr.tag {w : World} {R : Nat} {s : ByteArray} {i : Nat} {b : Bool} {f : F} (h : Lr w R s i b f) (c : Bool) : Lr (w.setCell ⟨R, 2, none⟩ (.bool c)) R s i c f := by
  refine ⟨?_, h.la, h.sz⟩
  rw [heap_setCell_same w R 2 _ 43 (.bool c) h.box]
  rfl
theorem Sc.tag {w W : World} {R : Nat} {s : ByteArray} {i : Nat} {b : Bool} {f : F} (h : Sc w W R s i b f) (hR : R < w.heap.size) (c : Bool) : Sc w (W.setCell ⟨R, 2, none⟩ (.bool c)) R s i c f :=
  h.step hR ((Kr.refl R W).set 2 _) (Lr.tag h.lr c)
/-- The place behind a tag's name, the name, and whether it may be. -/
abbrev nE (s : ByteArray) (i : Nat) : Nat := skp tgb s i
abbrev nT (s : ByteArray) (i : Nat) : ByteArray := sub s i (skp tgb s i)
abbrev nF (s : ByteArray) (i : Nat) (f : F) : F := fif (word (sub s i (skp tgb s i)) 45) f (1202, i)
set_option maxRecDepth 20000 in
set_option maxHeartbeats 800000 in
theorem openingTag_c {w : World} {R : Nat} {s : ByteArray} {i : Nat} {b : Bool} {f : F} (h : Lr w R s i b f) (hp : pre s i [60] = true) :
    Calls Try.prog 44 #[ptr R] w fun e w' => e = .returned (tv 3 (nT s (i + 1)) ⟨#[]⟩ i) ∧ Lr w' R s (nE s (i + 1)) true (nF s (i + 1) f) ∧ Kr R w w' := by
  have hlt := h.lt
  obtain ⟨W0, hW0⟩ : ∃ W0, w.alloc t0 = W0 := ⟨_, rfl⟩
  have h0 : Sc w W0 R s i b f := by rw [← hW0]; exact Sc.start h
  have HS0 : Hid (Sc w W0 R s i b f) := h0
  have HG : Hid (R < w.heap.size) := hlt
  have cM := must_m h0.lr [60]
  unfold mpl at cM
  rw [hp, fif_t, if_pos rfl] at cM
  obtain ⟨k0, k1, k2, k3, k4⟩ := h0.lr.cells
  obtain ⟨T, hT⟩ : ∃ T, nT s (i + 1) = T := ⟨_, rfl⟩
  obtain ⟨X, hX⟩ : ∃ X, nE s (i + 1) = X := ⟨_, rfl⟩
  obtain ⟨U, hU⟩ : ∃ U, nF s (i + 1) f = U := ⟨_, rfl⟩
  have HU : Hid (nT s (i + 1) = T ∧ nE s (i + 1) = X ∧ nF s (i + 1) f = U) := ⟨hT, hX, hU⟩
  rw [hT, hX, hU]
  unfold ptr at cM ⊢
  clear h h0 hp hT hX hU hlt
  go_enter Try.func44, Try.ntmps44
  go_wp2_with fail
  refine cM.mono ?_
  rintro e w1 ⟨⟨r, rfl⟩, h1, k1'⟩
  have h1' : Sc w w1 R s (i + 1) b f := HS0.out.step HG.out k1' h1
  have f2 := h1.free 2
  obtain ⟨l0, l1, l2, l3, l4⟩ := h1.cells
  obtain ⟨W2, hW2⟩ : ∃ W2, w1.setCell ⟨R, 2, none⟩ (.bool true) = W2 := ⟨_, rfl⟩
  have h2 : Sc w W2 R s (i + 1) true f := by rw [← hW2]; exact Sc.tag h1' HG.out true
  have cN := name_c h2.lr
  have cN' : Calls Try.prog 59 #[ptr R] W2 fun e w' => e = .returned (.string T) ∧ Lr w' R s X true U ∧ Kr R W2 w' := by
    obtain ⟨e1, e2, e3⟩ := HU.out
    rw [← e1, ← e2, ← e3]
    exact cN
  unfold ptr at cN'
  have HS2 : Hid (Sc w W2 R s (i + 1) true f) := h2
  clear cM cN h1 k1' h1' hW0 HS0 k0 k1 k2 k3 k4 h2
  go_wp2_with fail
  refine cN'.mono ?_
  rintro e w3 ⟨rfl, h3, k3'⟩
  have h4 := HS2.out.step HG.out k3' h3
  obtain ⟨⟨y0, y1, y2, y3⟩, z0, z1, z2, z3⟩ := four_box h4.box
  obtain ⟨hbx, hlr, hkr⟩ := h4.fin HG.out (.int .i64 3) (.string T) (.string ⟨#[]⟩) (.int .i64 i)
  obtain ⟨⟨d0, d1, d2, d3⟩, -⟩ := four_box hbx
  have HL : Hid (_ ∧ _) := And.intro hlr hkr
  clear cN' h3 k3' h4 HS2 hbx hlr hkr hW2 l0 l1 l2 l3 l4 f2
  go_wp2_with fail
  refine bodyPost_ret (v := tv 3 T ⟨#[]⟩ i) (by simp [results, Try.results44, go_sem, d0, d1, d2, d3]) rfl ?_
  exact ⟨rfl, HL.out⟩
set_option maxRecDepth 20000 in
set_option maxHeartbeats 800000 in
theorem closingTag_c {w : World} {R : Nat} {s : ByteArray} {i : Nat} {b : Bool} {f : F} (h : Lr w R s i b f) (hp : pre s i [60, 47] = true) :
    Calls Try.prog 43 #[ptr R] w fun e w' => e = .returned (tv 8 (nT s (i + 2)) ⟨#[]⟩ i) ∧ Lr w' R s (mpl s [62] (skp isb s (nE s (i + 2)))) b (fif (pre s (skp isb s (nE s (i + 2))) [62]) (nF s (i + 2) f) (1202, skp isb s (nE s (i + 2)))) ∧ Kr R w w' := by
  have hlt := h.lt
  obtain ⟨W0, hW0⟩ : ∃ W0, w.alloc t0 = W0 := ⟨_, rfl⟩
  have h0 : Sc w W0 R s i b f := by rw [← hW0]; exact Sc.start h
  have HS0 : Hid (Sc w W0 R s i b f) := h0
  have HG : Hid (R < w.heap.size) := hlt
  have cM := must_m h0.lr [60, 47]
  unfold mpl at cM
  rw [hp, fif_t, if_pos rfl] at cM
  obtain ⟨k0, k1, k2, k3, k4⟩ := h0.lr.cells
  obtain ⟨T, hT⟩ : ∃ T, nT s (i + 2) = T := ⟨_, rfl⟩
  obtain ⟨X, hX⟩ : ∃ X, nE s (i + 2) = X := ⟨_, rfl⟩
  obtain ⟨U, hU⟩ : ∃ U, nF s (i + 2) f = U := ⟨_, rfl⟩
  have HU : Hid (nT s (i + 2) = T ∧ nE s (i + 2) = X ∧ nF s (i + 2) f = U) := ⟨hT, hX, hU⟩
  rw [hT, hX, hU]
  obtain ⟨Y, hY⟩ : ∃ Y, skp isb s X = Y := ⟨_, rfl⟩
  rw [hY]
  obtain ⟨Z, hZ⟩ : ∃ Z, mpl s [62] Y = Z := ⟨_, rfl⟩
  obtain ⟨V, hV⟩ : ∃ V, fif (pre s Y [62]) U (1202, Y) = V := ⟨_, rfl⟩
  rw [hZ, hV]
  have HV : Hid (skp isb s X = Y ∧ mpl s [62] Y = Z ∧ fif (pre s Y [62]) U (1202, Y) = V) := ⟨hY, hZ, hV⟩
  unfold ptr at cM ⊢
  clear h h0 hp hT hX hU hlt hY hZ hV
  go_enter Try.func43, Try.ntmps43
  go_wp2_with fail
  refine cM.mono ?_
  rintro e w1 ⟨⟨r, rfl⟩, h1, k1'⟩
  have h1' : Sc w w1 R s (i + 2) b f := HS0.out.step HG.out k1' h1
  have cN : Calls Try.prog 59 #[ptr R] w1 fun e w' => e = .returned (.string T) ∧ Lr w' R s X b U ∧ Kr R w1 w' := by
    obtain ⟨e1, e2, e3⟩ := HU.out
    rw [← e1, ← e2, ← e3]
    exact name_c h1
  unfold ptr at cN
  have HS1 : Hid (Sc w w1 R s (i + 2) b f) := h1'
  clear cM h1 k1' h1' hW0 HS0 k0 k1 k2 k3 k4
  go_wp2_with fail
  refine cN.mono ?_
  rintro e w2 ⟨rfl, h2, k2'⟩
  have cS := skip_c set_b h2
  rw [HV.out.1] at cS
  unfold ptr at cS
  have HS2 : Hid (Sc w w2 R s X b U) := HS1.out.step HG.out k2' h2
  clear cN h2 k2' HS1
  obtain ⟨q, hq⟩ : ∃ q, sub s X Y = q := ⟨_, rfl⟩
  rw [hq] at cS
  clear hq
  go_wp2_with fail
  refine cS.mono ?_
  rintro e w3 ⟨rfl, h3, k3'⟩
  have cM := must_m h3 [62]
  rw [HV.out.2.1, HV.out.2.2] at cM
  unfold ptr at cM
  have HS3 : Hid (Sc w w3 R s Y b U) := HS2.out.step HG.out k3' h3
  clear cS h3 k3' HS2
  go_wp2_with fail
  refine cM.mono ?_
  rintro e w4 ⟨⟨r', rfl⟩, h4', k4'⟩
  have h4 := HS3.out.step HG.out k4' h4'
  obtain ⟨⟨y0, y1, y2, y3⟩, z0, z1, z2, z3⟩ := four_box h4.box
  obtain ⟨hbx, hlr, hkr⟩ := h4.fin HG.out (.int .i64 8) (.string T) (.string ⟨#[]⟩) (.int .i64 i)
  obtain ⟨⟨d0, d1, d2, d3⟩, -⟩ := four_box hbx
  have HL : Hid (_ ∧ _) := And.intro hlr hkr
  clear cM h4' k4' h4 HS3 hbx hlr hkr
  go_wp2_with fail
  refine bodyPost_ret (v := tv 8 T ⟨#[]⟩ i) (by simp [results, Try.results43, go_sem, d0, d1, d2, d3]) rfl ?_
  exact ⟨rfl, HL.out⟩
end Go.Proofs.Ytfglbgnjgapehaa.LOc

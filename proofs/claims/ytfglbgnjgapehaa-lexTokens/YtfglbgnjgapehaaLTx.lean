/- Templates: contract of text. -/
import Derived.Test.YtfglbgnjgapehaaLOc
import Derived.Deep.RegionWith
import Derived.BigQuiet
namespace Go.Proofs.Ytfglbgnjgapehaa.LTx
open Go.RowKit Go.Proofs.Ytfglbgnjgapehaa.UBase Go.Proofs.Ytfglbgnjgapehaa.EPure Go.Proofs.Ytfglbgnjgapehaa.LPure Go.Proofs.Ytfglbgnjgapehaa.LRd Go.Proofs.Ytfglbgnjgapehaa.LSk Go.Proofs.Ytfglbgnjgapehaa.LNm Go.Proofs.Ytfglbgnjgapehaa.LUp Go.Proofs.Ytfglbgnjgapehaa.LTe Go.Proofs.Ytfglbgnjgapehaa.LPl Go.Proofs.Ytfglbgnjgapehaa.LSc
set_option linter.unusedVariables false

/-- What a text says; its fault. -/
def xT (s : ByteArray) (i : Nat) : ByteArray := HBase.ptext (sub s i (tnd s i))
def xF (s : ByteArray) (i : Nat) (f : F) : F := fif (HBase.perr (sub s i (tnd s i)) == 0) f (1204, i + HBase.pat (sub s i (tnd s i)))
def xL (s : ByteArray) (i : Nat) (f : F) : F := fif (decide ((xT s i).size ≤ 4096)) (xF s i f) (1201, i)
theorem Kr.drew {R : Nat} {w w' : World} (h : Kr R w w') : Kr R w w'.drew := h.drewN 1
theorem Lr.drew {w : World} {R : Nat} {s : ByteArray} {i : Nat} {b : Bool} {f : F} (h : Lr w R s i b f) : Lr w.drew R s i b f := h.keep rfl
set_option maxRecDepth 20000 in
set_option maxHeartbeats 1600000 in
theorem text_c {w : World} {R : Nat} {s : ByteArray} {i : Nat} {b : Bool} {f : F} (h : Lr w R s i b f) :
    Calls Try.prog 45 #[ptr R] w fun e w' => e = .returned (tv 1 ⟨#[]⟩ (xT s i) i) ∧ Lr w' R s (tnd s i) b (xL s i f) ∧ Kr R w w' := by
  have hlt := h.lt
  have hsz := h.sz
  have hla := h.la
  obtain ⟨W0, hW0⟩ : ∃ W0, w.alloc t0 = W0 := ⟨_, rfl⟩
  have h0 : Sc w W0 R s i b f := by rw [← hW0]; exact Sc.start h
  have HG : Hid (R < w.heap.size) := hlt
  have cT := textEnd_c h0.lr
  have g1 := tnd_ge s i
  have g2 := tnd_in hla
  obtain ⟨X, hX⟩ : ∃ X, tnd s i = X := ⟨_, rfl⟩
  obtain ⟨T, hT⟩ : ∃ T, xT s i = T := ⟨_, rfl⟩
  obtain ⟨U, hU⟩ : ∃ U, xF s i f = U := ⟨_, rfl⟩
  obtain ⟨V, hV⟩ : ∃ V, xL s i f = V := ⟨_, rfl⟩
  have hV' : fif (decide (T.size ≤ 4096)) U (1201, i) = V := by rw [← hV, ← hU, ← hT]; rfl
  have hT' : HBase.ptext (s.extract i X) = T := by rw [← hT, ← hX]; rfl
  have hU' : fif (HBase.perr (s.extract i X) == 0) f (1204, i + HBase.pat (s.extract i X)) = U := by rw [← hU, ← hX]; rfl
  rw [hX] at cT g1 g2
  rw [hX, hT, hV]
  have HV : Hid (fif (decide (T.size ≤ 4096)) U (1201, i) = V) := hV'
  obtain ⟨W1, hW1⟩ : ∃ W1, W0.setCell ⟨R, 1, none⟩ (.int .i64 X) = W1 := ⟨_, rfl⟩
  have h1 : Sc w W1 R s X b f := by rw [← hW1]; exact h0.step hlt ((Kr.refl R W0).set 1 _) (h0.lr.go X g2)
  have HS1 : Hid (Sc w W1 R s X b f) := h1
  obtain ⟨k0, k1, k2, k3, k4⟩ := h0.lr.cells
  have f1 := h0.lr.free 1
  obtain ⟨l0, l1, l2, l3, l4⟩ := h1.lr.cells
  have hes : (s.extract i X).size ≤ 65536 := by rw [ByteArray.size_extract]; omega
  have cP : ∀ W, Lr W R s X b f → Calls Try.prog 61 #[ptr R, .int .i64 i, .string (s.extract i X)] W fun e w' => e = .returned (.string T) ∧ Lr w' R s X b U ∧ Kr R W w' := fun W hW => by
    have := plain_c hW i (s.extract i X) (by omega) hes
    rw [hT', hU'] at this
    exact this
  have c1 := cP _ (Lr.drew h1.lr)
  have c2 := cP _ (Lr.drew (Lr.drew h1.lr))
  have c3 := cP _ (Lr.drew (Lr.drew (Lr.drew h1.lr)))
  have b1 : (0 : Int) ≤ (i : Int) := by omega
  have b2 : (i : Int) ≤ (X : Int) := by omega
  have b3 : (X : Int) ≤ (s.size : Int) := by omega
  have b4 : (0 : Int) ≤ (X : Int) := by omega
  unfold ptr at cT c1 c2 c3 ⊢
  clear h h0 hlt hX hT hU hV hV' hT' hU' cP h1
  go_enter Try.func45, Try.ntmps45
  go_wp2_with fail
  refine cT.mono ?_
  rintro e w1 ⟨rfl, hw1⟩
  subst w1
  clear cT
  go_wp2_with fail
  try rw [hW1]
  clear hW1 hW0 k0 k1 k2 k3 k4 f1
  go_region_with (go_at_call 61; first | (refine c1.mono ?_; rintro e w2 ⟨rfl, h2, k2'⟩; have k2'' := (Kr.drew (Kr.refl R W1)).trans k2') | (refine c2.mono ?_; rintro e w2 ⟨rfl, h2, k2'⟩; have k2'' := (Kr.drew (Kr.drew (Kr.refl R W1))).trans k2') | (refine c3.mono ?_; rintro e w2 ⟨rfl, h2, k2'⟩; have k2'' := (Kr.drew (Kr.drew (Kr.drew (Kr.refl R W1)))).trans k2'))
  all_goals
    have HS2 : Hid (Sc w w2 R s X b U) := HS1.out.step HG.out k2'' h2
    have cL := limit_c h2 T i
    rw [HV.out] at cL
    unfold ptr at cL
    clear h2 k2' k2'' c1 c2 c3 HS1 l0 l1 l2 l3 l4
    go_wp2_with fail
    refine cL.mono ?_
    rintro e w3 ⟨⟨r, rfl⟩, h3, k3'⟩
    have h4 := HS2.out.step HG.out k3' h3
    obtain ⟨⟨y0, y1, y2, y3⟩, z0, z1, z2, z3⟩ := four_box h4.box
    obtain ⟨hbx, hlr, hkr⟩ := h4.fin HG.out (.int .i64 1) (.string ⟨#[]⟩) (.string T) (.int .i64 i)
    obtain ⟨⟨d0, d1, d2, d3⟩, -⟩ := four_box hbx
    have HL : Hid (_ ∧ _) := And.intro hlr hkr
    clear cL h3 k3' h4 HS2 hbx hlr hkr
    go_wp2_with fail
    refine bodyPost_ret (v := tv 1 ⟨#[]⟩ T i) (by simp [results, Try.results45, go_sem, d0, d1, d2, d3]) rfl ?_
    exact ⟨rfl, HL.out⟩
end Go.Proofs.Ytfglbgnjgapehaa.LTx

/- Templates: contract of inside. -/
import Derived.Test.YtfglbgnjgapehaaLAt
import Derived.BigQuiet
namespace Go.Proofs.Ytfglbgnjgapehaa.LIn
open Go.RowKit Go.Proofs.Ytfglbgnjgapehaa.UBase Go.Proofs.Ytfglbgnjgapehaa.EPure Go.Proofs.Ytfglbgnjgapehaa.LPure Go.Proofs.Ytfglbgnjgapehaa.LRd Go.Proofs.Ytfglbgnjgapehaa.LSk Go.Proofs.Ytfglbgnjgapehaa.LNm Go.Proofs.Ytfglbgnjgapehaa.LUp Go.Proofs.Ytfglbgnjgapehaa.LTe Go.Proofs.Ytfglbgnjgapehaa.LPl Go.Proofs.Ytfglbgnjgapehaa.LSc Go.Proofs.Ytfglbgnjgapehaa.LOc Go.Proofs.Ytfglbgnjgapehaa.LEn
set_option linter.unusedVariables false

/-- A token and the state behind it. -/
structure Tz where
  k : Nat
  n : ByteArray
  t : ByteArray
  a : Nat
  i : Nat
  b : Bool
  f : F
theorem begins_k {w : World} {R : Nat} {s : ByteArray} {i : Nat} {b : Bool} {f : F} (h : Lr w R s i b f) (x : List UInt8) :
    Calls Try.prog 41 #[ptr R, .string ⟨x.toArray⟩] w fun e w' => e = .returned (.bool (pre s i x)) ∧ Lr w' R s i b f ∧ Kr R w w' := by
  refine (begins_c h x).mono ?_
  rintro e w' ⟨h1, k, rfl⟩
  exact ⟨h1, h.drewN k, (Kr.refl R w).drewN k⟩
theorem sub_none {s : ByteArray} {i : Nat} : sub s i i = ⟨#[]⟩ := by
  unfold sub
  apply ByteArray.ext
  rw [ByteArray.data_extract]
  simp
  exact Nat.min_le_left _ _
theorem sub_some {s : ByteArray} {i Y : Nat} (h : i < Y) (hY : Y ≤ s.size) : (sub s i Y).toList.isEmpty = false := by
  cases hl : (sub s i Y).toList with
  | cons a l => rfl
  | nil =>
    exfalso
    have e2 := congrArg List.length hl
    rw [Lib.toList_data] at e2
    have e3 : (sub s i Y).data.toList.length = (sub s i Y).size := by simp
    rw [e3] at e2
    have : (sub s i Y).size = Y - i := by unfold sub; rw [ByteArray.size_extract]; omega
    rw [this] at e2
    simp at e2
    omega
theorem emp_t : (⟨#[]⟩ : ByteArray).toList.isEmpty = true := by rw [Lib.toList_data]; rfl
set_option maxRecDepth 20000 in
set_option maxHeartbeats 1600000 in
theorem inside_gt {w : World} {R : Nat} {s : ByteArray} {i : Nat} {b : Bool} {f : F} (h : Lr w R s i b f) (hp62 : pre s (skp isb s i) [62] = true) :
    Calls Try.prog 40 #[ptr R] w fun e w' => e = .returned (tv (eK s (skp isb s i)) ⟨#[]⟩ ⟨#[]⟩ (skp isb s i)) ∧ Lr w' R s (mpl s [62] (mpl s [47] (skp isb s i))) false (fif (pre s (mpl s [47] (skp isb s i)) [62]) f (1202, mpl s [47] (skp isb s i))) ∧ Kr R w w' := by
  have hlt := h.lt
  have hsz := h.sz
  have hla := h.la
  obtain ⟨W0, hW0⟩ : ∃ W0, w.alloc t0 = W0 := ⟨_, rfl⟩
  have h0 : Sc w W0 R s i b f := by rw [← hW0]; exact Sc.start h
  have HS0 : Hid (Sc w W0 R s i b f) := h0
  have HG : Hid (R < w.heap.size) := hlt
  have cS := skip_c set_b h0.lr
  have hYi := skp_ge isb s i
  have hYs := skp_in (p := isb) hla
  generalize hY : skp isb s i = Y at *
  obtain ⟨q, hq⟩ : ∃ q, sub s i Y = q := ⟨_, rfl⟩
  obtain ⟨A, hA⟩ : ∃ A, q.toList.isEmpty = A := ⟨_, rfl⟩
  have HA : Hid (sub s i Y = q ∧ q.toList.isEmpty = A ∧ i ≤ Y ∧ Y ≤ s.size) := ⟨hq, hA, hYi, hYs⟩
  rw [hq] at cS
  have q1 : ∀ W, Lr W R s Y b f → Calls Try.prog 53 #[ptr R] W fun e w' => e = .returned (tv (eK s Y) ⟨#[]⟩ ⟨#[]⟩ Y) ∧ Lr w' R s (mpl s [62] (mpl s [47] Y)) false (fif (pre s (mpl s [47] Y) [62]) f (1202, mpl s [47] Y)) ∧ Kr R W w' := fun W hW => tagEnd_c hW
  generalize fif (pre s (mpl s [47] Y) [62]) f (1202, mpl s [47] Y) = V at *
  generalize mpl s [62] (mpl s [47] Y) = Z at *
  generalize eK s Y = K at *
  unfold ptr at cS q1 ⊢
  clear h h0 hlt hY hq hA hYi hYs
  go_enter Try.func40, Try.ntmps40
  go_wp2_with fail
  refine cS.mono ?_
  rintro e w1 ⟨rfl, h1, k1⟩
  have HS1 : Hid (Sc w w1 R s Y b f) := HS0.out.step HG.out k1 h1
  clear cS k1 HS0 hW0
  have c2 := begins_k h1 [62]
  rw [hp62] at c2
  unfold ptr at c2
  have HS2 : Hid (Sc w w1 R s Y b f) := HS1
  clear h1
  go_wp2_with fail
  refine c2.mono ?_
  rintro e w3 ⟨rfl, h3, k3⟩
  have HS3 : Hid (Sc w w3 R s Y b f) := HS2.out.step HG.out k3 h3
  clear c2 k3 HS2 HS1
  have cE := q1 _ h3
  clear h3 q1
  go_wp2_with fail
  refine cE.mono ?_
  rintro e w8 ⟨rfl, h8', k8⟩
  have h8 := HS3.out.step HG.out k8 h8'
  clear cE h8' k8 HS3
  obtain ⟨⟨y0, y1, y2, y3⟩, z0, z1, z2, z3⟩ := four_box h8.box
  obtain ⟨hbx, hlr, hkr⟩ := h8.fin HG.out (.int .i64 K) (.string ⟨#[]⟩) (.string ⟨#[]⟩) (.int .i64 Y)
  obtain ⟨⟨d0, d1, d2, d3⟩, -⟩ := four_box hbx
  have HL : Hid (_ ∧ _) := And.intro hlr hkr
  clear h8 hbx hlr hkr
  go_wp2_with fail
  refine bodyPost_ret (v := .agg #[.int .i64 K, .string ⟨#[]⟩, .string ⟨#[]⟩, .int .i64 Y]) (by simp [results, Try.results40, go_sem, d0, d1, d2, d3]) rfl ?_
  exact ⟨rfl, HL.out⟩
set_option maxRecDepth 20000 in
set_option maxHeartbeats 1600000 in
theorem inside_sl {w : World} {R : Nat} {s : ByteArray} {i : Nat} {b : Bool} {f : F} (h : Lr w R s i b f) (hp62 : pre s (skp isb s i) [62] = false) (hp47 : pre s (skp isb s i) [47] = true) :
    Calls Try.prog 40 #[ptr R] w fun e w' => e = .returned (tv (eK s (skp isb s i)) ⟨#[]⟩ ⟨#[]⟩ (skp isb s i)) ∧ Lr w' R s (mpl s [62] (mpl s [47] (skp isb s i))) false (fif (pre s (mpl s [47] (skp isb s i)) [62]) f (1202, mpl s [47] (skp isb s i))) ∧ Kr R w w' := by
  have hlt := h.lt
  have hsz := h.sz
  have hla := h.la
  obtain ⟨W0, hW0⟩ : ∃ W0, w.alloc t0 = W0 := ⟨_, rfl⟩
  have h0 : Sc w W0 R s i b f := by rw [← hW0]; exact Sc.start h
  have HS0 : Hid (Sc w W0 R s i b f) := h0
  have HG : Hid (R < w.heap.size) := hlt
  have cS := skip_c set_b h0.lr
  have hYi := skp_ge isb s i
  have hYs := skp_in (p := isb) hla
  generalize hY : skp isb s i = Y at *
  obtain ⟨q, hq⟩ : ∃ q, sub s i Y = q := ⟨_, rfl⟩
  obtain ⟨A, hA⟩ : ∃ A, q.toList.isEmpty = A := ⟨_, rfl⟩
  have HA : Hid (sub s i Y = q ∧ q.toList.isEmpty = A ∧ i ≤ Y ∧ Y ≤ s.size) := ⟨hq, hA, hYi, hYs⟩
  rw [hq] at cS
  have q1 : ∀ W, Lr W R s Y b f → Calls Try.prog 53 #[ptr R] W fun e w' => e = .returned (tv (eK s Y) ⟨#[]⟩ ⟨#[]⟩ Y) ∧ Lr w' R s (mpl s [62] (mpl s [47] Y)) false (fif (pre s (mpl s [47] Y) [62]) f (1202, mpl s [47] Y)) ∧ Kr R W w' := fun W hW => tagEnd_c hW
  generalize fif (pre s (mpl s [47] Y) [62]) f (1202, mpl s [47] Y) = V at *
  generalize mpl s [62] (mpl s [47] Y) = Z at *
  generalize eK s Y = K at *
  unfold ptr at cS q1 ⊢
  clear h h0 hlt hY hq hA hYi hYs
  go_enter Try.func40, Try.ntmps40
  go_wp2_with fail
  refine cS.mono ?_
  rintro e w1 ⟨rfl, h1, k1⟩
  have HS1 : Hid (Sc w w1 R s Y b f) := HS0.out.step HG.out k1 h1
  clear cS k1 HS0 hW0
  have c2 := begins_k h1 [62]
  rw [hp62] at c2
  unfold ptr at c2
  have HS2 : Hid (Sc w w1 R s Y b f) := HS1
  clear h1
  go_wp2_with fail
  refine c2.mono ?_
  rintro e w3 ⟨rfl, h3, k3⟩
  have HS3 : Hid (Sc w w3 R s Y b f) := HS2.out.step HG.out k3 h3
  clear c2 k3 HS2 HS1
  have c4 := begins_k h3 [47]
  rw [hp47] at c4
  unfold ptr at c4
  have HS4 : Hid (Sc w w3 R s Y b f) := HS3
  clear h3
  go_wp2_with fail
  refine c4.mono ?_
  rintro e w5 ⟨rfl, h5, k5⟩
  have HS5 : Hid (Sc w w5 R s Y b f) := HS4.out.step HG.out k5 h5
  clear c4 k5 HS4 HS3
  have cE := q1 _ h5
  clear h5 q1
  go_wp2_with fail
  refine cE.mono ?_
  rintro e w8 ⟨rfl, h8', k8⟩
  have h8 := HS5.out.step HG.out k8 h8'
  clear cE h8' k8 HS5
  obtain ⟨⟨y0, y1, y2, y3⟩, z0, z1, z2, z3⟩ := four_box h8.box
  obtain ⟨hbx, hlr, hkr⟩ := h8.fin HG.out (.int .i64 K) (.string ⟨#[]⟩) (.string ⟨#[]⟩) (.int .i64 Y)
  obtain ⟨⟨d0, d1, d2, d3⟩, -⟩ := four_box hbx
  have HL : Hid (_ ∧ _) := And.intro hlr hkr
  clear h8 hbx hlr hkr
  go_wp2_with fail
  refine bodyPost_ret (v := .agg #[.int .i64 K, .string ⟨#[]⟩, .string ⟨#[]⟩, .int .i64 Y]) (by simp [results, Try.results40, go_sem, d0, d1, d2, d3]) rfl ?_
  exact ⟨rfl, HL.out⟩
set_option maxRecDepth 20000 in
set_option maxHeartbeats 1600000 in
theorem inside_at {w : World} {R : Nat} {s : ByteArray} {i : Nat} {b : Bool} {f : F} (h : Lr w R s i b f) (hg : Gm w) (hR0 : 0 < R) (hp62 : pre s (skp isb s i) [62] = false) (hp47 : pre s (skp isb s i) [47] = false) (hap : i < (skp isb s i)) :
    Calls Try.prog 40 #[ptr R] w fun e w' => e = .returned (tv (LAt.aK s (skp isb s i)) (nT s (LAt.a1 s (skp isb s i))) (LAt.aT s (skp isb s i)) (skp isb s i)) ∧ Lr w' R s (LAt.a5 s (skp isb s i)) b (LAt.f7 s (skp isb s i) f) ∧ Kr R w w' := by
  have HGm : Hid (Gm w ∧ 0 < R) := ⟨hg, hR0⟩
  have hlt := h.lt
  have hsz := h.sz
  have hla := h.la
  obtain ⟨W0, hW0⟩ : ∃ W0, w.alloc t0 = W0 := ⟨_, rfl⟩
  have h0 : Sc w W0 R s i b f := by rw [← hW0]; exact Sc.start h
  have HS0 : Hid (Sc w W0 R s i b f) := h0
  have HG : Hid (R < w.heap.size) := hlt
  have cS := skip_c set_b h0.lr
  have hYi := skp_ge isb s i
  have hYs := skp_in (p := isb) hla
  generalize hY : skp isb s i = Y at *
  obtain ⟨q, hq⟩ : ∃ q, sub s i Y = q := ⟨_, rfl⟩
  obtain ⟨A, hA⟩ : ∃ A, q.toList.isEmpty = A := ⟨_, rfl⟩
  have HA : Hid (sub s i Y = q ∧ q.toList.isEmpty = A ∧ i ≤ Y ∧ Y ≤ s.size) := ⟨hq, hA, hYi, hYs⟩
  rw [hq] at cS
  have hA2 : A = false := by rw [← hA, ← hq]; exact sub_some hap hYs
  subst hA2
  have q1 : ∀ W, Lr W R s Y b f → Gm W → 0 < R → Calls Try.prog 54 #[ptr R] W fun e w' => e = .returned (tv (LAt.aK s Y) (nT s (LAt.a1 s Y)) (LAt.aT s Y) Y) ∧ Lr w' R s (LAt.a5 s Y) b (LAt.f7 s Y f) ∧ Kr R W w' := fun W hW hg hR => LAt.attribute_c hW hg hR
  generalize LAt.aK s Y = K at *
  generalize nT s (LAt.a1 s Y) = N at *
  generalize LAt.aT s Y = T at *
  generalize LAt.a5 s Y = Z at *
  generalize LAt.f7 s Y f = V at *
  unfold ptr at cS q1 ⊢
  clear h h0 hlt hY hq hYi hYs hg hR0 hap
  go_enter Try.func40, Try.ntmps40
  go_wp2_with fail
  refine cS.mono ?_
  rintro e w1 ⟨rfl, h1, k1⟩
  have HS1 : Hid (Sc w w1 R s Y b f) := HS0.out.step HG.out k1 h1
  clear cS k1 HS0 hW0
  have c2 := begins_k h1 [62]
  rw [hp62] at c2
  unfold ptr at c2
  have HS2 : Hid (Sc w w1 R s Y b f) := HS1
  clear h1
  go_wp2_with fail
  refine c2.mono ?_
  rintro e w3 ⟨rfl, h3, k3⟩
  have HS3 : Hid (Sc w w3 R s Y b f) := HS2.out.step HG.out k3 h3
  clear c2 k3 HS2 HS1
  have c4 := begins_k h3 [47]
  rw [hp47] at c4
  unfold ptr at c4
  have HS4 : Hid (Sc w w3 R s Y b f) := HS3
  clear h3
  go_wp2_with fail
  refine c4.mono ?_
  rintro e w5 ⟨rfl, h5, k5⟩
  have HS5 : Hid (Sc w w5 R s Y b f) := HS4.out.step HG.out k5 h5
  clear c4 k5 HS4 HS3
  have cE := q1 _ h5 (Gm.kr HGm.out.1 HS5.out.kr HGm.out.2 HG.out) HGm.out.2
  clear h5 q1
  go_wp2_with fail
  refine cE.mono ?_
  rintro e w8 ⟨rfl, h8', k8⟩
  have h8 := HS5.out.step HG.out k8 h8'
  clear cE h8' k8 HS5
  obtain ⟨⟨y0, y1, y2, y3⟩, z0, z1, z2, z3⟩ := four_box h8.box
  obtain ⟨hbx, hlr, hkr⟩ := h8.fin HG.out (.int .i64 K) (.string N) (.string T) (.int .i64 Y)
  obtain ⟨⟨d0, d1, d2, d3⟩, -⟩ := four_box hbx
  have HL : Hid (_ ∧ _) := And.intro hlr hkr
  clear h8 hbx hlr hkr
  go_wp2_with fail
  refine bodyPost_ret (v := .agg #[.int .i64 K, .string N, .string T, .int .i64 Y]) (by simp [results, Try.results40, go_sem, d0, d1, d2, d3]) rfl ?_
  exact ⟨rfl, HL.out⟩
set_option maxRecDepth 20000 in
set_option maxHeartbeats 1600000 in
theorem inside_no {w : World} {R : Nat} {s : ByteArray} {i : Nat} {b : Bool} {f : F} (h : Lr w R s i b f) (hp62 : pre s (skp isb s i) [62] = false) (hp47 : pre s (skp isb s i) [47] = false) (hap : i = (skp isb s i)) :
    Calls Try.prog 40 #[ptr R] w fun e w' => e = .returned (tv 0 ⟨#[]⟩ ⟨#[]⟩ 0) ∧ Lr w' R s i b (rf f (1202, i)) ∧ Kr R w w' := by
  have hlt := h.lt
  have hsz := h.sz
  have hla := h.la
  obtain ⟨W0, hW0⟩ : ∃ W0, w.alloc t0 = W0 := ⟨_, rfl⟩
  have h0 : Sc w W0 R s i b f := by rw [← hW0]; exact Sc.start h
  have HS0 : Hid (Sc w W0 R s i b f) := h0
  have HG : Hid (R < w.heap.size) := hlt
  have cS := skip_c set_b h0.lr
  have hYi := skp_ge isb s i
  have hYs := skp_in (p := isb) hla
  generalize hY : skp isb s i = Y at *
  obtain ⟨q, hq⟩ : ∃ q, sub s i Y = q := ⟨_, rfl⟩
  obtain ⟨A, hA⟩ : ∃ A, q.toList.isEmpty = A := ⟨_, rfl⟩
  have HA : Hid (sub s i Y = q ∧ q.toList.isEmpty = A ∧ i ≤ Y ∧ Y ≤ s.size) := ⟨hq, hA, hYi, hYs⟩
  rw [hq] at cS
  subst hap
  have hA2 : A = true := by rw [← hA, ← hq, sub_none]; exact emp_t
  subst hA2
  unfold ptr at cS ⊢
  clear h h0 hlt hY hq hYi hYs
  go_enter Try.func40, Try.ntmps40
  go_wp2_with fail
  refine cS.mono ?_
  rintro e w1 ⟨rfl, h1, k1⟩
  have HS1 : Hid (Sc w w1 R s i b f) := HS0.out.step HG.out k1 h1
  clear cS k1 HS0 hW0
  have c2 := begins_k h1 [62]
  rw [hp62] at c2
  unfold ptr at c2
  have HS2 : Hid (Sc w w1 R s i b f) := HS1
  clear h1
  go_wp2_with fail
  refine c2.mono ?_
  rintro e w3 ⟨rfl, h3, k3⟩
  have HS3 : Hid (Sc w w3 R s i b f) := HS2.out.step HG.out k3 h3
  clear c2 k3 HS2 HS1
  have c4 := begins_k h3 [47]
  rw [hp47] at c4
  unfold ptr at c4
  have HS4 : Hid (Sc w w3 R s i b f) := HS3
  clear h3
  go_wp2_with fail
  refine c4.mono ?_
  rintro e w5 ⟨rfl, h5, k5⟩
  have HS5 : Hid (Sc w w5 R s i b f) := HS4.out.step HG.out k5 h5
  clear c4 k5 HS4 HS3
  have cE := misplaced_c h5 i
  obtain ⟨m0, m1, m2, m3, m4⟩ := h5.cells
  unfold ptr at cE
  clear h5
  go_wp2_with fail
  refine cE.mono ?_
  rintro e w8 ⟨⟨r, rfl⟩, h8', k8⟩
  have h8 := HS5.out.step HG.out k8 h8'
  clear cE h8' k8 HS5
  obtain ⟨⟨y0, y1, y2, y3⟩, z0, z1, z2, z3⟩ := four_box h8.box
  obtain ⟨hbx, hlr, hkr⟩ := h8.fin HG.out (.int .i64 0) (.string ⟨#[]⟩) (.string ⟨#[]⟩) (.int .i64 0)
  obtain ⟨⟨d0, d1, d2, d3⟩, -⟩ := four_box hbx
  have HL : Hid (_ ∧ _) := And.intro hlr hkr
  clear h8 hbx hlr hkr
  go_wp2_with fail
  refine bodyPost_ret (v := .agg #[.int .i64 0, .string ⟨#[]⟩, .string ⟨#[]⟩, .int .i64 0]) (by simp [results, Try.results40, go_sem, d0, d1, d2, d3]) rfl ?_
  exact ⟨rfl, HL.out⟩
end Go.Proofs.Ytfglbgnjgapehaa.LIn

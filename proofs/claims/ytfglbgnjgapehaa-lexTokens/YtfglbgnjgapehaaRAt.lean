/- The reference's lexer: an attribute. -/
import Derived.Test.YtfglbgnjgapehaaMApp
namespace Go.Proofs.Ytfglbgnjgapehaa.RAt
open Go.RowKit Go.Proofs.Ytfglbgnjgapehaa.UBase Go.Proofs.Ytfglbgnjgapehaa.EPure Go.Proofs.Ytfglbgnjgapehaa.LPure Go.Proofs.Ytfglbgnjgapehaa.LRd Go.Proofs.Ytfglbgnjgapehaa.LSk Go.Proofs.Ytfglbgnjgapehaa.LNm Go.Proofs.Ytfglbgnjgapehaa.LUp Go.Proofs.Ytfglbgnjgapehaa.LSc Go.Proofs.Ytfglbgnjgapehaa.LOc Go.Proofs.Ytfglbgnjgapehaa.LAt Go.Proofs.Ytfglbgnjgapehaa.LIn Go.Proofs.Ytfglbgnjgapehaa.LSn Go.Proofs.Ytfglbgnjgapehaa.LMu Go.Proofs.Ytfglbgnjgapehaa.LLy Go.Proofs.Ytfglbgnjgapehaa.LCv Go.Proofs.Ytfglbgnjgapehaa.RLd Go.Proofs.Ytfglbgnjgapehaa.RBl Go.Proofs.Ytfglbgnjgapehaa.RNa Go.Proofs.Ytfglbgnjgapehaa.RTt Go.Proofs.Ytfglbgnjgapehaa.RRc Go.Proofs.Ytfglbgnjgapehaa.RAp
set_option linter.unusedVariables false

theorem Rl.off {R B : Nat} {w : World} {s : ByteArray} {i : Nat} {ov : Value} {f : F} (h : Rl w R s i ov f) (hR : R < B) (j : Nat) (u : Value) : Rl (w.setCell ⟨B, j, none⟩ u) R s i ov f := h.keep (Below.heap_setCell _ _ _ _ (by simp; omega))
/-- Amid an attribute: the lexer, and the token that is gathered. -/
structure Ax (w W : World) (R : Nat) (s : ByteArray) (i : Nat) (ov : Value) (f : F) (k : Nat) (n t : ByteArray) (a : Nat) : Prop where
  rl : Rl W R s i ov f
  kr : Kr R w W
  box : W.heap[w.heap.size]? = some (.cells #[.int .i64 k, .string n, .string t, .int .i64 a] 34 (0, 0))
theorem Ax.start {w : World} {R : Nat} {s : ByteArray} {i : Nat} {ov : Value} {f : F} (h : Rl w R s i ov f) :
    Ax w (((((w.alloc t0).setCell ⟨w.heap.size, 0, none⟩ (.int .i64 4)).setCell ⟨w.heap.size, 1, none⟩ (.string ⟨#[]⟩)).setCell ⟨w.heap.size, 2, none⟩ (.string ⟨#[]⟩)).setCell ⟨w.heap.size, 3, none⟩ (.int .i64 i)) R s i ov f 4 ⟨#[]⟩ ⟨#[]⟩ i := by
  have hlt := h.lt
  have b := (Below.refl w.heap.size w).alloc (Nat.le_refl _) t0
  have h0 : Rl (w.alloc t0) R s i ov f := h.keep (b.block _ hlt)
  have k0 : Kr R w (w.alloc t0) := Kr.of_below b (Nat.le_of_lt hlt)
  exact ⟨Rl.off (Rl.off (Rl.off (Rl.off h0 hlt 0 _) hlt 1 _) hlt 2 _) hlt 3 _, Kr.off (Kr.off (Kr.off (Kr.off k0 (Nat.le_refl _) hlt 0 _) (Nat.le_refl _) hlt 1 _) (Nat.le_refl _) hlt 2 _) (Nat.le_refl _) hlt 3 _, set_box4 (heap_alloc_new w _)⟩
theorem Ax.step {w W W' : World} {R : Nat} {s : ByteArray} {i i' : Nat} {ov ov' : Value} {f f' : F} {k : Nat} {n t : ByteArray} {a : Nat} (h : Ax w W R s i ov f k n t a) (hR : R < w.heap.size) (q : Kr R W W') (e : Rl W' R s i' ov' f') : Ax w W' R s i' ov' f' k n t a :=
  ⟨e, h.kr.trans q, (q.other _ (by omega) (Array.getElem?_eq_some_iff.1 h.box).1).trans h.box⟩
theorem Ax.drewN {w W : World} {R : Nat} {s : ByteArray} {i : Nat} {ov : Value} {f : F} {k : Nat} {n t : ByteArray} {a : Nat} (h : Ax w W R s i ov f k n t a) (hR : R < w.heap.size) (m : Nat) : Ax w (W.drewN m) R s i ov f k n t a := h.step hR ((Kr.refl R W).drewN m) (h.rl.drewN m)
theorem Ax.go {w W : World} {R : Nat} {s : ByteArray} {i : Nat} {ov : Value} {f : F} {k : Nat} {n t : ByteArray} {a : Nat} (h : Ax w W R s i ov f k n t a) (hR : R < w.heap.size) (j : Nat) (hj : j ≤ s.size) : Ax w (W.setCell ⟨R, 1, none⟩ (.int .i64 j)) R s j ov f k n t a := h.step hR ((Kr.refl R W).set 1 _) (h.rl.go j hj)
theorem Ax.go1 {w W : World} {R : Nat} {s : ByteArray} {i : Nat} {ov : Value} {f : F} {k : Nat} {n t : ByteArray} {a : Nat} (h : Ax w W R s i ov f k n t a) (hR : R < w.heap.size) (hj : i + 1 ≤ s.size) : Ax w (W.setCell ⟨R, 1, none⟩ (.int .i64 ((i : Int) + 1))) R s (i + 1) ov f k n t a := by
  have := h.go hR (i + 1) hj
  rwa [show ((i + 1 : Nat) : Int) = (i : Int) + 1 from by omega] at this
theorem Ax.knd {w W : World} {R : Nat} {s : ByteArray} {i : Nat} {ov : Value} {f : F} {k : Nat} {n t : ByteArray} {a : Nat} (h : Ax w W R s i ov f k n t a) (hR : R < w.heap.size) (k' : Nat) : Ax w (W.setCell ⟨w.heap.size, 0, none⟩ (.int .i64 k')) R s i ov f k' n t a :=
  ⟨Rl.off h.rl hR 0 _, Kr.off h.kr (Nat.le_refl _) hR 0 _, by simp [World.setCell, Array.getElem?_modify, h.box]⟩
theorem Ax.nam {w W : World} {R : Nat} {s : ByteArray} {i : Nat} {ov : Value} {f : F} {k : Nat} {n t : ByteArray} {a : Nat} (h : Ax w W R s i ov f k n t a) (hR : R < w.heap.size) (n' : ByteArray) : Ax w (W.setCell ⟨w.heap.size, 1, none⟩ (.string n')) R s i ov f k n' t a :=
  ⟨Rl.off h.rl hR 1 _, Kr.off h.kr (Nat.le_refl _) hR 1 _, by simp [World.setCell, Array.getElem?_modify, h.box]⟩
theorem Ax.txt {w W : World} {R : Nat} {s : ByteArray} {i : Nat} {ov : Value} {f : F} {k : Nat} {n t : ByteArray} {a : Nat} (h : Ax w W R s i ov f k n t a) (hR : R < w.heap.size) (t' : ByteArray) : Ax w (W.setCell ⟨w.heap.size, 2, none⟩ (.string t')) R s i ov f k n t' a :=
  ⟨Rl.off h.rl hR 2 _, Kr.off h.kr (Nat.le_refl _) hR 2 _, by simp [World.setCell, Array.getElem?_modify, h.box]⟩
theorem pre_sg {s : ByteArray} {i : Nat} {c : UInt8} (h : i < s.size) (hc : at' s i = c.toNat) : pre s i [c] = true := by
  have hz : s.data.toList.length = s.size := by simp
  have hb := at_get s i h
  rw [hc] at hb
  unfold pre
  simp only [Bool.and_eq_true, decide_eq_true_eq, beq_iff_eq]
  refine ⟨by simp; omega, ?_⟩
  rw [List.drop_eq_getElem_cons (by omega)]
  simp only [List.length_cons, List.length_nil, List.take_succ_cons, List.take_zero]
  congr 1
  have : (s.data.toList[i]'(by omega)).toNat = c.toNat := by rw [hb]; rfl
  exact UInt8.toNat_inj.1 this
/-- Where an attribute's faults are. -/
theorem at_bad1 {s : ByteArray} {i : Nat} (h : word (nT s (a1 s i)) 45 = false) : (tkA s i (0, 0)).f = (1202, a1 s i) := by
  have e : f2 s i (0, 0) = (1202, a1 s i) := by show fif (word (nT s (a1 s i)) 45) _ _ = _; rw [h]; rfl
  show f7 s i (0, 0) = _
  rw [f7_of2 (by rw [e]; simp), e]
theorem at_ok2 {s : ByteArray} {i : Nat} (h : word (nT s (a1 s i)) 45 = true) : f2 s i (0, 0) = (0, 0) := by show fif (word (nT s (a1 s i)) 45) _ _ = _; rw [h]; rfl
theorem at_bad2 {s : ByteArray} {i : Nat} (h : word (nT s (a1 s i)) 45 = true) (h2 : pre s (a2 s i) [61] = false) : (tkA s i (0, 0)).f = (1202, a2 s i) := by
  have e : f3 s i (0, 0) = (1202, a2 s i) := by unfold f3; rw [at_ok2 h, h2]; rfl
  show f7 s i (0, 0) = _
  rw [f7_of3 (by rw [e]; simp), e]
theorem at_ok3 {s : ByteArray} {i : Nat} (h : word (nT s (a1 s i)) 45 = true) (h2 : pre s (a2 s i) [61] = true) : f3 s i (0, 0) = (0, 0) ∧ a3 s i = a2 s i + 1 := ⟨by unfold f3; rw [at_ok2 h, h2]; rfl, by unfold a3; rw [mpl_t h2]; rfl⟩
theorem at_bad3 {s : ByteArray} {i : Nat} (h : word (nT s (a1 s i)) 45 = true) (h2 : pre s (a2 s i) [61] = true) (h3 : pre s (a2 s i + 1) [34] = false) : (tkA s i (0, 0)).f = (1202, a2 s i + 1) := by
  obtain ⟨e3, ea⟩ := at_ok3 h h2
  have e : f4 s i (0, 0) = (1202, a2 s i + 1) := by unfold f4; rw [e3, ea, h3]; rfl
  show f7 s i (0, 0) = _
  rw [f7_of4 (by rw [e]; simp), e]
theorem at_ok4 {s : ByteArray} {i : Nat} (h : word (nT s (a1 s i)) 45 = true) (h2 : pre s (a2 s i) [61] = true) (h3 : pre s (a2 s i + 1) [34] = true) : f4 s i (0, 0) = (0, 0) ∧ a3 s i = a2 s i + 1 ∧ a4 s i = a2 s i + 2 := by
  obtain ⟨e3, ea⟩ := at_ok3 h h2
  refine ⟨by unfold f4; rw [e3, ea, h3]; rfl, ea, ?_⟩
  unfold a4
  rw [ea, mpl_t h3]
  rfl
theorem at_bad4 {s : ByteArray} {i : Nat} (h : word (nT s (a1 s i)) 45 = true) (h2 : pre s (a2 s i) [61] = true) (h3 : pre s (a2 s i + 1) [34] = true) (h4 : ux s (a2 s i + 2) [34] < 0) : (tkA s i (0, 0)).f = (1203, a2 s i + 1) := by
  obtain ⟨e4, ea, eb⟩ := at_ok4 h h2 h3
  have e : f5 s i (0, 0) = (1203, a2 s i + 1) := by unfold f5; rw [e4, ea, eb, decide_eq_false (Int.not_le.2 h4)]; rfl
  show f7 s i (0, 0) = _
  rw [f7_of5 (by rw [e]; simp), e]
theorem at_done {s : ByteArray} {i X : Nat} (h : word (nT s (a1 s i)) 45 = true) (h2 : pre s (a2 s i) [61] = true) (h3 : pre s (a2 s i + 1) [34] = true) (h4 : 0 ≤ ux s (a2 s i + 2) [34]) (h5 : utx s (a2 s i + 2) [34] = sub s (a2 s i + 2) X) (h6 : upl s (a2 s i + 2) [34] = X + 1) :
    tkA s i (0, 0) = ⟨aK s i, nT s (a1 s i), HBase.ptext (s.extract (a2 s i + 2) X), i, X + 1, true, fif (pre s i [58] || decide ((HBase.ptext (s.extract (a2 s i + 2) X)).size ≤ 4096)) (fif (HBase.perr (s.extract (a2 s i + 2) X) == 0) (0, 0) (1204, a2 s i + 2 + HBase.pat (s.extract (a2 s i + 2) X))) (1201, a2 s i + 1)⟩ := by
  obtain ⟨e4, ea, eb⟩ := at_ok4 h h2 h3
  have e5 : f5 s i (0, 0) = (0, 0) := by unfold f5; rw [e4, ea, eb, decide_eq_true h4]; rfl
  have ew : aW s i = s.extract (a2 s i + 2) X := by unfold aW; rw [eb, h5]; rfl
  have et : aT s i = HBase.ptext (s.extract (a2 s i + 2) X) := by unfold aT; rw [ew]
  have e6 : f6 s i (0, 0) = fif (HBase.perr (s.extract (a2 s i + 2) X) == 0) (0, 0) (1204, a2 s i + 2 + HBase.pat (s.extract (a2 s i + 2) X)) := by unfold f6; rw [e5, ew, eb]
  have e7 : f7 s i (0, 0) = fif (pre s i [58] || decide ((HBase.ptext (s.extract (a2 s i + 2) X)).size ≤ 4096)) (fif (HBase.perr (s.extract (a2 s i + 2) X) == 0) (0, 0) (1204, a2 s i + 2 + HBase.pat (s.extract (a2 s i + 2) X))) (1201, a2 s i + 1) := by
    unfold f7
    rw [e6, et, ea]
    cases pre s i [58]
    · rw [if_neg (by decide), Bool.false_or]
    · rw [if_pos rfl, Bool.true_or, fif_t]
  unfold tkA
  rw [et, show a5 s i = X + 1 from by unfold a5; rw [eb, h6], e7]
theorem Apd.box {w W : World} {R : Nat} {s : ByteArray} {i : Nat} {ov : Value} {f : F} {acc : List Tz} {k : Nat} {n t : ByteArray} {a : Nat} {v : Value} {B : Nat} {o : Obj} (h : Apd w W R s i ov f acc k n t a v) (hb : w.heap[B]? = some o) (hR : R < B) (hn : ov.ownBlock ≠ some B) : W.heap[B]? = some o ∧ (W.setCell ⟨R, 2, none⟩ v).heap[B]? = some o := by
  have e := (h.oth B (Array.getElem?_eq_some_iff.1 hb).1 hn).trans hb
  exact ⟨e, (Below.heap_setCell _ _ _ _ (by simp; omega)).trans e⟩
theorem to_ne {w : World} {R : Nat} {ov : Value} {acc : List Tz} (h : To w (R + 1) ov acc) : ov.ownBlock ≠ some w.heap.size := fun e => Nat.lt_irrefl _ (World.ownsRow.lt h _ e).2
theorem kr_below {R : Nat} {w w' : World} (h : Kr R w w') : Below R w w' := h.below
set_option maxRecDepth 20000 in
set_option maxHeartbeats 6400000 in
theorem attr_c {w : World} {R : Nat} {s : ByteArray} {i : Nat} {ov : Value} {acc : List Tz} (h : Rl w R s i ov (0, 0)) (ho : To w (R + 1) ov acc) (hacc : acc.length ≤ 65536) :
    Calls Try.prog 33 #[ptr R] w fun r w' => (∃ v, r = .returned v) ∧ Tkn w w' R s acc (tkA s i (0, 0)) := by
  obtain ⟨k0, k1, k2, k3, k4⟩ := h.cells
  have hsz := h.sz
  have hla := h.la
  have hR := h.lt
  have HR : Hid (R < w.heap.size) := hR
  have hne : w.heap.size ≠ R := by omega
  have hS := Ax.start h
  have HO : Hid (To w (R + 1) ov acc) := ho
  have HB1 : Hid (word (nT s (a1 s i)) 45 = false → (tkA s i (0, 0)).f = (1202, a1 s i)) := at_bad1
  have HB2 : Hid (word (nT s (a1 s i)) 45 = true → pre s (a2 s i) [61] = false → (tkA s i (0, 0)).f = (1202, a2 s i)) := at_bad2
  have HB3 : Hid (word (nT s (a1 s i)) 45 = true → pre s (a2 s i) [61] = true → pre s (a2 s i + 1) [34] = false → (tkA s i (0, 0)).f = (1202, a2 s i + 1)) := at_bad3
  have HB4 : Hid (word (nT s (a1 s i)) 45 = true → pre s (a2 s i) [61] = true → pre s (a2 s i + 1) [34] = true → ux s (a2 s i + 2) [34] < 0 → (tkA s i (0, 0)).f = (1203, a2 s i + 1)) := at_bad4
  have HB5 : Hid (∀ X, word (nT s (a1 s i)) 45 = true → pre s (a2 s i) [61] = true → pre s (a2 s i + 1) [34] = true → 0 ≤ ux s (a2 s i + 2) [34] → utx s (a2 s i + 2) [34] = sub s (a2 s i + 2) X → upl s (a2 s i + 2) [34] = X + 1 → tkA s i (0, 0) = ⟨aK s i, nT s (a1 s i), HBase.ptext (s.extract (a2 s i + 2) X), i, X + 1, true, fif (pre s i [58] || decide ((HBase.ptext (s.extract (a2 s i + 2) X)).size ≤ 4096)) (fif (HBase.perr (s.extract (a2 s i + 2) X) == 0) (0, 0) (1204, a2 s i + 2 + HBase.pat (s.extract (a2 s i + 2) X))) (1201, a2 s i + 1)⟩) := fun X => at_done
  have HA2 : Hid (a2 s i = nE s (a1 s i)) := rfl
  generalize tkA s i (0, 0) = T at *
  obtain ⟨W0, hW0⟩ : ∃ W0, w.alloc t0 = W0 := ⟨_, rfl⟩
  have hn : W0.heap[w.heap.size]? = some (.cells #[.int .i64 0, .string ⟨#[]⟩, .string ⟨#[]⟩, .int .i64 0] 34 (0, 0)) := by rw [← hW0]; exact heap_alloc_new _ _
  obtain ⟨⟨u0, u1, u2, u3⟩, x0, x1, x2, x3⟩ := LSc.four_box hn
  rw [hW0] at hS
  obtain ⟨W1, hW1⟩ : ∃ W1, (((W0.setCell ⟨w.heap.size, 0, none⟩ (.int .i64 4)).setCell ⟨w.heap.size, 1, none⟩ (.string ⟨#[]⟩)).setCell ⟨w.heap.size, 2, none⟩ (.string ⟨#[]⟩)).setCell ⟨w.heap.size, 3, none⟩ (.int .i64 i) = W1 := ⟨_, rfl⟩
  rw [hW1] at hS
  have cH := here_c hS.rl ⟨#[58]⟩ (by decide)
  have eb : (⟨#[58]⟩ : ByteArray).data.toList = [58] := rfl
  rw [eb] at cH
  have HS : Hid (∀ m, Ax w (W1.drewN m) R s i ov (0, 0) 4 ⟨#[]⟩ ⟨#[]⟩ i) := fun m => hS.drewN hR m
  clear h ho hS hn hR
  unfold ptr at *
  go_enter Try.func33, Try.ntmps33
  go_wp2_with fail
  try simp only [hW0]
  go_wp2_with fail
  try simp only [hW1]
  go_wp2_with fail
  refine cH.mono ?_
  rintro e W2 ⟨rfl, n2, hn2⟩
  have hS2 : Ax w W2 R s i ov (0, 0) 4 ⟨#[]⟩ ⟨#[]⟩ i := by rw [hn2]; exact HS.out n2
  clear HS hn2 hW0 hW1 u0 u1 u2 u3 x0 x1 x2 x3 k0 k1 k2 k3 k4 cH eb
  by_cases hc : pre s i [58] = true
  · have hi1 : i + 1 ≤ s.size := ((pre_iff _ _ _).1 hc).1
    have hA1 : a1 s i = i + 1 := mpl_t hc
    have hK : aK s i = 5 := by unfold aK; rw [if_pos hc]
    obtain ⟨⟨u0, u1, u2, u3⟩, x0, x1, x2, x3⟩ := LSc.four_box hS2.box
    obtain ⟨k0, k1, k2, k3, k4⟩ := hS2.rl.cells
    have f1 := hS2.rl.free 1
    obtain ⟨W3, hW3⟩ : ∃ W3, (W2.setCell ⟨w.heap.size, 0, none⟩ (.int .i64 5)).setCell ⟨R, 1, none⟩ (.int .i64 ((i : Int) + 1)) = W3 := ⟨_, rfl⟩
    have hS3 : Ax w W3 R s (i + 1) ov (0, 0) 5 ⟨#[]⟩ ⟨#[]⟩ i := by rw [← hW3]; exact (hS2.knd HR.out 5).go1 HR.out hi1
    rw [hc]
    clear hS2
    go_wp2_with fail
    try rw [hW3]
    clear hW3 u0 u1 u2 u3 x0 x1 x2 x3 k0 k1 k2 k3 k4 f1
    have hA := hS3.rl.la
    have hw := rn_word hA
    have hXs := rn_in hA
    have cN := name_c hS3.rl
    unfold ptr at cN
    obtain ⟨A2, hA2⟩ : ∃ A2, a2 s i = A2 := ⟨_, rfl⟩
    rw [hA1] at HB1 HB2 HB3 HB4 HB5 HA2
    rw [hA2] at HB2 HB3 HB4 HB5 HA2
    rw [hK, hc] at HB5
    have HS3 : Hid _ := hS3
    clear hS3 hA1 hA2 hK hc hla
    by_cases hwd : word (nT s (i + 1)) 45 = true
    case neg =>
      have hwd : word (nT s (i + 1)) 45 = false := by simpa using hwd
      have e : nF s (i + 1) (0, 0) = (1202, i + 1) := by show fif (word (nT s (i + 1)) 45) _ _ = _; rw [hwd]; rfl
      have HF : Hid (T.f = (1202, i + 1)) := HB1.out hwd
      rw [e] at cN
      clear hw hwd e HB1 HB2 HB3 HB4 HB5 HA2
      refine cN.mono ?_
      rintro e W4 ⟨rfl, h4, q4⟩
      have hS4 := HS3.out.step HR.out q4 h4
      obtain ⟨⟨u0, u1, u2, u3⟩, x0, x1, x2, x3⟩ := LSc.four_box hS4.box
      obtain ⟨k0, k1, k2, k3, k4⟩ := h4.cells
      have HX : Hid _ := hS4.nam HR.out (sub s (i + 1) (rn s (i + 1) (i + 1)))
      clear hS4 h4 q4 HS3 cN
      go_wp2_with fail
      refine bodyPost_ret (results_none rfl _ _ _) rfl ?_
      exact ⟨⟨_, rfl⟩, _, _, _, HX.out.rl, HX.out.kr.below, HF.out.symm, fun h0 => absurd h0 (by rw [HF.out]; simp)⟩
    have hrn : rn s (i + 1) (i + 1) = A2 := by
      rcases hw with ⟨-, h2⟩ | ⟨-, h2, -⟩
      · rw [h2] at hwd; cases hwd
      · rw [HA2.out]; exact h2
    have hN : nT s (i + 1) = sub s (i + 1) A2 := by rw [HA2.out]
    have e : nF s (i + 1) (0, 0) = (0, 0) := by show fif (word (nT s (i + 1)) 45) _ _ = _; rw [hwd]; rfl
    rw [e, hrn] at cN
    rw [hrn] at hXs
    have HB2 : Hid (pre s A2 [61] = false → T.f = (1202, A2)) := HB2.out hwd
    have HB3 : Hid (pre s A2 [61] = true → pre s (A2 + 1) [34] = false → T.f = (1202, A2 + 1)) := HB3.out hwd
    have HB4 : Hid (pre s A2 [61] = true → pre s (A2 + 1) [34] = true → ux s (A2 + 2) [34] < 0 → T.f = (1203, A2 + 1)) := HB4.out hwd
    have HB5 : Hid (∀ X, pre s A2 [61] = true → pre s (A2 + 1) [34] = true → 0 ≤ ux s (A2 + 2) [34] → utx s (A2 + 2) [34] = sub s (A2 + 2) X → upl s (A2 + 2) [34] = X + 1 → T = ⟨5, nT s (i + 1), HBase.ptext (s.extract (A2 + 2) X), i, X + 1, true, fif (true || decide ((HBase.ptext (s.extract (A2 + 2) X)).size ≤ 4096)) (fif (HBase.perr (s.extract (A2 + 2) X) == 0) (0, 0) (1204, A2 + 2 + HBase.pat (s.extract (A2 + 2) X))) (1201, A2 + 1)⟩) := fun X => HB5.out X hwd
    rw [hN] at HB5
    obtain ⟨N, hN2⟩ : ∃ N, sub s (i + 1) A2 = N := ⟨_, rfl⟩
    rw [hN2] at HB5 cN
    clear hw hrn hN e HB1 HA2 hwd hN2
    refine cN.mono ?_
    rintro e W4 ⟨rfl, h4, q4⟩
    have hS4 := HS3.out.step HR.out q4 h4
    obtain ⟨⟨u0, u1, u2, u3⟩, x0, x1, x2, x3⟩ := LSc.four_box hS4.box
    obtain ⟨k0, k1, k2, k3, k4⟩ := h4.cells
    obtain ⟨W5, hW5⟩ : ∃ W5, W4.setCell ⟨w.heap.size, 1, none⟩ (.string N) = W5 := ⟨_, rfl⟩
    have hS5 := hS4.nam HR.out N
    rw [hW5] at hS5
    obtain ⟨l0, l1, l2, l3, l4⟩ := hS5.rl.cells
    have cM := must_c hS5.rl 61
    unfold ptr at cM
    have HS5 : Hid _ := hS5
    clear hS4 hS5 h4 q4 HS3 cN
    by_cases h61 : pre s A2 [61] = true
    case neg =>
      have h61 : pre s A2 [61] = false := by simpa using h61
      have HF : Hid (T.f = (1202, A2)) := HB2.out h61
      have hm : mpl s [61] A2 = A2 := by unfold mpl; rw [if_neg (by rw [h61]; decide)]
      rw [hm, h61, fif_f, show rf (0, 0) (1202, A2) = (1202, A2) from rfl] at cM
      clear HB2 HB3 HB4 HB5 hm h61
      go_wp2_with fail
      try rw [hW5]
      refine cM.mono ?_
      rintro e W6 ⟨⟨v6, rfl⟩, h6, q6⟩
      have HX : Hid _ := HS5.out.step HR.out q6 h6
      obtain ⟨k0, k1, k2, k3, k4⟩ := h6.cells
      clear h6 q6 HS5 cM
      go_wp2_with fail
      refine bodyPost_ret (results_none rfl _ _ _) rfl ?_
      exact ⟨⟨_, rfl⟩, _, _, _, HX.out.rl, HX.out.kr.below, HF.out.symm, fun h0 => absurd h0 (by rw [HF.out]; simp)⟩
    have h61s := ((pre_iff _ _ _).1 h61).1
    have hm : mpl s [61] A2 = A2 + 1 := mpl_t h61
    rw [hm, h61, fif_t] at cM
    have HB3 : Hid (pre s (A2 + 1) [34] = false → T.f = (1202, A2 + 1)) := HB3.out h61
    have HB4 : Hid (pre s (A2 + 1) [34] = true → ux s (A2 + 1 + 1) [34] < 0 → T.f = (1203, A2 + 1)) := HB4.out h61
    have HB5 : Hid (∀ X, pre s (A2 + 1) [34] = true → 0 ≤ ux s (A2 + 1 + 1) [34] → utx s (A2 + 1 + 1) [34] = sub s (A2 + 1 + 1) X → upl s (A2 + 1 + 1) [34] = X + 1 → T = ⟨5, N, HBase.ptext (s.extract (A2 + 1 + 1) X), i, X + 1, true, fif (true || decide ((HBase.ptext (s.extract (A2 + 1 + 1) X)).size ≤ 4096)) (fif (HBase.perr (s.extract (A2 + 1 + 1) X) == 0) (0, 0) (1204, A2 + 1 + 1 + HBase.pat (s.extract (A2 + 1 + 1) X))) (1201, A2 + 1)⟩) := fun X => HB5.out X h61
    have h61s : A2 + 1 ≤ s.size := h61s
    generalize A2 + 1 = A3 at *
    go_wp2_with fail
    try rw [hW5]
    refine cM.mono ?_
    rintro e W6 ⟨⟨v6, rfl⟩, h6, q6⟩
    have hS6 := HS5.out.step HR.out q6 h6
    obtain ⟨k0, k1, k2, k3, k4⟩ := h6.cells
    have cQ := here_c h6 ⟨#[34]⟩ (by decide)
    have eb : (⟨#[34]⟩ : ByteArray).data.toList = [34] := rfl
    rw [eb] at cQ
    unfold ptr at cQ
    have HS6 : Hid (∀ m, Ax w (W6.drewN m) R s A3 ov (0, 0) 5 N ⟨#[]⟩ i) := fun m => hS6.drewN HR.out m
    clear h6 q6 HS5 cM hS6 HB2 h61 hm eb hW5 u0 u1 u2 u3 x0 x1 x2 x3
    by_cases h34 : pre s A3 [34] = true
    case neg =>
      have h34 : pre s A3 [34] = false := by simpa using h34
      have HF : Hid (T.f = (1202, A3)) := HB3.out h34
      rw [h34] at cQ
      clear HB3 HB4 HB5 h34
      go_wp2_with fail
      refine cQ.mono ?_
      rintro e W7 ⟨rfl, n7, hn7⟩
      have hS7 := HS6.out n7
      rw [← hn7] at hS7
      obtain ⟨k0, k1, k2, k3, k4⟩ := hS7.rl.cells
      have cf := fail_c hS7.rl (1202, A3)
      rw [show rf (0, 0) (1202, A3) = (1202, A3) from rfl] at cf
      unfold ptr at cf
      have HS7 : Hid _ := hS7
      clear HS6 hn7 cQ hS7
      go_wp2_with fail
      refine cf.mono ?_
      rintro e W8 ⟨⟨v8, rfl⟩, h8, q8⟩
      have HX : Hid _ := HS7.out.step HR.out q8 h8
      obtain ⟨k0, k1, k2, k3, k4⟩ := h8.cells
      clear h8 q8 HS7 cf
      go_wp2_with fail
      refine bodyPost_ret (results_none rfl _ _ _) rfl ?_
      exact ⟨⟨_, rfl⟩, _, _, _, HX.out.rl, HX.out.kr.below, HF.out.symm, fun h0 => absurd h0 (by rw [HF.out]; simp)⟩
    have h34s : A3 + 1 ≤ s.size := ((pre_iff _ _ _).1 h34).1
    have HB4 : Hid (ux s (A3 + 1) [34] < 0 → T.f = (1203, A3)) := HB4.out h34
    have HB5 : Hid (∀ X, 0 ≤ ux s (A3 + 1) [34] → utx s (A3 + 1) [34] = sub s (A3 + 1) X → upl s (A3 + 1) [34] = X + 1 → T = ⟨5, N, HBase.ptext (s.extract (A3 + 1) X), i, X + 1, true, fif (true || decide ((HBase.ptext (s.extract (A3 + 1) X)).size ≤ 4096)) (fif (HBase.perr (s.extract (A3 + 1) X) == 0) (0, 0) (1204, A3 + 1 + HBase.pat (s.extract (A3 + 1) X))) (1201, A3)⟩) := fun X => HB5.out X h34
    rw [h34] at cQ
    have HC := fd_cases (x := [34]) h34s (by decide)
    have hXs := fd_in (x := [34]) h34s
    have hXa := fd_ge (x := [34]) h34s
    obtain ⟨X, HX⟩ : ∃ X, Hid (fd s [34] (A3 + 1) = X) := ⟨_, rfl⟩
    rw [HX.out] at HC hXs hXa
    have HT : Hid ((X < s.size ∧ T = ⟨5, N, HBase.ptext (s.extract (A3 + 1) X), i, X + 1, true, fif (true || decide ((HBase.ptext (s.extract (A3 + 1) X)).size ≤ 4096)) (fif (HBase.perr (s.extract (A3 + 1) X) == 0) (0, 0) (1204, A3 + 1 + HBase.pat (s.extract (A3 + 1) X))) (1201, A3)⟩) ∨ (X = s.size ∧ T.f = (1203, A3))) := by
      show _ ∨ _
      rcases HC with ⟨c1, c2, c3, c4⟩ | ⟨c1, c2⟩
      · exact .inl ⟨c1, HB5.out X c2 c3 c4⟩
      · exact .inr ⟨c1, HB4.out (Int.not_le.1 c2)⟩
    clear HC HB3 HB4 HB5 h34
    go_wp2_with fail
    refine cQ.mono ?_
    rintro e W7 ⟨rfl, n7, hn7⟩
    have hS7 := HS6.out n7
    rw [← hn7] at hS7
    obtain ⟨k0, k1, k2, k3, k4⟩ := hS7.rl.cells
    have f1 := hS7.rl.free 1
    have HS7 : Hid (Ax w (W7.setCell ⟨R, 1, none⟩ (.int .i64 ((A3 : Int) + 1))) R s (A3 + 1) ov (0, 0) 5 N ⟨#[]⟩ i) := hS7.go1 HR.out h34s
    clear HS6 hn7 cQ hS7
    go_wp2_with fail
    go_loopw [] (fun wr => ∃ j : Nat, A3 + 1 ≤ j ∧ fd s [34] j = X ∧ Ax w wr R s j ov (0, 0) 5 N ⟨#[]⟩ i) (fun wr => s.size - plc R wr)
    case atStart => exact ⟨A3 + 1, Nat.le_refl _, HX.out, HS7.out⟩
    case round =>
      clear HX HS7 k0 k1 k2 k3 k4 f1
      obtain ⟨j, hij, hj, hE⟩ := hrel
      obtain ⟨k0, k1, k2, k3, k4⟩ := hE.rl.cells
      have f1 := hE.rl.free 1
      have hlj := hE.rl.la
      have HM : Hid (plc R wr = j) := plr_of hE.rl
      have HE : Hid (∀ m, Ax w (wr.drewN m) R s j ov (0, 0) 5 N ⟨#[]⟩ i) := fun m => hE.drewN HR.out m
      by_cases hjl : j < s.size
      · have d0 : decide ((j : Int) < (s.size : Int)) = true := decide_eq_true (by omega)
        obtain ⟨y, hy⟩ : ∃ y, (s[j]'hjl).toNat = y := ⟨_, rfl⟩
        have hya : at' s j = y := by rw [← hy]; exact at_get s j hjl
        by_cases h6 : y = 34
        · have d1 : ((y : Int) != 34) = false := by simp [h6]
          have hp : pre s j [34] = true := pre_sg hjl (by rw [hya, h6]; rfl)
          have hjX : j = X := by rw [← hj, fd_stop hlj (by decide) (fun h => by rw [hp] at h; cases h.2)]
          subst hjX
          have d4 : decide ((s.size : Int) ≤ (j : Int)) = false := decide_eq_false (by omega)
          rcases HT.out with ⟨-, q2⟩ | ⟨q1, -⟩
          case inr => omega
          have HT2 : Hid _ := q2
          clear hE hj hya h6 hp HT q2
          go_wp2_with fail
          go_quiet (fail)
          have hE1 := HE.out nq
          clear HE HM
          generalize wr.drewN nq = W1 at *
          obtain ⟨k0, k1, k2, k3, k4⟩ := hE1.rl.cells
          have HE1 : Hid (∀ m, Ax w (W1.drewN m) R s j ov (0, 0) 5 N ⟨#[]⟩ i) := fun m => hE1.drewN HR.out m
          clear hE1
          go_wp2_with fail
          go_quiet (fail)
          have hE2 := HE1.out nq
          clear HE1 k0 k1 k2 k3 k4 f1
          generalize W1.drewN nq = W2 at *
          obtain ⟨k0, k1, k2, k3, k4⟩ := hE2.rl.cells
          obtain ⟨⟨u0, u1, u2, u3⟩, x0, x1, x2, x3⟩ := LSc.four_box hE2.box
          have cP := plain_c (hE2.rl.drewN 1) (A3 + 1) A3 (s.extract (A3 + 1) j) false (by omega) (by rw [ByteArray.size_extract]; omega)
          rw [show ((A3 + 1 : Nat) : Int) = (A3 : Int) + 1 from by omega] at cP
          unfold ptr at cP
          obtain ⟨PT, hPT⟩ : ∃ PT, HBase.ptext (s.extract (A3 + 1) j) = PT := ⟨_, rfl⟩
          rw [hPT] at cP HT2
          obtain ⟨PF, hPF⟩ : ∃ PF, fif (true || decide (PT.size ≤ 4096)) (fif (HBase.perr (s.extract (A3 + 1) j) == 0) (0, 0) (1204, A3 + 1 + HBase.pat (s.extract (A3 + 1) j))) (1201, A3) = PF := ⟨_, rfl⟩
          have cP : Calls Try.prog 34 #[.pointer (some ⟨R, 0, none⟩), .int .i64 ((A3 : Int) + 1), .string (s.extract (A3 + 1) j), .int .i64 (A3 : Int), .bool false] (W2.drewN 1) fun r w' => r = .returned (.string PT) ∧ Rl w' R s j ov PF ∧ Kr R (W2.drewN 1) w' := by
            rw [← hPF]
            exact cP
          rw [hPF] at HT2
          have b1 : (0 : Int) ≤ (A3 : Int) + 1 := by omega
          have b2 : (A3 : Int) + 1 ≤ (j : Int) := by omega
          have b3 : (j : Int) ≤ (s.size : Int) := by omega
          have b4 : ((A3 : Int) + 1).toNat = A3 + 1 := by omega
          have HE2 : Hid (Ax w (W2.drewN 1) R s j ov (0, 0) 5 N ⟨#[]⟩ i) := hE2.drewN HR.out 1
          clear hE2 hPT hPF
          go_wp2_with fail
          go_region_held3 (fun w' => w'.cell? ⟨R, 0, none⟩ = some (.string s) ∧ w'.cell? ⟨R, 1, none⟩ = some (.int .i64 (j : Int)) ∧ w'.cell? ⟨w.heap.size, 0, none⟩ = some (.int .i64 5)) (go_keep) (first
            | (go_at_call 34; refine cP.mono ?_; rintro e W3 ⟨rfl, h3, q3⟩; have hE3 := HE2.out.step HR.out q3 h3; obtain ⟨y0, y1, y2, y3, y4⟩ := hE3.rl.cells; obtain ⟨⟨v0, v1, v2, v3⟩, z0, z1, z2, z3⟩ := LSc.four_box hE3.box; obtain ⟨⟨w0, w1, w2, w3⟩, s0, s1, s2, s3⟩ := LSc.four_box (hE3.txt HR.out PT).box)
            | fail)
          have hE4 := (hE3.txt HR.out PT).go1 HR.out (by omega)
          clear cP HE2 h3 q3 y0 y1 y2 y3 y4 v0 v1 v2 v3 z0 z1 z2 z3 w0 w1 w2 w3 s0 s1 s2 s3 k0 k1 k2 k3 k4 u0 u1 u2 u3 x0 x1 x2 x3
          obtain ⟨y0, y1, y2, y3, y4⟩ := (hE3.txt HR.out PT).rl.cells
          have y5 := (hE3.txt HR.out PT).rl.free 1
          clear hE3
          obtain ⟨W6, hW6⟩ : ∃ W6, (W3.setCell ⟨w.heap.size, 2, none⟩ (.string PT)).setCell ⟨R, 1, none⟩ (.int .i64 ((j : Int) + 1)) = W6 := ⟨_, rfl⟩
          rw [hW6] at hE4
          obtain ⟨k0, k1, k2, k3, k4⟩ := hE4.rl.cells
          obtain ⟨⟨u0, u1, u2, u3⟩, -⟩ := LSc.four_box hE4.box
          have HQ : Hid (Rl (W6.drewN 1) R s (j + 1) ov PF ∧ To (W6.drewN 1) (R + 1) ov acc) := ⟨hE4.rl.drewN 1, own_kr HO.out (hE4.kr.drewN 1)⟩
          have HBX : Hid (∀ WW v, Apd (W6.drewN 1) WW R s (j + 1) ov PF acc 5 N PT i v → WW.heap[w.heap.size]? = some (.cells #[.int .i64 5, .string N, .string PT, .int .i64 i] 34 (0, 0)) ∧ (WW.setCell ⟨R, 2, none⟩ v).heap[w.heap.size]? = some (.cells #[.int .i64 5, .string N, .string PT, .int .i64 i] 34 (0, 0))) := fun WW v ha => Apd.box ha (hE4.drewN HR.out 1).box HR.out (to_ne HO.out)
          have kA := Rl.alc hE4.rl
          have HE4 : Hid _ := hE4
          clear hE4
          go_wp2_with fail
          try rw [hW6]
          refine wp_region_held_drew (S := fun w' => w'.cell? ⟨w.heap.size, 0, none⟩ = some (.int .i64 5) ∧ w'.cell? ⟨w.heap.size, 1, none⟩ = some (.string N) ∧ w'.cell? ⟨w.heap.size, 2, none⟩ = some (.string PT) ∧ w'.cell? ⟨w.heap.size, 3, none⟩ = some (.int .i64 (i : Int))) (by kernel_rfl) (by first | assumption | go_keep) (fun hHeld => ?_)
          refine wpAnyH_take (i := 0) (v := ?_) rfl (by kernel_rfl) (by kernel_rfl) (by kernel_rfl) (fun _ _ _ h => h) (Or.inl ⟨by rfl, ?_⟩) (by assumption) ?_
          rotate_left 1
          · intro w hSw; (try dsimp only at hSw); go_simp; first | done | with_reducible rfl | (rw [if_neg (by omega)])
          try simp only [Act.put, List.getElem_toArray, List.getElem_cons_zero, List.setIfInBounds_toArray, List.set_cons_zero, List.set_cons_succ]
          refine wpAnyH_take (i := 1) (v := ?_) rfl (by kernel_rfl) (by kernel_rfl) (by kernel_rfl) (fun _ _ _ h => h) (Or.inl ⟨by rfl, ?_⟩) (by assumption) ?_
          rotate_left 1
          · intro w hSw; (try dsimp only at hSw); go_simp; first | done | with_reducible rfl | (rw [if_neg (by omega)])
          try simp only [Act.put, List.getElem_toArray, List.getElem_cons_zero, List.getElem_cons_succ, List.setIfInBounds_toArray, List.set_cons_zero, List.set_cons_succ]
          refine wpAnyH_take (i := 2) (v := ?_) rfl (by kernel_rfl) (by kernel_rfl) (by kernel_rfl) (fun _ _ _ h => h) (Or.inl ⟨by rfl, ?_⟩) (by assumption) ?_
          rotate_left 1
          · intro w hSw; (try dsimp only at hSw); go_simp; first | done | with_reducible rfl | (rw [if_neg (by omega)])
          try simp only [Act.put, List.getElem_toArray, List.getElem_cons_zero, List.getElem_cons_succ, List.setIfInBounds_toArray, List.set_cons_zero, List.set_cons_succ]
          refine wpAnyH_take (i := 3) (v := ?_) rfl (by kernel_rfl) (by kernel_rfl) (by kernel_rfl) (fun _ _ _ h => h) (Or.inl ⟨by rfl, ?_⟩) (by assumption) ?_
          rotate_left 1
          · intro w hSw; (try dsimp only at hSw); go_simp; first | done | with_reducible rfl | (rw [if_neg (by omega)])
          try simp only [Act.put, List.getElem_toArray, List.getElem_cons_zero, List.getElem_cons_succ, List.setIfInBounds_toArray, List.set_cons_zero, List.set_cons_succ]
          refine wpAnyH_take (i := 5) (v := ?_) rfl (by kernel_rfl) (by kernel_rfl) (by kernel_rfl) (fun _ _ _ h => h) (Or.inl ⟨by rfl, ?_⟩) (by assumption) ?_
          rotate_left 1
          · intro w hSw; (try dsimp only at hSw); go_simp; first | done | with_reducible rfl | (rw [if_neg (by omega)])
          try simp only [Act.put, List.getElem_toArray, List.getElem_cons_zero, List.getElem_cons_succ, List.setIfInBounds_toArray, List.set_cons_zero, List.set_cons_succ]
          refine wpAnyH_ready (rs := [4, 6]) (by kernel_rfl) (by simp) ?_
          refine AllReadyH.cons rfl (fun K hK => ?_) (AllReadyH.cons rfl (fun K hK => ?_) (AllReadyH.nil))
          go_simp
          refine hK.out _ _ (by first | assumption | go_keep) (fun hHeld => ?_)
          clear hK K
          try simp only [Act.put, List.getElem_toArray, List.getElem_cons_zero, List.getElem_cons_succ, List.setIfInBounds_toArray, List.set_cons_zero, List.set_cons_succ]
          refine wpAnyH_ready (rs := [6]) (by kernel_rfl) (by simp) ?_
          refine AllReadyH.cons rfl (fun K hK => ?_) (AllReadyH.nil)
          go_simp
          refine hK.out _ _ (by first | assumption | go_keep) (fun hHeld => ?_)
          clear hK K
          try simp only [Act.put, List.getElem_toArray, List.getElem_cons_zero, List.getElem_cons_succ, List.setIfInBounds_toArray, List.set_cons_zero, List.set_cons_succ]
          refine wpAnyH_ready (rs := [7]) (by kernel_rfl) (by simp) ?_
          refine AllReadyH.cons rfl (fun K hK => ?_) (AllReadyH.nil)
          refine step_app (by rfl) _ _ (by rfl) HQ.out.1 HQ.out.2 hacc 5 N PT i (by rfl) (by rfl) (by rfl) ?_; intro vv WW hap; obtain ⟨g2, cap2, rfl⟩ := hap.sh; obtain ⟨y0, y1, y2, y3, y4⟩ := hap.rl.cells; have y5 := hap.rl.free 2; obtain ⟨⟨r0, r1, r2, r3⟩, -⟩ := LSc.four_box (HBX.out _ _ hap).1; obtain ⟨⟨p0, p1, p2, p3⟩, -⟩ := LSc.four_box (HBX.out _ _ hap).2
          refine hK.out _ _ (by first | assumption | go_keep) (fun hHeld => ?_)
          clear hK K
          try simp only [Act.put, List.getElem_toArray, List.getElem_cons_zero, List.getElem_cons_succ, List.setIfInBounds_toArray, List.set_cons_zero, List.set_cons_succ]
          refine wpAnyH_take (i := 8) (v := ?_) rfl (by kernel_rfl) (by kernel_rfl) (by kernel_rfl) (fun _ _ _ h => h) (Or.inl ⟨by rfl, ?_⟩) (by assumption) ?_
          rotate_left 1
          · intro w hSw; (try dsimp only at hSw); go_simp; first | done | with_reducible rfl | (rw [if_neg (by omega)])
          try simp only [Act.put, List.getElem_toArray, List.getElem_cons_zero, List.getElem_cons_succ, List.setIfInBounds_toArray, List.set_cons_zero, List.set_cons_succ]
          refine wpAnyH_take (i := 9) (v := ?_) rfl (by kernel_rfl) (by kernel_rfl) (by kernel_rfl) (fun _ _ _ h => h) (Or.inl ⟨by rfl, ?_⟩) (by assumption) ?_
          rotate_left 1
          · intro w hSw; (try dsimp only at hSw); go_simp; first | done | with_reducible rfl | (rw [if_neg (by omega)])
          try simp only [Act.put, List.getElem_toArray, List.getElem_cons_zero, List.getElem_cons_succ, List.setIfInBounds_toArray, List.set_cons_zero, List.set_cons_succ]
          refine wpAnyH_ready (rs := [10]) (by kernel_rfl) (by simp) ?_
          refine AllReadyH.cons rfl (fun K hK => ?_) (AllReadyH.nil)
          go_simp
          refine hK.out _ _ (by first | assumption | go_keep) (fun hHeld => ?_)
          clear hK K
          try simp only [Act.put, List.getElem_toArray, List.getElem_cons_zero, List.getElem_cons_succ, List.setIfInBounds_toArray, List.set_cons_zero, List.set_cons_succ]
          refine wpAnyH_done (by kernel_rfl) ?_ _
          rotate_left 1
          go_simp
          refine hK.out _ _ (by first | assumption | go_keep) (fun hHeld => ?_)
          clear hK K
          try simp only [Act.put, List.getElem_toArray, List.getElem_cons_zero, List.getElem_cons_succ, List.setIfInBounds_toArray, List.set_cons_zero, List.set_cons_succ]
          refine wpAnyH_ready (rs := [4]) (by kernel_rfl) (by simp) ?_
          refine AllReadyH.cons rfl (fun K hK => ?_) (AllReadyH.nil)
          go_simp
          refine hK.out _ _ (by first | assumption | go_keep) (fun hHeld => ?_)
          clear hK K
          try simp only [Act.put, List.getElem_toArray, List.getElem_cons_zero, List.getElem_cons_succ, List.setIfInBounds_toArray, List.set_cons_zero, List.set_cons_succ]
          refine wpAnyH_ready (rs := [7]) (by kernel_rfl) (by simp) ?_
          refine AllReadyH.cons rfl (fun K hK => ?_) (AllReadyH.nil)
          refine step_app (by rfl) _ _ (by rfl) HQ.out.1 HQ.out.2 hacc 5 N PT i (by rfl) (by rfl) (by rfl) ?_; intro vv WW hap; obtain ⟨g2, cap2, rfl⟩ := hap.sh; obtain ⟨y0, y1, y2, y3, y4⟩ := hap.rl.cells; have y5 := hap.rl.free 2; obtain ⟨⟨r0, r1, r2, r3⟩, -⟩ := LSc.four_box (HBX.out _ _ hap).1; obtain ⟨⟨p0, p1, p2, p3⟩, -⟩ := LSc.four_box (HBX.out _ _ hap).2
          refine hK.out _ _ (by first | assumption | go_keep) (fun hHeld => ?_)
          clear hK K
          try simp only [Act.put, List.getElem_toArray, List.getElem_cons_zero, List.getElem_cons_succ, List.setIfInBounds_toArray, List.set_cons_zero, List.set_cons_succ]
          refine wpAnyH_take (i := 8) (v := ?_) rfl (by kernel_rfl) (by kernel_rfl) (by kernel_rfl) (fun _ _ _ h => h) (Or.inl ⟨by rfl, ?_⟩) (by assumption) ?_
          rotate_left 1
          · intro w hSw; (try dsimp only at hSw); go_simp; first | done | with_reducible rfl | (rw [if_neg (by omega)])
          try simp only [Act.put, List.getElem_toArray, List.getElem_cons_zero, List.getElem_cons_succ, List.setIfInBounds_toArray, List.set_cons_zero, List.set_cons_succ]
          refine wpAnyH_take (i := 9) (v := ?_) rfl (by kernel_rfl) (by kernel_rfl) (by kernel_rfl) (fun _ _ _ h => h) (Or.inl ⟨by rfl, ?_⟩) (by assumption) ?_
          rotate_left 1
          · intro w hSw; (try dsimp only at hSw); go_simp; first | done | with_reducible rfl | (rw [if_neg (by omega)])
          try simp only [Act.put, List.getElem_toArray, List.getElem_cons_zero, List.getElem_cons_succ, List.setIfInBounds_toArray, List.set_cons_zero, List.set_cons_succ]
          refine wpAnyH_ready (rs := [10]) (by kernel_rfl) (by simp) ?_
          refine AllReadyH.cons rfl (fun K hK => ?_) (AllReadyH.nil)
          go_simp
          refine hK.out _ _ (by first | assumption | go_keep) (fun hHeld => ?_)
          clear hK K
          try simp only [Act.put, List.getElem_toArray, List.getElem_cons_zero, List.getElem_cons_succ, List.setIfInBounds_toArray, List.set_cons_zero, List.set_cons_succ]
          refine wpAnyH_done (by kernel_rfl) ?_ _
          all_goals
            have HP : Hid _ := hap
            clear hap
            go_wp2_with fail
            go_end0
            refine ⟨⟨_, rfl⟩, _, _, _, HP.out.done, (HE4.out.kr.drewN 1).below.trans HP.out.bel, by rw [HT2.out], fun _ => ⟨by rw [HT2.out], HP.out.to T (by rw [HT2.out]) (by rw [HT2.out]) (by rw [HT2.out]) (by rw [HT2.out])⟩⟩
        · have d1 : ((y : Int) != 34) = true := by simp; omega
          have hp : pre s j [34] = false := LTp.pre_no (by rw [hya]; exact h6)
          have HJ : Hid (∀ m, Ax w ((wr.drewN m).setCell ⟨R, 1, none⟩ (.int .i64 ((j : Int) + 1))) R s (j + 1) ov (0, 0) 5 N ⟨#[]⟩ i) := fun m => (hE.drewN HR.out m).go1 HR.out (by omega)
          have HS : Hid (fd s [34] (j + 1) = X) := by
            show _ = _
            rw [← hj, fd_step hjl (by decide) hp]
          clear hE hj hya h6 hp
          go_wp2_with fail
          go_quiet (fail)
          go_wp2_with fail
          go_roundw
          case rel => exact ⟨j + 1, by omega, HS.out, HJ.out nq⟩
          case measure =>
            show s.size - plc R _ < s.size - plc R wr
            rw [plr_of (HJ.out nq).rl, HM.out]
            omega
      · have d0 : decide ((j : Int) < (s.size : Int)) = false := decide_eq_false (by omega)
        have d4 : decide ((s.size : Int) ≤ (j : Int)) = true := decide_eq_true (by omega)
        have hjX : j = X := by rw [← hj, fd_stop hlj (by decide) (fun h => hjl h.1)]
        subst hjX
        rcases HT.out with ⟨q1, -⟩ | ⟨-, q2⟩
        case inl => omega
        have HF : Hid (T.f = (1203, A3)) := q2
        clear hE hj HT q2
        go_wp2_with fail
        go_quiet (fail)
        have hE1 := HE.out nq
        clear HE HM
        generalize wr.drewN nq = W1 at *
        obtain ⟨k0, k1, k2, k3, k4⟩ := hE1.rl.cells
        have HE1 : Hid (∀ m, Ax w (W1.drewN m) R s j ov (0, 0) 5 N ⟨#[]⟩ i) := fun m => hE1.drewN HR.out m
        clear hE1
        go_wp2_with fail
        go_quiet (fail)
        have hE2 := HE1.out nq
        clear HE1 k0 k1 k2 k3 k4 f1
        generalize W1.drewN nq = W2 at *
        obtain ⟨k0, k1, k2, k3, k4⟩ := hE2.rl.cells
        have cf := fail_c hE2.rl (1203, A3)
        rw [show rf (0, 0) (1203, A3) = (1203, A3) from rfl] at cf
        unfold ptr at cf
        have HS7 : Hid _ := hE2
        clear hE2
        go_wp2_with fail
        refine cf.mono ?_
        rintro e W8 ⟨⟨v8, rfl⟩, h8, q8⟩
        have HX : Hid _ := HS7.out.step HR.out q8 h8
        clear h8 q8 HS7 cf
        go_wp2_with fail
        refine bodyPost_ret (results_none rfl _ _ _) rfl ?_
        exact ⟨⟨_, rfl⟩, _, _, _, HX.out.rl, HX.out.kr.below, HF.out.symm, fun h0 => absurd h0 (by rw [HF.out]; simp)⟩
  · have hc : pre s i [58] = false := by simpa using hc
    have hA1 : a1 s i = i := by unfold a1 mpl; rw [if_neg (by rw [hc]; decide)]
    have hK : aK s i = 4 := by unfold aK; rw [if_neg (by rw [hc]; decide)]
    have hS3 := hS2
    rw [hc]
    clear hS2
    go_wp2_with fail
    have hA := hS3.rl.la
    have hw := rn_word hA
    have hXs := rn_in hA
    have cN := name_c hS3.rl
    unfold ptr at cN
    obtain ⟨A2, hA2⟩ : ∃ A2, a2 s i = A2 := ⟨_, rfl⟩
    rw [hA1] at HB1 HB2 HB3 HB4 HB5 HA2
    rw [hA2] at HB2 HB3 HB4 HB5 HA2
    rw [hK, hc] at HB5
    have HS3 : Hid _ := hS3
    clear hS3 hA1 hA2 hK hc hla
    by_cases hwd : word (nT s i) 45 = true
    case neg =>
      have hwd : word (nT s i) 45 = false := by simpa using hwd
      have e : nF s i (0, 0) = (1202, i) := by show fif (word (nT s i) 45) _ _ = _; rw [hwd]; rfl
      have HF : Hid (T.f = (1202, i)) := HB1.out hwd
      rw [e] at cN
      clear hw hwd e HB1 HB2 HB3 HB4 HB5 HA2
      refine cN.mono ?_
      rintro e W4 ⟨rfl, h4, q4⟩
      have hS4 := HS3.out.step HR.out q4 h4
      obtain ⟨⟨u0, u1, u2, u3⟩, x0, x1, x2, x3⟩ := LSc.four_box hS4.box
      obtain ⟨k0, k1, k2, k3, k4⟩ := h4.cells
      have HX : Hid _ := hS4.nam HR.out (sub s i (rn s i i))
      clear hS4 h4 q4 HS3 cN
      go_wp2_with fail
      refine bodyPost_ret (results_none rfl _ _ _) rfl ?_
      exact ⟨⟨_, rfl⟩, _, _, _, HX.out.rl, HX.out.kr.below, HF.out.symm, fun h0 => absurd h0 (by rw [HF.out]; simp)⟩
    have hrn : rn s i i = A2 := by
      rcases hw with ⟨-, h2⟩ | ⟨-, h2, -⟩
      · rw [h2] at hwd; cases hwd
      · rw [HA2.out]; exact h2
    have hN : nT s i = sub s i A2 := by rw [HA2.out]
    have e : nF s i (0, 0) = (0, 0) := by show fif (word (nT s i) 45) _ _ = _; rw [hwd]; rfl
    rw [e, hrn] at cN
    rw [hrn] at hXs
    have HB2 : Hid (pre s A2 [61] = false → T.f = (1202, A2)) := HB2.out hwd
    have HB3 : Hid (pre s A2 [61] = true → pre s (A2 + 1) [34] = false → T.f = (1202, A2 + 1)) := HB3.out hwd
    have HB4 : Hid (pre s A2 [61] = true → pre s (A2 + 1) [34] = true → ux s (A2 + 2) [34] < 0 → T.f = (1203, A2 + 1)) := HB4.out hwd
    have HB5 : Hid (∀ X, pre s A2 [61] = true → pre s (A2 + 1) [34] = true → 0 ≤ ux s (A2 + 2) [34] → utx s (A2 + 2) [34] = sub s (A2 + 2) X → upl s (A2 + 2) [34] = X + 1 → T = ⟨4, nT s i, HBase.ptext (s.extract (A2 + 2) X), i, X + 1, true, fif (false || decide ((HBase.ptext (s.extract (A2 + 2) X)).size ≤ 4096)) (fif (HBase.perr (s.extract (A2 + 2) X) == 0) (0, 0) (1204, A2 + 2 + HBase.pat (s.extract (A2 + 2) X))) (1201, A2 + 1)⟩) := fun X => HB5.out X hwd
    rw [hN] at HB5
    obtain ⟨N, hN2⟩ : ∃ N, sub s i A2 = N := ⟨_, rfl⟩
    rw [hN2] at HB5 cN
    clear hw hrn hN e HB1 HA2 hwd hN2
    refine cN.mono ?_
    rintro e W4 ⟨rfl, h4, q4⟩
    have hS4 := HS3.out.step HR.out q4 h4
    obtain ⟨⟨u0, u1, u2, u3⟩, x0, x1, x2, x3⟩ := LSc.four_box hS4.box
    obtain ⟨k0, k1, k2, k3, k4⟩ := h4.cells
    obtain ⟨W5, hW5⟩ : ∃ W5, W4.setCell ⟨w.heap.size, 1, none⟩ (.string N) = W5 := ⟨_, rfl⟩
    have hS5 := hS4.nam HR.out N
    rw [hW5] at hS5
    obtain ⟨l0, l1, l2, l3, l4⟩ := hS5.rl.cells
    have cM := must_c hS5.rl 61
    unfold ptr at cM
    have HS5 : Hid _ := hS5
    clear hS4 hS5 h4 q4 HS3 cN
    by_cases h61 : pre s A2 [61] = true
    case neg =>
      have h61 : pre s A2 [61] = false := by simpa using h61
      have HF : Hid (T.f = (1202, A2)) := HB2.out h61
      have hm : mpl s [61] A2 = A2 := by unfold mpl; rw [if_neg (by rw [h61]; decide)]
      rw [hm, h61, fif_f, show rf (0, 0) (1202, A2) = (1202, A2) from rfl] at cM
      clear HB2 HB3 HB4 HB5 hm h61
      go_wp2_with fail
      try rw [hW5]
      refine cM.mono ?_
      rintro e W6 ⟨⟨v6, rfl⟩, h6, q6⟩
      have HX : Hid _ := HS5.out.step HR.out q6 h6
      obtain ⟨k0, k1, k2, k3, k4⟩ := h6.cells
      clear h6 q6 HS5 cM
      go_wp2_with fail
      refine bodyPost_ret (results_none rfl _ _ _) rfl ?_
      exact ⟨⟨_, rfl⟩, _, _, _, HX.out.rl, HX.out.kr.below, HF.out.symm, fun h0 => absurd h0 (by rw [HF.out]; simp)⟩
    have h61s := ((pre_iff _ _ _).1 h61).1
    have hm : mpl s [61] A2 = A2 + 1 := mpl_t h61
    rw [hm, h61, fif_t] at cM
    have HB3 : Hid (pre s (A2 + 1) [34] = false → T.f = (1202, A2 + 1)) := HB3.out h61
    have HB4 : Hid (pre s (A2 + 1) [34] = true → ux s (A2 + 1 + 1) [34] < 0 → T.f = (1203, A2 + 1)) := HB4.out h61
    have HB5 : Hid (∀ X, pre s (A2 + 1) [34] = true → 0 ≤ ux s (A2 + 1 + 1) [34] → utx s (A2 + 1 + 1) [34] = sub s (A2 + 1 + 1) X → upl s (A2 + 1 + 1) [34] = X + 1 → T = ⟨4, N, HBase.ptext (s.extract (A2 + 1 + 1) X), i, X + 1, true, fif (false || decide ((HBase.ptext (s.extract (A2 + 1 + 1) X)).size ≤ 4096)) (fif (HBase.perr (s.extract (A2 + 1 + 1) X) == 0) (0, 0) (1204, A2 + 1 + 1 + HBase.pat (s.extract (A2 + 1 + 1) X))) (1201, A2 + 1)⟩) := fun X => HB5.out X h61
    have h61s : A2 + 1 ≤ s.size := h61s
    generalize A2 + 1 = A3 at *
    go_wp2_with fail
    try rw [hW5]
    refine cM.mono ?_
    rintro e W6 ⟨⟨v6, rfl⟩, h6, q6⟩
    have hS6 := HS5.out.step HR.out q6 h6
    obtain ⟨k0, k1, k2, k3, k4⟩ := h6.cells
    have cQ := here_c h6 ⟨#[34]⟩ (by decide)
    have eb : (⟨#[34]⟩ : ByteArray).data.toList = [34] := rfl
    rw [eb] at cQ
    unfold ptr at cQ
    have HS6 : Hid (∀ m, Ax w (W6.drewN m) R s A3 ov (0, 0) 4 N ⟨#[]⟩ i) := fun m => hS6.drewN HR.out m
    clear h6 q6 HS5 cM hS6 HB2 h61 hm eb hW5 u0 u1 u2 u3 x0 x1 x2 x3
    by_cases h34 : pre s A3 [34] = true
    case neg =>
      have h34 : pre s A3 [34] = false := by simpa using h34
      have HF : Hid (T.f = (1202, A3)) := HB3.out h34
      rw [h34] at cQ
      clear HB3 HB4 HB5 h34
      go_wp2_with fail
      refine cQ.mono ?_
      rintro e W7 ⟨rfl, n7, hn7⟩
      have hS7 := HS6.out n7
      rw [← hn7] at hS7
      obtain ⟨k0, k1, k2, k3, k4⟩ := hS7.rl.cells
      have cf := fail_c hS7.rl (1202, A3)
      rw [show rf (0, 0) (1202, A3) = (1202, A3) from rfl] at cf
      unfold ptr at cf
      have HS7 : Hid _ := hS7
      clear HS6 hn7 cQ hS7
      go_wp2_with fail
      refine cf.mono ?_
      rintro e W8 ⟨⟨v8, rfl⟩, h8, q8⟩
      have HX : Hid _ := HS7.out.step HR.out q8 h8
      obtain ⟨k0, k1, k2, k3, k4⟩ := h8.cells
      clear h8 q8 HS7 cf
      go_wp2_with fail
      refine bodyPost_ret (results_none rfl _ _ _) rfl ?_
      exact ⟨⟨_, rfl⟩, _, _, _, HX.out.rl, HX.out.kr.below, HF.out.symm, fun h0 => absurd h0 (by rw [HF.out]; simp)⟩
    have h34s : A3 + 1 ≤ s.size := ((pre_iff _ _ _).1 h34).1
    have HB4 : Hid (ux s (A3 + 1) [34] < 0 → T.f = (1203, A3)) := HB4.out h34
    have HB5 : Hid (∀ X, 0 ≤ ux s (A3 + 1) [34] → utx s (A3 + 1) [34] = sub s (A3 + 1) X → upl s (A3 + 1) [34] = X + 1 → T = ⟨4, N, HBase.ptext (s.extract (A3 + 1) X), i, X + 1, true, fif (false || decide ((HBase.ptext (s.extract (A3 + 1) X)).size ≤ 4096)) (fif (HBase.perr (s.extract (A3 + 1) X) == 0) (0, 0) (1204, A3 + 1 + HBase.pat (s.extract (A3 + 1) X))) (1201, A3)⟩) := fun X => HB5.out X h34
    rw [h34] at cQ
    have HC := fd_cases (x := [34]) h34s (by decide)
    have hXs := fd_in (x := [34]) h34s
    have hXa := fd_ge (x := [34]) h34s
    obtain ⟨X, HX⟩ : ∃ X, Hid (fd s [34] (A3 + 1) = X) := ⟨_, rfl⟩
    rw [HX.out] at HC hXs hXa
    have HT : Hid ((X < s.size ∧ T = ⟨4, N, HBase.ptext (s.extract (A3 + 1) X), i, X + 1, true, fif (false || decide ((HBase.ptext (s.extract (A3 + 1) X)).size ≤ 4096)) (fif (HBase.perr (s.extract (A3 + 1) X) == 0) (0, 0) (1204, A3 + 1 + HBase.pat (s.extract (A3 + 1) X))) (1201, A3)⟩) ∨ (X = s.size ∧ T.f = (1203, A3))) := by
      show _ ∨ _
      rcases HC with ⟨c1, c2, c3, c4⟩ | ⟨c1, c2⟩
      · exact .inl ⟨c1, HB5.out X c2 c3 c4⟩
      · exact .inr ⟨c1, HB4.out (Int.not_le.1 c2)⟩
    clear HC HB3 HB4 HB5 h34
    go_wp2_with fail
    refine cQ.mono ?_
    rintro e W7 ⟨rfl, n7, hn7⟩
    have hS7 := HS6.out n7
    rw [← hn7] at hS7
    obtain ⟨k0, k1, k2, k3, k4⟩ := hS7.rl.cells
    have f1 := hS7.rl.free 1
    have HS7 : Hid (Ax w (W7.setCell ⟨R, 1, none⟩ (.int .i64 ((A3 : Int) + 1))) R s (A3 + 1) ov (0, 0) 4 N ⟨#[]⟩ i) := hS7.go1 HR.out h34s
    clear HS6 hn7 cQ hS7
    go_wp2_with fail
    go_loopw [] (fun wr => ∃ j : Nat, A3 + 1 ≤ j ∧ fd s [34] j = X ∧ Ax w wr R s j ov (0, 0) 4 N ⟨#[]⟩ i) (fun wr => s.size - plc R wr)
    case atStart => exact ⟨A3 + 1, Nat.le_refl _, HX.out, HS7.out⟩
    case round =>
      clear HX HS7 k0 k1 k2 k3 k4 f1
      obtain ⟨j, hij, hj, hE⟩ := hrel
      obtain ⟨k0, k1, k2, k3, k4⟩ := hE.rl.cells
      have f1 := hE.rl.free 1
      have hlj := hE.rl.la
      have HM : Hid (plc R wr = j) := plr_of hE.rl
      have HE : Hid (∀ m, Ax w (wr.drewN m) R s j ov (0, 0) 4 N ⟨#[]⟩ i) := fun m => hE.drewN HR.out m
      by_cases hjl : j < s.size
      · have d0 : decide ((j : Int) < (s.size : Int)) = true := decide_eq_true (by omega)
        obtain ⟨y, hy⟩ : ∃ y, (s[j]'hjl).toNat = y := ⟨_, rfl⟩
        have hya : at' s j = y := by rw [← hy]; exact at_get s j hjl
        by_cases h6 : y = 34
        · have d1 : ((y : Int) != 34) = false := by simp [h6]
          have hp : pre s j [34] = true := pre_sg hjl (by rw [hya, h6]; rfl)
          have hjX : j = X := by rw [← hj, fd_stop hlj (by decide) (fun h => by rw [hp] at h; cases h.2)]
          subst hjX
          have d4 : decide ((s.size : Int) ≤ (j : Int)) = false := decide_eq_false (by omega)
          rcases HT.out with ⟨-, q2⟩ | ⟨q1, -⟩
          case inr => omega
          have HT2 : Hid _ := q2
          clear hE hj hya h6 hp HT q2
          go_wp2_with fail
          go_quiet (fail)
          have hE1 := HE.out nq
          clear HE HM
          generalize wr.drewN nq = W1 at *
          obtain ⟨k0, k1, k2, k3, k4⟩ := hE1.rl.cells
          have HE1 : Hid (∀ m, Ax w (W1.drewN m) R s j ov (0, 0) 4 N ⟨#[]⟩ i) := fun m => hE1.drewN HR.out m
          clear hE1
          go_wp2_with fail
          go_quiet (fail)
          have hE2 := HE1.out nq
          clear HE1 k0 k1 k2 k3 k4 f1
          generalize W1.drewN nq = W2 at *
          obtain ⟨k0, k1, k2, k3, k4⟩ := hE2.rl.cells
          obtain ⟨⟨u0, u1, u2, u3⟩, x0, x1, x2, x3⟩ := LSc.four_box hE2.box
          have cP := plain_c (hE2.rl.drewN 1) (A3 + 1) A3 (s.extract (A3 + 1) j) true (by omega) (by rw [ByteArray.size_extract]; omega)
          rw [show ((A3 + 1 : Nat) : Int) = (A3 : Int) + 1 from by omega] at cP
          unfold ptr at cP
          obtain ⟨PT, hPT⟩ : ∃ PT, HBase.ptext (s.extract (A3 + 1) j) = PT := ⟨_, rfl⟩
          rw [hPT] at cP HT2
          obtain ⟨PF, hPF⟩ : ∃ PF, fif (false || decide (PT.size ≤ 4096)) (fif (HBase.perr (s.extract (A3 + 1) j) == 0) (0, 0) (1204, A3 + 1 + HBase.pat (s.extract (A3 + 1) j))) (1201, A3) = PF := ⟨_, rfl⟩
          have cP : Calls Try.prog 34 #[.pointer (some ⟨R, 0, none⟩), .int .i64 ((A3 : Int) + 1), .string (s.extract (A3 + 1) j), .int .i64 (A3 : Int), .bool true] (W2.drewN 1) fun r w' => r = .returned (.string PT) ∧ Rl w' R s j ov PF ∧ Kr R (W2.drewN 1) w' := by
            rw [← hPF]
            exact cP
          rw [hPF] at HT2
          have b1 : (0 : Int) ≤ (A3 : Int) + 1 := by omega
          have b2 : (A3 : Int) + 1 ≤ (j : Int) := by omega
          have b3 : (j : Int) ≤ (s.size : Int) := by omega
          have b4 : ((A3 : Int) + 1).toNat = A3 + 1 := by omega
          have HE2 : Hid (Ax w (W2.drewN 1) R s j ov (0, 0) 4 N ⟨#[]⟩ i) := hE2.drewN HR.out 1
          clear hE2 hPT hPF
          go_wp2_with fail
          go_region_held3 (fun w' => w'.cell? ⟨R, 0, none⟩ = some (.string s) ∧ w'.cell? ⟨R, 1, none⟩ = some (.int .i64 (j : Int)) ∧ w'.cell? ⟨w.heap.size, 0, none⟩ = some (.int .i64 4)) (go_keep) (first
            | (go_at_call 34; refine cP.mono ?_; rintro e W3 ⟨rfl, h3, q3⟩; have hE3 := HE2.out.step HR.out q3 h3; obtain ⟨y0, y1, y2, y3, y4⟩ := hE3.rl.cells; obtain ⟨⟨v0, v1, v2, v3⟩, z0, z1, z2, z3⟩ := LSc.four_box hE3.box; obtain ⟨⟨w0, w1, w2, w3⟩, s0, s1, s2, s3⟩ := LSc.four_box (hE3.txt HR.out PT).box)
            | fail)
          have hE4 := (hE3.txt HR.out PT).go1 HR.out (by omega)
          clear cP HE2 h3 q3 y0 y1 y2 y3 y4 v0 v1 v2 v3 z0 z1 z2 z3 w0 w1 w2 w3 s0 s1 s2 s3 k0 k1 k2 k3 k4 u0 u1 u2 u3 x0 x1 x2 x3
          obtain ⟨y0, y1, y2, y3, y4⟩ := (hE3.txt HR.out PT).rl.cells
          have y5 := (hE3.txt HR.out PT).rl.free 1
          clear hE3
          obtain ⟨W6, hW6⟩ : ∃ W6, (W3.setCell ⟨w.heap.size, 2, none⟩ (.string PT)).setCell ⟨R, 1, none⟩ (.int .i64 ((j : Int) + 1)) = W6 := ⟨_, rfl⟩
          rw [hW6] at hE4
          obtain ⟨k0, k1, k2, k3, k4⟩ := hE4.rl.cells
          obtain ⟨⟨u0, u1, u2, u3⟩, -⟩ := LSc.four_box hE4.box
          have HQ : Hid (Rl (W6.drewN 1) R s (j + 1) ov PF ∧ To (W6.drewN 1) (R + 1) ov acc) := ⟨hE4.rl.drewN 1, own_kr HO.out (hE4.kr.drewN 1)⟩
          have HBX : Hid (∀ WW v, Apd (W6.drewN 1) WW R s (j + 1) ov PF acc 4 N PT i v → WW.heap[w.heap.size]? = some (.cells #[.int .i64 4, .string N, .string PT, .int .i64 i] 34 (0, 0)) ∧ (WW.setCell ⟨R, 2, none⟩ v).heap[w.heap.size]? = some (.cells #[.int .i64 4, .string N, .string PT, .int .i64 i] 34 (0, 0))) := fun WW v ha => Apd.box ha (hE4.drewN HR.out 1).box HR.out (to_ne HO.out)
          have kA := Rl.alc hE4.rl
          have HE4 : Hid _ := hE4
          clear hE4
          go_wp2_with fail
          try rw [hW6]
          refine wp_region_held_drew (S := fun w' => w'.cell? ⟨w.heap.size, 0, none⟩ = some (.int .i64 4) ∧ w'.cell? ⟨w.heap.size, 1, none⟩ = some (.string N) ∧ w'.cell? ⟨w.heap.size, 2, none⟩ = some (.string PT) ∧ w'.cell? ⟨w.heap.size, 3, none⟩ = some (.int .i64 (i : Int))) (by kernel_rfl) (by first | assumption | go_keep) (fun hHeld => ?_)
          refine wpAnyH_take (i := 0) (v := ?_) rfl (by kernel_rfl) (by kernel_rfl) (by kernel_rfl) (fun _ _ _ h => h) (Or.inl ⟨by rfl, ?_⟩) (by assumption) ?_
          rotate_left 1
          · intro w hSw; (try dsimp only at hSw); go_simp; first | done | with_reducible rfl | (rw [if_neg (by omega)])
          try simp only [Act.put, List.getElem_toArray, List.getElem_cons_zero, List.setIfInBounds_toArray, List.set_cons_zero, List.set_cons_succ]
          refine wpAnyH_take (i := 1) (v := ?_) rfl (by kernel_rfl) (by kernel_rfl) (by kernel_rfl) (fun _ _ _ h => h) (Or.inl ⟨by rfl, ?_⟩) (by assumption) ?_
          rotate_left 1
          · intro w hSw; (try dsimp only at hSw); go_simp; first | done | with_reducible rfl | (rw [if_neg (by omega)])
          try simp only [Act.put, List.getElem_toArray, List.getElem_cons_zero, List.getElem_cons_succ, List.setIfInBounds_toArray, List.set_cons_zero, List.set_cons_succ]
          refine wpAnyH_take (i := 2) (v := ?_) rfl (by kernel_rfl) (by kernel_rfl) (by kernel_rfl) (fun _ _ _ h => h) (Or.inl ⟨by rfl, ?_⟩) (by assumption) ?_
          rotate_left 1
          · intro w hSw; (try dsimp only at hSw); go_simp; first | done | with_reducible rfl | (rw [if_neg (by omega)])
          try simp only [Act.put, List.getElem_toArray, List.getElem_cons_zero, List.getElem_cons_succ, List.setIfInBounds_toArray, List.set_cons_zero, List.set_cons_succ]
          refine wpAnyH_take (i := 3) (v := ?_) rfl (by kernel_rfl) (by kernel_rfl) (by kernel_rfl) (fun _ _ _ h => h) (Or.inl ⟨by rfl, ?_⟩) (by assumption) ?_
          rotate_left 1
          · intro w hSw; (try dsimp only at hSw); go_simp; first | done | with_reducible rfl | (rw [if_neg (by omega)])
          try simp only [Act.put, List.getElem_toArray, List.getElem_cons_zero, List.getElem_cons_succ, List.setIfInBounds_toArray, List.set_cons_zero, List.set_cons_succ]
          refine wpAnyH_take (i := 5) (v := ?_) rfl (by kernel_rfl) (by kernel_rfl) (by kernel_rfl) (fun _ _ _ h => h) (Or.inl ⟨by rfl, ?_⟩) (by assumption) ?_
          rotate_left 1
          · intro w hSw; (try dsimp only at hSw); go_simp; first | done | with_reducible rfl | (rw [if_neg (by omega)])
          try simp only [Act.put, List.getElem_toArray, List.getElem_cons_zero, List.getElem_cons_succ, List.setIfInBounds_toArray, List.set_cons_zero, List.set_cons_succ]
          refine wpAnyH_ready (rs := [4, 6]) (by kernel_rfl) (by simp) ?_
          refine AllReadyH.cons rfl (fun K hK => ?_) (AllReadyH.cons rfl (fun K hK => ?_) (AllReadyH.nil))
          go_simp
          refine hK.out _ _ (by first | assumption | go_keep) (fun hHeld => ?_)
          clear hK K
          try simp only [Act.put, List.getElem_toArray, List.getElem_cons_zero, List.getElem_cons_succ, List.setIfInBounds_toArray, List.set_cons_zero, List.set_cons_succ]
          refine wpAnyH_ready (rs := [6]) (by kernel_rfl) (by simp) ?_
          refine AllReadyH.cons rfl (fun K hK => ?_) (AllReadyH.nil)
          go_simp
          refine hK.out _ _ (by first | assumption | go_keep) (fun hHeld => ?_)
          clear hK K
          try simp only [Act.put, List.getElem_toArray, List.getElem_cons_zero, List.getElem_cons_succ, List.setIfInBounds_toArray, List.set_cons_zero, List.set_cons_succ]
          refine wpAnyH_ready (rs := [7]) (by kernel_rfl) (by simp) ?_
          refine AllReadyH.cons rfl (fun K hK => ?_) (AllReadyH.nil)
          refine step_app (by rfl) _ _ (by rfl) HQ.out.1 HQ.out.2 hacc 4 N PT i (by rfl) (by rfl) (by rfl) ?_; intro vv WW hap; obtain ⟨g2, cap2, rfl⟩ := hap.sh; obtain ⟨y0, y1, y2, y3, y4⟩ := hap.rl.cells; have y5 := hap.rl.free 2; obtain ⟨⟨r0, r1, r2, r3⟩, -⟩ := LSc.four_box (HBX.out _ _ hap).1; obtain ⟨⟨p0, p1, p2, p3⟩, -⟩ := LSc.four_box (HBX.out _ _ hap).2
          refine hK.out _ _ (by first | assumption | go_keep) (fun hHeld => ?_)
          clear hK K
          try simp only [Act.put, List.getElem_toArray, List.getElem_cons_zero, List.getElem_cons_succ, List.setIfInBounds_toArray, List.set_cons_zero, List.set_cons_succ]
          refine wpAnyH_take (i := 8) (v := ?_) rfl (by kernel_rfl) (by kernel_rfl) (by kernel_rfl) (fun _ _ _ h => h) (Or.inl ⟨by rfl, ?_⟩) (by assumption) ?_
          rotate_left 1
          · intro w hSw; (try dsimp only at hSw); go_simp; first | done | with_reducible rfl | (rw [if_neg (by omega)])
          try simp only [Act.put, List.getElem_toArray, List.getElem_cons_zero, List.getElem_cons_succ, List.setIfInBounds_toArray, List.set_cons_zero, List.set_cons_succ]
          refine wpAnyH_take (i := 9) (v := ?_) rfl (by kernel_rfl) (by kernel_rfl) (by kernel_rfl) (fun _ _ _ h => h) (Or.inl ⟨by rfl, ?_⟩) (by assumption) ?_
          rotate_left 1
          · intro w hSw; (try dsimp only at hSw); go_simp; first | done | with_reducible rfl | (rw [if_neg (by omega)])
          try simp only [Act.put, List.getElem_toArray, List.getElem_cons_zero, List.getElem_cons_succ, List.setIfInBounds_toArray, List.set_cons_zero, List.set_cons_succ]
          refine wpAnyH_ready (rs := [10]) (by kernel_rfl) (by simp) ?_
          refine AllReadyH.cons rfl (fun K hK => ?_) (AllReadyH.nil)
          go_simp
          refine hK.out _ _ (by first | assumption | go_keep) (fun hHeld => ?_)
          clear hK K
          try simp only [Act.put, List.getElem_toArray, List.getElem_cons_zero, List.getElem_cons_succ, List.setIfInBounds_toArray, List.set_cons_zero, List.set_cons_succ]
          refine wpAnyH_done (by kernel_rfl) ?_ _
          rotate_left 1
          go_simp
          refine hK.out _ _ (by first | assumption | go_keep) (fun hHeld => ?_)
          clear hK K
          try simp only [Act.put, List.getElem_toArray, List.getElem_cons_zero, List.getElem_cons_succ, List.setIfInBounds_toArray, List.set_cons_zero, List.set_cons_succ]
          refine wpAnyH_ready (rs := [4]) (by kernel_rfl) (by simp) ?_
          refine AllReadyH.cons rfl (fun K hK => ?_) (AllReadyH.nil)
          go_simp
          refine hK.out _ _ (by first | assumption | go_keep) (fun hHeld => ?_)
          clear hK K
          try simp only [Act.put, List.getElem_toArray, List.getElem_cons_zero, List.getElem_cons_succ, List.setIfInBounds_toArray, List.set_cons_zero, List.set_cons_succ]
          refine wpAnyH_ready (rs := [7]) (by kernel_rfl) (by simp) ?_
          refine AllReadyH.cons rfl (fun K hK => ?_) (AllReadyH.nil)
          refine step_app (by rfl) _ _ (by rfl) HQ.out.1 HQ.out.2 hacc 4 N PT i (by rfl) (by rfl) (by rfl) ?_; intro vv WW hap; obtain ⟨g2, cap2, rfl⟩ := hap.sh; obtain ⟨y0, y1, y2, y3, y4⟩ := hap.rl.cells; have y5 := hap.rl.free 2; obtain ⟨⟨r0, r1, r2, r3⟩, -⟩ := LSc.four_box (HBX.out _ _ hap).1; obtain ⟨⟨p0, p1, p2, p3⟩, -⟩ := LSc.four_box (HBX.out _ _ hap).2
          refine hK.out _ _ (by first | assumption | go_keep) (fun hHeld => ?_)
          clear hK K
          try simp only [Act.put, List.getElem_toArray, List.getElem_cons_zero, List.getElem_cons_succ, List.setIfInBounds_toArray, List.set_cons_zero, List.set_cons_succ]
          refine wpAnyH_take (i := 8) (v := ?_) rfl (by kernel_rfl) (by kernel_rfl) (by kernel_rfl) (fun _ _ _ h => h) (Or.inl ⟨by rfl, ?_⟩) (by assumption) ?_
          rotate_left 1
          · intro w hSw; (try dsimp only at hSw); go_simp; first | done | with_reducible rfl | (rw [if_neg (by omega)])
          try simp only [Act.put, List.getElem_toArray, List.getElem_cons_zero, List.getElem_cons_succ, List.setIfInBounds_toArray, List.set_cons_zero, List.set_cons_succ]
          refine wpAnyH_take (i := 9) (v := ?_) rfl (by kernel_rfl) (by kernel_rfl) (by kernel_rfl) (fun _ _ _ h => h) (Or.inl ⟨by rfl, ?_⟩) (by assumption) ?_
          rotate_left 1
          · intro w hSw; (try dsimp only at hSw); go_simp; first | done | with_reducible rfl | (rw [if_neg (by omega)])
          try simp only [Act.put, List.getElem_toArray, List.getElem_cons_zero, List.getElem_cons_succ, List.setIfInBounds_toArray, List.set_cons_zero, List.set_cons_succ]
          refine wpAnyH_ready (rs := [10]) (by kernel_rfl) (by simp) ?_
          refine AllReadyH.cons rfl (fun K hK => ?_) (AllReadyH.nil)
          go_simp
          refine hK.out _ _ (by first | assumption | go_keep) (fun hHeld => ?_)
          clear hK K
          try simp only [Act.put, List.getElem_toArray, List.getElem_cons_zero, List.getElem_cons_succ, List.setIfInBounds_toArray, List.set_cons_zero, List.set_cons_succ]
          refine wpAnyH_done (by kernel_rfl) ?_ _
          all_goals
            have HP : Hid _ := hap
            clear hap
            go_wp2_with fail
            go_end0
            refine ⟨⟨_, rfl⟩, _, _, _, HP.out.done, (HE4.out.kr.drewN 1).below.trans HP.out.bel, by rw [HT2.out], fun _ => ⟨by rw [HT2.out], HP.out.to T (by rw [HT2.out]) (by rw [HT2.out]) (by rw [HT2.out]) (by rw [HT2.out])⟩⟩
        · have d1 : ((y : Int) != 34) = true := by simp; omega
          have hp : pre s j [34] = false := LTp.pre_no (by rw [hya]; exact h6)
          have HJ : Hid (∀ m, Ax w ((wr.drewN m).setCell ⟨R, 1, none⟩ (.int .i64 ((j : Int) + 1))) R s (j + 1) ov (0, 0) 4 N ⟨#[]⟩ i) := fun m => (hE.drewN HR.out m).go1 HR.out (by omega)
          have HS : Hid (fd s [34] (j + 1) = X) := by
            show _ = _
            rw [← hj, fd_step hjl (by decide) hp]
          clear hE hj hya h6 hp
          go_wp2_with fail
          go_quiet (fail)
          go_wp2_with fail
          go_roundw
          case rel => exact ⟨j + 1, by omega, HS.out, HJ.out nq⟩
          case measure =>
            show s.size - plc R _ < s.size - plc R wr
            rw [plr_of (HJ.out nq).rl, HM.out]
            omega
      · have d0 : decide ((j : Int) < (s.size : Int)) = false := decide_eq_false (by omega)
        have d4 : decide ((s.size : Int) ≤ (j : Int)) = true := decide_eq_true (by omega)
        have hjX : j = X := by rw [← hj, fd_stop hlj (by decide) (fun h => hjl h.1)]
        subst hjX
        rcases HT.out with ⟨q1, -⟩ | ⟨-, q2⟩
        case inl => omega
        have HF : Hid (T.f = (1203, A3)) := q2
        clear hE hj HT q2
        go_wp2_with fail
        go_quiet (fail)
        have hE1 := HE.out nq
        clear HE HM
        generalize wr.drewN nq = W1 at *
        obtain ⟨k0, k1, k2, k3, k4⟩ := hE1.rl.cells
        have HE1 : Hid (∀ m, Ax w (W1.drewN m) R s j ov (0, 0) 4 N ⟨#[]⟩ i) := fun m => hE1.drewN HR.out m
        clear hE1
        go_wp2_with fail
        go_quiet (fail)
        have hE2 := HE1.out nq
        clear HE1 k0 k1 k2 k3 k4 f1
        generalize W1.drewN nq = W2 at *
        obtain ⟨k0, k1, k2, k3, k4⟩ := hE2.rl.cells
        have cf := fail_c hE2.rl (1203, A3)
        rw [show rf (0, 0) (1203, A3) = (1203, A3) from rfl] at cf
        unfold ptr at cf
        have HS7 : Hid _ := hE2
        clear hE2
        go_wp2_with fail
        refine cf.mono ?_
        rintro e W8 ⟨⟨v8, rfl⟩, h8, q8⟩
        have HX : Hid _ := HS7.out.step HR.out q8 h8
        clear h8 q8 HS7 cf
        go_wp2_with fail
        refine bodyPost_ret (results_none rfl _ _ _) rfl ?_
        exact ⟨⟨_, rfl⟩, _, _, _, HX.out.rl, HX.out.kr.below, HF.out.symm, fun h0 => absurd h0 (by rw [HF.out]; simp)⟩
end Go.Proofs.Ytfglbgnjgapehaa.RAt

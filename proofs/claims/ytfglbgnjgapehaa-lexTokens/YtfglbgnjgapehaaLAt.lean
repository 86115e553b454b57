/- Templates: contract of attribute. -/
import Derived.Test.YtfglbgnjgapehaaLEn
import Derived.BigQuiet
namespace Go.Proofs.Ytfglbgnjgapehaa.LAt
open Go.RowKit Go.Proofs.Ytfglbgnjgapehaa.UBase Go.Proofs.Ytfglbgnjgapehaa.EPure Go.Proofs.Ytfglbgnjgapehaa.LPure Go.Proofs.Ytfglbgnjgapehaa.LRd Go.Proofs.Ytfglbgnjgapehaa.LSk Go.Proofs.Ytfglbgnjgapehaa.LNm Go.Proofs.Ytfglbgnjgapehaa.LUp Go.Proofs.Ytfglbgnjgapehaa.LTe Go.Proofs.Ytfglbgnjgapehaa.LPl Go.Proofs.Ytfglbgnjgapehaa.LSc Go.Proofs.Ytfglbgnjgapehaa.LOc Go.Proofs.Ytfglbgnjgapehaa.LEn
set_option linter.unusedVariables false

/-- The places in an attribute: its name, what is behind it, the quote, the text, what is behind that. -/
def a1 (s : ByteArray) (i : Nat) : Nat := mpl s [58] i
def a2 (s : ByteArray) (i : Nat) : Nat := nE s (a1 s i)
def a3 (s : ByteArray) (i : Nat) : Nat := mpl s [61] (a2 s i)
def a4 (s : ByteArray) (i : Nat) : Nat := mpl s [34] (a3 s i)
def a5 (s : ByteArray) (i : Nat) : Nat := upl s (a4 s i) [34]
def aW (s : ByteArray) (i : Nat) : ByteArray := utx s (a4 s i) [34]
def aT (s : ByteArray) (i : Nat) : ByteArray := HBase.ptext (aW s i)
/-- Its faults, one behind the other. -/
def f2 (s : ByteArray) (i : Nat) (f : F) : F := nF s (a1 s i) f
def f3 (s : ByteArray) (i : Nat) (f : F) : F := fif (pre s (a2 s i) [61]) (f2 s i f) (1202, a2 s i)
def f4 (s : ByteArray) (i : Nat) (f : F) : F := fif (pre s (a3 s i) [34]) (f3 s i f) (1202, a3 s i)
def f5 (s : ByteArray) (i : Nat) (f : F) : F := fif (decide (0 ≤ ux s (a4 s i) [34])) (f4 s i f) (1203, a3 s i)
def f6 (s : ByteArray) (i : Nat) (f : F) : F := fif (HBase.perr (aW s i) == 0) (f5 s i f) (1204, a4 s i + HBase.pat (aW s i))
def f7 (s : ByteArray) (i : Nat) (f : F) : F := if pre s i [58] = true then f6 s i f else fif (decide ((aT s i).size ≤ 4096)) (f6 s i f) (1201, a3 s i)
def aK (s : ByteArray) (i : Nat) : Nat := if pre s i [58] = true then 5 else 4
set_option maxRecDepth 20000 in
set_option maxHeartbeats 3200000 in
theorem attribute_c {w : World} {R : Nat} {s : ByteArray} {i : Nat} {b : Bool} {f : F} (h : Lr w R s i b f) (hg : Gm w) (hR0 : 0 < R) :
    Calls Try.prog 54 #[ptr R] w fun e w' => e = .returned (tv (aK s i) (nT s (a1 s i)) (aT s i) i) ∧ Lr w' R s (a5 s i) b (f7 s i f) ∧ Kr R w w' := by
  have hlt := h.lt
  have hsz := h.sz
  have hla := h.la
  have h2 := S2.start h (.int .i64 4) (.string ⟨#[]⟩) (.string ⟨#[]⟩) (.int .i64 i)
  obtain ⟨W0, hW0⟩ : ∃ W0, w.alloc t0 = W0 := ⟨_, rfl⟩
  have h0 : Sc w W0 R s i b f := by rw [← hW0]; exact Sc.start h
  have hz0 : W0.heap.size = w.heap.size + 1 := by rw [← hW0]; exact size_alloc0 w
  rw [hW0] at h2
  obtain ⟨W1, hW1⟩ : ∃ W1, W0.alloc t0 = W1 := ⟨_, rfl⟩
  have hn : W1.heap[w.heap.size + 1]? = some (.cells #[.int .i64 0, .string ⟨#[]⟩, .string ⟨#[]⟩, .int .i64 0] 34 (0, 0)) := by rw [← hW1, ← hz0]; exact heap_alloc_new _ _
  obtain ⟨⟨u0, u1, u2, u3⟩, x0, x1, x2, x3⟩ := four_box hn
  rw [hW1] at h2
  obtain ⟨W2, hW2⟩ : ∃ W2, (((W1.setCell ⟨w.heap.size + 1, 0, none⟩ (.int .i64 4)).setCell ⟨w.heap.size + 1, 1, none⟩ (.string ⟨#[]⟩)).setCell ⟨w.heap.size + 1, 2, none⟩ (.string ⟨#[]⟩)).setCell ⟨w.heap.size + 1, 3, none⟩ (.int .i64 i) = W2 := ⟨_, rfl⟩
  rw [hW2] at h2
  have HG : Hid (R < w.heap.size) := hlt
  have HGm : Hid (Gm w ∧ 0 < R) := ⟨hg, hR0⟩
  have HS2 : Hid (S2 w W2 R s i b f (.int .i64 4) (.string ⟨#[]⟩) (.string ⟨#[]⟩) (.int .i64 i)) := h2
  have cT : Calls Try.prog 67 #[ptr R, .string ⟨[(58 : UInt8)].toArray⟩] W2 fun e w' => e = .returned (.bool (pre s i [58])) ∧ Lr w' R s (a1 s i) b f ∧ Kr R W2 w' := take_c h2.sc.lr [58]
  obtain ⟨k0, k1, k2, k3, k4⟩ := h0.lr.cells
  obtain ⟨⟨b0, b1, b2, b3⟩, c0, c1, c2, c3⟩ := four_box h2.two
  have hne : w.heap.size + 1 ≠ R := by omega
  have hne2 : w.heap.size ≠ w.heap.size + 1 := by omega
  have q1 : ∀ W, Lr W R s (a1 s i) b f → Calls Try.prog 59 #[ptr R] W fun e w' => e = .returned (.string (nT s (a1 s i))) ∧ Lr w' R s (a2 s i) b (f2 s i f) ∧ Kr R W w' := fun W hW => name_c hW
  have q2 : ∀ W, Lr W R s (a2 s i) b (f2 s i f) → Calls Try.prog 56 #[ptr R, .string ⟨[(61 : UInt8)].toArray⟩] W fun e w' => (∃ r, e = .returned r) ∧ Lr w' R s (a3 s i) b (f3 s i f) ∧ Kr R W w' := fun W hW => must_m hW [61]
  have q3 : ∀ W, Lr W R s (a3 s i) b (f3 s i f) → Calls Try.prog 56 #[ptr R, .string ⟨[(34 : UInt8)].toArray⟩] W fun e w' => (∃ r, e = .returned r) ∧ Lr w' R s (a4 s i) b (f4 s i f) ∧ Kr R W w' := fun W hW => must_m hW [34]
  have q4 : ∀ W, Lr W R s (a4 s i) b (f4 s i f) → ∀ m : Int, W.cell? ⟨0, 0, none⟩ = some (.int .i64 m) → Calls Try.prog 57 #[ptr R, .string ⟨[(34 : UInt8)].toArray⟩, .agg #[.int .i64 1203, .int .i64 (a3 s i)]] W fun e w' => e = .returned (.string (aW s i)) ∧ Lr w' R s (a5 s i) b (f5 s i f) ∧ Kr R W w' := fun W hW m hm => upTo_c hW [34] (1203, a3 s i) m hm (by decide)
  have q5 : ∀ W, Lr W R s (a5 s i) b (f5 s i f) → a4 s i ≤ 65536 → Calls Try.prog 61 #[ptr R, .int .i64 (a4 s i), .string (aW s i)] W fun e w' => e = .returned (.string (aT s i)) ∧ Lr w' R s (a5 s i) b (f6 s i f) ∧ Kr R W w' := fun W hW hq => plain_c hW (a4 s i) (aW s i) hq (utx_small _ _ hsz)
  have q6 : ∀ W, Lr W R s (a5 s i) b (f6 s i f) → Calls Try.prog 62 #[ptr R, .string (aT s i), .int .i64 (a3 s i)] W fun e w' => (∃ r, e = .returned r) ∧ Lr w' R s (a5 s i) b (fif (decide ((aT s i).size ≤ 4096)) (f6 s i f) (1201, a3 s i)) ∧ Kr R W w' := fun W hW => limit_c hW (aT s i) (a3 s i)
  obtain ⟨K, hK⟩ : ∃ K, aK s i = K := ⟨_, rfl⟩
  obtain ⟨V, hV⟩ : ∃ V, f7 s i f = V := ⟨_, rfl⟩
  rw [hK, hV]
  unfold aK at hK
  unfold f7 at hV
  generalize a1 s i = A1 at *
  generalize a2 s i = A2 at *
  generalize a3 s i = A3 at *
  generalize a4 s i = A4 at *
  generalize a5 s i = A5 at *
  generalize aW s i = AW at *
  generalize aT s i = AT at *
  generalize f2 s i f = F2 at *
  generalize f3 s i f = F3 at *
  generalize f4 s i f = F4 at *
  generalize f5 s i f = F5 at *
  generalize f6 s i f = F6 at *
  obtain ⟨N, hN⟩ : ∃ N, nT s A1 = N := ⟨_, rfl⟩
  rw [hN] at q1 ⊢
  unfold ptr at cT q1 q2 q3 q4 q5 q6 ⊢
  cases hp : pre s i [58] with
  | true =>
    have HK : Hid (5 = K ∧ F6 = V) := by rw [hp] at hK hV; exact ⟨hK, hV⟩
    rw [hp] at cT
    clear h h0 h2 hn hlt hK hV hp hN hg hR0
    go_enter Try.func54, Try.ntmps54
    go_wp2_with fail
    refine cT.mono ?_
    rintro e w3 ⟨rfl, h3, k3'⟩
    have h4 := HS2.out.step HG.out k3' h3
    obtain ⟨⟨b0, b1, b2, b3⟩, c0, c1, c2, c3⟩ := four_box h4.two
    obtain ⟨W4, hW4⟩ : ∃ W4, w3.setCell ⟨w.heap.size + 1, 0, none⟩ (.int .i64 5) = W4 := ⟨_, rfl⟩
    have h5 := (h4.sets HG.out (.int .i64 5)).1
    rw [hW4] at h5
    have c1 := q1 _ h5.sc.lr
    have HS5 : Hid (S2 w W4 R s A1 b f (.int .i64 5) (.string ⟨#[]⟩) (.string ⟨#[]⟩) (.int .i64 i)) := h5
    clear cT h3 k3' h4 h5 HS2 q1
    go_wp2_with fail
    refine c1.mono ?_
    rintro e w6 ⟨rfl, h6, k6⟩
    have h7 := HS5.out.step HG.out k6 h6
    obtain ⟨⟨b0, b1, b2, b3⟩, c0, c1, c2, c3⟩ := four_box h7.two
    obtain ⟨W7, hW7⟩ : ∃ W7, w6.setCell ⟨w.heap.size + 1, 1, none⟩ (.string N) = W7 := ⟨_, rfl⟩
    have h8 := (h7.sets HG.out (.string N)).2.1
    rw [hW7] at h8
    have e2 := q2 _ h8.sc.lr
    have HS8 : Hid (S2 w W7 R s A2 b F2 (.int .i64 5) (.string N) (.string ⟨#[]⟩) (.int .i64 i)) := h8
    clear h6 k6 h7 h8 HS5 q2 hW4
    go_wp2_with fail
    refine e2.mono ?_
    rintro e w9 ⟨⟨r, rfl⟩, h9, k9⟩
    have h10 := HS8.out.step HG.out k9 h9
    have e3 := q3 _ h10.sc.lr
    obtain ⟨m0, m1, m2, m3, m4⟩ := h10.sc.lr.cells
    have HS10 : Hid (S2 w w9 R s A3 b F3 (.int .i64 5) (.string N) (.string ⟨#[]⟩) (.int .i64 i)) := h10
    clear e2 h9 k9 h10 HS8 q3 hW7
    go_wp2_with fail
    refine e3.mono ?_
    rintro e w11 ⟨⟨r', rfl⟩, h11, k11⟩
    have h12 := HS10.out.step HG.out k11 h11
    have hA4 : A4 ≤ 65536 := Nat.le_trans h12.sc.lr.la hsz
    obtain ⟨m, hm⟩ := Gm.kr HGm.out.1 h12.sc.kr HGm.out.2 HG.out
    have e4 := q4 _ h12.sc.lr m hm
    obtain ⟨m0, m1, m2, m3, m4⟩ := h12.sc.lr.cells
    have HS12 : Hid (S2 w w11 R s A4 b F4 (.int .i64 5) (.string N) (.string ⟨#[]⟩) (.int .i64 i)) := h12
    clear e3 h11 k11 h12 HS10 q4 hm
    go_wp2_with fail
    refine e4.mono ?_
    rintro e w13 ⟨rfl, h13, k13⟩
    have h14 := HS12.out.step HG.out k13 h13
    have e5 := q5 _ h14.sc.lr hA4
    have HS14 : Hid (S2 w w13 R s A5 b F5 (.int .i64 5) (.string N) (.string ⟨#[]⟩) (.int .i64 i)) := h14
    clear e4 h13 k13 h14 HS12 q5
    go_wp2_with fail
    refine e5.mono ?_
    rintro e w15 ⟨rfl, h15, k15⟩
    have h16 := HS14.out.step HG.out k15 h15
    obtain ⟨⟨b0, b1, b2, b3⟩, c0, c1, c2, c3⟩ := four_box h16.two
    obtain ⟨W16, hW16⟩ : ∃ W16, w15.setCell ⟨w.heap.size + 1, 2, none⟩ (.string AT) = W16 := ⟨_, rfl⟩
    have h17 := (h16.sets HG.out (.string AT)).2.2
    rw [hW16] at h17
    obtain ⟨⟨p0, p1, p2, p3⟩, -⟩ := four_box h17.two
    have h19 := h17
    obtain ⟨⟨y0, y1, y2, y3⟩, z0, z1, z2, z3⟩ := four_box h19.sc.box
    obtain ⟨hbx, hlr, hkr⟩ := h19.sc.fin HG.out (.int .i64 5) (.string N) (.string AT) (.int .i64 i)
    obtain ⟨⟨d0, d1, d2, d3⟩, -⟩ := four_box hbx
    have HL : Hid (_ ∧ _) := And.intro hlr hkr
    clear e5 h15 k15 h16 h17 HS14 q6 h19 hbx hlr hkr
    go_wp2_with fail
    refine bodyPost_ret (v := tv 5 N AT i) (by simp [results, Try.results54, go_sem, d0, d1, d2, d3]) rfl ?_
    rw [← HK.out.1]
    rw [← HK.out.2]
    exact ⟨rfl, HL.out⟩
  | false =>
    have HK : Hid (4 = K ∧ fif (decide (AT.size ≤ 4096)) F6 (1201, A3) = V) := by rw [hp] at hK hV; exact ⟨hK, hV⟩
    rw [hp] at cT
    clear h h0 h2 hn hlt hK hV hp hN hg hR0
    go_enter Try.func54, Try.ntmps54
    go_wp2_with fail
    refine cT.mono ?_
    rintro e w3 ⟨rfl, h3, k3'⟩
    have h4 := HS2.out.step HG.out k3' h3
    have h5 := h4
    have c1 := q1 _ h5.sc.lr
    have HS5 : Hid (S2 w w3 R s A1 b f (.int .i64 4) (.string ⟨#[]⟩) (.string ⟨#[]⟩) (.int .i64 i)) := h5
    clear cT h3 k3' h4 h5 HS2 q1
    go_wp2_with fail
    refine c1.mono ?_
    rintro e w6 ⟨rfl, h6, k6⟩
    have h7 := HS5.out.step HG.out k6 h6
    obtain ⟨⟨b0, b1, b2, b3⟩, c0, c1, c2, c3⟩ := four_box h7.two
    obtain ⟨W7, hW7⟩ : ∃ W7, w6.setCell ⟨w.heap.size + 1, 1, none⟩ (.string N) = W7 := ⟨_, rfl⟩
    have h8 := (h7.sets HG.out (.string N)).2.1
    rw [hW7] at h8
    have e2 := q2 _ h8.sc.lr
    have HS8 : Hid (S2 w W7 R s A2 b F2 (.int .i64 4) (.string N) (.string ⟨#[]⟩) (.int .i64 i)) := h8
    clear h6 k6 h7 h8 HS5 q2
    go_wp2_with fail
    refine e2.mono ?_
    rintro e w9 ⟨⟨r, rfl⟩, h9, k9⟩
    have h10 := HS8.out.step HG.out k9 h9
    have e3 := q3 _ h10.sc.lr
    obtain ⟨m0, m1, m2, m3, m4⟩ := h10.sc.lr.cells
    have HS10 : Hid (S2 w w9 R s A3 b F3 (.int .i64 4) (.string N) (.string ⟨#[]⟩) (.int .i64 i)) := h10
    clear e2 h9 k9 h10 HS8 q3 hW7
    go_wp2_with fail
    refine e3.mono ?_
    rintro e w11 ⟨⟨r', rfl⟩, h11, k11⟩
    have h12 := HS10.out.step HG.out k11 h11
    have hA4 : A4 ≤ 65536 := Nat.le_trans h12.sc.lr.la hsz
    obtain ⟨m, hm⟩ := Gm.kr HGm.out.1 h12.sc.kr HGm.out.2 HG.out
    have e4 := q4 _ h12.sc.lr m hm
    obtain ⟨m0, m1, m2, m3, m4⟩ := h12.sc.lr.cells
    have HS12 : Hid (S2 w w11 R s A4 b F4 (.int .i64 4) (.string N) (.string ⟨#[]⟩) (.int .i64 i)) := h12
    clear e3 h11 k11 h12 HS10 q4 hm
    go_wp2_with fail
    refine e4.mono ?_
    rintro e w13 ⟨rfl, h13, k13⟩
    have h14 := HS12.out.step HG.out k13 h13
    have e5 := q5 _ h14.sc.lr hA4
    have HS14 : Hid (S2 w w13 R s A5 b F5 (.int .i64 4) (.string N) (.string ⟨#[]⟩) (.int .i64 i)) := h14
    clear e4 h13 k13 h14 HS12 q5
    go_wp2_with fail
    refine e5.mono ?_
    rintro e w15 ⟨rfl, h15, k15⟩
    have h16 := HS14.out.step HG.out k15 h15
    obtain ⟨⟨b0, b1, b2, b3⟩, c0, c1, c2, c3⟩ := four_box h16.two
    obtain ⟨W16, hW16⟩ : ∃ W16, w15.setCell ⟨w.heap.size + 1, 2, none⟩ (.string AT) = W16 := ⟨_, rfl⟩
    have h17 := (h16.sets HG.out (.string AT)).2.2
    rw [hW16] at h17
    obtain ⟨⟨p0, p1, p2, p3⟩, -⟩ := four_box h17.two
    have e6 := q6 _ h17.sc.lr
    have HS17 : Hid (S2 w W16 R s A5 b F6 (.int .i64 4) (.string N) (.string AT) (.int .i64 i)) := h17
    clear e5 h15 k15 h16 h17 HS14 q6
    go_wp2_with fail
    refine e6.mono ?_
    rintro e w18 ⟨⟨r'', rfl⟩, h18, k18⟩
    have h19 := HS17.out.step HG.out k18 h18
    rw [HK.out.2] at h19
    obtain ⟨⟨p0, p1, p2, p3⟩, -⟩ := four_box h19.two
    obtain ⟨⟨y0, y1, y2, y3⟩, z0, z1, z2, z3⟩ := four_box h19.sc.box
    obtain ⟨hbx, hlr, hkr⟩ := h19.sc.fin HG.out (.int .i64 4) (.string N) (.string AT) (.int .i64 i)
    obtain ⟨⟨d0, d1, d2, d3⟩, -⟩ := four_box hbx
    have HL : Hid (_ ∧ _) := And.intro hlr hkr
    clear e6 h18 k18 HS17 hW16 h19 hbx hlr hkr
    go_wp2_with fail
    refine bodyPost_ret (v := tv 4 N AT i) (by simp [results, Try.results54, go_sem, d0, d1, d2, d3]) rfl ?_
    rw [← HK.out.1]
    exact ⟨rfl, HL.out⟩
end Go.Proofs.Ytfglbgnjgapehaa.LAt

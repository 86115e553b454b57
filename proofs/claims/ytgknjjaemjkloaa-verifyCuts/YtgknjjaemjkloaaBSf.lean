/- What the blocks share (package verify): sharedFault; need. -/
import Derived.Test.YtgknjjaemjkloaaBFw
import Derived.Test.YtgknjjaemjkloaaBSm
import Derived.Test.YtgknjjaemjkloaaBIn
namespace Go.Proofs.Ytgknjjaemjkloaa.BFx
open Go.RowKit Go.Proofs.Ytgknjjaemjkloaa.BPl Go.Proofs.Ytgknjjaemjkloaa.YRr Go.Proofs.Ytgknjjaemjkloaa.YRs Go.Proofs.Ytgknjjaemjkloaa.BBx Go.Proofs.Ytgknjjaemjkloaa.BIx Go.Proofs.Ytgknjjaemjkloaa.BFw
open Go.Proofs.Ytgknjjaemjkloaa.TBase (T Keep InL LAt heap_alloc_new)
open Go.Proofs.Ytgknjjaemjkloaa.CPu (Ins)
set_option linter.unusedVariables false

/-- The function values. -/
def fS : Value := .func (.func 56) #[] #[]
def fC (b : Nat) : Value := .func (.func 53) #[] #[.pointer (some ⟨b, 0, none⟩)]
def fT : Value := .func (.func 59) #[] #[]
theorem clo_s {w : World} {Bx : Nat} (hx : w.cell? ⟨Bx, 0, none⟩ = some fS) {x : ByteArray} (hs : x.size ≤ 140737488351232) :
    Calls Try.prog 94 #[.string x, .pointer (some ⟨Bx, 0, none⟩)] w fun e w' => e = .returned (.bool (!STx.tg x)) ∧ Below w.heap.size w w' := by
  have cT := STx.tmb_c x hs w
  unfold fS at hx
  generalize STx.tg x = z at *
  go_enter Try.func94, Try.ntmps94
  go_wp2_with fail
  refine cT.mono ?_
  rintro e W1 ⟨rfl, b1⟩
  have HB : Hid (Below w.heap.size w W1) := b1
  clear cT b1 hx
  go_wp2_with fail
  go_ret
  exact ⟨rfl, HB.out⟩
theorem cx_of {S : Nat → Prop} {w : World} {v : Value} {L : List Ins} (h : RrS 2 LyN S w v L) (hS : ∀ g, S g → g < w.heap.size) : CBx.Cx w.heap.size w v L := by
  obtain ⟨a, cap, h1, h2, h3, h4, h5, h6⟩ := h
  refine ⟨a, cap, h1, h2, h3, h5, ?_⟩
  rcases h6 with h6 | ⟨g, o, ha, hg, hc⟩
  · exact .inl h6
  · exact .inr ⟨g, o, ha, hS g hg, fun j hj => ⟨(hc j hj).1, (hc j hj).2.1⟩⟩
theorem may_c {S : Nat → Prop} {w : World} {b : Nat} {ta : Option Addr} {tn tc : Nat} (hx : w.cell? ⟨b, 0, none⟩ = some (.slice ta tn tc)) {v : Value} {L : List Ins} (h : RrS 2 LyN S w v L) (hS : ∀ g, S g → g < w.heap.size) :
    Calls Try.prog 53 #[v, .pointer (some ⟨b, 0, none⟩)] w fun e w' => e = .returned (.bool (decide (CPu.ck L (tn : Int) 64 = 0))) ∧ Below w.heap.size w w' := by
  have cK := CCk.check_c (cx_of h hS) (Nat.le_refl _) (tn : Int) 64
  obtain ⟨a, cap, rfl, -⟩ := h
  generalize CPu.ck L (tn : Int) 64 = z at *
  generalize L.length = n at *
  clear hS
  go_enter Try.func53, Try.ntmps53
  go_wp2_with fail
  refine cK.mono ?_
  rintro e W1 ⟨rfl, b1⟩
  have HB : Hid (Below w.heap.size w W1) := b1
  clear cK b1 hx
  go_wp2_with fail
  go_ret
  exact ⟨rfl, HB.out⟩
theorem clo_c {S : Nat → Prop} {w : World} {Bx b : Nat} (hx : w.cell? ⟨Bx, 0, none⟩ = some (fC b)) {ta : Option Addr} {tn tc : Nat} (hb : w.cell? ⟨b, 0, none⟩ = some (.slice ta tn tc)) {v : Value} {L : List Ins} (h : RrS 2 LyN S w v L) (hS : ∀ g, S g → g < w.heap.size) :
    Calls Try.prog 96 #[v, .pointer (some ⟨Bx, 0, none⟩)] w fun e w' => e = .returned (.bool (!decide (CPu.ck L (tn : Int) 64 = 0))) ∧ Below w.heap.size w w' := by
  have cT := may_c hb h hS
  obtain ⟨a, cap, rfl, -⟩ := h
  unfold fC at hx
  generalize decide (CPu.ck L (tn : Int) 64 = 0) = z at *
  generalize L.length = n at *
  clear hS hb
  go_enter Try.func96, Try.ntmps96
  go_wp2_with fail
  refine cT.mono ?_
  rintro e W1 ⟨rfl, b1⟩
  have HB : Hid (Below w.heap.size w W1) := b1
  clear cT b1 hx
  go_wp2_with fail
  go_ret
  exact ⟨rfl, HB.out⟩
theorem one_row {w : World} {B m : Nat} {x0 x1 x2 x3 : Value} {t : TypeId} {c : T} (h : w.heap[B]? = some (.cells #[x0, x1, x2, x3] t (0, 0))) (hin : TBase.In false TBase.All w m (.agg #[x0, x1, x2, x3]) c) : InL false TBase.All w m (.slice (some ⟨B, 0, none⟩) 1 1) [c] := by
  refine ⟨some ⟨B, 0, none⟩, 1, rfl, by simp, by omega, by simp, (by intro e; cases e), .inr ⟨B, 0, rfl, trivial, fun j hj => ?_, (by intro e; cases e)⟩⟩
  have hj0 : j = 0 := by simp at hj; omega
  subst hj0
  obtain ⟨c0, c1, c2, c3⟩ := TBase.four_box h
  exact ⟨_, ⟨x0, x1, x2, x3, rfl, c0, c1, c2, c3⟩, hin⟩
theorem elm_no {t : T} (h : t.g.toList.isEmpty = true) : elm t = false := by
  unfold elm
  have : TPure.eqB t.g ByteArray.empty = true := TPure.eqB_eq.2 (by
    rw [ByteArray.toList_eq] at h
    apply ByteArray.ext
    apply Array.toList_inj.1
    simpa using h)
  rw [this]
  rfl
theorem elm_go {t : T} (h : t.g.toList.isEmpty = false) : elm t = decide (TMeas.ck [t] = 0) := by
  unfold elm
  have : TPure.eqB t.g ByteArray.empty = false := by
    cases e : TPure.eqB t.g ByteArray.empty with
    | false => rfl
    | true =>
      rw [TPure.eqB_eq.1 e, ByteArray.toList_eq] at h
      simp at h
  rw [this]
  rfl
set_option maxRecDepth 20000 in
set_option maxHeartbeats 1600000 in
theorem elem_c {S : Nat → Prop} {w : World} {m : Nat} {v : Value} {t : T} (h : TBase.In false S w m v t) :
    Calls Try.prog 59 #[v] w fun e w' => e = .returned (.bool (elm t)) ∧ Below w.heap.size w w' := by
  obtain ⟨v0, v1, v2, v3, rfl, -⟩ := h.four
  have HI := h.plain
  obtain ⟨m', a1, e1, a2, e2, -, rfl, rfl, rfl, rfl, -⟩ := h.kinds
  obtain ⟨W, hW⟩ : ∃ W, w.alloc (.cells #[.string t.g, .string t.s, .slice a1 t.n.length e1, .slice a2 t.l.length e2] 53) = W := ⟨_, rfl⟩
  have b0 : Below w.heap.size w W := by rw [← hW]; exact (Below.refl _ w).alloc (Nat.le_refl _) _
  have hs : W.heap.size = w.heap.size + 1 := by rw [← hW]; simp
  have hx : W.heap[w.heap.size]? = some (.cells #[.string t.g, .string t.s, .slice a1 t.n.length e1, .slice a2 t.l.length e2] 53 (0, 0)) := by rw [← hW]; exact heap_alloc_new w _
  obtain ⟨W1, hW1⟩ : ∃ W1, W.alloc (.cells #[.string t.g, .string t.s, .slice a1 t.n.length e1, .slice a2 t.l.length e2] 53) = W1 := ⟨_, rfl⟩
  have b1 : Below W.heap.size W W1 := by rw [← hW1]; exact (Below.refl _ W).alloc (Nat.le_refl _) _
  have hx1 : W1.heap[W.heap.size]? = some (.cells #[.string t.g, .string t.s, .slice a1 t.n.length e1, .slice a2 t.l.length e2] 53 (0, 0)) := by rw [← hW1]; exact heap_alloc_new W _
  have hrow := one_row hx1 ((HI.below b0).below b1)
  have cC := TMeas.check_c m _ [t] W1 hrow
  have HB1 : Hid (Below w.heap.size w W1) := b0.trans (b1.mono b0.size)
  have HB0 : Hid (Below w.heap.size w W) := b0
  obtain ⟨c0, c1, c2, c3⟩ := TBase.four_box hx
  have e1' := @elm_no t
  have e2' := @elm_go t
  generalize elm t = z at *
  generalize TMeas.ck [t] = y at *
  clear hx hx1 hrow HI h b1 b0 hs
  generalize t.g = tg at *
  generalize t.s = ts at *
  generalize t.n.length = nn at *
  generalize t.l.length = nl at *
  cases hg : tg.toList.isEmpty with
  | true =>
    have hz := e1' hg
    subst hz
    clear e1' e2' cC
    go_enter Try.func59, Try.ntmps59
    go_wp2_with fail
    go_ret
    exact ⟨rfl, HB0.out⟩
  | false =>
    have hz := e2' hg
    have HZ : Hid (z = decide (y = 0)) := hz
    clear e1' e2' hz
    go_enter Try.func59, Try.ntmps59
    go_wp2_with fail
    refine cC.mono ?_
    rintro e W2 ⟨rfl, b2⟩
    have HB2 : Hid (Below w.heap.size w W2) := HB1.out.trans (b2.mono HB1.out.size)
    clear cC b2
    go_wp2_with fail
    go_ret
    rw [HZ.out]
    refine ⟨?_, HB2.out⟩
    congr 2
    simp [BEq.beq]
theorem clo_t {S : Nat → Prop} {w : World} {Bx m : Nat} (hx : w.cell? ⟨Bx, 0, none⟩ = some fT) (hB : Bx < w.heap.size) {v : Value} {t : T} (h : TBase.In false S w m v t) :
    Calls Try.prog 98 #[v, .pointer (some ⟨Bx, 0, none⟩)] w fun e w' => e = .returned (.bool (!elm t)) ∧ Below w.heap.size w w' := by
  obtain ⟨v0, v1, v2, v3, rfl, -⟩ := h.four
  have HI := h.plain
  obtain ⟨m', a1, e1, a2, e2, -, rfl, rfl, rfl, rfl, -⟩ := h.kinds
  obtain ⟨W, hW⟩ : ∃ W, w.alloc (.cells #[.string t.g, .string t.s, .slice a1 t.n.length e1, .slice a2 t.l.length e2] 53) = W := ⟨_, rfl⟩
  have b0 : Below w.heap.size w W := by rw [← hW]; exact (Below.refl _ w).alloc (Nat.le_refl _) _
  have hx0 : W.heap[w.heap.size]? = some (.cells #[.string t.g, .string t.s, .slice a1 t.n.length e1, .slice a2 t.l.length e2] 53 (0, 0)) := by rw [← hW]; exact heap_alloc_new w _
  have cT := elem_c (HI.below b0)
  have HB0 : Hid (Below w.heap.size w W) := b0
  obtain ⟨c0, c1, c2, c3⟩ := TBase.four_box hx0
  have cx := below_cell hB hx b0
  unfold fT at cx
  generalize elm t = z at *
  clear hx hx0 HI h b0
  generalize t.n.length = nn at *
  generalize t.l.length = nl at *
  go_enter Try.func98, Try.ntmps98
  go_wp2_with fail
  refine cT.mono ?_
  rintro e W1 ⟨rfl, b1⟩
  have HB : Hid (Below w.heap.size w W1) := HB0.out.trans (b1.mono HB0.out.size)
  clear cT b1
  go_wp2_with fail
  go_ret
  exact ⟨rfl, HB.out⟩
theorem take_min {α : Type} (l : List α) (n : Nat) : l.take (min l.length n) = l.take n := by
  rcases Nat.le_total l.length n with h | h
  · rw [Nat.min_eq_left h, List.take_of_length_le h, List.take_of_length_le (Nat.le_refl _)]
  · rw [Nat.min_eq_right h]
theorem RrS.take {α : Type} {n : Nat} {Ly : World → Nat → Nat → α → Prop} {S : Nat → Prop} {w : World} {a : Option Addr} {cap : Nat} {l : List α} (h : RrS n Ly S w (.slice a l.length cap) l) (j : Nat) (hj : j ≤ l.length) : RrS n Ly S w (.slice a j cap) (l.take j) := by
  obtain ⟨a', cap', e, h2, h3, h4, h5, h6⟩ := h
  cases e
  have hl : (l.take j).length = j := by rw [List.length_take]; omega
  refine ⟨a, cap, by rw [hl], by omega, h3, by omega, h5, ?_⟩
  rcases h6 with h6 | ⟨g, o, ha, hg, hc⟩
  · exact .inl (by rw [h6]; simp)
  · refine .inr ⟨g, o, ha, hg, fun i hi => ?_⟩
    have := hc i (by omega)
    rw [List.getElem_take]
    exact this
set_option maxRecDepth 20000 in
set_option maxHeartbeats 1600000 in
theorem first_s {R : Nat → Prop} {w : World} {v : Value} {l : List (ByteArray)} (hin : RrS 1 LyS R w v l) (hR : ∀ g, R g → g < w.heap.size) :
    Calls Try.prog 55 #[v, .int .i64 16384, fS] w fun e w' => e = .returned (.int .i64 (fwr 16384 STx.tg l)) ∧ Below w.heap.size w w' := by
  obtain ⟨W, hW⟩ : ∃ W, w.alloc (.cells #[fS] 110) = W := ⟨_, rfl⟩
  have b0 : Below w.heap.size w W := by rw [← hW]; exact (Below.refl _ w).alloc (Nat.le_refl _) _
  have hs : W.heap.size = w.heap.size + 1 := by rw [← hW]; simp
  have hx : W.heap[w.heap.size]? = some (.cells #[fS] 110 (0, 0)) := by rw [← hW]; exact heap_alloc_new w _
  have hin' : RrS 1 LyS R W v l := hin.keep (fun _ h => h) fun g o x _ hg h => kS (fun b hb hl => b0.block b (hR b hb)) hg h
  obtain ⟨a, cap, rfl, hlc, hcm, h47, hnil, -⟩ := hin
  have HB0 : Hid (Below w.heap.size w W) := b0
  have hR' : ∀ g, R g → g < W.heap.size := fun g hg => by have := hR g hg; omega
  have hcl : ∀ W' u x, x ∈ l.take 16384 → Below W.heap.size W W' → Vs W' u x → Calls Try.prog 94 #[u, .pointer (some ⟨w.heap.size, 0, none⟩)] W' fun e w' => e = .returned (.bool (!(STx.tg) x)) ∧ Below W'.heap.size W' w' := fun W' u x _ hb2 hv => by obtain ⟨rfl, hx4⟩ := hv; exact clo_s (below_cell (by omega) (cell_of hx 0 _ rfl) hb2) hx4
  have cI := index_s (RrS.take hin' (min l.length 16384) (Nat.min_le_left _ _)) hR' (STx.tg) w.heap.size (by rw [take_min]; exact hcl)
  rw [take_min] at cI
  have hz := ixf_ge (STx.tg) (l.take 16384) 0
  unfold fwr
  generalize ixf (STx.tg) 0 (l.take 16384) = z at *
  clear hcl hin' hx hR hR' b0
  generalize l.length = n at *
  unfold fS at *
  have i0 : (0 : Int) ≤ (n : Int) := by omega
  by_cases hl : n ≤ 16384
  · rw [if_neg (by omega)]
    rw [Nat.min_eq_left hl] at cI
    have hmn : (if ((16384 : Int) < (n : Int)) then (16384 : Int) else (n : Int)) = (n : Int) := by rw [if_neg (by omega)]
    have hmm : min (n : Int) 16384 = (n : Int) := by omega
    have dl : decide ((16384 : Int) < (n : Int)) = false := by simp; omega
    have i1 : (n : Int) ≤ (cap : Int) := by omega
    cases dz : decide (z < 0)
    all_goals (
      clear hz
      go_enter Try.func55, Try.ntmps55
      go_wp2_with fail
      refine cI.mono ?_
      rintro e W1 ⟨rfl, b1⟩
      have HB : Hid (Below w.heap.size w W1) := HB0.out.trans (b1.mono HB0.out.size)
      clear cI b1
      go_wp2_with fail
      go_ret
      exact ⟨rfl, HB.out⟩)
  · rw [Nat.min_eq_right (by omega)] at cI
    have hmn : (if ((16384 : Int) < (n : Int)) then (16384 : Int) else (n : Int)) = 16384 := by rw [if_pos (by omega)]
    have hmm : min (n : Int) 16384 = 16384 := by omega
    have dl : decide ((16384 : Int) < (n : Int)) = true := by simp; omega
    have dl2 : decide (16384 < n) = true := by simp; omega
    have i1 : (16384 : Int) ≤ (cap : Int) := by omega
    have i2 : (0 : Int) ≤ (16384 : Int) := by omega
    cases dz : decide (z < 0) with
    | false =>
      have hzz : ¬ z < 0 := by simpa using dz
      rw [if_neg (fun h => hzz h.1)]
      clear hz hzz
      go_enter Try.func55, Try.ntmps55
      go_wp2_with fail
      refine cI.mono ?_
      rintro e W1 ⟨rfl, b1⟩
      have HB : Hid (Below w.heap.size w W1) := HB0.out.trans (b1.mono HB0.out.size)
      clear cI b1
      go_wp2_with fail
      go_ret
      exact ⟨rfl, HB.out⟩
    | true =>
      have hzz : z < 0 := by simpa using dz
      rw [if_pos ⟨hzz, by omega⟩]
      clear hz hzz
      go_enter Try.func55, Try.ntmps55
      go_wp2_with fail
      refine cI.mono ?_
      rintro e W1 ⟨rfl, b1⟩
      have HB : Hid (Below w.heap.size w W1) := HB0.out.trans (b1.mono HB0.out.size)
      clear cI b1
      go_wp2_with fail
      go_ret
      exact ⟨rfl, HB.out⟩
set_option maxRecDepth 20000 in
set_option maxHeartbeats 1600000 in
theorem first_c {R : Nat → Prop} {w : World} {v : Value} {l : List (List Ins)} {Pb : Nat} {ta : Option Addr} {tn tc : Nat} (hin : RrS 1 (LyCs R) R w v l) (hR : ∀ g, R g → g < w.heap.size) (hb : w.cell? ⟨Pb, 0, none⟩ = some (.slice ta tn tc)) (hPb : Pb < w.heap.size) :
    Calls Try.prog 57 #[v, .int .i64 8192, (fC Pb)] w fun e w' => e = .returned (.int .i64 (fwr 8192 (fun L => decide (CPu.ck L (tn : Int) 64 = 0)) l)) ∧ Below w.heap.size w w' := by
  obtain ⟨W, hW⟩ : ∃ W, w.alloc (.cells #[(fC Pb)] 108) = W := ⟨_, rfl⟩
  have b0 : Below w.heap.size w W := by rw [← hW]; exact (Below.refl _ w).alloc (Nat.le_refl _) _
  have hs : W.heap.size = w.heap.size + 1 := by rw [← hW]; simp
  have hx : W.heap[w.heap.size]? = some (.cells #[(fC Pb)] 108 (0, 0)) := by rw [← hW]; exact heap_alloc_new w _
  have hin' : RrS 1 (LyCs R) R W v l := hin.keep (fun _ h => h) fun g o x _ hg h => kC (fun b hb hl => b0.block b (hR b hb)) (fun _ h => h) hg h
  obtain ⟨a, cap, rfl, hlc, hcm, h47, hnil, -⟩ := hin
  have HB0 : Hid (Below w.heap.size w W) := b0
  have hR' : ∀ g, R g → g < W.heap.size := fun g hg => by have := hR g hg; omega
  have hcl : ∀ W' u x, x ∈ l.take 8192 → Below W.heap.size W W' → Vc R W' u x → Calls Try.prog 96 #[u, .pointer (some ⟨w.heap.size, 0, none⟩)] W' fun e w' => e = .returned (.bool (!((fun L => decide (CPu.ck L (tn : Int) 64 = 0))) x)) ∧ Below W'.heap.size W' w' := fun W' u x _ hb2 hv => clo_c (below_cell (by omega) (cell_of hx 0 _ rfl) hb2) (below_cell (w := W) (by omega) (below_cell hPb hb b0) hb2) hv (fun g hg => by have := hR g hg; have := hb2.size; omega)
  have cI := index_c (RrS.take hin' (min l.length 8192) (Nat.min_le_left _ _)) hR' ((fun L => decide (CPu.ck L (tn : Int) 64 = 0))) w.heap.size (by rw [take_min]; exact hcl)
  rw [take_min] at cI
  have hz := ixf_ge ((fun L => decide (CPu.ck L (tn : Int) 64 = 0))) (l.take 8192) 0
  unfold fwr
  generalize ixf ((fun L => decide (CPu.ck L (tn : Int) 64 = 0))) 0 (l.take 8192) = z at *
  clear hcl hin' hx hR hR' b0 hb
  generalize l.length = n at *
  unfold fC at *
  have i0 : (0 : Int) ≤ (n : Int) := by omega
  by_cases hl : n ≤ 8192
  · rw [if_neg (by omega)]
    rw [Nat.min_eq_left hl] at cI
    have hmn : (if ((8192 : Int) < (n : Int)) then (8192 : Int) else (n : Int)) = (n : Int) := by rw [if_neg (by omega)]
    have hmm : min (n : Int) 8192 = (n : Int) := by omega
    have dl : decide ((8192 : Int) < (n : Int)) = false := by simp; omega
    have i1 : (n : Int) ≤ (cap : Int) := by omega
    cases dz : decide (z < 0)
    all_goals (
      clear hz
      go_enter Try.func57, Try.ntmps57
      go_wp2_with fail
      refine cI.mono ?_
      rintro e W1 ⟨rfl, b1⟩
      have HB : Hid (Below w.heap.size w W1) := HB0.out.trans (b1.mono HB0.out.size)
      clear cI b1
      go_wp2_with fail
      go_ret
      exact ⟨rfl, HB.out⟩)
  · rw [Nat.min_eq_right (by omega)] at cI
    have hmn : (if ((8192 : Int) < (n : Int)) then (8192 : Int) else (n : Int)) = 8192 := by rw [if_pos (by omega)]
    have hmm : min (n : Int) 8192 = 8192 := by omega
    have dl : decide ((8192 : Int) < (n : Int)) = true := by simp; omega
    have dl2 : decide (8192 < n) = true := by simp; omega
    have i1 : (8192 : Int) ≤ (cap : Int) := by omega
    have i2 : (0 : Int) ≤ (8192 : Int) := by omega
    cases dz : decide (z < 0) with
    | false =>
      have hzz : ¬ z < 0 := by simpa using dz
      rw [if_neg (fun h => hzz h.1)]
      clear hz hzz
      go_enter Try.func57, Try.ntmps57
      go_wp2_with fail
      refine cI.mono ?_
      rintro e W1 ⟨rfl, b1⟩
      have HB : Hid (Below w.heap.size w W1) := HB0.out.trans (b1.mono HB0.out.size)
      clear cI b1
      go_wp2_with fail
      go_ret
      exact ⟨rfl, HB.out⟩
    | true =>
      have hzz : z < 0 := by simpa using dz
      rw [if_pos ⟨hzz, by omega⟩]
      clear hz hzz
      go_enter Try.func57, Try.ntmps57
      go_wp2_with fail
      refine cI.mono ?_
      rintro e W1 ⟨rfl, b1⟩
      have HB : Hid (Below w.heap.size w W1) := HB0.out.trans (b1.mono HB0.out.size)
      clear cI b1
      go_wp2_with fail
      go_ret
      exact ⟨rfl, HB.out⟩
set_option maxRecDepth 20000 in
set_option maxHeartbeats 1600000 in
theorem first_t {R : Nat → Prop} {w : World} {v : Value} {l : List (T)} {m : Nat} (hin : RrS 4 (LyTs m R) R w v l) (hR : ∀ g, R g → g < w.heap.size) :
    Calls Try.prog 58 #[v, .int .i64 4096, fT] w fun e w' => e = .returned (.int .i64 (fwr 4096 elm l)) ∧ Below w.heap.size w w' := by
  obtain ⟨W, hW⟩ : ∃ W, w.alloc (.cells #[fT] 113) = W := ⟨_, rfl⟩
  have b0 : Below w.heap.size w W := by rw [← hW]; exact (Below.refl _ w).alloc (Nat.le_refl _) _
  have hs : W.heap.size = w.heap.size + 1 := by rw [← hW]; simp
  have hx : W.heap[w.heap.size]? = some (.cells #[fT] 113 (0, 0)) := by rw [← hW]; exact heap_alloc_new w _
  have hin' : RrS 4 (LyTs m R) R W v l := hin.keep (fun _ h => h) fun g o x _ hg h => kT (fun b hb hl => b0.block b (hR b hb)) (fun _ h => h) hg h
  obtain ⟨a, cap, rfl, hlc, hcm, h47, hnil, -⟩ := hin
  have HB0 : Hid (Below w.heap.size w W) := b0
  have hR' : ∀ g, R g → g < W.heap.size := fun g hg => by have := hR g hg; omega
  have hcl : ∀ W' u x, x ∈ l.take 4096 → Below W.heap.size W W' → Vt m R W' u x → Calls Try.prog 98 #[u, .pointer (some ⟨w.heap.size, 0, none⟩)] W' fun e w' => e = .returned (.bool (!(elm) x)) ∧ Below W'.heap.size W' w' := fun W' u x _ hb2 hv => clo_t (below_cell (by omega) (cell_of hx 0 _ rfl) hb2) (by have := hb2.size; omega) hv
  have cI := index_t (RrS.take hin' (min l.length 4096) (Nat.min_le_left _ _)) hR' (elm) w.heap.size (by rw [take_min]; exact hcl)
  rw [take_min] at cI
  have hz := ixf_ge (elm) (l.take 4096) 0
  unfold fwr
  generalize ixf (elm) 0 (l.take 4096) = z at *
  clear hcl hin' hx hR hR' b0
  generalize l.length = n at *
  unfold fT at *
  have i0 : (0 : Int) ≤ (n : Int) := by omega
  by_cases hl : n ≤ 4096
  · rw [if_neg (by omega)]
    rw [Nat.min_eq_left hl] at cI
    have hmn : (if ((4096 : Int) < (n : Int)) then (4096 : Int) else (n : Int)) = (n : Int) := by rw [if_neg (by omega)]
    have hmm : min (n : Int) 4096 = (n : Int) := by omega
    have dl : decide ((4096 : Int) < (n : Int)) = false := by simp; omega
    have i1 : (n : Int) ≤ (cap : Int) := by omega
    cases dz : decide (z < 0)
    all_goals (
      clear hz
      go_enter Try.func58, Try.ntmps58
      go_wp2_with fail
      refine cI.mono ?_
      rintro e W1 ⟨rfl, b1⟩
      have HB : Hid (Below w.heap.size w W1) := HB0.out.trans (b1.mono HB0.out.size)
      clear cI b1
      go_wp2_with fail
      go_ret
      exact ⟨rfl, HB.out⟩)
  · rw [Nat.min_eq_right (by omega)] at cI
    have hmn : (if ((4096 : Int) < (n : Int)) then (4096 : Int) else (n : Int)) = 4096 := by rw [if_pos (by omega)]
    have hmm : min (n : Int) 4096 = 4096 := by omega
    have dl : decide ((4096 : Int) < (n : Int)) = true := by simp; omega
    have dl2 : decide (4096 < n) = true := by simp; omega
    have i1 : (4096 : Int) ≤ (cap : Int) := by omega
    have i2 : (0 : Int) ≤ (4096 : Int) := by omega
    cases dz : decide (z < 0) with
    | false =>
      have hzz : ¬ z < 0 := by simpa using dz
      rw [if_neg (fun h => hzz h.1)]
      clear hz hzz
      go_enter Try.func58, Try.ntmps58
      go_wp2_with fail
      refine cI.mono ?_
      rintro e W1 ⟨rfl, b1⟩
      have HB : Hid (Below w.heap.size w W1) := HB0.out.trans (b1.mono HB0.out.size)
      clear cI b1
      go_wp2_with fail
      go_ret
      exact ⟨rfl, HB.out⟩
    | true =>
      have hzz : z < 0 := by simpa using dz
      rw [if_pos ⟨hzz, by omega⟩]
      clear hz hzz
      go_enter Try.func58, Try.ntmps58
      go_wp2_with fail
      refine cI.mono ?_
      rintro e W1 ⟨rfl, b1⟩
      have HB : Hid (Below w.heap.size w W1) := HB0.out.trans (b1.mono HB0.out.size)
      clear cI b1
      go_wp2_with fail
      go_ret
      exact ⟨rfl, HB.out⟩
end Go.Proofs.Ytgknjjaemjkloaa.BFx

namespace Go.Proofs.Ytgknjjaemjkloaa.BSf
open Go.RowKit Go.Proofs.Ytgknjjaemjkloaa.BPl Go.Proofs.Ytgknjjaemjkloaa.YRr Go.Proofs.Ytgknjjaemjkloaa.YRs Go.Proofs.Ytgknjjaemjkloaa.BBx Go.Proofs.Ytgknjjaemjkloaa.BIx Go.Proofs.Ytgknjjaemjkloaa.BFw Go.Proofs.Ytgknjjaemjkloaa.BFx
open Go.Proofs.Ytgknjjaemjkloaa.YPl (Oq Bk Pg)
open Go.Proofs.Ytgknjjaemjkloaa.YEn (InPg)
open Go.Proofs.Ytgknjjaemjkloaa.TBase (T Keep InL LAt heap_alloc_new)
open Go.Proofs.Ytgknjjaemjkloaa.CPu (Ins)
open Go.Proofs.Ytgknjjaemjkloaa.CBx (w64)
set_option linter.unusedVariables false

theorem hid {p : Prop} (h : p) : Hid p := h
abbrev Lo (K : Nat) : Nat → Prop := fun b => b < K
theorem inl_rrs {K m : Nat} {w : World} {v : Value} {l : List T} (h : InL false (TVisit.Lo K) w m v l) : RrS 4 (LyTs m (Lo K)) (Lo K) w v l := by
  obtain ⟨a, cap, h1, h2, h3, h4, h5, h6⟩ := h
  refine ⟨a, cap, h1, h2, h3, by omega, h5, ?_⟩
  rcases h6 with ⟨h6, -⟩ | ⟨g, o, ha, hg, hc, -⟩
  · exact .inl h6
  · exact .inr ⟨g, o, ha, hg, hc⟩
set_option maxRecDepth 20000 in
set_option maxHeartbeats 1600000 in
theorem shared_c {K m : Nat} {w : World} {v : Value} {x : Pg} (h : InPg K m w v x) (hK : K ≤ w.heap.size) :
    Calls Try.prog 29 #[v] w fun e w' => e = .returned (.tuple #[.int .i64 (shf x).1, .int .i64 (shf x).2]) ∧ Below w.heap.size w w' := by
  obtain ⟨a, n1, c1, b, n2, c2, c, n3, c3, d, n4, c4, rfl, h1, h2, h3, h4⟩ := h
  have e1 : n1 = x.t.length := by obtain ⟨_, _, e, _⟩ := h1; cases e; rfl
  obtain ⟨W, hW⟩ : ∃ W, w.alloc (.cells #[.slice a n1 c1, .slice b n2 c2, .slice c n3 c3, .slice d n4 c4] 27) = W := ⟨_, rfl⟩
  have b0 : Below w.heap.size w W := by rw [← hW]; exact (Below.refl _ w).alloc (Nat.le_refl _) _
  have hs0 : W.heap.size = w.heap.size + 1 := by rw [← hW]; simp
  have hx : W.heap[w.heap.size]? = some (.cells #[.slice a n1 c1, .slice b n2 c2, .slice c n3 c3, .slice d n4 c4] 27 (0, 0)) := by rw [← hW]; exact heap_alloc_new w _
  have HS : Hid (∀ W', Below w.heap.size w W' → RrS 1 LyS (Lo K) W' (.slice a n1 c1) x.t) := fun W' hb => RrS.keep (S := Lo K) h1 (fun _ h => h) fun g o x _ hg h => kS (S := Lo K) (fun b hb' _ => hb.block b (by have : b < K := hb'; omega)) hg h
  have HC : Hid (∀ W', Below w.heap.size w W' → RrS 1 (LyCs (Lo K)) (Lo K) W' (.slice b n2 c2) x.c) := fun W' hb => RrS.keep (S := Lo K) (Ly := LyCs (Lo K)) h2 (fun _ h => h) fun g o x _ hg h => kC (S := Lo K) (fun b hb' _ => hb.block b (by have : b < K := hb'; omega)) (fun _ h => h) hg h
  have HT : Hid (∀ W', Below w.heap.size w W' → RrS 4 (LyTs m (Lo K)) (Lo K) W' (.slice c n3 c3) x.s) := fun W' hb => RrS.keep (inl_rrs h3) (fun _ h => h) fun g o x _ hg h => kT (S := Lo K) (fun b hb' _ => hb.block b (by have : b < K := hb'; omega)) (fun _ h => h) hg h
  have cS := first_s (HS.out W b0) (fun g hg => by have : g < K := hg; omega)
  obtain ⟨Z, hZ⟩ : ∃ Z, shf x = Z := ⟨_, rfl⟩
  rw [hZ]
  have HZ := hid hZ
  have HB0 := hid b0
  have HX := hid hx
  have E1 := hid e1
  have hs : w.heap.size < W.heap.size := by omega
  clear hs0
  obtain ⟨p0, p1, p2, p3⟩ := TBase.four_box hx
  clear e1 h1 h2 h3 h4 hx b0 hZ
  unfold shf at HZ
  unfold fS at cS
  generalize fwr 16384 STx.tg x.t = z1 at *
  go_enter Try.func29, Try.ntmps29
  go_wp2_with fail
  refine cS.mono ?_
  rintro e W1 ⟨rfl, b1⟩
  have HB1 := hid (HB0.out.trans (b1.mono HB0.out.size) : Below w.heap.size w W1)
  have hx1 := (b1.block w.heap.size (by omega)).trans HX.out
  have hs1 : w.heap.size < W1.heap.size := by have := b1.size; omega
  have HX1 := hid hx1
  clear cS b1 p0 p1 p2 p3 hW
  obtain ⟨p0, p1, p2, p3⟩ := TBase.four_box hx1
  clear hx1
  by_cases d1 : 0 ≤ z1
  · have hZ := HZ.out
    rw [if_pos d1] at hZ
    subst hZ
    have dd : decide (0 ≤ z1) = true := by simp [d1]
    go_wp2_with fail
    go_ret2
    exact ⟨rfl, HB1.out⟩
  have HZ1 := hid (by have := HZ.out; rw [if_neg d1] at this; exact this)
  have dd : decide (0 ≤ z1) = false := by simp [d1]
  have cC := first_c (HC.out W1 HB1.out) (fun g hg => by have : g < K := hg; omega) p0 hs1
  rw [E1.out] at cC
  generalize fwr 8192 (fun L => decide (CPu.ck L (x.t.length : Int) 64 = 0)) x.c = z2 at *
  clear d1 HZ
  unfold fC at cC
  go_wp2_with fail
  refine cC.mono ?_
  rintro e W2 ⟨rfl, b2⟩
  have HB2 := hid (HB1.out.trans (b2.mono HB1.out.size) : Below w.heap.size w W2)
  have hx2 := (b2.block w.heap.size (by omega)).trans HX1.out
  have hs2 : w.heap.size < W2.heap.size := by have := b2.size; omega
  clear cC b2 p0 p1 p2 p3
  obtain ⟨p0, p1, p2, p3⟩ := TBase.four_box hx2
  clear hx2
  by_cases d2 : 0 ≤ z2
  · have hZ := HZ1.out
    rw [if_pos d2] at hZ
    subst hZ
    have dd2 : decide (0 ≤ z2) = true := by simp [d2]
    go_wp2_with fail
    go_ret2
    exact ⟨rfl, HB2.out⟩
  have HZ2 := hid (by have := HZ1.out; rw [if_neg d2] at this; exact this)
  have dd2 : decide (0 ≤ z2) = false := by simp [d2]
  have cT := first_t (HT.out W2 HB2.out) (fun g hg => by have : g < K := hg; omega)
  generalize fwr 4096 elm x.s = z3 at *
  clear d2 HZ1
  unfold fT at cT
  go_wp2_with fail
  refine cT.mono ?_
  rintro e W3 ⟨rfl, b3⟩
  have HB3 := hid (HB2.out.trans (b3.mono HB2.out.size) : Below w.heap.size w W3)
  clear cT b3 p0 p1 p2 p3
  by_cases d3 : 0 ≤ z3
  · have hZ := HZ2.out
    rw [if_pos d3] at hZ
    subst hZ
    have dd3 : decide (0 ≤ z3) = true := by simp [d3]
    go_wp2_with fail
    go_ret2
    exact ⟨rfl, HB3.out⟩
  · have hZ := HZ2.out
    rw [if_neg d3] at hZ
    subst hZ
    have dd3 : decide (0 ≤ z3) = false := by simp [d3]
    go_wp2_with fail
    go_ret2
    exact ⟨rfl, HB3.out⟩
/-- How many values a code needs, from place q on. -/
def nst (m : Int) (x : Ins) : Int := if x.1 = 6 then max m (x.2 + 1) else m
theorem need_eq (L : List Ins) : need L = (L.drop 0).foldl nst 0 := rfl
theorem need_next {L : List Ins} {q : Nat} (h : q < L.length) (m : Int) : (L.drop q).foldl nst m = (L.drop (q + 1)).foldl nst (nst m L[q]) := by
  rw [List.drop_eq_getElem_cons h, List.foldl_cons]
set_option maxRecDepth 20000 in
set_option maxHeartbeats 1600000 in
theorem need_c {S : Nat → Prop} {w : World} {v : Value} {L : List Ins} (hin : RrS 2 LyN S w v L) (hS : ∀ g, S g → g < w.heap.size) (hb : ∀ x ∈ L, x.1 = 6 → 0 ≤ x.2 ∧ x.2 ≤ 64) :
    Calls Try.prog 60 #[v] w fun e w' => e = .returned (.int .i64 (need L)) ∧ Below w.heap.size w w' := by
  have HIN := hid hin
  have HS := hid hS
  have HBD := hid hb
  obtain ⟨a, cap, rfl, hlc, hcm, h47, hnil, -⟩ := hin
  obtain ⟨Z, hZ⟩ : ∃ Z, need L = Z := ⟨_, rfl⟩
  have HZ : Hid ((L.drop 0).foldl nst 0 = Z) := hZ
  rw [hZ]
  clear hZ hb hS hnil
  go_enter Try.func60, Try.ntmps60
  go_wp2_with fail
  go_loopw [8, 3] (fun i mm wr => ∃ (q : Nat) (M : Int), q ≤ L.length ∧ i = .int .i64 q ∧ mm = .int .i64 M ∧ (L.drop q).foldl nst M = Z ∧ 0 ≤ M ∧ M ≤ 65 ∧ Below w.heap.size w wr) (fun i _ _ => L.length - (intOf i).toNat)
  case atStart => exact ⟨0, 0, by omega, rfl, rfl, HZ.out, by omega, by omega, Below.refl _ _⟩
  case round =>
    clear HZ
    obtain ⟨q, M, hq, rfl, rfl, hM, hM0, hM1, hb⟩ := hrel
    have Hb := hid hb
    by_cases hlt : q < L.length
    · have d0 : decide ((q : Int) < (L.length : Int)) = true := by simp; omega
      have i0 : (0 : Int) ≤ (q : Int) := by omega
      have i1 : (q : Int) < (L.length : Int) := by omega
      obtain ⟨g, o, cap', hsl, hl, hm, hg, k0⟩ := RrS.at HIN.out hlt
      cases hsl
      have k1 := below_cell (HS.out g hg) k0.2.1 hb
      have k0 := below_cell (HS.out g hg) k0.1 hb
      rw [need_next hlt] at hM
      have hbd := HBD.out L[q] (List.getElem_mem hlt)
      obtain ⟨W, hW⟩ : ∃ W, wr.alloc (.cells #[.int .i64 L[q].1, .int .i64 L[q].2] 49) = W := ⟨_, rfl⟩
      have b0 : Below wr.heap.size wr W := by rw [← hW]; exact (Below.refl _ wr).alloc (Nat.le_refl _) _
      have hx : W.heap[wr.heap.size]? = some (.cells #[.int .i64 L[q].1, .int .i64 L[q].2] 49 (0, 0)) := by rw [← hW]; exact heap_alloc_new wr _
      obtain ⟨c0, c1⟩ := TBase.two_box hx
      have HB1 := hid (Hb.out.trans (b0.mono Hb.out.size) : Below w.heap.size w W)
      clear hx b0 hb
      generalize L[q] = s at *
      obtain ⟨s1, s2⟩ := s
      dsimp only at *
      by_cases h6 : s1 = 6
      · have hbd := hbd h6
        have d6 : (s1 == 6) = true := by simp [h6]
        have hw : IntKind.i64.wrap (s2 + 1) = s2 + 1 := w64 (by omega) (by omega)
        by_cases hmx : M < s2 + 1
        · have hm1 : (if M < s2 + 1 then s2 + 1 else M) = s2 + 1 := if_pos hmx
          have hm2 : max M (s2 + 1) = s2 + 1 := by omega
          have hN : nst M (s1, s2) = s2 + 1 := by unfold nst; rw [if_pos h6, hm2]
          rw [hN] at hM
          have HM := hid hM
          clear hM hN h6 hmx
          go_wp2_with fail
          go_roundw
          case rel => exact ⟨q + 1, s2 + 1, by omega, by go_num, rfl, HM.out, by omega, by omega, HB1.out⟩
          case measure => simp only [intOf]; omega
        · have hm1 : (if M < s2 + 1 then s2 + 1 else M) = M := if_neg hmx
          have hm2 : max M (s2 + 1) = M := by omega
          have hN : nst M (s1, s2) = M := by unfold nst; rw [if_pos h6, hm2]
          rw [hN] at hM
          have HM := hid hM
          clear hM hN h6 hmx
          go_wp2_with fail
          go_roundw
          case rel => exact ⟨q + 1, M, by omega, by go_num, rfl, HM.out, by omega, by omega, HB1.out⟩
          case measure => simp only [intOf]; omega
      · have d6 : (s1 == 6) = false := by simp [h6]
        have hN : nst M (s1, s2) = M := by unfold nst; rw [if_neg h6]
        rw [hN] at hM
        have HM := hid hM
        clear hM hN h6 hbd
        go_wp2_with fail
        go_roundw
        case rel => exact ⟨q + 1, M, by omega, by go_num, rfl, HM.out, by omega, by omega, HB1.out⟩
        case measure => simp only [intOf]; omega
    · have d0 : decide ((q : Int) < (L.length : Int)) = false := by simp; omega
      rw [List.drop_eq_nil_of_le (by omega)] at hM
      have hM : M = Z := hM
      subst hM
      go_wp2_with fail
      go_ret
      exact ⟨rfl, Hb.out⟩
end Go.Proofs.Ytgknjjaemjkloaa.BSf

/- The machine that runs code: any code that Check takes. -/
import Derived.Test.YtpaigpijaifeoaaGreatDoorMDo
import Derived.Test.YtpaigpijaifeoaaGreatDoorMDa
import Derived.Test.YtpaigpijaifeoaaGreatDoorMHt
namespace Go.Proofs.YtpaigpijaifeoaaGreatDoor.MSt
open Go.Proofs.YtpaigpijaifeoaaGreatDoor.Tak
open Go.RowKit Go.Proofs.YtpaigpijaifeoaaGreatDoor.Base Go.Proofs.YtpaigpijaifeoaaGreatDoor.VSm Go.Proofs.YtpaigpijaifeoaaGreatDoor.VRs Go.Proofs.YtpaigpijaifeoaaGreatDoor.MBx Go.Proofs.YtpaigpijaifeoaaGreatDoor.MSe Go.Proofs.YtpaigpijaifeoaaGreatDoor.MDo
set_option linter.unusedVariables false

set_option maxRecDepth 20000 in
set_option maxHeartbeats 3200000 in
theorem settles_err {K m : Nat} {w : World} {M : Nat} {tv sv pv : Value} {q : List C} {c : C} (h : Mc K m w M tv sv pv (q ++ [c])) (hq : q.length ≤ 65536) {o a : Int} (hk : ¬ c.k = 2) :
    Calls Tryz.prog 98 #[ptr M, .agg #[.int .i64 o, .int .i64 a]] w fun e w' => e = .panicked (pkE 1101) ∧ Km M pv w w' := by
  obtain ⟨W0, hW0, b0, s0, x0⟩ := box1 w (.int .i64 o) (.int .i64 a)
  obtain ⟨i0, i1⟩ := two_box x0
  have b0d : Below w.heap.size w W0.drew := ⟨b0.os, b0.tape, b0.output, b0.size, b0.block⟩
  have cT := top_c (h.below b0d) hq
  have HH : Hid _ := h
  have HB0 : Hid _ := b0d
  have sD : W0.drew.heap.size = w.heap.size + 1 := s0
  have HS : Hid (∀ W, Below W0.drew.heap.size W0.drew W → W.cell? ⟨w.heap.size, 0, none⟩ = some (.int .i64 o)) := fun W hW => below_cell (w := W0.drew) i0 hW
  have HK : Hid (¬ c.k = 2) := hk
  clear h b0 b0d x0 hk
  go_enter Tryz.func98, Tryz.ntmps98
  go_wp2_with fail
  try rw [hW0]
  refine wp_region_held_drew (S := fun w' => w'.cell? ⟨w.heap.size, 0, none⟩ = some (.int .i64 o)) (by kernel_rfl) (HS.out _ (Below.refl _ _)) (fun hHeld => ?_)
  refine tkH 0 rfl ?_; try simp only [ptH]
  refine tkH 3 rfl ?_; try simp only [ptH]
  refine tkH 4 rfl ?_; try simp only [ptH]
  refine tkH 5 rfl ?_; try simp only [ptH]
  refine rdH [1] ?_
  refine alH rfl fun K0 hK => ?_
  go_simp
  refine cT.mono ?_
  rintro e W1 ⟨u, rfl, hin, b1⟩
  obtain ⟨an, ln, cn, al, ll, cl, rfl⟩ := in_shape hin
  have cI := isTrue_c c.k c.b c.i c.s (.slice an ln cn) (.slice al ll cl) W1
  rw [if_neg HK.out] at cI
  have HB1 : Hid (Below w.heap.size w W1) := HB0.out.trans (b1.mono (by omega))
  have HS1 : Hid _ := HS.out W1 b1
  clear cT b1 hin
  go_wp2_with fail
  refine hK.out _ _ HS1.out (fun hHeld => ?_)
  clear hK K0
  try simp only [ptH]
  refine rdH [2] ?_
  refine alH rfl fun K0 hK => ?_
  go_simp
  refine cI.mono ?_
  rintro e W2 ⟨rfl, b2⟩
  exact ⟨rfl, rfl, Km.of_below (HB1.out.trans (b2.mono HB1.out.size)) (Nat.le_of_lt HH.out.lt)⟩
/-- What settles answers, where the top is a truth. -/
def SE (K m M : Nat) (tv sv pv : Value) (w : World) (q : List C) (c : C) (z : Bool) (e : Ending) (w' : World) : Prop := e = .returned (.bool z) ∧ ∃ pv', Mc K m w' M tv sv pv' (if z = true then q ++ [c] else q) ∧ Km M pv w w' ∧ pv'.ownBlock = pv.ownBlock
set_option maxRecDepth 20000 in
set_option maxHeartbeats 3200000 in
theorem settles_ok {K m : Nat} {w : World} {M : Nat} {tv sv pv : Value} {q : List C} {c : C} (h : Mc K m w M tv sv pv (q ++ [c])) (hq : q.length ≤ 65536) {o a : Int} (hk : c.k = 2) :
    Calls Tryz.prog 98 #[ptr M, .agg #[.int .i64 o, .int .i64 a]] w fun e w' => SE K m M tv sv pv w q c (c.b == (o == 31)) e w' := by
  obtain ⟨W0, hW0, b0, s0, x0⟩ := box1 w (.int .i64 o) (.int .i64 a)
  obtain ⟨i0, i1⟩ := two_box x0
  have b0d : Below w.heap.size w W0.drew := ⟨b0.os, b0.tape, b0.output, b0.size, b0.block⟩
  have cT := top_c (h.below b0d) hq
  have HH : Hid _ := h
  have HB0 : Hid _ := b0d
  have sD : W0.drew.heap.size = w.heap.size + 1 := s0
  have HS : Hid (∀ W, Below W0.drew.heap.size W0.drew W → W.cell? ⟨w.heap.size, 0, none⟩ = some (.int .i64 o)) := fun W hW => below_cell (w := W0.drew) i0 hW
  have HK : Hid (c.k = 2) := hk
  obtain ⟨Z, hZ⟩ : ∃ Z, (o == 31) = Z := ⟨_, rfl⟩
  rw [hZ]
  obtain ⟨B, hB⟩ : ∃ B, c.b = B := ⟨_, rfl⟩
  rw [hB]
  have HCB : Hid (c.b = B) := hB
  clear h b0 b0d x0 hk hB
  go_enter Tryz.func98, Tryz.ntmps98
  go_wp2_with fail
  try rw [hW0]
  go_region_held3 (fun w' => w'.cell? ⟨w.heap.size, 0, none⟩ = some (.int .i64 o)) (go_keep) (first
    | (go_at_call 128; refine cT.mono ?_; rintro e W1 ⟨u, rfl, hin, b1⟩; obtain ⟨an, ln, cn, al, ll, cl, rfl⟩ := in_shape hin; have cI := isTrue_c c.k c.b c.i c.s (.slice an ln cn) (.slice al ll cl) W1; rw [if_pos HK.out, HCB.out] at cI; rw [HCB.out]; have HB1 : Hid (Below w.heap.size w W1) := HB0.out.trans (b1.mono (by omega)); have n1 := HS.out W1 b1)
    | (go_at_call 99; refine cI.mono ?_; rintro e W2 ⟨rfl, b2⟩; have HB2 : Hid (Below w.heap.size w W2) := HB1.out.trans (b2.mono HB1.out.size); have n2 := HS.out W2 (b1.trans (b2.mono b1.size))))
  have cK := take_c (HH.out.below HB2.out) hq
  clear cT cI b1 b2 hin HB1 HS
  cases B <;> cases Z
  · have HE : Hid (∃ pv', Mc K m W2 M tv sv pv' (q ++ [c]) ∧ Km M pv w W2 ∧ pv'.ownBlock = pv.ownBlock) := ⟨pv, HH.out.below HB2.out, Km.of_below HB2.out (Nat.le_of_lt HH.out.lt), rfl⟩
    go_wp2_with fail
    go_ret
    exact ⟨rfl, HE.out⟩
  · go_wp2_with fail
    refine cK.mono ?_
    rintro e W3 ⟨u3, pv3, rfl, hin3, m3, k3, e3⟩
    have HE : Hid (∃ pv', Mc K m W3 M tv sv pv' q ∧ Km M pv w W3 ∧ pv'.ownBlock = pv.ownBlock) := ⟨pv3, m3, (Km.of_below HB2.out (Nat.le_of_lt HH.out.lt)).trans k3 (.inl rfl), e3⟩
    clear cK hin3 m3 k3 e3
    go_wp2_with fail
    go_ret
    exact ⟨rfl, HE.out⟩
  · go_wp2_with fail
    refine cK.mono ?_
    rintro e W3 ⟨u3, pv3, rfl, hin3, m3, k3, e3⟩
    have HE : Hid (∃ pv', Mc K m W3 M tv sv pv' q ∧ Km M pv w W3 ∧ pv'.ownBlock = pv.ownBlock) := ⟨pv3, m3, (Km.of_below HB2.out (Nat.le_of_lt HH.out.lt)).trans k3 (.inl rfl), e3⟩
    clear cK hin3 m3 k3 e3
    go_wp2_with fail
    go_ret
    exact ⟨rfl, HE.out⟩
  · have HE : Hid (∃ pv', Mc K m W2 M tv sv pv' (q ++ [c]) ∧ Km M pv w W2 ∧ pv'.ownBlock = pv.ownBlock) := ⟨pv, HH.out.below HB2.out, Km.of_below HB2.out (Nat.le_of_lt HH.out.lt), rfl⟩
    go_wp2_with fail
    go_ret
    exact ⟨rfl, HE.out⟩
end Go.Proofs.YtpaigpijaifeoaaGreatDoor.MSt

namespace Go.Proofs.YtpaigpijaifeoaaGreatDoor.MRg
open Go.RowKit Go.Proofs.YtpaigpijaifeoaaGreatDoor.Base Go.Proofs.YtpaigpijaifeoaaGreatDoor.VSm Go.Proofs.YtpaigpijaifeoaaGreatDoor.VJn Go.Proofs.YtpaigpijaifeoaaGreatDoor.VRs Go.Proofs.YtpaigpijaifeoaaGreatDoor.MBx Go.Proofs.YtpaigpijaifeoaaGreatDoor.MSe Go.Proofs.YtpaigpijaifeoaaGreatDoor.MDo Go.Proofs.YtpaigpijaifeoaaGreatDoor.MPl Go.Proofs.YtpaigpijaifeoaaGreatDoor.MSt
open Go.Proofs.YtpaigpijaifeoaaGreatDoor.VPure
open Go.Proofs.YtpaigpijaifeoaaGreatDoor.CPu (Ins nd hnm fmd ijp nd30 nd31 nd32 nd33)
open Go.Proofs.YtpaigpijaifeoaaGreatDoor.CBx (Cx cell_keep)
open Go.Proofs.YtpaigpijaifeoaaGreatDoor.MHt (St)
set_option linter.unusedVariables false

theorem dop_wf {T : List ByteArray} {S : List C} {o a : Int} {p p' : List C} (hS : ∀ c ∈ S, wf c) (hp : ∀ c ∈ p, wf c) (h : dop T S o a p = .ok p') : ∀ c ∈ p', wf c := by
  have hz : wf zerC := wf_one (by decide)
  have ext : ∀ {q : List C} {c : C}, (∀ c ∈ q, wf c) → wf c → ∀ d ∈ q ++ [c], wf d := fun hq hc d hd => by
    rcases List.mem_append.1 hd with h | h
    · exact hq d h
    · rw [List.mem_singleton.1 h]; exact hc
  unfold dop at h
  split at h
  · cases h; exact ext hp (wf_one (by decide))
  split at h
  · cases h; exact ext hp (wf_one (by decide))
  split at h
  · cases h; exact ext hp (wf_one (by decide))
  split at h
  · cases h; exact ext hp (wf_one (by decide))
  split at h
  · cases h
    refine ext hp ?_
    rw [List.getD_eq_getElem?_getD]
    cases e : S[a.toNat]? with
    | none => exact hz
    | some c => exact hS c (List.mem_of_getElem? e)
  split at h
  · split at h
    · cases h; exact hp
    · cases h
  have hl : ∀ q : List C, (∀ c ∈ q, wf c) → wf (q.getLastD zerC) := fun q hq => by
    cases e : q.getLast? with
    | none => rw [List.getLastD_eq_getLast?, e]; exact hz
    | some c => rw [List.getLastD_eq_getLast?, e]; exact hq c (List.mem_of_getLast? e)
  have hsq : ∀ c ∈ (sec T o a p).2, wf c := by
    intro c hc
    unfold sec at hc
    split at hc
    · exact hp c hc
    split at hc
    · exact hp c hc
    split at hc
    · exact hp c hc
    · exact hp c ((List.dropLast_sublist _).subset hc)
  cases e : pr2 o ((sec T o a p).2.getLastD zerC) (sec T o a p).1 with
  | error n => rw [e] at h; cases h
  | ok v =>
    rw [e] at h
    have h : (Except.ok ((sec T o a p).2.dropLast ++ [v]) : Except Nat (List C)) = .ok p' := h
    cases h
    exact ext (fun c hc => hsq c ((List.dropLast_sublist _).subset hc)) (pr2_wf (hl _ hsq) e)
/-- What run answers. -/
def RA (K m M : Nat) (pv : Value) (w : World) (R : Except Nat C) (e : Ending) (w' : World) : Prop := match R with
  | .ok r => ∃ u, e = .returned u ∧ Base.In false (fun b => b < K) w' m u r ∧ Km M pv w w'
  | .error n => e = .panicked (pkE n) ∧ Km M pv w w'
theorem fm_range {o a : Int} (h : fmd o a = true) : 1 ≤ o ∧ o ≤ 33 := by
  by_cases hr : 1 ≤ o ∧ o ≤ 33
  · exact hr
  · have b : ∀ k : Int, 1 ≤ k → k ≤ 33 → (o == k) = false := fun k h1 h2 => by simp; omega
    have b1 : (decide (1 ≤ o) && decide (o ≤ 33)) = false := by simp; omega
    simp [fmd, b, b1] at h
set_option maxRecDepth 20000 in
set_option maxHeartbeats 6400000 in
theorem run_c {K m : Nat} {w : World} {M : Nat} {tv sv pv0 cv : Value} {L : List Ins} {T : List ByteArray} {S : List C} {H : Nat → Int} (hv : Cx K w cv L) (h : Mc K (m + 1) w M tv sv pv0 []) (hn : L.length ≤ 8192) (hT : Tz K w tv T) (hS : Base.InL false (fun b => b < K) w (m + 1) sv S) (hTK : TK K w) (hSw : ∀ c ∈ S, wf c) (hOk : ∀ x ∈ L, -9223372036854775808 ≤ x.2 ∧ x.2 ≤ 9223372036854775807)
    (h0 : H 0 = 0) (h1 : H L.length = 1) (hst : ∀ j (h : j < L.length), St L.length T.length S.length H j L[j]) :
    Calls Tryz.prog 78 #[ptr M, cv] w fun e w' => RA K (m + 1) M pv0 w (mrun L T S L.length 0 []) e w' := by
  have HV : Hid (Cx K w cv L) := hv
  obtain ⟨a, cap, rfl, hl, hm, hnil, hL⟩ := hv
  clear hL hnil
  obtain ⟨R, hR⟩ : ∃ R, mrun L T S L.length 0 [] = R := ⟨_, rfl⟩
  rw [hR]
  obtain ⟨n, hnn⟩ : ∃ n, L.length = n := ⟨_, rfl⟩
  have HN : Hid (L.length = n) := hnn
  rw [hnn] at hl hn h1 hR ⊢
  obtain ⟨W0, hW0⟩ : ∃ W0, w.alloc (.cells #[.int .i64 0, .bool false, .int .i64 0, .string ⟨#[]⟩, .slice none 0 0, .slice none 0 0] 26) = W0 := ⟨_, rfl⟩
  have b0 : Below w.heap.size w W0 := by rw [← hW0]; exact (Below.refl _ w).alloc (Nat.le_refl _) _
  have s0 : W0.heap.size = w.heap.size + 1 := by rw [← hW0]; simp
  have x0 : W0.heap[w.heap.size]? = some (.cells #[.int .i64 0, .bool false, .int .i64 0, .string ⟨#[]⟩, .slice none 0 0, .slice none 0 0] 26 (0, 0)) := by rw [← hW0]; exact heap_alloc_new w _
  have hlt := h.lt
  have hlow := h.low
  have HB0 : Hid (Km M pv0 w W0) := Km.of_below b0 (by omega)
  have HM0 : Hid _ := h.below b0
  have HX0 : Hid _ := x0
  have HP0 : Hid (some w.heap.size ≠ pv0.ownBlock) := fun e => by have := h.own_ne e.symm; omega
  have HST : Hid (∀ j (h : j < L.length), St L.length T.length S.length H j L[j]) := hst
  have HR : Hid (mrun L T S n 0 [] = R) := hR
  have HTT : Hid (Tz K w tv T) := hT
  have HSS : Hid (Base.InL false (fun b => b < K) w (m + 1) sv S) := hS
  have HTK : Hid (TK K w) := hTK
  have HSW : Hid (∀ c ∈ S, wf c) := hSw
  have HOK : Hid (∀ x ∈ L, -9223372036854775808 ≤ x.2 ∧ x.2 ≤ 9223372036854775807) := hOk
  have HH0 : Hid (H 0 = 0) := h0
  have HH1 : Hid (H n = 1) := h1
  clear h b0 x0 hnn hst hR hT hS hTK hSw hOk h0 h1
  go_enter Tryz.func78, Tryz.ntmps78
  go_wp2_with fail
  try rw [hW0]
  go_step3
  go_wp2_with fail
  go_step3
  go_wp2_with fail
  try rw [hW0]
  go_loopg [5] n (fun g i wr => ∃ (q f : Nat) (p : List C) (pv : Value), q + g = n ∧ i = .int .i64 q ∧ Mc K (m + 1) wr M tv sv pv p ∧ (Km M pv0 w wr ∧ (pv.ownBlock = pv0.ownBlock ∨ ∃ g, pv.ownBlock = some g ∧ w.heap.size ≤ g)) ∧ some w.heap.size ≠ pv.ownBlock ∧ w.heap.size < wr.heap.size ∧ wr.heap[w.heap.size]? = some (.cells #[.int .i64 0, .bool false, .int .i64 0, .string ⟨#[]⟩, .slice none 0 0, .slice none 0 0] 26 (0, 0)) ∧ ((p.length : Int) = H q ∧ n ≤ q + f ∧ (∀ c ∈ p, wf c) ∧ p.length ≤ q ∧ mrun L T S f q p = R))
  case atStart => exact ⟨0, n, [], pv0, by omega, rfl, HM0.out, ⟨HB0.out, .inl rfl⟩, HP0.out, by omega, HX0.out, by rw [HH0.out]; rfl, by omega, fun c hc => (by cases hc), by simp, HR.out⟩
  case round =>
    clear HM0 HB0 HP0 HX0 HR
    obtain ⟨q, f, p, pv, hg, rfl, hmc, ⟨hB, hpe⟩, hpn, hsz, hx, hpl⟩ := hrel
    have HPL : Hid ((p.length : Int) = H q ∧ n ≤ q + f ∧ (∀ c ∈ p, wf c) ∧ p.length ≤ q ∧ mrun L T S f q p = R) := hpl
    have HPE : Hid (pv.ownBlock = pv0.ownBlock ∨ ∃ g, pv.ownBlock = some g ∧ w.heap.size ≤ g) := hpe
    have HKM : Hid (Km M pv0 w wr) := hB
    have hB := hB.below
    have HM : Hid (Mc K (m + 1) wr M tv sv pv p) := hmc
    have HB : Hid (Below M w wr) := hB
    have HPN : Hid (some w.heap.size ≠ pv.ownBlock) := hpn
    have HX : Hid _ := hx
    clear hmc hB hpn hx hpe hpl
    by_cases hlq : q < n
    · have d0 : decide ((q : Int) < (n : Int)) = true := by simp; omega
      obtain ⟨aa, cc, hsl, -, -, -, hL⟩ := HV.out
      cases hsl
      have hlL : q < L.length := by rw [HN.out]; exact hlq
      obtain ⟨g1, og, rfl, hg1, hc⟩ : ∃ g o, a = some ⟨g, o, none⟩ ∧ g < K ∧ ∀ j (h : j < L.length), w.cell? ⟨g, o + j * 2, none⟩ = some (.int .i64 L[j].1) ∧ w.cell? ⟨g, o + j * 2 + 1, none⟩ = some (.int .i64 L[j].2) := by
        rcases hL with rfl | hL
        · simp at hlL
        · exact hL
      obtain ⟨k0, k1⟩ := hc q hlL
      have k0 := cell_keep (by omega : g1 < M) k0 HB.out
      have k1 := cell_keep (by omega : g1 < M) k1 HB.out
      have hsq := HST.out q hlL
      have hok := HOK.out L[q] (List.getElem_mem _)
      obtain ⟨z1, z2, z3, z4, z5⟩ := HPL.out
      obtain ⟨f', rfl⟩ : ∃ f', f = f' + 1 := ⟨f - 1, by omega⟩
      rw [mrun, List.getElem?_eq_getElem hlL] at z5
      rw [HN.out] at hsq
      clear hc hL HPL
      generalize L[q] = x at *
      obtain ⟨o, a⟩ := x
      dsimp only at k0 k1 hok z5
      have HSQ : Hid (St n T.length S.length H q (o, a)) := hsq
      have HZ5 : Hid (bnd (ins T S q (o, a) p) (fun r => mrun L T S f' r.1 r.2) = R) := z5
      have HZ : Hid ((p.length : Int) = H q ∧ (∀ c ∈ p, wf c) ∧ p.length ≤ q) := ⟨z1, z3, z4⟩
      have HOA : Hid (-9223372036854775808 ≤ a ∧ a ≤ 9223372036854775807) := hok
      obtain ⟨W4, hW4, b4, s4, x4⟩ := box1 wr (.int .i64 o) (.int .i64 a)
      obtain ⟨e0, e1⟩ := two_box x4
      have HB4 : Hid (Below wr.heap.size wr W4) := b4
      have HX4 : Hid _ := x4
      have hw1 : IntKind.i64.wrap ((q : Int) + 1) = (q : Int) + 1 := by rw [IntKind.wrap_i64]; omega
      have HM4 : Hid (Mc K (m + 1) W4 M tv sv pv p) := HM.out.below b4
      have HKE : Hid (Km M pv0 w W4) := HKM.out.trans (Km.of_below (pv := pv) b4 (by omega)) HPE.out
      -- what is the same behind a method of the machine
      have HGO : Hid (∀ (W5 : World) (pv5 : Value), Km M pv W4 W5 → (pv5.ownBlock = pv.ownBlock ∨ ∃ g, pv5.ownBlock = some g ∧ W4.heap.size ≤ g) → (Km M pv0 w W5 ∧ (pv5.ownBlock = pv0.ownBlock ∨ ∃ g, pv5.ownBlock = some g ∧ w.heap.size ≤ g)) ∧ some w.heap.size ≠ pv5.ownBlock ∧ w.heap.size < W5.heap.size ∧ W5.heap[w.heap.size]? = some (.cells #[.int .i64 0, .bool false, .int .i64 0, .string ⟨#[]⟩, .slice none 0 0, .slice none 0 0] 26 (0, 0))) := fun W5 pv5 k5 e5 => by
        have h1 := k5.below.size
        refine ⟨⟨HKE.out.trans k5 HPE.out, ?_⟩, ?_, by omega, ?_⟩
        · rcases e5 with e | ⟨g, e, hg⟩
          · rw [e]; exact HPE.out
          · exact .inr ⟨g, e, by omega⟩
        · rcases e5 with e | ⟨g, e, hg⟩
          · rw [e]; exact HPN.out
          · rw [e]
            intro e2
            have := Option.some.inj e2
            omega
        · rw [k5.other w.heap.size (by omega) (by omega) HPN.out, HB4.out.block _ hsz, HX.out]
      have hIX : Hid (∀ W5, Km M pv W4 W5 → W5.cell? ⟨wr.heap.size, 0, none⟩ = some (.int .i64 o) ∧ W5.cell? ⟨wr.heap.size, 1, none⟩ = some (.int .i64 a)) := fun W5 k5 => two_box ((k5.other wr.heap.size (by omega) (by omega) (fun e => by have := HM.out.own_ne e.symm; omega)).trans HX4.out)
      have hpq : p.length ≤ 65536 := by omega
      have hrg := fm_range hsq.fm
      clear hsq z5 z1 z3 z4 hok x4 b4
      by_cases hjp : ijp o = false
      · have ho29 : o ≤ 29 := by simp [ijp] at hjp; omega
        have cD := MDa.do_all HM4.out hpq (HTT.out.below ((HB.out.mono hlow).trans (HB4.out.mono (by omega)))) (HSS.out.keep fun b hb _ => ((HB.out.mono hlow).trans (HB4.out.mono (by omega))).block b hb) (HTK.out.below ((HB.out.mono hlow).trans (HB4.out.mono (by omega)))) hrg.1 ho29 HSQ.out.nm (by rw [HZ.out.1]; exact HSQ.out.nd) HOA.out HZ.out.2.1
        have d30 : (o == 30) = false := by simp; omega
        have d31 : (o == 31) = false := by simp; omega
        have d32 : (o == 32) = false := by simp; omega
        have d33 : (o == 33) = false := by simp; omega
        have HIN : Hid (bnd (dop T S o a p) (fun p' => mrun L T S f' (q + 1) p') = R) := by
          have := HZ5.out
          unfold ins at this
          dsimp only at this
          rw [if_neg (by omega), if_neg (by omega), if_neg (by omega)] at this
          cases e : dop T S o a p with
          | error n => rw [e] at this; exact this
          | ok p' => rw [e] at this; exact this
        have HDL : Hid (∀ p', dop T S o a p = .ok p' → (p'.length : Int) = H (q + 1) ∧ (∀ c ∈ p', wf c) ∧ p'.length ≤ q + 1) := fun p' hp' => by
          have h1 : (p'.length : Int) = p.length - nd o + 1 := dop_len hrg.1 ho29 (by rw [HZ.out.1]; exact HSQ.out.nd) hp'
          have h2 : H (q + 1) = H q - CPu.nd o + 1 := HSQ.out.next hjp
          obtain ⟨h3, h5, h6⟩ := HZ.out
          have h4 := CPu.nd_range o
          exact ⟨by rw [h2, h1, h3], dop_wf HSW.out h5 hp', by omega⟩
        obtain ⟨X, hX⟩ : ∃ X, dop T S o a p = X := ⟨_, rfl⟩
        rw [hX] at cD
        have HXX : Hid (dop T S o a p = X) := hX
        clear hX hjp ho29 hrg
        go_wp2_with fail
        try rw [hW4]
        refine cD.mono ?_
        rintro e W5 hD
        clear cD e0 e1 k0 k1
        cases X with
        | error c =>
          obtain ⟨rfl, b5⟩ := hD
          have hR := HIN.out
          rw [HXX.out] at hR
          have hR : (Except.error c : Except Nat C) = R := hR
          subst hR
          exact ⟨rfl, rfl, HKE.out.trans b5 HPE.out⟩
        | ok p' =>
          obtain ⟨⟨v5, rfl⟩, pv5, m5, k5, e5⟩ := hD
          have HE : Hid _ := HGO.out W5 pv5 k5 e5
          have HM5 : Hid _ := m5
          have hR := HIN.out
          rw [HXX.out] at hR
          have HRR : Hid (mrun L T S f' (q + 1) p' = R) := hR
          clear m5 k5 e5 hR
          go_wp2_with fail
          go_roundg (n - (q + 1))
          case rel =>
            obtain ⟨y1, y2, y3⟩ := HDL.out p' HXX.out
            obtain ⟨y4, y5, y6, y7⟩ := HE.out
            exact ⟨q + 1, f', p', pv5, by omega, by go_num, HM5.out, y4, y5, y6, y7, y1, by omega, y2, y3, HRR.out⟩
          case measure => omega
      · have hjp : ijp o = true := by cases e : ijp o <;> simp_all
        obtain ⟨k, rfl, hk1, hk2⟩ : ∃ k : Nat, a = k ∧ q < k ∧ k ≤ n := by
          have := HSQ.out.jp hjp
          exact ⟨a.toNat, by omega, by omega, by omega⟩
        have ho : o = 30 ∨ o = 31 ∨ o = 32 ∨ o = 33 := by simp [ijp] at hjp; omega
        have hA : ∀ W5, Km M pv W4 W5 → W5.cell? ⟨wr.heap.size, 1, none⟩ = some (.int .i64 (k : Nat)) := fun W5 k5 => (hIX.out W5 k5).2
        have HAA : Hid _ := hA
        clear hA hjp hrg
        by_cases h33 : o = 33
        · subst h33
          have HRR : Hid (mrun L T S f' k p = R) := by
            have := HZ5.out
            unfold ins at this
            dsimp only at this
            rw [if_neg (by decide), if_neg (by decide), if_pos rfl, Int.toNat_natCast] at this
            exact this
          have HE : Hid _ := HGO.out W4 pv (Km.of_below (Below.refl _ _) (by omega)) (.inl rfl)
          have hj := HSQ.out.jump rfl
          dsimp only at hj
          rw [Int.toNat_natCast] at hj
          have HJ : Hid (H k = H q) := hj
          clear hj ho
          go_wp2_with fail
          try rw [hW4]
          go_roundg (n - k)
          case rel =>
            obtain ⟨y1, y2, y3⟩ := HZ.out
            obtain ⟨y4, y5, y6, y7⟩ := HE.out
            exact ⟨k, f', p, pv, by omega, rfl, HM4.out, y4, y5, y6, y7, by rw [HJ.out]; exact y1, by omega, y2, by omega, HRR.out⟩
          case measure => omega
        have hnd : nd o = 1 := by
          have : o = 30 ∨ o = 31 ∨ o = 32 := by omega
          rcases this with rfl | rfl | rfl <;> decide
        obtain ⟨q0, c, rfl⟩ := snoc_of (p := p) (by have h1 := HZ.out.1; have h2 := HSQ.out.nd; dsimp only at h2; omega)
        have hq0 : q0.length ≤ 65536 := by simp at hpq; omega
        have hwc : Hid ((∀ d ∈ q0, wf d) ∧ (q0.length : Int) + 1 = H q ∧ q0.length + 1 ≤ q) := by
          obtain ⟨y1, y2, y3⟩ := HZ.out
          simp at y1 y3
          exact ⟨fun d hd => y2 d (by simp [hd]), by omega, by omega⟩
        by_cases h32 : o = 32
        · subst h32
          have cT := take_c HM4.out hq0
          have hel := HSQ.out.els rfl
          dsimp only at hel
          rw [Int.toNat_natCast] at hel
          have HEL : Hid (H k = H q - 1 ∧ H (q + 1) = H q - 1) := hel
          have HRR : Hid ((if c.k = 2 then mrun L T S f' (if c.b = true then q + 1 else k) q0 else .error 1101) = R) := by
            have := HZ5.out
            unfold ins at this
            dsimp only at this
            rw [if_neg (by decide), if_pos rfl, last_snoc, drop_snoc, Int.toNat_natCast] at this
            by_cases hk : c.k = 2
            · rw [if_pos hk] at this ⊢; exact this
            · rw [if_neg hk] at this ⊢; exact this
          clear hel ho h33 hnd
          go_wp2_with fail
          try rw [hW4]
          refine cT.mono ?_
          rintro e W5 ⟨u, pv5, rfl, hin, m5, k5, e5⟩
          obtain ⟨an, ln, cn, al, ll, cl, rfl⟩ := in_shape hin
          have cI := isTrue_c c.k c.b c.i c.s (.slice an ln cn) (.slice al ll cl) W5
          have HM5 : Hid _ := m5
          have HK5 : Hid (Km M pv W4 W5) := k5
          have HE5 : Hid (pv5.ownBlock = pv.ownBlock) := e5
          clear cT hin m5 k5 e5 e0 e1 k0 k1
          by_cases hk : c.k = 2
          · rw [if_pos hk] at cI
            have hR := HRR.out
            rw [if_pos hk] at hR
            obtain ⟨B, hB⟩ : ∃ B, c.b = B := ⟨_, rfl⟩
            rw [hB] at cI hR ⊢
            have HR2 : Hid _ := hR
            clear hk hR hB
            go_wp2_with fail
            refine cI.mono ?_
            rintro e W6 ⟨rfl, b6⟩
            have hk6 : Km M pv W4 W6 := HK5.out.trans (Km.of_below (pv := pv5) b6 (by have := HK5.out.below.size; omega)) (.inl HE5.out)
            have HE : Hid _ := HGO.out W6 pv5 hk6 (.inl HE5.out)
            have HM6 : Hid _ := HM5.out.below b6
            have n1 := HAA.out W6 hk6
            clear cI b6 hk6
            cases B with
            | true =>
              have HR3 : Hid (mrun L T S f' (q + 1) q0 = R) := HR2.out
              clear n1
              go_wp2_with fail
              go_roundg (n - (q + 1))
              case rel =>
                obtain ⟨y1, y2, y3⟩ := hwc.out
                obtain ⟨y4, y5, y6, y7⟩ := HE.out
                exact ⟨q + 1, f', q0, pv5, by omega, by go_num, HM6.out, y4, y5, y6, y7, by rw [HEL.out.2]; omega, by omega, y1, by omega, HR3.out⟩
              case measure => omega
            | false =>
              have HR3 : Hid (mrun L T S f' k q0 = R) := HR2.out
              go_wp2_with fail
              go_roundg (n - k)
              case rel =>
                obtain ⟨y1, y2, y3⟩ := hwc.out
                obtain ⟨y4, y5, y6, y7⟩ := HE.out
                exact ⟨k, f', q0, pv5, by omega, rfl, HM6.out, y4, y5, y6, y7, by rw [HEL.out.1]; omega, by omega, y1, by omega, HR3.out⟩
              case measure => omega
          · rw [if_neg hk] at cI
            have hR := HRR.out
            rw [if_neg hk] at hR
            subst hR
            clear hk
            go_wp2_with fail
            refine cI.mono ?_
            rintro e W6 ⟨rfl, b6⟩
            exact ⟨rfl, rfl, (HKE.out.trans HK5.out HPE.out).trans (Km.of_below (pv := pv0) b6 (by have := HK5.out.below.size; omega)) (.inl rfl)⟩
        · have h3 : o = 30 ∨ o = 31 := by omega
          have hbo := HSQ.out.both h3
          dsimp only at hbo
          rw [Int.toNat_natCast] at hbo
          have HBO : Hid (H k = H q ∧ H (q + 1) = H q - 1) := hbo
          have HRR : Hid ((if c.k = 2 then (if c.b = decide (o = 31) then mrun L T S f' k (q0 ++ [c]) else mrun L T S f' (q + 1) q0) else .error 1101) = R) := by
            have := HZ5.out
            unfold ins at this
            dsimp only at this
            rw [if_pos h3, last_snoc, drop_snoc, Int.toNat_natCast] at this
            by_cases hk : c.k = 2
            · rw [if_pos hk] at this ⊢
              by_cases hb : c.b = decide (o = 31)
              · rw [if_pos hb] at this ⊢; exact this
              · rw [if_neg hb] at this ⊢; exact this
            · rw [if_neg hk] at this ⊢; exact this
          obtain ⟨b1, b2, hb1, hb2, hbb⟩ : ∃ b1 b2, (o == 30) = b1 ∧ (o == 31) = b2 ∧ (b1 || b2) = true := ⟨_, _, rfl, rfl, by rcases h3 with rfl | rfl <;> decide⟩
          have HD31 : Hid (decide (o = 31) = b2) := by show _ = _; rw [← hb2]; rfl
          clear hbo ho h33 hnd h32 h3
          by_cases hk : c.k = 2
          · have cS := settles_ok (o := o) (a := (k : Int)) HM4.out hq0 hk
            have hR := HRR.out
            rw [if_pos hk, HD31.out] at hR
            rw [hb2] at cS
            obtain ⟨B, hB⟩ : ∃ B, c.b = B := ⟨_, rfl⟩
            rw [hB] at cS hR
            have HR2 : Hid ((if B = b2 then mrun L T S f' k (q0 ++ [c]) else mrun L T S f' (q + 1) q0) = R) := hR
            clear hk hR hB
            cases b1 <;> cases b2 <;> first | (cases hbb; done) | skip
            all_goals
              clear hbb
              go_wp2_with fail
              try rw [hW4]
              refine cS.mono ?_
              rintro e W5 ⟨rfl, pv5, m5, k5, e5⟩
              have HE : Hid _ := HGO.out W5 pv5 k5 (.inl e5)
              have n1 := HAA.out W5 k5
              have hR := HR2.out
              clear cS k5 e5
              cases B
              all_goals
                first
                | (rw [if_pos (by decide)] at hR
                   rw [if_pos (by decide)] at m5
                   have HM5 : Hid _ := m5
                   have HR3 : Hid _ := hR
                   clear m5 hR
                   go_wp2_with fail
                   go_roundg (n - k)
                   case rel =>
                     obtain ⟨y1, y2, y3⟩ := HZ.out
                     obtain ⟨y4, y5, y6, y7⟩ := HE.out
                     exact ⟨k, f', q0 ++ [c], pv5, by omega, rfl, HM5.out, y4, y5, y6, y7, by rw [HBO.out.1]; exact y1, by omega, y2, by omega, HR3.out⟩
                   case measure => omega)
                | (rw [if_neg (by decide)] at hR
                   rw [if_neg (by decide)] at m5
                   have HM5 : Hid _ := m5
                   have HR3 : Hid _ := hR
                   clear m5 hR n1
                   go_wp2_with fail
                   go_roundg (n - (q + 1))
                   case rel =>
                     obtain ⟨y1, y2, y3⟩ := hwc.out
                     obtain ⟨y4, y5, y6, y7⟩ := HE.out
                     exact ⟨q + 1, f', q0, pv5, by omega, by go_num, HM5.out, y4, y5, y6, y7, by rw [HBO.out.2]; omega, by omega, y1, by omega, HR3.out⟩
                   case measure => omega)
          · have cS := settles_err (o := o) (a := (k : Int)) HM4.out hq0 hk
            have hR := HRR.out
            rw [if_neg hk] at hR
            subst hR
            clear hk
            cases b1 <;> cases b2 <;> first | (cases hbb; done) | skip
            all_goals
              clear hbb
              go_wp2_with fail
              try rw [hW4]
              refine cS.mono ?_
              rintro e W5 ⟨rfl, b5⟩
              exact ⟨rfl, rfl, HKE.out.trans b5 HPE.out⟩
    · have d0 : decide ((q : Int) < (n : Int)) = false := by simp; omega
      obtain rfl : q = n := by omega
      obtain ⟨z1, z2, z3, z4, z5⟩ := HPL.out
      rw [HH1.out] at z1
      obtain ⟨q0, r, rfl⟩ := snoc_of (p := p) (by omega)
      have hq0 : q0 = [] := List.eq_nil_of_length_eq_zero (by simp at z1; omega)
      subst hq0
      have hRr : R = .ok r := by
        rw [← z5]
        cases f with
        | zero => rw [mrun]; rfl
        | succ f =>
          rw [mrun, List.getElem?_eq_none (by rw [HN.out]; exact Nat.le_refl _)]
          rfl
      subst hRr
      have cT := take_c (K := K) (m := m + 1) (w := wr) (M := M) (tv := tv) (sv := sv) (pv := pv) (q := []) (c := r) HM.out (by simp)
      clear z1 z2 z3 z4 z5
      go_wp2_with fail
      refine cT.mono ?_
      rintro e W1 ⟨u, pv1, rfl, hin, m1, k1, e1⟩
      obtain ⟨an, ln, cn, al, ll, cl, rfl⟩ := in_shape hin
      have y1 := (k1.other w.heap.size hsz (by omega) HPN.out).trans HX.out
      obtain ⟨W9, hW9⟩ : ∃ W9, (((((W1.setCell ⟨w.heap.size, 0, none⟩ (.int .i64 r.k)).setCell ⟨w.heap.size, 1, none⟩ (.bool r.b)).setCell ⟨w.heap.size, 2, none⟩ (.int .i64 r.i)).setCell ⟨w.heap.size, 3, none⟩ (.string r.s)).setCell ⟨w.heap.size, 4, none⟩ (.slice an ln cn)).setCell ⟨w.heap.size, 5, none⟩ (.slice al ll cl) = W9 := ⟨_, rfl⟩
      obtain ⟨q1, q2, q3, q4⟩ := set6 _ _ _ _ _ _ y1 hW9
      have HE : Hid (RA K (m + 1) M pv0 w (.ok r) (.returned (vl r.k r.b r.i r.s (.slice an ln cn) (.slice al ll cl))) W9) := by
        have hk := HKM.out.trans k1 HPE.out
        exact ⟨_, rfl, hin.keep fun b hb _ => q2 b (by have : b < K := hb; omega), q4 _ _ (by omega) hk.below, fun b hb h1 h2 => (q2 b (by omega)).trans (hk.other b hb h1 h2)⟩
      have HQ1 : Hid _ := q1
      obtain ⟨v0', v1', v2', v3', v4', v5'⟩ := six_box y1
      have g0 := frozen_box y1 0
      have g1 := frozen_box y1 1
      have g2 := frozen_box y1 2
      have g3 := frozen_box y1 3
      have g4 := frozen_box y1 4
      have g5 := frozen_box y1 5
      clear hin m1 k1 e1 y1 q1 q2 q3 q4 cT
      go_wp2_with fail
      try rw [hW9]
      try rw [Exit.noGoto_ret]
      refine bodyPost_ret (results_cell_row rfl _ W9 w.heap.size 26 _ (0, 0) _ rfl HQ1.out Tryz.underlying26 rfl (by kernel_rfl)) rfl ?_
      exact HE.out
end Go.Proofs.YtpaigpijaifeoaaGreatDoor.MRg

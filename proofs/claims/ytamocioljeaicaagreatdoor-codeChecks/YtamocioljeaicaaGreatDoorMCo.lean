/- Code that is run without an error: reckon.Code. -/
import Derived.Test.YtamocioljeaicaaGreatDoorMSe
import Derived.Test.YtamocioljeaicaaGreatDoorCBx
import Derived.Defers
import Derived.Recover
import Derived.Test.YtamocioljeaicaaGreatDoorPart0
namespace Go.Proofs.YtamocioljeaicaaGreatDoor.MDo
open Go.RowKit Go.Proofs.YtamocioljeaicaaGreatDoor.Base Go.Proofs.YtamocioljeaicaaGreatDoor.VSm Go.Proofs.YtamocioljeaicaaGreatDoor.VJn Go.Proofs.YtamocioljeaicaaGreatDoor.VRs Go.Proofs.YtamocioljeaicaaGreatDoor.VPk Go.Proofs.YtamocioljeaicaaGreatDoor.MBx Go.Proofs.YtamocioljeaicaaGreatDoor.MPu Go.Proofs.YtamocioljeaicaaGreatDoor.MSe
open Go.Proofs.YtamocioljeaicaaGreatDoor.VPure
set_option linter.unusedVariables false

/-- What do answers: the pile behind it, or an error thrown. -/
def DR (K m M : Nat) (tv sv pv : Value) (w : World) (X : Except Nat (List C)) (e : Ending) (w' : World) : Prop := match X with
  | .ok p => (∃ v, e = .returned v) ∧ ∃ pv', Mc K m w' M tv sv pv' p ∧ Km M pv w w' ∧ (pv'.ownBlock = pv.ownBlock ∨ ∃ g, pv'.ownBlock = some g ∧ w.heap.size ≤ g)
  | .error n => e = .panicked (pkE n) ∧ Below M w w'
/-- The tables stay, whatever is changed behind K. -/
def TK (K : Nat) (w : World) : Prop := ∀ W, Below K w W → Digits.Tab W
theorem TK.tb {K : Nat} {w W : World} (h : TK K w) (hb : Below K w W) (hK : K ≤ W.heap.size) : Tb W := fun W' hW' => h W' (hb.trans (hW'.mono hK))
theorem TK.below {K : Nat} {w W : World} (h : TK K w) (hb : Below K w W) : TK K W := fun W' hW' => h W' (hb.trans hW')
theorem box1 (w : World) (x y : Value) : ∃ W, w.alloc (.cells #[x, y] 32) = W ∧ Below w.heap.size w W ∧ W.heap.size = w.heap.size + 1 ∧ W.heap[w.heap.size]? = some (.cells #[x, y] 32 (0, 0)) :=
  ⟨_, rfl, (Below.refl _ w).alloc (Nat.le_refl _) _, by simp, heap_alloc_new w _⟩
/-- Put behind what only made new memory. -/
theorem put_on {K m M : Nat} {tv sv pv : Value} {w w1 w2 : World} {p : List C} {pv' : Value} (hM : M ≤ w.heap.size) (hb : Below w.heap.size w w1) (hm : Mc K m w2 M tv sv pv' p) (hk : Km M pv w1 w2) (he : pv'.ownBlock = pv.ownBlock ∨ ∃ g, pv'.ownBlock = some g ∧ w1.heap.size ≤ g) : ∃ pv', Mc K m w2 M tv sv pv' p ∧ Km M pv w w2 ∧ (pv'.ownBlock = pv.ownBlock ∨ ∃ g, pv'.ownBlock = some g ∧ w.heap.size ≤ g) :=
  ⟨pv', hm, (Km.of_below hb hM).trans hk (.inl rfl), he.imp id fun ⟨g, h1, h2⟩ => ⟨g, h1, by have := hb.size; omega⟩⟩
set_option maxRecDepth 20000 in
set_option maxHeartbeats 1600000 in
theorem do_int {K m : Nat} {w : World} {M : Nat} {tv sv pv : Value} {p : List C} (h : Mc K (m + 1) w M tv sv pv p) (hp : p.length ≤ 65536) {a : Int} (ha : -9223372036854775808 ≤ a ∧ a ≤ 9223372036854775807) :
    Calls Tryz.prog 46 #[ptr M, .agg #[.int .i64 4, .int .i64 a]] w fun e w' => DR K (m + 1) M tv sv pv w (.ok (p ++ [intC a])) e w' := by
  obtain ⟨W0, hW0, b0, s0, x0⟩ := box1 w (.int .i64 4) (.int .i64 a)
  obtain ⟨i0, i1⟩ := two_box x0
  have cN := number_c a W0
  have hiv : ∀ W, Base.In false (fun b => b < K) W (m + 1) (v0 3 false a ⟨#[]⟩) (intC a) := fun W => in_v0 _ W m false (by decide) ha (by decide)
  have HIV : Hid _ := hiv
  clear hiv
  have HH : Hid _ := h
  have HB0 : Hid _ := b0
  clear h b0 x0
  go_enter Tryz.func46, Tryz.ntmps46
  go_wp2_with fail
  try rw [hW0]
  refine cN.mono ?_
  rintro e W1 ⟨rfl, b1⟩
  have hb1 : Below w.heap.size w W1 := HB0.out.trans (b1.mono (by omega))
  have cP : Calls Tryz.prog 53 #[ptr M, v0 3 false a ⟨#[]⟩] W1 fun e w' => (∃ v, e = .returned v) ∧ ∃ pv', Mc K (m + 1) w' M tv sv pv' (p ++ [intC a]) ∧ Km M pv W1 w' ∧ (pv'.ownBlock = pv.ownBlock ∨ ∃ g, pv'.ownBlock = some g ∧ W1.heap.size ≤ g) := put_c (c := intC a) (HH.out.below hb1) hp (HIV.out W1)
  have HB1 : Hid _ := hb1
  clear cN b1 hb1
  go_wp2_with fail
  refine cP.mono ?_
  rintro e W2 ⟨⟨v, rfl⟩, pv', m2, k2, e2⟩
  have HE : Hid _ := put_on (Nat.le_of_lt HH.out.lt) HB1.out m2 k2 e2
  clear cP m2 k2 e2
  go_wp2_with fail
  go_end0
  exact ⟨⟨_, rfl⟩, HE.out⟩
set_option maxRecDepth 20000 in
set_option maxHeartbeats 3200000 in
theorem do_var {K m : Nat} {w : World} {M : Nat} {tv sv pv : Value} {p L : List C} (h : Mc K m w M tv sv pv p) (hp : p.length ≤ 65536) (hL : Base.InL false (fun b => b < K) w m sv L) {k : Nat} (hk : k < L.length) :
    Calls Tryz.prog 46 #[ptr M, .agg #[.int .i64 6, .int .i64 (k : Nat)]] w fun e w' => DR K m M tv sv pv w (.ok (p ++ [L[k]])) e w' := by
  obtain ⟨W0, hW0, b0, s0, x0⟩ := box1 w (.int .i64 6) (.int .i64 (k : Nat))
  obtain ⟨i0, i1⟩ := two_box x0
  obtain ⟨a, cap, rfl, hl1, hl2, -, -, hE⟩ := hL
  obtain ⟨g, o, u, rfl, hg, h6, hin⟩ := elem_at hE hk
  have hin0 := hin.below b0
  obtain ⟨an, ln, cn, al, ll, cl, rfl⟩ := in_shape hin
  obtain ⟨y0, y1, y2, y3, y4, y5, E, e0, e1, e2, e3, e4, e5⟩ := six_below h6 b0
  simp only [Value.agg.injEq, Array.mk.injEq, List.cons.injEq, and_true] at E
  obtain ⟨rfl, rfl, rfl, rfl, rfl, rfl⟩ := E
  have hlt := h.lt
  have hlow := h.low
  have kM : W0.cell? ⟨M, 1, none⟩ = some (.slice (some ⟨g, o, none⟩) L.length cap) := by
    have := (b0.block M hlt).trans h.box
    simp [World.cell?, this]
  have hi1 : (0 : Int) ≤ (k : Int) := by omega
  have hi2 : (k : Int) < (L.length : Int) := by omega
  have HH : Hid _ := h
  have HB0 : Hid _ := b0
  obtain ⟨c, hc⟩ : ∃ c, L[k] = c := ⟨_, rfl⟩
  rw [hc] at hin0 e0 e1 e2 e3 ⊢
  have hb0d : Below w.heap.size w W0.drew := ⟨b0.os, b0.tape, b0.output, b0.size, b0.block⟩
  have hin0 : Base.In false (fun b => b < K) W0.drew m (vl c.k c.b c.i c.s (.slice an ln cn) (.slice al ll cl)) c := Base.In.keep (w := W0) (w' := W0.drew) (fun _ _ _ => rfl) hin0
  have cP := put_c (HH.out.below hb0d) hp hin0
  have HB0d : Hid _ := hb0d
  have HX0 : Hid (W0.drew.heap[w.heap.size]? = some (.cells #[.int .i64 6, .int .i64 (k : Nat)] 32 (0, 0))) := x0
  have hpn : some w.heap.size ≠ pv.ownBlock := fun e => by have := HH.out.own_ne e.symm; omega
  have HPN : Hid _ := hpn
  have HLT : Hid (M < w.heap.size ∧ K ≤ M) := ⟨hlt, hlow⟩
  have H6 : Hid (∀ W, Km M pv W0.drew W → W.cell? ⟨g, o + k * 6, none⟩ = some (.int .i64 c.k) ∧ W.cell? ⟨g, o + k * 6 + 1, none⟩ = some (.bool c.b) ∧ W.cell? ⟨g, o + k * 6 + 2, none⟩ = some (.int .i64 c.i) ∧ W.cell? ⟨g, o + k * 6 + 3, none⟩ = some (.string c.s) ∧ W.cell? ⟨g, o + k * 6 + 4, none⟩ = some (.slice an ln cn) ∧ W.cell? ⟨g, o + k * 6 + 5, none⟩ = some (.slice al ll cl)) := fun W hW => by
    have hb : W.heap[g]? = W0.heap[g]? := hW.below.block g (by have : g < K := hg; omega)
    refine ⟨?_, ?_, ?_, ?_, ?_, ?_⟩
    · rw [World.cell?_of_block (w := W0) hb]; exact e0
    · rw [World.cell?_of_block (w := W0) hb]; exact e1
    · rw [World.cell?_of_block (w := W0) hb]; exact e2
    · rw [World.cell?_of_block (w := W0) hb]; exact e3
    · rw [World.cell?_of_block (w := W0) hb]; exact e4
    · rw [World.cell?_of_block (w := W0) hb]; exact e5
  clear hpn hb0d hlt hlow hg hc
  clear h b0 x0 hE hin h6 hin0
  go_enter Tryz.func46, Tryz.ntmps46
  go_wp2_with fail
  try rw [hW0]
  go_region_held3 (fun w' => (w'.cell? ⟨M, 1, none⟩ = some (.slice (some ⟨g, o, none⟩) L.length cap) ∧ w'.cell? ⟨w.heap.size, 1, none⟩ = some (.int .i64 (k : Nat))) ∧ (w'.cell? ⟨g, o + k * 6, none⟩ = some (.int .i64 c.k) ∧ w'.cell? ⟨g, o + k * 6 + 1, none⟩ = some (.bool c.b) ∧ w'.cell? ⟨g, o + k * 6 + 2, none⟩ = some (.int .i64 c.i) ∧ w'.cell? ⟨g, o + k * 6 + 3, none⟩ = some (.string c.s) ∧ w'.cell? ⟨g, o + k * 6 + 4, none⟩ = some (.slice an ln cn) ∧ w'.cell? ⟨g, o + k * 6 + 5, none⟩ = some (.slice al ll cl))) (go_keep) (first
    | (go_at_call 53; refine cP.mono ?_; rintro e W2 ⟨⟨v, rfl⟩, pv', m2, k2, e2'⟩; have n1 : W2.cell? ⟨M, 1, none⟩ = some (.slice (some ⟨g, o, none⟩) L.length cap) := (by simp [World.cell?, m2.box]); obtain ⟨-, n2⟩ := two_box ((k2.other w.heap.size (by have : W0.drew.heap.size = w.heap.size + 1 := s0; omega) (by have := HLT.out; omega) HPN.out).trans HX0.out); obtain ⟨n3, n4, n5, n6, n7, n8⟩ := H6.out W2 k2))
  have HE : Hid _ := put_on (Nat.le_of_lt HH.out.lt) HB0d.out m2 k2 e2'
  clear cP m2 k2 e2'
  go_wp2_with fail
  go_end0
  exact ⟨⟨_, rfl⟩, HE.out⟩
end Go.Proofs.YtamocioljeaicaaGreatDoor.MDo

namespace Go.Proofs.YtamocioljeaicaaGreatDoor.MDp
open Go.RowKit Go.Proofs.YtamocioljeaicaaGreatDoor.Base Go.Proofs.YtamocioljeaicaaGreatDoor.VSm Go.Proofs.YtamocioljeaicaaGreatDoor.VJn Go.Proofs.YtamocioljeaicaaGreatDoor.VRs Go.Proofs.YtamocioljeaicaaGreatDoor.VPk Go.Proofs.YtamocioljeaicaaGreatDoor.MBx Go.Proofs.YtamocioljeaicaaGreatDoor.MPu Go.Proofs.YtamocioljeaicaaGreatDoor.MSe Go.Proofs.YtamocioljeaicaaGreatDoor.MDo
open Go.Proofs.YtamocioljeaicaaGreatDoor.VPure
set_option linter.unusedVariables false

set_option maxRecDepth 20000 in
set_option maxHeartbeats 6400000 in
theorem pair_ok {K m : Nat} {w : World} {M : Nat} {tv sv pv : Value} {p q : List C} {x y v : C} {o a : Int} (h : Mc K (m + 1) w M tv sv pv p) (hq : q.length ≤ 65536) (hT : TK K w) (hP : PairOk o) (hd : o ≠ 1 ∧ o ≠ 2 ∧ o ≠ 3 ∧ o ≠ 4 ∧ o ≠ 5 ∧ o ≠ 6 ∧ o ≠ 29) (hwf : wf x) (hX : pr2 o x y = .ok v)
    (cS : ∀ W, Below w.heap.size w W → Calls Tryz.prog 57 #[ptr M, .agg #[.int .i64 o, .int .i64 a]] W fun e w' => SR K (m + 1) M tv sv pv W y (q ++ [x]) e w') :
    Calls Tryz.prog 46 #[ptr M, .agg #[.int .i64 o, .int .i64 a]] w fun e w' => DR K (m + 1) M tv sv pv w (.ok (q ++ [v])) e w' := by
  obtain ⟨W0, hW0, b0, s0, x0⟩ := box1 w (.int .i64 o) (.int .i64 a)
  obtain ⟨i0, i1⟩ := two_box x0
  have c2 := cS W0 b0
  have HH : Hid _ := h
  have HB0 : Hid _ := b0
  have HX0 : Hid _ := x0
  have HT : Hid (TK K w) := hT
  have HP : Hid (PairOk o) := hP
  have HWF : Hid (wf x) := hwf
  have HXX : Hid (pr2 o x y = .ok v) := hX
  have hlt := h.lt
  have hlow := h.low
  obtain ⟨e1, e2, e3, e4, e5, e6, e29⟩ := hd
  have d1 : (o == 1) = false := by simp [e1]
  have d2 : (o == 2) = false := by simp [e2]
  have d3 : (o == 3) = false := by simp [e3]
  have d4 : (o == 4) = false := by simp [e4]
  have d5 : (o == 5) = false := by simp [e5]
  have d6 : (o == 6) = false := by simp [e6]
  have d29 : (o == 29) = false := by simp [e29]
  clear h b0 x0 hT hP hwf hX cS e1 e2 e3 e4 e5 e6 e29
  go_enter Tryz.func46, Tryz.ntmps46
  go_wp2_with fail
  try rw [hW0]
  refine c2.mono ?_
  rintro e W1 ⟨u, pv1, rfl, hin1, m1, k1, e1⟩
  obtain ⟨an, ln, cn, al, ll, cl, rfl⟩ := in_shape hin1
  have hs1 := k1.below.size
  have hn0 : some w.heap.size ≠ pv.ownBlock := fun e => by have := HH.out.own_ne e.symm; omega
  have x1 := (k1.other w.heap.size (by omega) (by omega) hn0).trans HX0.out
  obtain ⟨W2, hW2⟩ : ∃ W2, W1.alloc (.cells #[.int .i64 y.k, .bool y.b, .int .i64 y.i, .string y.s, .slice an ln cn, .slice al ll cl] 49) = W2 := ⟨_, rfl⟩
  have b2 : Below W1.heap.size W1 W2 := by rw [← hW2]; exact (Below.refl _ W1).alloc (Nat.le_refl _) _
  have s2 : W2.heap.size = W1.heap.size + 1 := by rw [← hW2]; simp
  have y2 : W2.heap[W1.heap.size]? = some (.cells #[.int .i64 y.k, .bool y.b, .int .i64 y.i, .string y.s, .slice an ln cn, .slice al ll cl] 49 (0, 0)) := by rw [← hW2]; exact heap_alloc_new W1 _
  have x2 := (b2.block _ (by omega)).trans x1
  obtain ⟨j0, j1⟩ := two_box x2
  obtain ⟨z0, z1, z2, z3, z4, z5⟩ := six_box y2
  have b2d : Below W1.heap.size W1 W2.drew := ⟨b2.os, b2.tape, b2.output, b2.size, b2.block⟩
  have m2 : Mc K (m + 1) W2.drew M tv sv pv1 (q ++ [x]) := m1.below b2d
  have cT := take_c m2 hq
  have hn1 : some W1.heap.size ≠ pv1.ownBlock := fun e => by have := m1.own_ne e.symm; omega
  have HS : Hid (∀ W, Km M pv1 W2.drew W → W.cell? ⟨w.heap.size, 0, none⟩ = some (.int .i64 o) ∧ (W.cell? ⟨W1.heap.size, 0, none⟩ = some (.int .i64 y.k) ∧ W.cell? ⟨W1.heap.size, 1, none⟩ = some (.bool y.b) ∧ W.cell? ⟨W1.heap.size, 2, none⟩ = some (.int .i64 y.i) ∧ W.cell? ⟨W1.heap.size, 3, none⟩ = some (.string y.s) ∧ W.cell? ⟨W1.heap.size, 4, none⟩ = some (.slice an ln cn) ∧ W.cell? ⟨W1.heap.size, 5, none⟩ = some (.slice al ll cl))) := fun W hW =>
    ⟨(two_box ((hW.other w.heap.size (by show w.heap.size < W2.heap.size; omega) (by omega) (by rw [e1]; exact hn0)).trans x2)).1, six_box ((hW.other W1.heap.size (by show W1.heap.size < W2.heap.size; omega) (by omega) hn1).trans y2)⟩
  have HB1 : Hid (Below M w W2.drew) := ((HB0.out.mono (by omega)).trans k1.below).trans (b2d.mono (by omega))
  have HK1 : Hid (Km M pv w W2.drew) := ((Km.of_below HB0.out (by omega)).trans k1 (.inl rfl)).trans (Km.of_below b2d (by omega)) (.inl rfl)
  have HI1 : Hid (Base.In false (fun b => b < K) W2.drew (m + 1) (vl y.k y.b y.i y.s (.slice an ln cn) (.slice al ll cl)) y) := hin1.below b2d
  have HE1 : Hid (pv1.ownBlock = pv.ownBlock) := e1
  have hs2d : W2.drew.heap.size = W1.heap.size + 1 := s2
  clear c2 hin1 m1 k1 x1 b2 x2 y2 b2d m2 e1 hn0 hn1
  go_wp2_with fail
  try rw [hW2]
  go_region_held3 (fun w' => w'.cell? ⟨w.heap.size, 0, none⟩ = some (.int .i64 o) ∧ (w'.cell? ⟨W1.heap.size, 0, none⟩ = some (.int .i64 y.k) ∧ w'.cell? ⟨W1.heap.size, 1, none⟩ = some (.bool y.b) ∧ w'.cell? ⟨W1.heap.size, 2, none⟩ = some (.int .i64 y.i) ∧ w'.cell? ⟨W1.heap.size, 3, none⟩ = some (.string y.s) ∧ w'.cell? ⟨W1.heap.size, 4, none⟩ = some (.slice an ln cn) ∧ w'.cell? ⟨W1.heap.size, 5, none⟩ = some (.slice al ll cl))) (go_keep) (first
    | (go_at_call 45; refine cT.mono ?_; rintro e W3 ⟨u3, pv3, rfl, hin3, m3, k3, e3⟩; obtain ⟨ax, lx, cx, bx, mx, dx, rfl⟩ := in_shape hin3; have hb3 : Below K W2.drew W3 := k3.below.mono hlow; have cP := HP.out K m W3 _ _ x y (by have := k3.below.size; omega) (HT.out.tb ((HB1.out.mono hlow).trans hb3) (by have := k3.below.size; omega)) hin3 (in_low HI1.out hb3) HWF.out; obtain ⟨n1, n2, n3, n4, n5, n6, n7⟩ := HS.out W3 k3)
    | (go_at_call 58; refine cP.mono ?_; rintro e W4 ⟨b4, hA⟩; rw [HXX.out] at hA; obtain ⟨u4, rfl, hin4⟩ := hA; obtain ⟨ay, ly, cy, bY, my, dy, rfl⟩ := in_shape hin4; have k4 := k3.trans (Km.of_below (pv := pv3) b4 (by have := k3.below.size; omega)) (.inl e3); have cQ := put_c (m3.below b4) hq hin4; obtain ⟨n1, n2, n3, n4, n5, n6, n7⟩ := HS.out W4 k4)
    | (go_at_call 53; refine cQ.mono ?_; rintro e W5 ⟨⟨v5, rfl⟩, pv5, m5, k5, e5⟩; have k6 := k4.trans k5 (.inl e3); obtain ⟨n1, n2, n3, n4, n5, n6, n7⟩ := HS.out W5 k6))
  have HE : Hid (∃ pv', Mc K (m + 1) W5 M tv sv pv' (q ++ [v]) ∧ Km M pv w W5 ∧ (pv'.ownBlock = pv.ownBlock ∨ ∃ g, pv'.ownBlock = some g ∧ w.heap.size ≤ g)) := by
    refine ⟨pv5, m5, HK1.out.trans k6 (.inl HE1.out), ?_⟩
    rcases e5 with e | ⟨g, e, hg⟩
    · exact .inl (by rw [e, e3, HE1.out])
    · exact .inr ⟨g, e, by have := k3.below.size; have := b4.size; have := HB1.out.size; omega⟩
  clear cT cP cQ m3 k3 m5 k5 k6 e3 e5 b4 k4 hin3 hin4
  go_wp2_with fail
  go_end0
  exact ⟨⟨_, rfl⟩, HE.out⟩
end Go.Proofs.YtamocioljeaicaaGreatDoor.MDp

namespace Go.Proofs.YtamocioljeaicaaGreatDoor.MRn
open Go.RowKit Go.Proofs.YtamocioljeaicaaGreatDoor.Base Go.Proofs.YtamocioljeaicaaGreatDoor.VSm Go.Proofs.YtamocioljeaicaaGreatDoor.VJn Go.Proofs.YtamocioljeaicaaGreatDoor.VRs Go.Proofs.YtamocioljeaicaaGreatDoor.VPk Go.Proofs.YtamocioljeaicaaGreatDoor.MBx Go.Proofs.YtamocioljeaicaaGreatDoor.MPu Go.Proofs.YtamocioljeaicaaGreatDoor.MSe Go.Proofs.YtamocioljeaicaaGreatDoor.MDo
open Go.Proofs.YtamocioljeaicaaGreatDoor.VPure
open Go.Proofs.YtamocioljeaicaaGreatDoor.CPu (Ins)
open Go.Proofs.YtamocioljeaicaaGreatDoor.CBx (Cx cell_keep)
set_option linter.unusedVariables false

set_option maxRecDepth 20000 in
set_option maxHeartbeats 3200000 in
theorem line_c {K m : Nat} {w : World} {M : Nat} {tv sv pv0 cv : Value} {L : List Ins} {P : Nat → List C} {r : C} (hv : Cx K w cv L) (h : Mc K m w M tv sv pv0 (P 0)) (hn : L.length ≤ 8192) (hj : ∀ q (h : q < L.length), L[q].1 < 30)
    (hstep : ∀ q (h : q < L.length) W pv, Below M w W → Mc K m W M tv sv pv (P q) → Calls Tryz.prog 46 #[ptr M, .agg #[.int .i64 L[q].1, .int .i64 L[q].2]] W fun e w' => DR K m M tv sv pv W (.ok (P (q + 1))) e w')
    (hend : P L.length = [r]) :
    Calls Tryz.prog 37 #[ptr M, cv] w fun e w' => ∃ u, e = .returned u ∧ Base.In false (fun b => b < K) w' m u r ∧ Km M pv0 w w' := by
  have HV : Hid (Cx K w cv L) := hv
  obtain ⟨a, cap, rfl, hl, hm, hnil, hL⟩ := hv
  clear hL hnil
  obtain ⟨n, hnn⟩ : ∃ n, L.length = n := ⟨_, rfl⟩
  have HN : Hid (L.length = n) := hnn
  rw [hnn] at hl hn hend ⊢
  obtain ⟨W0, hW0⟩ : ∃ W0, w.alloc (.cells #[.int .i64 0, .bool false, .int .i64 0, .string ⟨#[]⟩, .slice none 0 0, .slice none 0 0] 49) = W0 := ⟨_, rfl⟩
  have b0 : Below w.heap.size w W0 := by rw [← hW0]; exact (Below.refl _ w).alloc (Nat.le_refl _) _
  have s0 : W0.heap.size = w.heap.size + 1 := by rw [← hW0]; simp
  have x0 : W0.heap[w.heap.size]? = some (.cells #[.int .i64 0, .bool false, .int .i64 0, .string ⟨#[]⟩, .slice none 0 0, .slice none 0 0] 49 (0, 0)) := by rw [← hW0]; exact heap_alloc_new w _
  have hlt := h.lt
  have hlow := h.low
  have HB0 : Hid (Km M pv0 w W0) := Km.of_below b0 (by omega)
  have HM0 : Hid _ := h.below b0
  have HX0 : Hid _ := x0
  have HP0 : Hid (some w.heap.size ≠ pv0.ownBlock) := fun e => by have := h.own_ne e.symm; omega
  have HJ : Hid _ := hj
  have HST : Hid _ := hstep
  have HEN : Hid (P n = [r]) := hend
  clear h b0 x0 hj hstep hnn hend
  go_enter Tryz.func37, Tryz.ntmps37
  go_wp2_with fail
  try rw [hW0]
  go_step3
  go_wp2_with fail
  go_step3
  go_wp2_with fail
  try rw [hW0]
  go_loopg [5] n (fun g i wr => ∃ (q : Nat) (pv : Value), q + g = n ∧ i = .int .i64 q ∧ Mc K m wr M tv sv pv (P q) ∧ (Km M pv0 w wr ∧ (pv.ownBlock = pv0.ownBlock ∨ ∃ g, pv.ownBlock = some g ∧ w.heap.size ≤ g)) ∧ some w.heap.size ≠ pv.ownBlock ∧ w.heap.size < wr.heap.size ∧ wr.heap[w.heap.size]? = some (.cells #[.int .i64 0, .bool false, .int .i64 0, .string ⟨#[]⟩, .slice none 0 0, .slice none 0 0] 49 (0, 0)))
  case atStart => exact ⟨0, pv0, by omega, rfl, HM0.out, ⟨HB0.out, .inl rfl⟩, HP0.out, by omega, HX0.out⟩
  case round =>
    clear HM0 HB0 HP0 HX0
    obtain ⟨q, pv, hg, rfl, hmc, ⟨hB, hpe⟩, hpn, hsz, hx⟩ := hrel
    have HPE : Hid _ := hpe
    have HKM : Hid (Km M pv0 w wr) := hB
    have hB := hB.below
    clear hpe
    have HM : Hid _ := hmc
    have HB : Hid (Below M w wr) := hB
    have HPN : Hid (some w.heap.size ≠ pv.ownBlock) := hpn
    have HX : Hid _ := hx
    clear hmc hB hpn hx
    by_cases hlq : q < n
    · have d0 : decide ((q : Int) < (n : Int)) = true := by simp; omega
      obtain ⟨aa, cc, hsl, -, -, -, hL⟩ := HV.out
      cases hsl
      have hlL : q < L.length := by rw [HN.out]; exact hlq
      obtain ⟨g1, og, rfl, hg1, hc⟩ : ∃ g o, a = some ⟨g, o, none⟩ ∧ g < K ∧ ∀ j (h : j < L.length), w.cell? ⟨g, o + j * 2, none⟩ = some (.int .i64 L[j].1) ∧ w.cell? ⟨g, o + j * 2 + 1, none⟩ = some (.int .i64 L[j].2) := by
        rcases hL with rfl | hL
        · simp at hlL
        · exact hL
      obtain ⟨k0, k1⟩ := hc q hlL
      have k0 := cell_keep (by omega : g1 < M) k0 HB.out
      have k1 := cell_keep (by omega : g1 < M) k1 HB.out
      have hjq := HJ.out q hlL
      have hsq := HST.out q hlL
      clear hc hL
      generalize L[q] = x at *
      obtain ⟨o, a⟩ := x
      dsimp only at k0 k1 hjq hsq
      obtain ⟨W4, hW4, b4, s4, x4⟩ := box1 wr (.int .i64 o) (.int .i64 a)
      obtain ⟨e0, e1⟩ := two_box x4
      have cD := hsq W4 pv (HB.out.trans (b4.mono (by omega))) (HM.out.below b4)
      have d30 : (o == 30) = false := by simp; omega
      have d31 : (o == 31) = false := by simp; omega
      have d32 : (o == 32) = false := by simp; omega
      have d33 : (o == 33) = false := by simp; omega
      have HB4 : Hid (Below wr.heap.size wr W4) := b4
      have hw1 : IntKind.i64.wrap ((q : Int) + 1) = (q : Int) + 1 := by rw [IntKind.wrap_i64]; omega
      clear hjq hsq b4 x4
      go_wp2_with fail
      try rw [hW4]
      refine cD.mono ?_
      rintro e W5 ⟨⟨v5, rfl⟩, pv5, m5, k5, e5⟩
      have HE : Hid (Mc K m W5 M tv sv pv5 (P (q + 1)) ∧ (Km M pv0 w W5 ∧ (pv5.ownBlock = pv0.ownBlock ∨ ∃ g, pv5.ownBlock = some g ∧ w.heap.size ≤ g)) ∧ some w.heap.size ≠ pv5.ownBlock ∧ w.heap.size < W5.heap.size ∧ W5.heap[w.heap.size]? = some (.cells #[.int .i64 0, .bool false, .int .i64 0, .string ⟨#[]⟩, .slice none 0 0, .slice none 0 0] 49 (0, 0))) := by
        have h1 := k5.below.size
        have hke : Km M pv0 w W4 := HKM.out.trans (Km.of_below (pv := pv) HB4.out (by omega)) HPE.out
        refine ⟨m5, ⟨hke.trans k5 HPE.out, ?_⟩, ?_, by omega, ?_⟩
        · rcases e5 with e | ⟨g, e, hg⟩
          · rw [e]; exact HPE.out
          · exact .inr ⟨g, e, by omega⟩
        · rcases e5 with e | ⟨g, e, hg⟩
          · rw [e]; exact HPN.out
          · rw [e]
            intro e2
            have := Option.some.inj e2
            omega
        · rw [k5.other w.heap.size (by omega) (by omega) HPN.out, HB4.out.block _ hsz, HX.out]
      clear cD m5 k5 e5 e0 e1 k0 k1
      go_wp2_with fail
      go_roundg (n - (q + 1))
      case rel => exact ⟨q + 1, pv5, by omega, by go_num, HE.out⟩
      case measure => omega
    · have d0 : decide ((q : Int) < (n : Int)) = false := by simp; omega
      obtain rfl : q = n := by omega
      have cT := take_c (K := K) (m := m) (w := wr) (M := M) (tv := tv) (sv := sv) (pv := pv) (q := []) (c := r) (by have := HM.out; rw [HEN.out] at this; exact this) (by simp)
      go_wp2_with fail
      refine cT.mono ?_
      rintro e W1 ⟨u, pv1, rfl, hin, m1, k1, e1⟩
      obtain ⟨an, ln, cn, al, ll, cl, rfl⟩ := in_shape hin
      have y1 := (k1.other w.heap.size hsz (by omega) HPN.out).trans HX.out
      obtain ⟨W9, hW9⟩ : ∃ W9, (((((W1.setCell ⟨w.heap.size, 0, none⟩ (.int .i64 r.k)).setCell ⟨w.heap.size, 1, none⟩ (.bool r.b)).setCell ⟨w.heap.size, 2, none⟩ (.int .i64 r.i)).setCell ⟨w.heap.size, 3, none⟩ (.string r.s)).setCell ⟨w.heap.size, 4, none⟩ (.slice an ln cn)).setCell ⟨w.heap.size, 5, none⟩ (.slice al ll cl) = W9 := ⟨_, rfl⟩
      obtain ⟨q1, q2, q3, q4⟩ := set6 _ _ _ _ _ _ y1 hW9
      have HE : Hid (∃ u, (Ending.returned (vl r.k r.b r.i r.s (.slice an ln cn) (.slice al ll cl)) = .returned u) ∧ Base.In false (fun b => b < K) W9 m u r ∧ Km M pv0 w W9) := by
        have hk := HKM.out.trans k1 HPE.out
        exact ⟨_, rfl, hin.keep fun b hb _ => q2 b (by have : b < K := hb; omega), q4 _ _ (by omega) hk.below, fun b hb h1 h2 => (q2 b (by omega)).trans (hk.other b hb h1 h2)⟩
      have HQ1 : Hid _ := q1
      obtain ⟨v0', v1', v2', v3', v4', v5'⟩ := six_box y1
      have g0 := frozen_box y1 0
      have g1 := frozen_box y1 1
      have g2 := frozen_box y1 2
      have g3 := frozen_box y1 3
      have g4 := frozen_box y1 4
      have g5 := frozen_box y1 5
      clear hin m1 k1 e1 y1 q1 q2 q3 q4 cT
      go_wp2_with fail
      try rw [hW9]
      try rw [Exit.noGoto_ret]
      refine bodyPost_ret (results_cell_row rfl _ W9 w.heap.size 49 _ (0, 0) _ rfl HQ1.out Tryz.underlying49 rfl (by kernel_rfl)) rfl ?_
      exact HE.out
end Go.Proofs.YtamocioljeaicaaGreatDoor.MRn

namespace Go.Proofs.YtamocioljeaicaaGreatDoor.MCd
open Go.RowKit Go.Proofs.YtamocioljeaicaaGreatDoor.Base Go.Proofs.YtamocioljeaicaaGreatDoor.VSm Go.Proofs.YtamocioljeaicaaGreatDoor.VRs Go.Proofs.YtamocioljeaicaaGreatDoor.MBx Go.Proofs.YtamocioljeaicaaGreatDoor.MSe Go.Proofs.YtamocioljeaicaaGreatDoor.MDo
set_option linter.unusedVariables false

theorem wp_tmps {P : Program} {c : Code} {Q : Exit → Act → World → Prop} {T : Array Value} (L : Array Value) {w : World} (e : T = L) (h : c.wp P Q { tmps := L, defers := [] } w) : c.wp P Q { tmps := T, defers := [] } w := by
  subst e; exact h
theorem as_no (w : World) : (Instr.typeAssert .nilIface 20 24 true).run Tryz.prog w = .ok (.tuple #[.int .i64 0, .bool false]) w := by
  simp [Instr.typeAssert, run_underlying Tryz.underlying24, Tryz.zeroValue24]
set_option maxRecDepth 20000 in
theorem catch_idle (p q : Addr) (w : World) :
    CallsD Tryz.prog 42 #[.pointer (some p), .pointer (some q)] .returning w fun e u' w' => e = .returned (.tuple #[]) ∧ u' = .returning ∧ w' = w := by
  refine callsD_of_wpS Tryz.func42 rfl fun c₀ cs hu => ?_
  apply wpS_seq
  apply wpS_region
  simp [wpOpsS, go_sem, recoverD, hu, Tryz.ntmps42, Exit.thenS, as_no]
  refine wpS_of_wp ?_
  refine wp_tmps (#[.pointer (some p), .pointer (some q), .int .i64 0, .bool false, .tuple #[.int .i64 0, .bool false], .nilIface, .tuple #[.int .i64 0, .bool false], .int .i64 0, .bool false, undef, undef, undef]) rfl ?_
  go_wp2
  cases c₀
  simp_all [bodyPostS, results, Tryz.results42]
abbrev nilS : Value := .slice none 0 0
/-- The closure that is caught. -/
abbrev clo (M B : Nat) : Value := .func (.func 36) #[] #[ptr M, ptr B]
set_option maxRecDepth 20000 in
set_option maxHeartbeats 1600000 in
theorem code1_c {K m M B : Nat} {w : World} {cv : Value} {r : C} (hcv : ∃ a n c, cv = .slice a n c) (hK : K ≤ M) (hM : M < w.heap.size) (hB : w.heap[B]? = some (.cells #[cv] 22 (0, 0))) (cR : ∀ W, Below w.heap.size w W → Calls Tryz.prog 37 #[ptr M, cv] W fun e w' => ∃ u, e = .returned u ∧ Base.In false (fun b => b < K) w' m u r ∧ Km M nilS W w') :
    Calls Tryz.prog 36 #[ptr M, ptr B] w fun e w' => ∃ u, e = .returned u ∧ Base.In false (fun b => b < K) w' m u r ∧ Km M nilS w w' := by
  obtain ⟨a, n, c, rfl⟩ := hcv
  obtain ⟨W0, hW0⟩ : ∃ W0, w.alloc (.cells #[.int .i64 0, .bool false, .int .i64 0, .string ⟨#[]⟩, .slice none 0 0, .slice none 0 0] 49) = W0 := ⟨_, rfl⟩
  have b0 : Below w.heap.size w W0 := by rw [← hW0]; exact (Below.refl _ w).alloc (Nat.le_refl _) _
  have s0 : W0.heap.size = w.heap.size + 1 := by rw [← hW0]; simp
  have x0 : W0.heap[w.heap.size]? = some (.cells #[.int .i64 0, .bool false, .int .i64 0, .string ⟨#[]⟩, .slice none 0 0, .slice none 0 0] 49 (0, 0)) := by rw [← hW0]; exact heap_alloc_new w _
  have hBl : B < w.heap.size := (Array.getElem?_eq_some_iff.1 hB).1
  have kB : W0.cell? ⟨B, 0, none⟩ = some (.slice a n c) := by
    have := (b0.block B hBl).trans hB
    simp [World.cell?, this]
  have c1 := cR W0 b0
  have HB0 : Hid _ := b0
  have HX0 : Hid _ := x0
  clear cR b0 x0 hB
  go_enter Tryz.func36, Tryz.ntmps36
  go_wp2_with fail
  try rw [hW0]
  refine c1.mono ?_
  rintro e W1 ⟨u, rfl, hin, k1⟩
  obtain ⟨an, ln, cn, al, ll, cl, rfl⟩ := in_shape hin
  have y1 := (k1.other w.heap.size (by omega) (by omega) (fun e => by cases e)).trans HX0.out
  obtain ⟨W9, hW9⟩ : ∃ W9, (((((W1.setCell ⟨w.heap.size, 0, none⟩ (.int .i64 r.k)).setCell ⟨w.heap.size, 1, none⟩ (.bool r.b)).setCell ⟨w.heap.size, 2, none⟩ (.int .i64 r.i)).setCell ⟨w.heap.size, 3, none⟩ (.string r.s)).setCell ⟨w.heap.size, 4, none⟩ (.slice an ln cn)).setCell ⟨w.heap.size, 5, none⟩ (.slice al ll cl) = W9 := ⟨_, rfl⟩
  obtain ⟨q1, q2, q3, q4⟩ := set6 _ _ _ _ _ _ y1 hW9
  have HE : Hid (∃ u, (Ending.returned (vl r.k r.b r.i r.s (.slice an ln cn) (.slice al ll cl)) = .returned u) ∧ Base.In false (fun b => b < K) W9 m u r ∧ Km M nilS w W9) := by
    have hk := (Km.of_below (pv := nilS) HB0.out (Nat.le_of_lt hM)).trans k1 (.inl rfl)
    exact ⟨_, rfl, hin.keep fun b hb _ => q2 b (by have : b < K := hb; omega), q4 _ _ (by omega) hk.below, fun b hb h1 h2 => (q2 b (by omega)).trans (hk.other b hb h1 h2)⟩
  have HQ1 : Hid _ := q1
  obtain ⟨v0', v1', v2', v3', v4', v5'⟩ := six_box y1
  have g0 := frozen_box y1 0
  have g1 := frozen_box y1 1
  have g2 := frozen_box y1 2
  have g3 := frozen_box y1 3
  have g4 := frozen_box y1 4
  have g5 := frozen_box y1 5
  clear hin k1 y1 q1 q2 q3 q4 c1
  go_wp2_with fail
  try rw [hW9]
  refine bodyPost_ret (results_cell_row rfl _ W9 w.heap.size 49 _ (0, 0) _ rfl HQ1.out Tryz.underlying49 rfl (by kernel_rfl)) rfl ?_
  exact HE.out
set_option maxRecDepth 20000 in
set_option maxHeartbeats 3200000 in
theorem caught_ok {K m M B : Nat} {w : World} {r : C} (hK : K ≤ M) (hM : M < w.heap.size) (cV : ∀ W, Below w.heap.size w W → Calls Tryz.prog 36 #[ptr M, ptr B] W fun e w' => ∃ u, e = .returned u ∧ Base.In false (fun b => b < K) w' m u r ∧ Km M nilS W w') :
    Calls Tryz.prog 35 #[clo M B] w fun e w' => ∃ u, e = .returned (.tuple #[u, .int .i64 0]) ∧ Base.In false (fun b => b < K) w' m u r ∧ Km M nilS w w' := by
  have hmf : ∀ (fn : Fn) (first cap : Array Value) (w : World), (Instr.makeFunc fn first cap).run Tryz.prog w = .ok (.func fn first cap) w := fun _ _ _ _ => rfl
  obtain ⟨W, hW⟩ : ∃ W, (w.alloc (.cells #[.int .i64 0, .bool false, .int .i64 0, .string ⟨#[]⟩, .slice none 0 0, .slice none 0 0] 49)).alloc (.cells #[.int .i64 0] 24) = W := ⟨_, rfl⟩
  have bW : Below w.heap.size w W := by rw [← hW]; exact ((Below.refl _ w).alloc (Nat.le_refl _) _).alloc (by simp) _
  have sW : W.heap.size = w.heap.size + 2 := by rw [← hW]; simp
  have zV : W.heap[w.heap.size]? = some (.cells #[.int .i64 0, .bool false, .int .i64 0, .string ⟨#[]⟩, .slice none 0 0, .slice none 0 0] 49 (0, 0)) := by rw [← hW, Below.heap_alloc _ _ _ (by simp), heap_alloc_new]
  have zM : W.heap[w.heap.size + 1]? = some (.cells #[.int .i64 0] 24 (0, 0)) := by
    rw [← hW]
    have := heap_alloc_new (w.alloc (.cells #[.int .i64 0, .bool false, .int .i64 0, .string ⟨#[]⟩, .slice none 0 0, .slice none 0 0] 49)) (.cells #[.int .i64 0] 24)
    rwa [World.size_alloc] at this
  have c1 := cV W bW
  have HB : Hid (Below w.heap.size w W) := bW
  have HV : Hid _ := zV
  have HM : Hid _ := zM
  clear bW zV zM cV
  go_enter_defers Tryz.func35, Tryz.ntmps35
  go_wp2_with fail
  try rw [hW]
  refine c1.mono ?_
  rintro e W1 ⟨u, rfl, hin, k1⟩
  obtain ⟨an, ln, cn, al, ll, cl, rfl⟩ := in_shape hin
  have v1 := (k1.other w.heap.size (by omega) (by omega) (fun e => by cases e)).trans HV.out
  have m1 := (k1.other (w.heap.size + 1) (by omega) (by omega) (fun e => by cases e)).trans HM.out
  have hk1 : Km M nilS w W1 := (Km.of_below (pv := nilS) HB.out (Nat.le_of_lt hM)).trans k1 (.inl rfl)
  obtain ⟨r0, r1, r2, r3, r4, r5⟩ := six_box v1
  have rf0 := frozen_box v1 0
  have rf1 := frozen_box v1 1
  have rf2 := frozen_box v1 2
  have rf3 := frozen_box v1 3
  have rf4 := frozen_box v1 4
  have rf5 := frozen_box v1 5
  obtain ⟨W2, hW2⟩ : ∃ W2, ((((((W1.setCell ⟨w.heap.size, 0, none⟩ (.int .i64 r.k)).setCell ⟨w.heap.size, 1, none⟩ (.bool r.b)).setCell ⟨w.heap.size, 2, none⟩ (.int .i64 r.i)).setCell ⟨w.heap.size, 3, none⟩ (.string r.s)).setCell ⟨w.heap.size, 4, none⟩ (.slice an ln cn)).setCell ⟨w.heap.size, 5, none⟩ (.slice al ll cl)) = W2 := ⟨_, rfl⟩
  obtain ⟨q1, q2, q3, q4⟩ := set6 _ _ _ _ _ _ v1 hW2
  have m2 : W2.heap[w.heap.size + 1]? = some (.cells #[.int .i64 0] 24 (0, 0)) := (q2 _ (by omega)).trans m1
  have e0 : W2.cell? ⟨w.heap.size + 1, 0, none⟩ = some (.int .i64 0) := by simp [World.cell?, m2]
  have ef := frozen_box m2 0
  obtain ⟨W3, hW3⟩ : ∃ W3, W2.setCell ⟨w.heap.size + 1, 0, none⟩ (.int .i64 0) = W3 := ⟨_, rfl⟩
  have m3 : W3.heap[w.heap.size + 1]? = some (.cells #[.int .i64 0] 24 (0, 0)) := by rw [← hW3]; simp [World.setCell, Array.getElem?_modify, m2]
  have o3 : ∀ b, b ≠ w.heap.size + 1 → W3.heap[b]? = W2.heap[b]? := fun b hb => by rw [← hW3, Below.heap_setCell _ _ _ _ (by simpa using hb)]
  have v3 : W3.heap[w.heap.size]? = some (.cells #[.int .i64 r.k, .bool r.b, .int .i64 r.i, .string r.s, .slice an ln cn, .slice al ll cl] 49 (0, 0)) := (o3 _ (by omega)).trans q1
  have HE : Hid (Base.In false (fun b => b < K) W3 m (vl r.k r.b r.i r.s (.slice an ln cn) (.slice al ll cl)) r ∧ Km M nilS w W3) := by
    refine ⟨hin.keep fun b hb _ => ?_, ?_, fun b hb h1 h2 => ?_⟩
    · rw [o3 b (by have : b < K := hb; omega), q2 b (by have : b < K := hb; omega)]
    · rw [← hW3]
      exact (q4 _ _ (by omega) hk1.below).setCell (p := ⟨w.heap.size + 1, 0, none⟩) (by show M ≤ w.heap.size + 1; omega) _
    · rw [o3 b (by omega), q2 b (by omega), hk1.other b hb h1 h2]
  obtain ⟨c0, c1', c2, c3, c4, c5⟩ := six_box v3
  have p0 : W3.cell? ⟨w.heap.size + 1, 0, none⟩ = some (.int .i64 0) := by simp [World.cell?, m3]
  clear hin q1 q2 q3 q4 m2 m3 v3 o3 v1 m1 k1 hk1 c1
  go_wp2_with fail
  refine leaves_cons (f := 42) (args := #[.pointer (some ⟨w.heap.size, 0, none⟩), .pointer (some ⟨w.heap.size + 1, 0, none⟩)]) (by simp) (by simp [go_sem]) ?_
  refine (catch_idle ⟨w.heap.size, 0, none⟩ ⟨w.heap.size + 1, 0, none⟩ W3).mono ?_
  rintro e u' w5 ⟨rfl, rfl, rfl⟩
  simp [Leaves, settle, results, Tryz.results35, go_sem, c0, c1', c2, c3, c4, c5, p0]
  exact HE.out
end Go.Proofs.YtamocioljeaicaaGreatDoor.MCd

namespace Go.Proofs.YtamocioljeaicaaGreatDoor.MCo
open Go.RowKit Go.Proofs.YtamocioljeaicaaGreatDoor.Base Go.Proofs.YtamocioljeaicaaGreatDoor.VSm Go.Proofs.YtamocioljeaicaaGreatDoor.VRs Go.Proofs.YtamocioljeaicaaGreatDoor.MBx Go.Proofs.YtamocioljeaicaaGreatDoor.MSe Go.Proofs.YtamocioljeaicaaGreatDoor.MDo Go.Proofs.YtamocioljeaicaaGreatDoor.MCd
set_option linter.unusedVariables false

set_option maxRecDepth 20000 in
set_option maxHeartbeats 3200000 in
theorem code_ok {m : Nat} {w : World} {r : C} {a1 a2 a3 : Option Addr} {n1 n2 n3 c1 c2 c3 : Nat} (cR : ∀ W, Below w.heap.size w W → Mc w.heap.size m W (w.heap.size + 2) (.slice a2 n2 c2) (.slice a3 n3 c3) nilS [] → Calls Tryz.prog 37 #[ptr (w.heap.size + 2), .slice a1 n1 c1] W fun e w' => ∃ u, e = .returned u ∧ Base.In false (fun b => b < w.heap.size) w' m u r ∧ Km (w.heap.size + 2) nilS W w') :
    Calls Tryz.prog 28 #[.slice a1 n1 c1, .slice a2 n2 c2, .slice a3 n3 c3] w fun e w' => ∃ u, e = .returned (.tuple #[u, .int .i64 0]) ∧ Base.In false (fun b => b < w.heap.size) w' m u r ∧ Below w.heap.size w w' := by
  have hmf : ∀ (fn : Fn) (first cap : Array Value) (w : World), (Instr.makeFunc fn first cap).run Tryz.prog w = .ok (.func fn first cap) w := fun _ _ _ _ => rfl
  obtain ⟨W, hW⟩ : ∃ W, ((w.alloc (.cells #[.slice a1 n1 c1] 22)).alloc (.cells #[.int .i64 0, .bool false, .int .i64 0, .string ⟨#[]⟩, .slice none 0 0, .slice none 0 0] 49)).alloc (.cells #[.slice a2 n2 c2, .slice a3 n3 c3, nilS] 64) = W := ⟨_, rfl⟩
  have bW : Below w.heap.size w W := by rw [← hW]; exact (((Below.refl _ w).alloc (Nat.le_refl _) _).alloc (by simp) _).alloc (by simp <;> omega) _
  have sW : W.heap.size = w.heap.size + 3 := by rw [← hW]; simp
  have z0 : W.heap[w.heap.size]? = some (.cells #[.slice a1 n1 c1] 22 (0, 0)) := by rw [← hW, Below.heap_alloc _ _ _ (by simp <;> omega), Below.heap_alloc _ _ _ (by simp), heap_alloc_new]
  have z1 : W.heap[w.heap.size + 1]? = some (.cells #[.int .i64 0, .bool false, .int .i64 0, .string ⟨#[]⟩, .slice none 0 0, .slice none 0 0] 49 (0, 0)) := by
    rw [← hW, Below.heap_alloc _ _ _ (by simp)]
    have := heap_alloc_new (w.alloc (.cells #[.slice a1 n1 c1] 22)) (.cells #[.int .i64 0, .bool false, .int .i64 0, .string ⟨#[]⟩, .slice none 0 0, .slice none 0 0] 49)
    rwa [World.size_alloc] at this
  have z2 : W.heap[w.heap.size + 2]? = some (.cells #[.slice a2 n2 c2, .slice a3 n3 c3, nilS] 64 (0, 0)) := by
    rw [← hW]
    have := heap_alloc_new ((w.alloc (.cells #[.slice a1 n1 c1] 22)).alloc (.cells #[.int .i64 0, .bool false, .int .i64 0, .string ⟨#[]⟩, .slice none 0 0, .slice none 0 0] 49)) (.cells #[.slice a2 n2 c2, .slice a3 n3 c3, nilS] 64)
    rwa [World.size_alloc, World.size_alloc] at this
  have mW : Mc w.heap.size m W (w.heap.size + 2) (.slice a2 n2 c2) (.slice a3 n3 c3) nilS [] := ⟨z2, by omega, [], ⟨World.ownsRow_nil _ _ _ _, fun u hu => by cases hu⟩, rfl, fun j hj => by cases hj⟩
  have cK := caught_ok (K := w.heap.size) (m := m) (M := w.heap.size + 2) (B := w.heap.size) (w := W) (r := r) (by omega) (by omega) (fun W1 b1 => code1_c ⟨_, _, _, rfl⟩ (by omega) (by have := b1.size; omega) ((b1.block w.heap.size (by omega)).trans z0) fun W2 b2 => cR W2 ((bW.trans (b1.mono (by omega))).trans (b2.mono (by have := b1.size; omega))) ((mW.below b1).below b2))
  have HB : Hid (Below w.heap.size w W) := bW
  have HZ : Hid _ := z1
  have HW : Hid (_ = W) := hW
  clear cR bW z0 z1 z2 mW hW
  go_enter Tryz.func28, Tryz.ntmps28
  go_wp2_with fail
  rw [HW.out]
  refine cK.mono ?_
  rintro e W1 ⟨u, rfl, hin, k1⟩
  obtain ⟨an, ln, cn, al, ll, cl, rfl⟩ := in_shape hin
  have y1 := (k1.other (w.heap.size + 1) (by omega) (by omega) (fun e => by cases e)).trans HZ.out
  obtain ⟨W9, hW9⟩ : ∃ W9, (((((W1.setCell ⟨w.heap.size + 1, 0, none⟩ (.int .i64 r.k)).setCell ⟨w.heap.size + 1, 1, none⟩ (.bool r.b)).setCell ⟨w.heap.size + 1, 2, none⟩ (.int .i64 r.i)).setCell ⟨w.heap.size + 1, 3, none⟩ (.string r.s)).setCell ⟨w.heap.size + 1, 4, none⟩ (.slice an ln cn)).setCell ⟨w.heap.size + 1, 5, none⟩ (.slice al ll cl) = W9 := ⟨_, rfl⟩
  obtain ⟨q1, q2, q3, q4⟩ := set6 _ _ _ _ _ _ y1 hW9
  have HE : Hid (Base.In false (fun b => b < w.heap.size) W9 m (vl r.k r.b r.i r.s (.slice an ln cn) (.slice al ll cl)) r ∧ Below w.heap.size w W9) := ⟨hin.keep fun b hb _ => q2 b (by have : b < w.heap.size := hb; omega), q4 _ _ (by omega) (HB.out.trans (k1.below.mono (by omega)))⟩
  have HQ1 : Hid _ := q1
  obtain ⟨v0', v1', v2', v3', v4', v5'⟩ := six_box y1
  have g0 := frozen_box y1 0
  have g1 := frozen_box y1 1
  have g2 := frozen_box y1 2
  have g3 := frozen_box y1 3
  have g4 := frozen_box y1 4
  have g5 := frozen_box y1 5
  clear hin k1 y1 q1 q2 q3 q4 cK
  go_wp2_with fail
  try rw [hW9]
  refine bodyPost_ret (Part.res_row_tmp rfl _ W9 (w.heap.size + 1) 49 _ (0, 0) _ rfl HQ1.out Tryz.underlying49 rfl (by kernel_rfl)) rfl ?_
  exact ⟨_, rfl, HE.out⟩
end Go.Proofs.YtamocioljeaicaaGreatDoor.MCo

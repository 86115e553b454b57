/- The machine that runs code: one instruction behind which the next one follows. -/
import Derived.Test.YtpaigpijaifeoaaGreatDoorMSe
namespace Go.Proofs.YtpaigpijaifeoaaGreatDoor.MDo
open Go.RowKit Go.Proofs.YtpaigpijaifeoaaGreatDoor.Base Go.Proofs.YtpaigpijaifeoaaGreatDoor.VSm Go.Proofs.YtpaigpijaifeoaaGreatDoor.VJn Go.Proofs.YtpaigpijaifeoaaGreatDoor.VRs Go.Proofs.YtpaigpijaifeoaaGreatDoor.VPk Go.Proofs.YtpaigpijaifeoaaGreatDoor.MBx Go.Proofs.YtpaigpijaifeoaaGreatDoor.MPu Go.Proofs.YtpaigpijaifeoaaGreatDoor.MSe
open Go.Proofs.YtpaigpijaifeoaaGreatDoor.VPure
set_option linter.unusedVariables false

/-- What do answers: the pile behind it, or an error thrown. -/
def DR (K m M : Nat) (tv sv pv : Value) (w : World) (X : Except Nat (List C)) (e : Ending) (w' : World) : Prop := match X with
  | .ok p => (∃ v, e = .returned v) ∧ ∃ pv', Mc K m w' M tv sv pv' p ∧ Km M pv w w' ∧ (pv'.ownBlock = pv.ownBlock ∨ ∃ g, pv'.ownBlock = some g ∧ w.heap.size ≤ g)
  | .error n => e = .panicked (pkE n) ∧ Km M pv w w'
/-- The tables stay, whatever is changed behind K. -/
def TK (K : Nat) (w : World) : Prop := ∀ W, Below K w W → Digits.Tab W
theorem TK.tb {K : Nat} {w W : World} (h : TK K w) (hb : Below K w W) (hK : K ≤ W.heap.size) : Tb W := fun W' hW' => h W' (hb.trans (hW'.mono hK))
theorem TK.below {K : Nat} {w W : World} (h : TK K w) (hb : Below K w W) : TK K W := fun W' hW' => h W' (hb.trans hW')
theorem box1 (w : World) (x y : Value) : ∃ W, w.alloc (.cells #[x, y] 78) = W ∧ Below w.heap.size w W ∧ W.heap.size = w.heap.size + 1 ∧ W.heap[w.heap.size]? = some (.cells #[x, y] 78 (0, 0)) :=
  ⟨_, rfl, (Below.refl _ w).alloc (Nat.le_refl _) _, by simp, heap_alloc_new w _⟩
/-- Put behind what only made new memory. -/
theorem put_on {K m M : Nat} {tv sv pv : Value} {w w1 w2 : World} {p : List C} {pv' : Value} (hM : M ≤ w.heap.size) (hb : Below w.heap.size w w1) (hm : Mc K m w2 M tv sv pv' p) (hk : Km M pv w1 w2) (he : pv'.ownBlock = pv.ownBlock ∨ ∃ g, pv'.ownBlock = some g ∧ w1.heap.size ≤ g) : ∃ pv', Mc K m w2 M tv sv pv' p ∧ Km M pv w w2 ∧ (pv'.ownBlock = pv.ownBlock ∨ ∃ g, pv'.ownBlock = some g ∧ w.heap.size ≤ g) :=
  ⟨pv', hm, (Km.of_below hb hM).trans hk (.inl rfl), he.imp id fun ⟨g, h1, h2⟩ => ⟨g, h1, by have := hb.size; omega⟩⟩
set_option maxRecDepth 20000 in
set_option maxHeartbeats 1600000 in
theorem do_int {K m : Nat} {w : World} {M : Nat} {tv sv pv : Value} {p : List C} (h : Mc K (m + 1) w M tv sv pv p) (hp : p.length ≤ 65536) {a : Int} (ha : -9223372036854775808 ≤ a ∧ a ≤ 9223372036854775807) :
    Calls Tryz.prog 101 #[ptr M, .agg #[.int .i64 4, .int .i64 a]] w fun e w' => DR K (m + 1) M tv sv pv w (.ok (p ++ [intC a])) e w' := by
  obtain ⟨W0, hW0, b0, s0, x0⟩ := box1 w (.int .i64 4) (.int .i64 a)
  obtain ⟨i0, i1⟩ := two_box x0
  have cN := number_c a W0
  have hiv : ∀ W, Base.In false (fun b => b < K) W (m + 1) (v0 3 false a ⟨#[]⟩) (intC a) := fun W => in_v0 _ W m false (by decide) ha (by decide)
  have HIV : Hid _ := hiv
  clear hiv
  have HH : Hid _ := h
  have HB0 : Hid _ := b0
  clear h b0 x0
  go_enter Tryz.func101, Tryz.ntmps101
  go_wp2_with fail
  try rw [hW0]
  refine cN.mono ?_
  rintro e W1 ⟨rfl, b1⟩
  have hb1 : Below w.heap.size w W1 := HB0.out.trans (b1.mono (by omega))
  have cP : Calls Tryz.prog 130 #[ptr M, v0 3 false a ⟨#[]⟩] W1 fun e w' => (∃ v, e = .returned v) ∧ ∃ pv', Mc K (m + 1) w' M tv sv pv' (p ++ [intC a]) ∧ Km M pv W1 w' ∧ (pv'.ownBlock = pv.ownBlock ∨ ∃ g, pv'.ownBlock = some g ∧ W1.heap.size ≤ g) := put_c (c := intC a) (HH.out.below hb1) hp (HIV.out W1)
  have HB1 : Hid _ := hb1
  clear cN b1 hb1
  go_wp2_with fail
  refine cP.mono ?_
  rintro e W2 ⟨⟨v, rfl⟩, pv', m2, k2, e2⟩
  have HE : Hid _ := put_on (Nat.le_of_lt HH.out.lt) HB1.out m2 k2 e2
  clear cP m2 k2 e2
  go_wp2_with fail
  go_end0
  exact ⟨⟨_, rfl⟩, HE.out⟩
set_option maxRecDepth 20000 in
set_option maxHeartbeats 3200000 in
theorem do_var {K m : Nat} {w : World} {M : Nat} {tv sv pv : Value} {p L : List C} (h : Mc K m w M tv sv pv p) (hp : p.length ≤ 65536) (hL : Base.InL false (fun b => b < K) w m sv L) {k : Nat} (hk : k < L.length) :
    Calls Tryz.prog 101 #[ptr M, .agg #[.int .i64 6, .int .i64 (k : Nat)]] w fun e w' => DR K m M tv sv pv w (.ok (p ++ [L[k]])) e w' := by
  obtain ⟨W0, hW0, b0, s0, x0⟩ := box1 w (.int .i64 6) (.int .i64 (k : Nat))
  obtain ⟨i0, i1⟩ := two_box x0
  obtain ⟨a, cap, rfl, hl1, hl2, -, -, hE⟩ := hL
  obtain ⟨g, o, u, rfl, hg, h6, hin⟩ := elem_at hE hk
  have hin0 := hin.below b0
  obtain ⟨an, ln, cn, al, ll, cl, rfl⟩ := in_shape hin
  obtain ⟨y0, y1, y2, y3, y4, y5, E, e0, e1, e2, e3, e4, e5⟩ := six_below h6 b0
  simp only [Value.agg.injEq, Array.mk.injEq, List.cons.injEq, and_true] at E
  obtain ⟨rfl, rfl, rfl, rfl, rfl, rfl⟩ := E
  have hlt := h.lt
  have hlow := h.low
  have kM : W0.cell? ⟨M, 1, none⟩ = some (.slice (some ⟨g, o, none⟩) L.length cap) := by
    have := (b0.block M hlt).trans h.box
    simp [World.cell?, this]
  have hi1 : (0 : Int) ≤ (k : Int) := by omega
  have hi2 : (k : Int) < (L.length : Int) := by omega
  have HH : Hid _ := h
  have HB0 : Hid _ := b0
  obtain ⟨c, hc⟩ : ∃ c, L[k] = c := ⟨_, rfl⟩
  rw [hc] at hin0 e0 e1 e2 e3 ⊢
  have hb0d : Below w.heap.size w W0.drew := ⟨b0.os, b0.tape, b0.output, b0.size, b0.block⟩
  have hin0 : Base.In false (fun b => b < K) W0.drew m (vl c.k c.b c.i c.s (.slice an ln cn) (.slice al ll cl)) c := Base.In.keep (w := W0) (w' := W0.drew) (fun _ _ _ => rfl) hin0
  have cP := put_c (HH.out.below hb0d) hp hin0
  have HB0d : Hid _ := hb0d
  have HX0 : Hid (W0.drew.heap[w.heap.size]? = some (.cells #[.int .i64 6, .int .i64 (k : Nat)] 78 (0, 0))) := x0
  have hpn : some w.heap.size ≠ pv.ownBlock := fun e => by have := HH.out.own_ne e.symm; omega
  have HPN : Hid _ := hpn
  have HLT : Hid (M < w.heap.size ∧ K ≤ M) := ⟨hlt, hlow⟩
  have H6 : Hid (∀ W, Km M pv W0.drew W → W.cell? ⟨g, o + k * 6, none⟩ = some (.int .i64 c.k) ∧ W.cell? ⟨g, o + k * 6 + 1, none⟩ = some (.bool c.b) ∧ W.cell? ⟨g, o + k * 6 + 2, none⟩ = some (.int .i64 c.i) ∧ W.cell? ⟨g, o + k * 6 + 3, none⟩ = some (.string c.s) ∧ W.cell? ⟨g, o + k * 6 + 4, none⟩ = some (.slice an ln cn) ∧ W.cell? ⟨g, o + k * 6 + 5, none⟩ = some (.slice al ll cl)) := fun W hW => by
    have hb : W.heap[g]? = W0.heap[g]? := hW.below.block g (by have : g < K := hg; omega)
    refine ⟨?_, ?_, ?_, ?_, ?_, ?_⟩
    · rw [World.cell?_of_block (w := W0) hb]; exact e0
    · rw [World.cell?_of_block (w := W0) hb]; exact e1
    · rw [World.cell?_of_block (w := W0) hb]; exact e2
    · rw [World.cell?_of_block (w := W0) hb]; exact e3
    · rw [World.cell?_of_block (w := W0) hb]; exact e4
    · rw [World.cell?_of_block (w := W0) hb]; exact e5
  clear hpn hb0d hlt hlow hg hc
  clear h b0 x0 hE hin h6 hin0
  go_enter Tryz.func101, Tryz.ntmps101
  go_wp2_with fail
  try rw [hW0]
  go_region_held3 (fun w' => (w'.cell? ⟨M, 1, none⟩ = some (.slice (some ⟨g, o, none⟩) L.length cap) ∧ w'.cell? ⟨w.heap.size, 1, none⟩ = some (.int .i64 (k : Nat))) ∧ (w'.cell? ⟨g, o + k * 6, none⟩ = some (.int .i64 c.k) ∧ w'.cell? ⟨g, o + k * 6 + 1, none⟩ = some (.bool c.b) ∧ w'.cell? ⟨g, o + k * 6 + 2, none⟩ = some (.int .i64 c.i) ∧ w'.cell? ⟨g, o + k * 6 + 3, none⟩ = some (.string c.s) ∧ w'.cell? ⟨g, o + k * 6 + 4, none⟩ = some (.slice an ln cn) ∧ w'.cell? ⟨g, o + k * 6 + 5, none⟩ = some (.slice al ll cl))) (go_keep) (first
    | (go_at_call 130; refine cP.mono ?_; rintro e W2 ⟨⟨v, rfl⟩, pv', m2, k2, e2'⟩; have n1 : W2.cell? ⟨M, 1, none⟩ = some (.slice (some ⟨g, o, none⟩) L.length cap) := (by simp [World.cell?, m2.box]); obtain ⟨-, n2⟩ := two_box ((k2.other w.heap.size (by have : W0.drew.heap.size = w.heap.size + 1 := s0; omega) (by have := HLT.out; omega) HPN.out).trans HX0.out); obtain ⟨n3, n4, n5, n6, n7, n8⟩ := H6.out W2 k2))
  have HE : Hid _ := put_on (Nat.le_of_lt HH.out.lt) HB0d.out m2 k2 e2'
  clear cP m2 k2 e2'
  go_wp2_with fail
  go_end0
  exact ⟨⟨_, rfl⟩, HE.out⟩
end Go.Proofs.YtpaigpijaifeoaaGreatDoor.MDo

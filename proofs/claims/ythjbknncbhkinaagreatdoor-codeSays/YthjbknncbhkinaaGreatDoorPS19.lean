import Derived.Test.YthjbknncbhkinaaGreatDoorPS18
open Go.Proofs.Tryz
set_option linter.unusedVariables false
set_option maxRecDepth 20000
set_option maxHeartbeats 6400000
namespace Go.Proofs.YthjbknncbhkinaaGreatDoor.MSe
open Go.RowKit Base VSm VRs MBx
open VPure
def Tz (K : Nat) (w : World) (tv : Value) (T : List ByteArray) : Prop := ∃ a cap, tv = .slice a T.length cap /\ T.length <= cap /\ cap <= 9223372036854775807 /\ (T = [] \/ ∃ g o, a = some ⟨g, o, none⟩ /\ g < K /\ ∀ j (h : j < T.length), w.cell? ⟨g, o + j, none⟩ = some (.string T[j]) /\ T[j].size <= 140737488351232)
theorem Tz.below {K : Nat} {w w' : World} {tv : Value} {T : List ByteArray} (h : Tz K w tv T) (hb : Below K w w') : Tz K w' tv T := by
 obtain ⟨a, cap, h1, h2, h3, h4⟩ := h
 refine ⟨a, cap, h1, h2, h3, ?_⟩
 rcases h4 with h4 | ⟨g, o, ha, hg, hc⟩
 ·exact .inl h4
 ·exact .inr ⟨g, o, ha, hg, fun j hj => ⟨(World.cell?_of_block (w := w) (hb.block g hg)).trans (hc j hj).1, (hc j hj).2⟩⟩
def SR (K m M : Nat) (tv sv pv : Value) (w : World) (b : C) (p : List C) (e : Ending) (w' : World) : Prop := ∃ u pv', e = .returned u /\ Base.In false (fun b => b < K) w' m u b /\ Mc K m w' M tv sv pv' p /\ Km M pv w w' /\ pv'.ownBlock = pv.ownBlock
theorem two_box {w : World} {B : Nat} {t : TypeId} {x y : Value} (h : w.heap[B]? = some (.cells #[x, y] t (0, 0))) : w.cell? ⟨B, 0, none⟩ = some x /\ w.cell? ⟨B, 1, none⟩ = some y := by
 constructor <;> simp [World.cell?, h]
theorem boxes (w : World) (x y : Value) : ∃ W0, (w.alloc (.cells #[x, y] 57)).alloc (.cells #[.int .i64 0, .bool false, .int .i64 0, .string ⟨#[]⟩, .slice none 0 0, .slice none 0 0] 46) = W0 /\ W0.heap.size = w.heap.size + 2 /\ Below w.heap.size w W0 /\ W0.heap[w.heap.size]? = some (.cells #[x, y] 57 (0, 0)) /\ W0.heap[w.heap.size + 1]? = some (.cells #[.int .i64 0, .bool false, .int .i64 0, .string ⟨#[]⟩, .slice none 0 0, .slice none 0 0] 46 (0, 0)) := by
 refine ⟨_, rfl, by simp, ((Below.refl _ w).alloc (Nat.le_refl _) _).alloc (by simp) _, ?_, ?_⟩
 ·rw [Below.heap_alloc _ _ _ (by simp), heap_alloc_new]
 ·have := heap_alloc_new (w.alloc (.cells #[x, y] 57)) (.cells #[.int .i64 0, .bool false, .int .i64 0, .string ⟨#[]⟩, .slice none 0 0, .slice none 0 0] 46)
  rwa [World.size_alloc] at this
theorem second_take {K m : Nat} {w : World} {M : Nat} {tv sv pv : Value} {p : List C} {b : C} (h : Mc K m w M tv sv pv (p ++ [b])) (hp : p.length <= 65536) {o a : Int} (ho : o ≠ 7 /\ o ≠ 9 /\ o ≠ 10 /\ o ≠ 11) :
  Calls prog 102 #[ptr M, .agg #[.int .i64 o, .int .i64 a]] w fun e w' => SR K m M tv sv pv w b p e w' := by
 obtain ⟨W0, hW0, s0, b0, x0, y0⟩ := boxes w (.int .i64 o) (.int .i64 a)
 obtain ⟨i0, i1⟩ := two_box x0
 have cT := take_c (h.below b0) hp
 have HLT : Hid (M < w.heap.size /\ K <= M) := ⟨h.lt, h.low⟩
 have HH : Hid _ := h
 have HB0 : Hid _ := b0
 have HY0 : Hid _ := y0
 have d7 : (o == 7) = false := by simp [ho.1]
 have d9 : (o == 9) = false := by simp [ho.2.1]
 have d10 : (o == 10) = false := by simp [ho.2.2.1]
 have d11 : (o == 11) = false := by simp [ho.2.2.2]
 clear h b0 x0 y0 ho
 go_enter func102, ntmps102
 go_wp2_with fail
 try rw [hW0]
 refine cT.mono ?_
 rintro e W1 ⟨u, pv', rfl, hin, m1, k1, e1⟩
 obtain ⟨an, ln, cn, al, ll, cl, rfl⟩ := in_shape hin
 have hne : some (w.heap.size + 1) ≠ pv.ownBlock := fun e => by have := HH.out.own_ne e.symm; omega
 have y1 := (k1.other (w.heap.size + 1) (by omega) (by have := HLT.out; omega) hne).trans HY0.out
 obtain ⟨W9, hW9⟩ : ∃ W9, (((((W1.setCell ⟨w.heap.size + 1, 0, none⟩ (.int .i64 b.k)).setCell ⟨w.heap.size + 1, 1, none⟩ (.bool b.b)).setCell ⟨w.heap.size + 1, 2, none⟩ (.int .i64 b.i)).setCell ⟨w.heap.size + 1, 3, none⟩ (.string b.s)).setCell ⟨w.heap.size + 1, 4, none⟩ (.slice an ln cn)).setCell ⟨w.heap.size + 1, 5, none⟩ (.slice al ll cl) = W9 := ⟨_, rfl⟩
 obtain ⟨q1, q2, q3, q4⟩ := set6 _ _ _ _ _ _ y1 hW9
 have HE : Hid (SR K m M tv sv pv w b p (.returned (vl b.k b.b b.i b.s (.slice an ln cn) (.slice al ll cl))) W9) := by
  have hlt := HLT.out
  refine ⟨_, pv', rfl, hin.keep fun c hc _ => q2 c (by have : c < K := hc; omega), m1.keep fun c hc hc2 => q2 c ?_, ⟨q4 _ _ (by omega) ((HB0.out.mono (by omega)).trans k1.below), fun c hc h1 h2 => ?_⟩, e1⟩
  ·rcases hc2 with hc2 | hc2 | hc2
   ·omega
   ·omega
   ·rw [e1] at hc2
    intro e
    subst e
    exact hne hc2.symm
  ·rw [q2 c (by omega), k1.other c (by omega) h1 h2, HB0.out.block c hc]
 have HQ1 : Hid _ := q1
 obtain ⟨v0', v1', v2', v3', v4', v5'⟩ := six_box y1
 have g0 := frozen_box y1 0
 have g1 := frozen_box y1 1
 have g2 := frozen_box y1 2
 have g3 := frozen_box y1 3
 have g4 := frozen_box y1 4
 have g5 := frozen_box y1 5
 clear hin m1 k1 e1 y1 q1 q2 q3 q4 cT hne
 go_wp2_with fail
 try rw [hW9]
 refine bodyPost_ret (results_cell_row rfl _ W9 (w.heap.size + 1) 46 _ (0, 0) _ rfl HQ1.out underlying46 rfl (by kernel_rfl)) rfl ?_
 exact HE.out
theorem second_text {K m : Nat} {w : World} {M : Nat} {tv sv pv : Value} {p : List C} (h : Mc K (m + 1) w M tv sv pv p) {T : List ByteArray} (hT : Tz K w tv T) {k : Nat} (hk : k < T.length) :
  Calls prog 102 #[ptr M, .agg #[.int .i64 7, .int .i64 (k : Nat)]] w fun e w' => SR K (m + 1) M tv sv pv w (strC T[k]) p e w' := by
 obtain ⟨W0, hW0, s0, b0, x0, y0⟩ := boxes w (.int .i64 7) (.int .i64 (k : Nat))
 obtain ⟨i0, i1⟩ := two_box x0
 obtain ⟨a, cap, rfl, h1, h2, hL⟩ := hT
 obtain ⟨g, o, rfl, hg, hc⟩ : ∃ g o, a = some ⟨g, o, none⟩ /\ g < K /\ ∀ j (h : j < T.length), w.cell? ⟨g, o + j, none⟩ = some (.string T[j]) /\ T[j].size <= 140737488351232 := by
  rcases hL with rfl | hL
  ·simp at hk
  ·exact hL
 obtain ⟨c0, hsz⟩ := hc k hk
 have hlt := h.lt
 have hlow := h.low
 have kM : W0.cell? ⟨M, 0, none⟩ = some (.slice (some ⟨g, o, none⟩) T.length cap) := by
  have := (b0.block M hlt).trans h.box
  simp [World.cell?, this]
 have c0 := below_cell c0 b0
 have HKP : Hid (∀ W, Below W0.heap.size W0 W -> W.cell? ⟨M, 0, none⟩ = some (.slice (some ⟨g, o, none⟩) T.length cap) /\ W.cell? ⟨w.heap.size, 1, none⟩ = some (.int .i64 (k : Nat)) /\ W.cell? ⟨g, o + k, none⟩ = some (.string T[k])) := fun W hW => ⟨below_cell kM hW, below_cell i1 hW, below_cell c0 hW⟩
 have hi1 : (0 : Int) <= (k : Int) := by omega
 have hi2 : (k : Int) < (T.length : Int) := by omega
 have HLT : Hid (M < w.heap.size /\ K <= M) := ⟨hlt, hlow⟩
 have HH : Hid _ := h
 have HB0 : Hid _ := b0
 have HY0 : Hid _ := y0
 have hgn : g ≠ w.heap.size + 1 := by omega
 have hgm : w.heap.size + 1 ≠ g := by omega
 have hMn : M ≠ w.heap.size + 1 := by omega
 have hMm : w.heap.size + 1 ≠ M := by omega
 obtain ⟨s, hs⟩ : ∃ s, T[k] = s := ⟨_, rfl⟩
 rw [hs] at c0 hsz HKP ⊢
 have hin0 : ∀ W, Base.In false (fun b => b < K) W (m + 1) (v0 4 false 0 s) (strC s) := fun W => in_v0 _ W m false (by decide) (by decide) hsz
 have HIN : Hid _ := hin0
 clear h b0 x0 y0 hL hc hs hin0 hg
 go_enter func102, ntmps102
 go_wp2_with fail
 try rw [hW0]
 go_region_held3 (fun w' => w'.cell? ⟨M, 0, none⟩ = some (.slice (some ⟨g, o, none⟩) T.length cap) /\ w'.cell? ⟨w.heap.size, 1, none⟩ = some (.int .i64 (k : Nat)) /\ w'.cell? ⟨g, o + k, none⟩ = some (.string s)) (go_keep) (first
  | (go_at_call 86; refine (text_c s _).mono ?_; rintro e W1 ⟨rfl, b1⟩; have b1 : Below W0.heap.size W0 W1 := (((Below.refl _ W0).drew).trans b1); obtain ⟨n0, n1, n2⟩ := HKP.out W1 b1; have y1 := (b1.block (w.heap.size + 1) (by omega)).trans HY0.out; obtain ⟨v0', v1', v2', v3', v4', v5'⟩ := six_box y1; have g0 := frozen_box y1 0; have g1 := frozen_box y1 1; have g2 := frozen_box y1 2; have g3 := frozen_box y1 3; have g4 := frozen_box y1 4; have g5 := frozen_box y1 5))
 obtain ⟨W9, hW9⟩ : ∃ W9, (((((W1.setCell ⟨w.heap.size + 1, 0, none⟩ (.int .i64 4)).setCell ⟨w.heap.size + 1, 1, none⟩ (.bool false)).setCell ⟨w.heap.size + 1, 2, none⟩ (.int .i64 0)).setCell ⟨w.heap.size + 1, 3, none⟩ (.string s)).setCell ⟨w.heap.size + 1, 4, none⟩ (.slice none 0 0)).setCell ⟨w.heap.size + 1, 5, none⟩ (.slice none 0 0) = W9 := ⟨_, rfl⟩
 obtain ⟨q1, q2, q3, q4⟩ := set6 _ _ _ _ _ _ y1 hW9
 have HE : Hid (SR K (m + 1) M (.slice (some ⟨g, o, none⟩) T.length cap) sv pv w (strC s) p (.returned (v0 4 false 0 s)) W9) := by
  have hlt := HLT.out
  have hb : Below w.heap.size w W1 := HB0.out.trans (b1.mono (by omega))
  refine ⟨_, pv, rfl, HIN.out W9, (HH.out.below hb).keep fun c hc hc2 => q2 c ?_, ⟨q4 _ _ (by omega) (hb.mono (by omega)), fun c hc h1 h2 => ?_⟩, rfl⟩
  ·rcases hc2 with hc2 | hc2 | hc2
   ·omega
   ·omega
   ·have := HH.out.own_ne hc2; omega
  ·rw [q2 c (by omega), hb.block c hc]
 have HQ1 : Hid _ := q1
 clear q1 q2 q3 q4 b1 y1
 go_wp2_with fail
 try rw [hW9]
 refine bodyPost_ret (results_cell_row rfl _ W9 (w.heap.size + 1) 46 _ (0, 0) _ rfl HQ1.out underlying46 rfl (by kernel_rfl)) rfl ?_
 exact HE.out
end Go.Proofs.YthjbknncbhkinaaGreatDoor.MSe
namespace Go.Proofs.YthjbknncbhkinaaGreatDoor.MDo
open Go.RowKit Base VSm VJn VRs MBx MPu MSe
open VPure
def DR (K m M : Nat) (tv sv pv : Value) (w : World) (X : Except Nat (List C)) (e : Ending) (w' : World) : Prop := match X with
 | .ok p => (∃ v, e = .returned v) /\ ∃ pv', Mc K m w' M tv sv pv' p /\ Km M pv w w' /\ (pv'.ownBlock = pv.ownBlock \/ ∃ g, pv'.ownBlock = some g /\ w.heap.size <= g)
 | .error n => e = .panicked (pkE n) /\ Km M pv w w'
def TK (K : Nat) (w : World) : Prop := ∀ W, Below K w W -> Digits.Tab W
theorem TK.tb {K : Nat} {w W : World} (h : TK K w) (hb : Below K w W) (hK : K <= W.heap.size) : Tb W := fun W' hW' => h W' (hb.trans (hW'.mono hK))
theorem TK.below {K : Nat} {w W : World} (h : TK K w) (hb : Below K w W) : TK K W := fun W' hW' => h W' (hb.trans hW')
theorem box1 (w : World) (x y : Value) : ∃ W, w.alloc (.cells #[x, y] 57) = W /\ Below w.heap.size w W /\ W.heap.size = w.heap.size + 1 /\ W.heap[w.heap.size]? = some (.cells #[x, y] 57 (0, 0)) :=
 ⟨_, rfl, (Below.refl _ w).alloc (Nat.le_refl _) _, by simp, heap_alloc_new w _⟩
theorem put_on {K m M : Nat} {tv sv pv : Value} {w w1 w2 : World} {p : List C} {pv' : Value} (hM : M <= w.heap.size) (hb : Below w.heap.size w w1) (hm : Mc K m w2 M tv sv pv' p) (hk : Km M pv w1 w2) (he : pv'.ownBlock = pv.ownBlock \/ ∃ g, pv'.ownBlock = some g /\ w1.heap.size <= g) : ∃ pv', Mc K m w2 M tv sv pv' p /\ Km M pv w w2 /\ (pv'.ownBlock = pv.ownBlock \/ ∃ g, pv'.ownBlock = some g /\ w.heap.size <= g) :=
 ⟨pv', hm, (Km.of_below hb hM).trans hk (.inl rfl), he.imp id fun ⟨g, h1, h2⟩ => ⟨g, h1, by have := hb.size; omega⟩⟩
theorem do_int {K m : Nat} {w : World} {M : Nat} {tv sv pv : Value} {p : List C} (h : Mc K (m + 1) w M tv sv pv p) (hp : p.length <= 65536) {a : Int} (ha : -9223372036854775808 <= a /\ a <= 9223372036854775807) :
  Calls prog 82 #[ptr M, .agg #[.int .i64 4, .int .i64 a]] w fun e w' => DR K (m + 1) M tv sv pv w (.ok (p ++ [intC a])) e w' := by
 obtain ⟨W0, hW0, b0, s0, x0⟩ := box1 w (.int .i64 4) (.int .i64 a)
 obtain ⟨i0, i1⟩ := two_box x0
 have cN := number_c a W0
 have hiv : ∀ W, Base.In false (fun b => b < K) W (m + 1) (v0 3 false a ⟨#[]⟩) (intC a) := fun W => in_v0 _ W m false (by decide) ha (by decide)
 have HIV : Hid _ := hiv
 clear hiv
 have HH : Hid _ := h
 have HB0 : Hid _ := b0
 clear h b0 x0
 go_enter func82, ntmps82
 go_wp2_with fail
 try rw [hW0]
 refine cN.mono ?_
 rintro e W1 ⟨rfl, b1⟩
 have hb1 : Below w.heap.size w W1 := HB0.out.trans (b1.mono (by omega))
 have cP : Calls prog 101 #[ptr M, v0 3 false a ⟨#[]⟩] W1 fun e w' => (∃ v, e = .returned v) /\ ∃ pv', Mc K (m + 1) w' M tv sv pv' (p ++ [intC a]) /\ Km M pv W1 w' /\ (pv'.ownBlock = pv.ownBlock \/ ∃ g, pv'.ownBlock = some g /\ W1.heap.size <= g) := put_c (c := intC a) (HH.out.below hb1) hp (HIV.out W1)
 have HB1 : Hid _ := hb1
 clear cN b1 hb1
 go_wp2_with fail
 refine cP.mono ?_
 rintro e W2 ⟨⟨v, rfl⟩, pv', m2, k2, e2⟩
 have HE : Hid _ := put_on (Nat.le_of_lt HH.out.lt) HB1.out m2 k2 e2
 clear cP m2 k2 e2
 go_wp2_with fail
 go_end0
 exact ⟨⟨_, rfl⟩, HE.out⟩
theorem do_var {K m : Nat} {w : World} {M : Nat} {tv sv pv : Value} {p L : List C} (h : Mc K m w M tv sv pv p) (hp : p.length <= 65536) (hL : Base.InL false (fun b => b < K) w m sv L) {k : Nat} (hk : k < L.length) :
  Calls prog 82 #[ptr M, .agg #[.int .i64 6, .int .i64 (k : Nat)]] w fun e w' => DR K m M tv sv pv w (.ok (p ++ [L[k]])) e w' := by
 obtain ⟨W0, hW0, b0, s0, x0⟩ := box1 w (.int .i64 6) (.int .i64 (k : Nat))
 obtain ⟨i0, i1⟩ := two_box x0
 obtain ⟨a, cap, rfl, hl1, hl2, -, -, hE⟩ := hL
 obtain ⟨g, o, u, rfl, hg, h6, hin⟩ := elem_at hE hk
 have hin0 := hin.below b0
 obtain ⟨an, ln, cn, al, ll, cl, rfl⟩ := in_shape hin
 obtain ⟨y0, y1, y2, y3, y4, y5, E, e0, e1, e2, e3, e4, e5⟩ := six_below h6 b0
 simp only [Value.agg.injEq, Array.mk.injEq, List.cons.injEq, and_true] at E
 obtain ⟨rfl, rfl, rfl, rfl, rfl, rfl⟩ := E
 have hlt := h.lt
 have hlow := h.low
 have kM : W0.cell? ⟨M, 1, none⟩ = some (.slice (some ⟨g, o, none⟩) L.length cap) := by
  have := (b0.block M hlt).trans h.box
  simp [World.cell?, this]
 have hi1 : (0 : Int) <= (k : Int) := by omega
 have hi2 : (k : Int) < (L.length : Int) := by omega
 have HH : Hid _ := h
 have HB0 : Hid _ := b0
 obtain ⟨c, hc⟩ : ∃ c, L[k] = c := ⟨_, rfl⟩
 rw [hc] at hin0 e0 e1 e2 e3 ⊢
 have hb0d : Below w.heap.size w W0.drew := ⟨b0.os, b0.tape, b0.output, b0.size, b0.block⟩
 have hin0 : Base.In false (fun b => b < K) W0.drew m (vl c.k c.b c.i c.s (.slice an ln cn) (.slice al ll cl)) c := Base.In.keep (w := W0) (w' := W0.drew) (fun _ _ _ => rfl) hin0
 have cP := put_c (HH.out.below hb0d) hp hin0
 have HB0d : Hid _ := hb0d
 have HX0 : Hid (W0.drew.heap[w.heap.size]? = some (.cells #[.int .i64 6, .int .i64 (k : Nat)] 57 (0, 0))) := x0
 have hpn : some w.heap.size ≠ pv.ownBlock := fun e => by have := HH.out.own_ne e.symm; omega
 have HPN : Hid _ := hpn
 have HLT : Hid (M < w.heap.size /\ K <= M) := ⟨hlt, hlow⟩
 have H6 : Hid (∀ W, Km M pv W0.drew W -> W.cell? ⟨g, o + k * 6, none⟩ = some (.int .i64 c.k) /\ W.cell? ⟨g, o + k * 6 + 1, none⟩ = some (.bool c.b) /\ W.cell? ⟨g, o + k * 6 + 2, none⟩ = some (.int .i64 c.i) /\ W.cell? ⟨g, o + k * 6 + 3, none⟩ = some (.string c.s) /\ W.cell? ⟨g, o + k * 6 + 4, none⟩ = some (.slice an ln cn) /\ W.cell? ⟨g, o + k * 6 + 5, none⟩ = some (.slice al ll cl)) := fun W hW => by
  have hb : W.heap[g]? = W0.heap[g]? := hW.below.block g (by have : g < K := hg; omega)
  refine ⟨?_, ?_, ?_, ?_, ?_, ?_⟩
  ·rw [World.cell?_of_block (w := W0) hb]; exact e0
  ·rw [World.cell?_of_block (w := W0) hb]; exact e1
  ·rw [World.cell?_of_block (w := W0) hb]; exact e2
  ·rw [World.cell?_of_block (w := W0) hb]; exact e3
  ·rw [World.cell?_of_block (w := W0) hb]; exact e4
  ·rw [World.cell?_of_block (w := W0) hb]; exact e5
 clear hpn hb0d hlt hlow hg hc
 clear h b0 x0 hE hin h6 hin0
 go_enter func82, ntmps82
 go_wp2_with fail
 try rw [hW0]
 go_region_held3 (fun w' => (w'.cell? ⟨M, 1, none⟩ = some (.slice (some ⟨g, o, none⟩) L.length cap) /\ w'.cell? ⟨w.heap.size, 1, none⟩ = some (.int .i64 (k : Nat))) /\ (w'.cell? ⟨g, o + k * 6, none⟩ = some (.int .i64 c.k) /\ w'.cell? ⟨g, o + k * 6 + 1, none⟩ = some (.bool c.b) /\ w'.cell? ⟨g, o + k * 6 + 2, none⟩ = some (.int .i64 c.i) /\ w'.cell? ⟨g, o + k * 6 + 3, none⟩ = some (.string c.s) /\ w'.cell? ⟨g, o + k * 6 + 4, none⟩ = some (.slice an ln cn) /\ w'.cell? ⟨g, o + k * 6 + 5, none⟩ = some (.slice al ll cl))) (go_keep) (first
  | (go_at_call 101; refine cP.mono ?_; rintro e W2 ⟨⟨v, rfl⟩, pv', m2, k2, e2'⟩; have n1 : W2.cell? ⟨M, 1, none⟩ = some (.slice (some ⟨g, o, none⟩) L.length cap) := (by simp [World.cell?, m2.box]); obtain ⟨-, n2⟩ := two_box ((k2.other w.heap.size (by have : W0.drew.heap.size = w.heap.size + 1 := s0; omega) (by have := HLT.out; omega) HPN.out).trans HX0.out); obtain ⟨n3, n4, n5, n6, n7, n8⟩ := H6.out W2 k2))
 have HE : Hid _ := put_on (Nat.le_of_lt HH.out.lt) HB0d.out m2 k2 e2'
 clear cP m2 k2 e2'
 go_wp2_with fail
 go_end0
 exact ⟨⟨_, rfl⟩, HE.out⟩
end Go.Proofs.YthjbknncbhkinaaGreatDoor.MDo
namespace Go.Proofs.YthjbknncbhkinaaGreatDoor.MDp
open Go.RowKit Base VSm VRs VPk MBx MPu MSe MDo
open VPure
theorem pair_ok {K m : Nat} {w : World} {M : Nat} {tv sv pv : Value} {p q : List C} {x y v : C} {o a : Int} (h : Mc K (m + 1) w M tv sv pv p) (hq : q.length <= 65536) (hT : TK K w) (hP : PairOk o) (hd : o ≠ 1 /\ o ≠ 2 /\ o ≠ 3 /\ o ≠ 4 /\ o ≠ 5 /\ o ≠ 6 /\ o ≠ 29) (hwf : wf x) (hX : pr2 o x y = .ok v)
  (cS : ∀ W, Below w.heap.size w W -> Calls prog 102 #[ptr M, .agg #[.int .i64 o, .int .i64 a]] W fun e w' => SR K (m + 1) M tv sv pv W y (q ++ [x]) e w') :
  Calls prog 82 #[ptr M, .agg #[.int .i64 o, .int .i64 a]] w fun e w' => DR K (m + 1) M tv sv pv w (.ok (q ++ [v])) e w' := by
 obtain ⟨W0, hW0, b0, s0, x0⟩ := box1 w (.int .i64 o) (.int .i64 a)
 obtain ⟨i0, i1⟩ := two_box x0
 have c2 := cS W0 b0
 have HH : Hid _ := h
 have HB0 : Hid _ := b0
 have HX0 : Hid _ := x0
 have HT : Hid (TK K w) := hT
 have HP : Hid (PairOk o) := hP
 have HWF : Hid (wf x) := hwf
 have HXX : Hid (pr2 o x y = .ok v) := hX
 have hlt := h.lt
 have hlow := h.low
 obtain ⟨e1, e2, e3, e4, e5, e6, e29⟩ := hd
 have d1 : (o == 1) = false := by simp [e1]
 have d2 : (o == 2) = false := by simp [e2]
 have d3 : (o == 3) = false := by simp [e3]
 have d4 : (o == 4) = false := by simp [e4]
 have d5 : (o == 5) = false := by simp [e5]
 have d6 : (o == 6) = false := by simp [e6]
 have d29 : (o == 29) = false := by simp [e29]
 clear h b0 x0 hT hP hwf hX cS e1 e2 e3 e4 e5 e6 e29
 go_enter func82, ntmps82
 go_wp2_with fail
 try rw [hW0]
 refine c2.mono ?_
 rintro e W1 ⟨u, pv1, rfl, hin1, m1, k1, e1⟩
 obtain ⟨an, ln, cn, al, ll, cl, rfl⟩ := in_shape hin1
 have hs1 := k1.below.size
 have hn0 : some w.heap.size ≠ pv.ownBlock := fun e => by have := HH.out.own_ne e.symm; omega
 have x1 := (k1.other w.heap.size (by omega) (by omega) hn0).trans HX0.out
 obtain ⟨W2, hW2⟩ : ∃ W2, W1.alloc (.cells #[.int .i64 y.k, .bool y.b, .int .i64 y.i, .string y.s, .slice an ln cn, .slice al ll cl] 46) = W2 := ⟨_, rfl⟩
 have b2 : Below W1.heap.size W1 W2 := by rw [<- hW2]; exact (Below.refl _ W1).alloc (Nat.le_refl _) _
 have s2 : W2.heap.size = W1.heap.size + 1 := by rw [<- hW2]; simp
 have y2 : W2.heap[W1.heap.size]? = some (.cells #[.int .i64 y.k, .bool y.b, .int .i64 y.i, .string y.s, .slice an ln cn, .slice al ll cl] 46 (0, 0)) := by rw [<- hW2]; exact heap_alloc_new W1 _
 have x2 := (b2.block _ (by omega)).trans x1
 obtain ⟨j0, j1⟩ := two_box x2
 obtain ⟨z0, z1, z2, z3, z4, z5⟩ := six_box y2
 have b2d : Below W1.heap.size W1 W2.drew := ⟨b2.os, b2.tape, b2.output, b2.size, b2.block⟩
 have m2 : Mc K (m + 1) W2.drew M tv sv pv1 (q ++ [x]) := m1.below b2d
 have cT := take_c m2 hq
 have hn1 : some W1.heap.size ≠ pv1.ownBlock := fun e => by have := m1.own_ne e.symm; omega
 have HS : Hid (∀ W, Km M pv1 W2.drew W -> W.cell? ⟨w.heap.size, 0, none⟩ = some (.int .i64 o) /\ (W.cell? ⟨W1.heap.size, 0, none⟩ = some (.int .i64 y.k) /\ W.cell? ⟨W1.heap.size, 1, none⟩ = some (.bool y.b) /\ W.cell? ⟨W1.heap.size, 2, none⟩ = some (.int .i64 y.i) /\ W.cell? ⟨W1.heap.size, 3, none⟩ = some (.string y.s) /\ W.cell? ⟨W1.heap.size, 4, none⟩ = some (.slice an ln cn) /\ W.cell? ⟨W1.heap.size, 5, none⟩ = some (.slice al ll cl))) := fun W hW =>
  ⟨(two_box ((hW.other w.heap.size (by show w.heap.size < W2.heap.size; omega) (by omega) (by rw [e1]; exact hn0)).trans x2)).1, six_box ((hW.other W1.heap.size (by show W1.heap.size < W2.heap.size; omega) (by omega) hn1).trans y2)⟩
 have HB1 : Hid (Below M w W2.drew) := ((HB0.out.mono (by omega)).trans k1.below).trans (b2d.mono (by omega))
 have HK1 : Hid (Km M pv w W2.drew) := ((Km.of_below HB0.out (by omega)).trans k1 (.inl rfl)).trans (Km.of_below b2d (by omega)) (.inl rfl)
 have HI1 : Hid (Base.In false (fun b => b < K) W2.drew (m + 1) (vl y.k y.b y.i y.s (.slice an ln cn) (.slice al ll cl)) y) := hin1.below b2d
 have HE1 : Hid (pv1.ownBlock = pv.ownBlock) := e1
 have hs2d : W2.drew.heap.size = W1.heap.size + 1 := s2
 clear c2 hin1 m1 k1 x1 b2 x2 y2 b2d m2 e1 hn0 hn1
 go_wp2_with fail
 try rw [hW2]
 go_region_held3 (fun w' => w'.cell? ⟨w.heap.size, 0, none⟩ = some (.int .i64 o) /\ (w'.cell? ⟨W1.heap.size, 0, none⟩ = some (.int .i64 y.k) /\ w'.cell? ⟨W1.heap.size, 1, none⟩ = some (.bool y.b) /\ w'.cell? ⟨W1.heap.size, 2, none⟩ = some (.int .i64 y.i) /\ w'.cell? ⟨W1.heap.size, 3, none⟩ = some (.string y.s) /\ w'.cell? ⟨W1.heap.size, 4, none⟩ = some (.slice an ln cn) /\ w'.cell? ⟨W1.heap.size, 5, none⟩ = some (.slice al ll cl))) (go_keep) (first
  | (go_at_call 81; refine cT.mono ?_; rintro e W3 ⟨u3, pv3, rfl, hin3, m3, k3, e3⟩; obtain ⟨ax, lx, cx, bx, mx, dx, rfl⟩ := in_shape hin3; have hb3 : Below K W2.drew W3 := k3.below.mono hlow; have cP := HP.out K m W3 _ _ x y (by have := k3.below.size; omega) (HT.out.tb ((HB1.out.mono hlow).trans hb3) (by have := k3.below.size; omega)) hin3 (in_low HI1.out hb3) HWF.out; obtain ⟨n1, n2, n3, n4, n5, n6, n7⟩ := HS.out W3 k3)
  | (go_at_call 90; refine cP.mono ?_; rintro e W4 ⟨b4, hA⟩; rw [HXX.out] at hA; obtain ⟨u4, rfl, hin4⟩ := hA; obtain ⟨ay, ly, cy, bY, my, dy, rfl⟩ := in_shape hin4; have k4 := k3.trans (Km.of_below (pv := pv3) b4 (by have := k3.below.size; omega)) (.inl e3); have cQ := put_c (m3.below b4) hq hin4; obtain ⟨n1, n2, n3, n4, n5, n6, n7⟩ := HS.out W4 k4)
  | (go_at_call 101; refine cQ.mono ?_; rintro e W5 ⟨⟨v5, rfl⟩, pv5, m5, k5, e5⟩; have k6 := k4.trans k5 (.inl e3); obtain ⟨n1, n2, n3, n4, n5, n6, n7⟩ := HS.out W5 k6))
 have HE : Hid (∃ pv', Mc K (m + 1) W5 M tv sv pv' (q ++ [v]) /\ Km M pv w W5 /\ (pv'.ownBlock = pv.ownBlock \/ ∃ g, pv'.ownBlock = some g /\ w.heap.size <= g)) := by
  refine ⟨pv5, m5, HK1.out.trans k6 (.inl HE1.out), ?_⟩
  rcases e5 with e | ⟨g, e, hg⟩
  ·exact .inl (by rw [e, e3, HE1.out])
  ·exact .inr ⟨g, e, by have := k3.below.size; have := b4.size; have := HB1.out.size; omega⟩
 clear cT cP cQ m3 k3 m5 k5 k6 e3 e5 b4 k4 hin3 hin4
 go_wp2_with fail
 go_end0
 exact ⟨⟨_, rfl⟩, HE.out⟩
end Go.Proofs.YthjbknncbhkinaaGreatDoor.MDp
namespace Go.Proofs.YthjbknncbhkinaaGreatDoor.MDr
open Tak
open Go.RowKit Base VSm VRs VPk MBx MSe MDo
open VPure
theorem pair_err {K m : Nat} {w : World} {M : Nat} {tv sv pv : Value} {p q : List C} {x y : C} {n : Nat} {o a : Int} (h : Mc K (m + 1) w M tv sv pv p) (hq : q.length <= 65536) (hT : TK K w) (hP : PairOk o) (hd : o ≠ 1 /\ o ≠ 2 /\ o ≠ 3 /\ o ≠ 4 /\ o ≠ 5 /\ o ≠ 6 /\ o ≠ 29) (hwf : wf x) (hX : pr2 o x y = .error n)
  (cS : ∀ W, Below w.heap.size w W -> Calls prog 102 #[ptr M, .agg #[.int .i64 o, .int .i64 a]] W fun e w' => SR K (m + 1) M tv sv pv W y (q ++ [x]) e w') :
  Calls prog 82 #[ptr M, .agg #[.int .i64 o, .int .i64 a]] w fun e w' => DR K (m + 1) M tv sv pv w (.error n) e w' := by
 obtain ⟨W0, hW0, b0, s0, x0⟩ := box1 w (.int .i64 o) (.int .i64 a)
 obtain ⟨i0, i1⟩ := two_box x0
 have c2 := cS W0 b0
 have HH : Hid _ := h
 have HB0 : Hid _ := b0
 have HX0 : Hid _ := x0
 have HT : Hid (TK K w) := hT
 have HP : Hid (PairOk o) := hP
 have HWF : Hid (wf x) := hwf
 have HXX : Hid (pr2 o x y = .error n) := hX
 have hlt := h.lt
 have hlow := h.low
 obtain ⟨e1, e2, e3, e4, e5, e6, e29⟩ := hd
 have d1 : (o == 1) = false := by simp [e1]
 have d2 : (o == 2) = false := by simp [e2]
 have d3 : (o == 3) = false := by simp [e3]
 have d4 : (o == 4) = false := by simp [e4]
 have d5 : (o == 5) = false := by simp [e5]
 have d6 : (o == 6) = false := by simp [e6]
 have d29 : (o == 29) = false := by simp [e29]
 clear h b0 x0 hT hP hwf hX cS e1 e2 e3 e4 e5 e6 e29
 go_enter func82, ntmps82
 go_wp2_with fail
 try rw [hW0]
 refine c2.mono ?_
 rintro e W1 ⟨u, pv1, rfl, hin1, m1, k1, e1⟩
 obtain ⟨an, ln, cn, al, ll, cl, rfl⟩ := in_shape hin1
 have hs1 := k1.below.size
 have hn0 : some w.heap.size ≠ pv.ownBlock := fun e => by have := HH.out.own_ne e.symm; omega
 have x1 := (k1.other w.heap.size (by omega) (by omega) hn0).trans HX0.out
 obtain ⟨W2, hW2⟩ : ∃ W2, W1.alloc (.cells #[.int .i64 y.k, .bool y.b, .int .i64 y.i, .string y.s, .slice an ln cn, .slice al ll cl] 46) = W2 := ⟨_, rfl⟩
 have b2 : Below W1.heap.size W1 W2 := by rw [<- hW2]; exact (Below.refl _ W1).alloc (Nat.le_refl _) _
 have s2 : W2.heap.size = W1.heap.size + 1 := by rw [<- hW2]; simp
 have y2 : W2.heap[W1.heap.size]? = some (.cells #[.int .i64 y.k, .bool y.b, .int .i64 y.i, .string y.s, .slice an ln cn, .slice al ll cl] 46 (0, 0)) := by rw [<- hW2]; exact heap_alloc_new W1 _
 have x2 := (b2.block _ (by omega)).trans x1
 obtain ⟨j0, j1⟩ := two_box x2
 obtain ⟨z0, z1, z2, z3, z4, z5⟩ := six_box y2
 have b2d : Below W1.heap.size W1 W2.drew := ⟨b2.os, b2.tape, b2.output, b2.size, b2.block⟩
 have m2 : Mc K (m + 1) W2.drew M tv sv pv1 (q ++ [x]) := m1.below b2d
 have cT := take_c m2 hq
 have hn1 : some W1.heap.size ≠ pv1.ownBlock := fun e => by have := m1.own_ne e.symm; omega
 have HS : Hid (∀ W, Km M pv1 W2.drew W -> W.cell? ⟨w.heap.size, 0, none⟩ = some (.int .i64 o) /\ (W.cell? ⟨W1.heap.size, 0, none⟩ = some (.int .i64 y.k) /\ W.cell? ⟨W1.heap.size, 1, none⟩ = some (.bool y.b) /\ W.cell? ⟨W1.heap.size, 2, none⟩ = some (.int .i64 y.i) /\ W.cell? ⟨W1.heap.size, 3, none⟩ = some (.string y.s) /\ W.cell? ⟨W1.heap.size, 4, none⟩ = some (.slice an ln cn) /\ W.cell? ⟨W1.heap.size, 5, none⟩ = some (.slice al ll cl))) := fun W hW =>
  ⟨(two_box ((hW.other w.heap.size (by show w.heap.size < W2.heap.size; omega) (by omega) (by rw [e1]; exact hn0)).trans x2)).1, six_box ((hW.other W1.heap.size (by show W1.heap.size < W2.heap.size; omega) (by omega) hn1).trans y2)⟩
 have HB1 : Hid (Below M w W2.drew) := ((HB0.out.mono (by omega)).trans k1.below).trans (b2d.mono (by omega))
 have HK1 : Hid (Km M pv w W2.drew) := ((Km.of_below HB0.out (by omega)).trans k1 (.inl rfl)).trans (Km.of_below b2d (by omega)) (.inl rfl)
 have HI1 : Hid (Base.In false (fun b => b < K) W2.drew (m + 1) (vl y.k y.b y.i y.s (.slice an ln cn) (.slice al ll cl)) y) := hin1.below b2d
 have HE1 : Hid (pv1.ownBlock = pv.ownBlock) := e1
 have hs2d : W2.drew.heap.size = W1.heap.size + 1 := s2
 clear c2 hin1 m1 k1 x1 b2 x2 y2 b2d m2 e1 hn0 hn1
 go_wp2_with fail
 try rw [hW2]
 refine wp_region_held_drew (S := fun w' => w'.cell? ⟨w.heap.size, 0, none⟩ = some (.int .i64 o) /\ (w'.cell? ⟨W1.heap.size, 0, none⟩ = some (.int .i64 y.k) /\ w'.cell? ⟨W1.heap.size, 1, none⟩ = some (.bool y.b) /\ w'.cell? ⟨W1.heap.size, 2, none⟩ = some (.int .i64 y.i) /\ w'.cell? ⟨W1.heap.size, 3, none⟩ = some (.string y.s) /\ w'.cell? ⟨W1.heap.size, 4, none⟩ = some (.slice an ln cn) /\ w'.cell? ⟨W1.heap.size, 5, none⟩ = some (.slice al ll cl))) (by kernel_rfl) (HS.out W2.drew (Km.of_below (Below.refl _ _) (by omega))) (fun hHeld => ?_)
 refine tkH 0 rfl ?_; try simp only [ptH]
 refine tkH 1 rfl ?_; try simp only [ptH]
 refine tkH 2 rfl ?_; try simp only [ptH]
 refine tkH 3 rfl ?_; try simp only [ptH]
 refine tkH 5 rfl ?_; try simp only [ptH]
 refine rdH [4] ?_
 refine alH rfl fun K0 hK => ?_
 go_simp
 refine cT.mono ?_
 rintro e W3 ⟨u3, pv3, rfl, hin3, m3, k3, e3⟩
 obtain ⟨ax, lx, cx, bx, mx, dx, rfl⟩ := in_shape hin3
 have hb3 : Below K W2.drew W3 := k3.below.mono hlow
 have cP := HP.out K m W3 _ _ x y (by have := k3.below.size; omega) (HT.out.tb ((HB1.out.mono hlow).trans hb3) (by have := k3.below.size; omega)) hin3 (in_low HI1.out hb3) HWF.out
 have HK3 : Hid (Km M pv1 W2.drew W3) := k3
 clear cT m3 k3 e3 hin3 hb3
 go_wp2_with fail
 refine hK.out _ _ (HS.out W3 HK3.out) (fun hHeld => ?_)
 clear hK K0
 try simp only [ptH]
 refine rdH [6] ?_
 refine alH rfl fun K0 hK => ?_
 go_simp
 refine cP.mono ?_
 rintro e W4 ⟨b4, hA⟩
 rw [HXX.out] at hA
 obtain rfl := hA
 exact ⟨rfl, rfl, (HK1.out.trans HK3.out (.inl HE1.out)).trans (Km.of_below (pv := pv) b4 (by have := HK3.out.below.size; omega)) (.inl rfl)⟩
end Go.Proofs.YthjbknncbhkinaaGreatDoor.MDr

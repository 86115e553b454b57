import Derived.Deep.CutRange
import Derived.Test.YtdeigdbnnbikgaaGreatDoorPA07
import Derived.Test.YtdeigdbnnbikgaaGreatDoorPA25
set_option linter.unusedVariables false
set_option maxRecDepth 20000
set_option maxHeartbeats 3200000
namespace Go.Proofs.YtdeigdbnnbikgaaGreatDoor.VVp
open Go.RowKit Base EPure VPure VSm VIn VJn VRs VVr VPk VSe VLo
structure Fst (Kk m : Nat) (w wc : World) (Mb Eb : Nat) (o i : Int) (s : ByteArray) (lv : Value) (c : C) (F : Nat) : Prop where
 lo : w.heap.size + 3 ≤ F
 bel : Below w.heap.size w wc
 wk : wc.heap[w.heap.size]? = some (.cells #[clo Mb Eb] 103 (0, 0))
 ex : wc.heap[w.heap.size + 1]? = some (.cells #[.int .i64 o, .int .i64 i, .string s, lv] 24 (0, 0))
 rs : wc.heap[w.heap.size + 2]? = some (.cells #[.int .i64 0, .bool false, .int .i64 0, .string ⟨#[]⟩, .slice none 0 0, .slice none 0 0] 32 (0, 0))
 fst : ∃ an ln cn al ll cl, wc.heap[F]? = some (.cells #[.int .i64 c.k, .bool c.b, .int .i64 c.i, .string c.s, .slice an ln cn, .slice al ll cl] 32 (0, 0)) ∧ Base.In false (fun b => b < Kk) wc (m + 1) (vl c.k c.b c.i c.s (.slice an ln cn) (.slice al ll cl)) c
theorem fst_of {Kk m : Nat} {w W W3 : World} {Mb Eb : Nat} {o i : Int} {s : ByteArray} {lv : Value} {c : C} {F : Nat} {an al : Option Addr} {ln cn ll cl : Nat} (hKk : Kk ≤ w.heap.size) (hF : w.heap.size + 3 ≤ F) (hb : Below w.heap.size w W) (hwk : W.heap[w.heap.size]? = some (.cells #[clo Mb Eb] 103 (0, 0)))
  (hex : W.heap[w.heap.size + 1]? = some (.cells #[.int .i64 o, .int .i64 i, .string s, lv] 24 (0, 0))) (hrs : W.heap[w.heap.size + 2]? = some (.cells #[.int .i64 0, .bool false, .int .i64 0, .string ⟨#[]⟩, .slice none 0 0, .slice none 0 0] 32 (0, 0))) (hz : W.heap[F]? = some (.cells #[.int .i64 0, .bool false, .int .i64 0, .string ⟨#[]⟩, .slice none 0 0, .slice none 0 0] 32 (0, 0)))
  (hin : Base.In false (fun b => b < Kk) W (m + 1) (vl c.k c.b c.i c.s (.slice an ln cn) (.slice al ll cl)) c) (hW : ((((((W.setCell ⟨F, 0, none⟩ (.int .i64 c.k)).setCell ⟨F, 1, none⟩ (.bool c.b)).setCell ⟨F, 2, none⟩ (.int .i64 c.i)).setCell ⟨F, 3, none⟩ (.string c.s)).setCell ⟨F, 4, none⟩ (.slice an ln cn)).setCell ⟨F, 5, none⟩ (.slice al ll cl)) = W3) : Fst Kk m w W3 Mb Eb o i s lv c F := by
 obtain ⟨q1, q2, q3, q4⟩ := set6 _ _ _ _ _ _ hz hW
 exact ⟨hF, q4 _ _ (by omega) hb, (q2 _ (by omega)).trans hwk, (q2 _ (by omega)).trans hex, (q2 _ (by omega)).trans hrs, an, ln, cn, al, ll, cl, q1, in_low hin (q4 _ _ (by omega) (Below.refl _ _))⟩
set_option maxHeartbeats 6400000 in
theorem value_pair {Kk m : Nat} {w : World} {Mb Eb : Nat} {ρ : ByteArray → Option C} (hKk : Kk ≤ w.heap.size) (o i : Int) (s : ByteArray) {a : Option Addr} {cap : Nat} {l : List Ex} (hl : l.length ≤ cap) (hc : cap ≤ 9223372036854775807) (hT : Tb w) (h2 : 1 ≤ l.length) (hd : o ≠ 1 ∧ o ≠ 2 ∧ o ≠ 3 ∧ o ≠ 4 ∧ o ≠ 5 ∧ o ≠ 6 ∧ o ≠ 29 ∧ o ≠ 30 ∧ o ≠ 31) (hP : PairOk o) {x : Ex} {Y : Ans} (hwf : ∀ c, ev ρ x = .ok c → wf c) (hk0 : Kd Kk (m + 1) w Mb Eb ρ a 0 x) (hk1 : ∀ W, Below w.heap.size w W → Calls Tryz.prog 111 #[.agg #[clo Mb Eb], xv o i s (.slice a l.length cap)] W fun e w' => VR Kk (m + 1) W Y e w') :
  Calls Tryz.prog 76 #[.agg #[clo Mb Eb], xv o i s (.slice a l.length cap)] w fun e w' => VR Kk (m + 1) w (bnd (ev ρ x) fun a => bnd Y fun b => pr2 o a b) e w' := by
 obtain ⟨g, o0, y0, y1, y2, y3, y4, y5, rfl, hg, hk0⟩ := hk0
 simp only [Nat.mul_zero, Nat.zero_add, Nat.add_zero] at hk0
 obtain ⟨W0, hW0, hs0, hb0, hk, hx, hr⟩ := three w #[clo Mb Eb] #[.int .i64 o, .int .i64 i, .string s, (.slice (some ⟨g, o0, none⟩) l.length cap)] 103 24
 have kc : W0.cell? ⟨w.heap.size, 0, none⟩ = some (clo Mb Eb) := by simp [World.cell?, hk]
 obtain ⟨x0, x1, x2, x3⟩ := XBase.four_box hx
 have HK0 : Hid _ := hk0
 have HK1 : Hid _ := hk1
 have HT : Hid (Tb w) := hT
 have HP : Hid (PairOk o) := hP
 have HWF : Hid (∀ c, ev ρ x = .ok c → wf c) := hwf
 clear hwf
 have HBW0 : Hid (Below w.heap.size w W0) := hb0
 have HKx : Hid (W0.heap[w.heap.size]? = some (.cells #[clo Mb Eb] 103 (0, 0))) := hk
 have HXx : Hid (W0.heap[w.heap.size + 1]? = some (.cells #[.int .i64 o, .int .i64 i, .string s, (.slice (some ⟨g, o0, none⟩) l.length cap)] 24 (0, 0))) := hx
 have HR : Hid (W0.heap[w.heap.size + 2]? = some (.cells #[.int .i64 0, .bool false, .int .i64 0, .string ⟨#[]⟩, .slice none 0 0, .slice none 0 0] 32 (0, 0))) := hr
 obtain ⟨⟨m0, m1, m2, m3⟩, cV⟩ := hk0 W0.drew (bel_d hb0 (Below.refl _ _))
 have hsD : W0.drew.heap.size = w.heap.size + 3 := by simp [hs0]
 obtain ⟨Wa, hWa⟩ : ∃ Wa, W0.drew.alloc (.cells #[.int .i64 0, .bool false, .int .i64 0, .string ⟨#[]⟩, .slice none 0 0, .slice none 0 0] 32) = Wa := ⟨_, rfl⟩
 have hba : Below W0.drew.heap.size W0.drew Wa := by rw [← hWa]; exact (Below.refl _ _).alloc (Nat.le_refl _) _
 have hza : Wa.heap[w.heap.size + 3]? = some (.cells #[.int .i64 0, .bool false, .int .i64 0, .string ⟨#[]⟩, .slice none 0 0, .slice none 0 0] 32 (0, 0)) := by rw [← hWa, ← hsD]; exact heap_alloc_new _ _
 have hsa : Wa.heap.size = w.heap.size + 4 := by rw [← hWa, World.size_alloc, hsD]
 have HZa : Hid (Wa.heap[w.heap.size + 3]? = some (.cells #[.int .i64 0, .bool false, .int .i64 0, .string ⟨#[]⟩, .slice none 0 0, .slice none 0 0] 32 (0, 0))) := hza
 have HBa : Hid (Below w.heap.size w Wa) := bel_d hb0 hba
 obtain ⟨⟨ma0, ma1, ma2, ma3⟩, cVa⟩ := hk0 Wa (bel_d hb0 hba)
 have kka := (hba.block w.heap.size (by omega)).trans hk
 have xxa := (hba.block (w.heap.size + 1) (by omega)).trans hx
 have rra := (hba.block (w.heap.size + 2) (by omega)).trans hr
 have kca : Wa.cell? ⟨w.heap.size, 0, none⟩ = some (clo Mb Eb) := by simp [World.cell?, kka]
 obtain ⟨xa0, xa1, xa2, xa3⟩ := XBase.four_box xxa
 have HKa : Hid (Wa.heap[w.heap.size]? = some (.cells #[clo Mb Eb] 103 (0, 0))) := kka
 have HXa : Hid (Wa.heap[w.heap.size + 1]? = some (.cells #[.int .i64 o, .int .i64 i, .string s, (.slice (some ⟨g, o0, none⟩) l.length cap)] 24 (0, 0))) := xxa
 have HRa : Hid (Wa.heap[w.heap.size + 2]? = some (.cells #[.int .i64 0, .bool false, .int .i64 0, .string ⟨#[]⟩, .slice none 0 0, .slice none 0 0] 32 (0, 0))) := rra
 have b0 : (0 : Int) < (l.length : Int) := by omega
 have b2 : decide ((0 : Int) < (l.length : Int)) = true := decide_eq_true b0
 have b4 : 0 < l.length := by omega
 have b6 : ¬ l.length = 0 := by omega
 obtain ⟨e1, e2, e3, e4, e5, e6, e29, e30, e31⟩ := hd
 have HN : Hid (True) := trivial
 have d1 : (o == 1) = false := by simp [e1]
 have d2 : (o == 2) = false := by simp [e2]
 have d3 : (o == 3) = false := by simp [e3]
 have d4 : (o == 4) = false := by simp [e4]
 have d5 : (o == 5) = false := by simp [e5]
 have d6 : (o == 6) = false := by simp [e6]
 have d29 : (o == 29) = false := by simp [e29]
 have d30 : (o == 30) = false := by simp [e30]
 have d31 : (o == 31) = false := by simp [e31]
 obtain ⟨U, hU⟩ : ∃ U, (bnd (ev ρ x) fun a => bnd Y fun b => pr2 o a b) = U := ⟨_, rfl⟩
 rw [hU]
 generalize ev ρ x = X at *
 clear hk hx hr hb0 hk0 hk1 hT hP hba hza kka xxa rra e1 e2 e3 e4 e5 e6 e29 e30 e31
 generalize hnl : l.length = n at *
 go_enter Tryz.func76, Tryz.ntmps76
 go_wp2_with fail
 try rw [hW0]
 cases X with
 | error c0 =>
  refine wp_region_held_drew (S := fun w' => w'.cell? ⟨w.heap.size, 0, none⟩ = some (clo Mb Eb) ∧ (w'.cell? ⟨w.heap.size + 1, 0, none⟩ = some (.int .i64 o) ∧ w'.cell? ⟨w.heap.size + 1, 1, none⟩ = some (.int .i64 i) ∧ w'.cell? ⟨w.heap.size + 1, 2, none⟩ = some (.string s) ∧ w'.cell? ⟨w.heap.size + 1, 3, none⟩ = some (.slice (some ⟨g, o0, none⟩) n cap)) ∧ (w'.cell? ⟨g, o0, none⟩ = some (.int .i64 y0) ∧ w'.cell? ⟨g, o0 + 1, none⟩ = some (.int .i64 y1) ∧ w'.cell? ⟨g, o0 + 2, none⟩ = some (.string y2) ∧ w'.cell? ⟨g, o0 + 3, none⟩ = some (.slice y3 y4 y5))) (by kernel_rfl) (by first | assumption | go_keep) (fun hHeld => ?_)
  refine wpAnyH_take (i := 0) (v := ?_) rfl (by kernel_rfl) (by kernel_rfl) (by kernel_rfl) (fun _ _ _ h => h) (Or.inl ⟨by rfl, ?_⟩) (by assumption) ?_
  rotate_left 1
  ·intro w hSw; (try dsimp only at hSw); go_simp; first | done | with_reducible rfl | (rw [if_neg (by omega)])
  try simp only [Act.put, zA, zB, zD, zE, zF]
  refine wpAnyH_take (i := 1) (v := ?_) rfl (by kernel_rfl) (by kernel_rfl) (by kernel_rfl) (fun _ _ _ h => h) (Or.inl ⟨by rfl, ?_⟩) (by assumption) ?_
  rotate_left 1
  ·intro w hSw; (try dsimp only at hSw); go_simp; first | done | with_reducible rfl | (rw [if_neg (by omega)])
  try simp only [Act.put, zA, zB, zC, zD, zE, zF]
  refine wpAnyH_take (i := 2) (v := ?_) rfl (by kernel_rfl) (by kernel_rfl) (by kernel_rfl) (fun _ _ _ h => h) (Or.inl ⟨by rfl, ?_⟩) (by assumption) ?_
  rotate_left 1
  ·intro w hSw; (try dsimp only at hSw); go_simp; first | done | with_reducible rfl | (rw [if_neg (by omega)])
  try simp only [Act.put, zA, zB, zC, zD, zE, zF]
  refine wpAnyH_take (i := 3) (v := ?_) rfl (by kernel_rfl) (by kernel_rfl) (by kernel_rfl) (fun _ _ _ h => h) (Or.inl ⟨by rfl, ?_⟩) (by assumption) ?_
  rotate_left 1
  ·intro w hSw; (try dsimp only at hSw); go_simp; first | done | with_reducible rfl | (rw [if_neg (by omega)])
  try simp only [Act.put, zA, zB, zC, zD, zE, zF]
  refine wpAnyH_take (i := 4) (v := ?_) rfl (by kernel_rfl) (by kernel_rfl) (by kernel_rfl) (fun _ _ _ h => h) (Or.inl ⟨by rfl, ?_⟩) (by assumption) ?_
  rotate_left 1
  ·intro w hSw; (try dsimp only at hSw); go_simp; first | done | with_reducible rfl | (rw [if_neg (by omega)])
  try simp only [Act.put, zA, zB, zC, zD, zE, zF]
  refine wpAnyH_ready (rs := [5, 6]) (by kernel_rfl) (by simp) ?_
  refine AllReadyH.cons rfl (fun K hK => ?_) (AllReadyH.cons rfl (fun K hK => ?_) (AllReadyH.nil))
  ·go_simp
   refine cV.mono ?_
   rintro e W1 ⟨hb1, hA⟩
   obtain rfl := hA
   obtain rfl := hU
   exact ⟨rfl, bel_d HBW0.out hb1, rfl⟩
  ·go_simp
   try rw [hWa]
   refine hK.out _ _ (by first | assumption | go_keep) (fun hHeld => ?_)
   clear hK K
   try simp only [Act.put, zA, zB, zC, zD, zE, zF]
   refine wpAnyH_ready (rs := [5]) (by kernel_rfl) (by simp) ?_
   refine AllReadyH.cons rfl (fun K hK => ?_) (AllReadyH.nil)
   go_simp
   refine cVa.mono ?_
   rintro e W1 ⟨hb1, hA⟩
   obtain rfl := hA
   obtain rfl := hU
   exact ⟨rfl, HBa.out.trans (hb1.mono HBa.out.size), rfl⟩
 | ok c =>
  have HU : Hid _ := hU
  go_cut [5] from 44 to 49 (fun p wc => ∃ F, p = .pointer (some ⟨F, 0, none⟩) ∧ Fst Kk m w wc Mb Eb o i s (.slice (some ⟨g, o0, none⟩) n cap) c F)
  case first =>
   refine wp_region_held_drew (S := fun w' => w'.cell? ⟨w.heap.size, 0, none⟩ = some (clo Mb Eb) ∧ (w'.cell? ⟨w.heap.size + 1, 0, none⟩ = some (.int .i64 o) ∧ w'.cell? ⟨w.heap.size + 1, 1, none⟩ = some (.int .i64 i) ∧ w'.cell? ⟨w.heap.size + 1, 2, none⟩ = some (.string s) ∧ w'.cell? ⟨w.heap.size + 1, 3, none⟩ = some (.slice (some ⟨g, o0, none⟩) n cap)) ∧ (w'.cell? ⟨g, o0, none⟩ = some (.int .i64 y0) ∧ w'.cell? ⟨g, o0 + 1, none⟩ = some (.int .i64 y1) ∧ w'.cell? ⟨g, o0 + 2, none⟩ = some (.string y2) ∧ w'.cell? ⟨g, o0 + 3, none⟩ = some (.slice y3 y4 y5))) (by kernel_rfl) (by first | assumption | go_keep) (fun hHeld => ?_)
   refine wpAnyH_take (i := 0) (v := ?_) rfl (by kernel_rfl) (by kernel_rfl) (by kernel_rfl) (fun _ _ _ h => h) (Or.inl ⟨by rfl, ?_⟩) (by assumption) ?_
   rotate_left 1
   ·intro w hSw; (try dsimp only at hSw); go_simp; first | done | with_reducible rfl | (rw [if_neg (by omega)])
   try simp only [Act.put, zA, zB, zD, zE, zF]
   refine wpAnyH_take (i := 1) (v := ?_) rfl (by kernel_rfl) (by kernel_rfl) (by kernel_rfl) (fun _ _ _ h => h) (Or.inl ⟨by rfl, ?_⟩) (by assumption) ?_
   rotate_left 1
   ·intro w hSw; (try dsimp only at hSw); go_simp; first | done | with_reducible rfl | (rw [if_neg (by omega)])
   try simp only [Act.put, zA, zB, zC, zD, zE, zF]
   refine wpAnyH_take (i := 2) (v := ?_) rfl (by kernel_rfl) (by kernel_rfl) (by kernel_rfl) (fun _ _ _ h => h) (Or.inl ⟨by rfl, ?_⟩) (by assumption) ?_
   rotate_left 1
   ·intro w hSw; (try dsimp only at hSw); go_simp; first | done | with_reducible rfl | (rw [if_neg (by omega)])
   try simp only [Act.put, zA, zB, zC, zD, zE, zF]
   refine wpAnyH_take (i := 3) (v := ?_) rfl (by kernel_rfl) (by kernel_rfl) (by kernel_rfl) (fun _ _ _ h => h) (Or.inl ⟨by rfl, ?_⟩) (by assumption) ?_
   rotate_left 1
   ·intro w hSw; (try dsimp only at hSw); go_simp; first | done | with_reducible rfl | (rw [if_neg (by omega)])
   try simp only [Act.put, zA, zB, zC, zD, zE, zF]
   refine wpAnyH_take (i := 4) (v := ?_) rfl (by kernel_rfl) (by kernel_rfl) (by kernel_rfl) (fun _ _ _ h => h) (Or.inl ⟨by rfl, ?_⟩) (by assumption) ?_
   rotate_left 1
   ·intro w hSw; (try dsimp only at hSw); go_simp; first | done | with_reducible rfl | (rw [if_neg (by omega)])
   try simp only [Act.put, zA, zB, zC, zD, zE, zF]
   refine wpAnyH_ready (rs := [5, 6]) (by kernel_rfl) (by simp) ?_
   refine AllReadyH.cons rfl (fun K hK => ?_) (AllReadyH.cons rfl (fun K hK => ?_) (AllReadyH.nil))
   ·go_simp
    refine cV.mono ?_
    rintro e W1 ⟨hb1, hA⟩
    obtain ⟨u, rfl, hin⟩ := hA
    obtain ⟨an, ln, cn, al, ll, cl, rfl⟩ := in_shape hin
    have hs1 : w.heap.size + 3 ≤ W1.heap.size := by have := hb1.size; rw [hsD] at this; exact this
    have HB1 : Hid (Below w.heap.size w W1) := bel_d HBW0.out hb1
    have kk := (hb1.block w.heap.size (by rw [hsD]; omega)).trans HKx.out
    have xx := (hb1.block (w.heap.size + 1) (by rw [hsD]; omega)).trans HXx.out
    have rr := (hb1.block (w.heap.size + 2) (by rw [hsD]; omega)).trans HR.out
    have uk : W1.cell? ⟨w.heap.size, 0, none⟩ = some (clo Mb Eb) := by simp [World.cell?, kk]
    obtain ⟨u0, u1, u2, u3⟩ := XBase.four_box xx
    obtain ⟨⟨u4, u5, u6, u7⟩, -⟩ := HK0.out W1 HB1.out
    have HKK : Hid (W1.heap[w.heap.size]? = some (.cells #[clo Mb Eb] 103 (0, 0))) := kk
    have HXX : Hid (W1.heap[w.heap.size + 1]? = some (.cells #[.int .i64 o, .int .i64 i, .string s, (.slice (some ⟨g, o0, none⟩) n cap)] 24 (0, 0))) := xx
    have HRR : Hid (W1.heap[w.heap.size + 2]? = some (.cells #[.int .i64 0, .bool false, .int .i64 0, .string ⟨#[]⟩, .slice none 0 0, .slice none 0 0] 32 (0, 0))) := rr
    clear kk xx rr
    clear hb1 cV
    go_wp2_with fail
    refine hK.out _ _ (by first | assumption | go_keep) (fun hHeld => ?_)
    clear hK K
    try simp only [Act.put, zA, zB, zC, zD, zE, zF]
    obtain ⟨W2, hW2⟩ : ∃ W2, W1.alloc (.cells #[.int .i64 0, .bool false, .int .i64 0, .string ⟨#[]⟩, .slice none 0 0, .slice none 0 0] 32) = W2 := ⟨_, rfl⟩
    have hb2 : Below W1.heap.size W1 W2 := by rw [← hW2]; exact (Below.refl _ _).alloc (Nat.le_refl _) _
    have HZ : Hid (W2.heap[W1.heap.size]? = some (.cells #[.int .i64 0, .bool false, .int .i64 0, .string ⟨#[]⟩, .slice none 0 0, .slice none 0 0] 32 (0, 0))) := by rw [← hW2]; exact heap_alloc_new _ _
    have HI : Hid _ := hin.keep (fun b hb' hb'' => hb2.block b hb'')
    have HKK : Hid _ := (hb2.block _ (by omega)).trans HKK.out
    have HXX : Hid _ := (hb2.block _ (by omega)).trans HXX.out
    have HRR : Hid _ := (hb2.block _ (by omega)).trans HRR.out
    have HB2 : Hid (Below w.heap.size w W2) := HB1.out.trans (hb2.mono HB1.out.size)
    have kw : ∀ (B j : Nat) (v : Value), B < W1.heap.size → W1.cell? ⟨B, j, none⟩ = some v → W2.cell? ⟨B, j, none⟩ = some v := fun B j v hB h => (World.cell?_of_block (w := W1) (hb2.block B hB)).trans h
    have uk := kw _ _ _ (by omega) uk
    have u0 := kw _ _ _ (by omega) u0
    have u1 := kw _ _ _ (by omega) u1
    have u2 := kw _ _ _ (by omega) u2
    have u3 := kw _ _ _ (by omega) u3
    have u4 := kw _ _ _ (by omega) u4
    have u5 := kw _ _ _ (by omega) u5
    have u6 := kw _ _ _ (by omega) u6
    have u7 := kw _ _ _ (by omega) u7
    have hz := HZ.out
    obtain ⟨n0, n1, n2, n3, n4, n5⟩ := six_box hz
    have nf0 := frozen_box hz 0
    have nf1 := frozen_box hz 1
    have nf2 := frozen_box hz 2
    have nf3 := frozen_box hz 3
    have nf4 := frozen_box hz 4
    have nf5 := frozen_box hz 5
    clear kw hb2 hz hin
    obtain ⟨W9, hW9⟩ : ∃ W9, ((((((W2.setCell ⟨W1.heap.size, 0, none⟩ (.int .i64 c.k)).setCell ⟨W1.heap.size, 1, none⟩ (.bool c.b)).setCell ⟨W1.heap.size, 2, none⟩ (.int .i64 c.i)).setCell ⟨W1.heap.size, 3, none⟩ (.string c.s)).setCell ⟨W1.heap.size, 4, none⟩ (.slice an ln cn)).setCell ⟨W1.heap.size, 5, none⟩ (.slice al ll cl)) = W9 := ⟨_, rfl⟩
    obtain ⟨g1, g2, g3, g4⟩ := set6 _ _ _ _ _ _ HZ.out hW9
    have kx : ∀ (B j : Nat) (u : Value), B ≠ W1.heap.size → W2.cell? ⟨B, j, none⟩ = some u → W9.cell? ⟨B, j, none⟩ = some u := fun B j u hne h => (World.cell?_of_block (w := W2) (g2 _ hne)).trans h
    have f0 := kx _ _ _ (by omega) uk
    have f1 := kx _ _ _ (by omega) u0
    have f2 := kx _ _ _ (by omega) u1
    have f3 := kx _ _ _ (by omega) u2
    have f4 := kx _ _ _ (by omega) u3
    have f5 := kx _ _ _ (by omega) u4
    have f6 := kx _ _ _ (by omega) u5
    have f7 := kx _ _ _ (by omega) u6
    have f8 := kx _ _ _ (by omega) u7
    have hFst := fst_of (o := o) (i := i) (s := s) hKk (by omega) HB2.out HKK.out HXX.out HRR.out HZ.out HI.out hW9
    clear kx
    refine wpAnyH_ready (rs := [6]) (by kernel_rfl) (by simp) ?_
    refine AllReadyH.cons rfl (fun K hK => ?_) (AllReadyH.nil)
    go_simp
    try rw [hW2]
    refine hK.out _ _ (by first | assumption | go_keep) (fun hHeld => ?_)
    clear hK K
    try simp only [Act.put, zA, zB, zC, zD, zE, zF]
    refine wpAnyH_ready (rs := [7]) (by kernel_rfl) (by simp) ?_
    refine AllReadyH.cons rfl (fun K hK => ?_) (AllReadyH.nil)
    go_simp
    try rw [hW9]
    refine hK.out _ _ (by first | assumption | go_keep) (fun hHeld => ?_)
    clear hK K
    try simp only [Act.put, zA, zB, zC, zD, zE, zF]
    refine wpAnyH_done (by kernel_rfl) ?_ _
    go_wp2_with fail
    go_meet
    case rel => exact ⟨_, rfl, hFst⟩
   ·go_simp
    try rw [hWa]
    refine hK.out _ _ (by first | assumption | go_keep) (fun hHeld => ?_)
    clear hK K
    try simp only [Act.put, zA, zB, zC, zD, zE, zF]
    refine wpAnyH_ready (rs := [5]) (by kernel_rfl) (by simp) ?_
    refine AllReadyH.cons rfl (fun K hK => ?_) (AllReadyH.nil)
    go_simp
    refine cVa.mono ?_
    rintro e W1 ⟨hb1, hA⟩
    obtain ⟨u, rfl, hin⟩ := hA
    obtain ⟨an, ln, cn, al, ll, cl, rfl⟩ := in_shape hin
    have HB1 : Hid (Below w.heap.size w W1) := HBa.out.trans (hb1.mono HBa.out.size)
    have HB2 : Hid (Below w.heap.size w W1) := HB1.out
    have kk := (hb1.block w.heap.size (by omega)).trans HKa.out
    have xx := (hb1.block (w.heap.size + 1) (by omega)).trans HXa.out
    have rr := (hb1.block (w.heap.size + 2) (by omega)).trans HRa.out
    have uk : W1.cell? ⟨w.heap.size, 0, none⟩ = some (clo Mb Eb) := by simp [World.cell?, kk]
    obtain ⟨u0, u1, u2, u3⟩ := XBase.four_box xx
    obtain ⟨⟨u4, u5, u6, u7⟩, -⟩ := HK0.out W1 HB1.out
    have HKK : Hid (W1.heap[w.heap.size]? = some (.cells #[clo Mb Eb] 103 (0, 0))) := kk
    have HXX : Hid (W1.heap[w.heap.size + 1]? = some (.cells #[.int .i64 o, .int .i64 i, .string s, (.slice (some ⟨g, o0, none⟩) n cap)] 24 (0, 0))) := xx
    have HRR : Hid (W1.heap[w.heap.size + 2]? = some (.cells #[.int .i64 0, .bool false, .int .i64 0, .string ⟨#[]⟩, .slice none 0 0, .slice none 0 0] 32 (0, 0))) := rr
    clear kk xx rr
    have HZ : Hid (W1.heap[w.heap.size + 3]? = some (.cells #[.int .i64 0, .bool false, .int .i64 0, .string ⟨#[]⟩, .slice none 0 0, .slice none 0 0] 32 (0, 0))) := (hb1.block _ (by omega)).trans HZa.out
    have HI : Hid _ := hin
    have hz := HZ.out
    obtain ⟨n0, n1, n2, n3, n4, n5⟩ := six_box hz
    have nf0 := frozen_box hz 0
    have nf1 := frozen_box hz 1
    have nf2 := frozen_box hz 2
    have nf3 := frozen_box hz 3
    have nf4 := frozen_box hz 4
    have nf5 := frozen_box hz 5
    clear hb1 cVa hz hin
    go_wp2_with fail
    refine hK.out _ _ (by first | assumption | go_keep) (fun hHeld => ?_)
    clear hK K
    try simp only [Act.put, zA, zB, zC, zD, zE, zF]
    obtain ⟨W9, hW9⟩ : ∃ W9, ((((((W1.setCell ⟨w.heap.size + 3, 0, none⟩ (.int .i64 c.k)).setCell ⟨w.heap.size + 3, 1, none⟩ (.bool c.b)).setCell ⟨w.heap.size + 3, 2, none⟩ (.int .i64 c.i)).setCell ⟨w.heap.size + 3, 3, none⟩ (.string c.s)).setCell ⟨w.heap.size + 3, 4, none⟩ (.slice an ln cn)).setCell ⟨w.heap.size + 3, 5, none⟩ (.slice al ll cl)) = W9 := ⟨_, rfl⟩
    obtain ⟨g1, g2, g3, g4⟩ := set6 _ _ _ _ _ _ HZ.out hW9
    have kx : ∀ (B j : Nat) (u : Value), B ≠ w.heap.size + 3 → W1.cell? ⟨B, j, none⟩ = some u → W9.cell? ⟨B, j, none⟩ = some u := fun B j u hne h => (World.cell?_of_block (w := W1) (g2 _ hne)).trans h
    have f0 := kx _ _ _ (by omega) uk
    have f1 := kx _ _ _ (by omega) u0
    have f2 := kx _ _ _ (by omega) u1
    have f3 := kx _ _ _ (by omega) u2
    have f4 := kx _ _ _ (by omega) u3
    have f5 := kx _ _ _ (by omega) u4
    have f6 := kx _ _ _ (by omega) u5
    have f7 := kx _ _ _ (by omega) u6
    have f8 := kx _ _ _ (by omega) u7
    have hFst := fst_of (o := o) (i := i) (s := s) hKk (by omega) HB2.out HKK.out HXX.out HRR.out HZ.out HI.out hW9
    clear kx
    refine wpAnyH_ready (rs := [7]) (by kernel_rfl) (by simp) ?_
    refine AllReadyH.cons rfl (fun K hK => ?_) (AllReadyH.nil)
    go_simp
    try rw [hW9]
    refine hK.out _ _ (by first | assumption | go_keep) (fun hHeld => ?_)
    clear hK K
    try simp only [Act.put, zA, zB, zC, zD, zE, zF]
    refine wpAnyH_done (by kernel_rfl) ?_ _
    go_wp2_with fail
    go_meet
    case rel => exact ⟨_, rfl, hFst⟩
  case rest =>
   obtain ⟨F, rfl, hF⟩ := hcut
   clear cV cVa HKx HXx HR HKa HXa HRa HZa HBa m0 m1 m2 m3 ma0 ma1 ma2 ma3 kca xa0 xa1 xa2 xa3 kc x0 x1 x2 x3 hW0 hWa hsD hsa HBW0 hs0
   obtain ⟨an, ln, cn, al, ll, cl, hff, hin⟩ := hF.fst
   have hFl := (Array.getElem?_eq_some_iff.1 hff).1
   have hlo := hF.lo
   have kk := hF.wk
   have xx := hF.ex
   have rr := hF.rs
   have HBc : Hid (Below w.heap.size w wc) := hF.bel
   have uk : wc.cell? ⟨w.heap.size, 0, none⟩ = some (clo Mb Eb) := by simp [World.cell?, kk]
   obtain ⟨u0, u1, u2, u3⟩ := XBase.four_box xx
   obtain ⟨v0', v1', v2', v3', v4', v5'⟩ := six_box hff
   have HKK : Hid (wc.heap[w.heap.size]? = some (.cells #[clo Mb Eb] 103 (0, 0))) := kk
   have HXX : Hid (wc.heap[w.heap.size + 1]? = some (.cells #[.int .i64 o, .int .i64 i, .string s, (.slice (some ⟨g, o0, none⟩) n cap)] 24 (0, 0))) := xx
   have HRR : Hid (wc.heap[w.heap.size + 2]? = some (.cells #[.int .i64 0, .bool false, .int .i64 0, .string ⟨#[]⟩, .slice none 0 0, .slice none 0 0] 32 (0, 0))) := rr
   have HFF : Hid (wc.heap[F]? = some (.cells #[.int .i64 c.k, .bool c.b, .int .i64 c.i, .string c.s, .slice an ln cn, .slice al ll cl] 32 (0, 0))) := hff
   have HI : Hid _ := hin
   have hsc := hF.bel.size
   have hbd : Below w.heap.size w wc.drew := bel_d hF.bel (Below.refl _ _)
   have hsd : wc.drew.heap.size = wc.heap.size := by simp
   have cS := HK1.out wc.drew hbd
   try rw [hnl] at cS
   clear kk xx rr hff hin hF hbd
   go_wp2_with fail
   refine wp_region_held_drew (S := fun w' => w'.cell? ⟨w.heap.size, 0, none⟩ = some (clo Mb Eb) ∧ (w'.cell? ⟨w.heap.size + 1, 0, none⟩ = some (.int .i64 o) ∧ w'.cell? ⟨w.heap.size + 1, 1, none⟩ = some (.int .i64 i) ∧ w'.cell? ⟨w.heap.size + 1, 2, none⟩ = some (.string s) ∧ w'.cell? ⟨w.heap.size + 1, 3, none⟩ = some (.slice (some ⟨g, o0, none⟩) n cap)) ∧ (w'.cell? ⟨F, 0, none⟩ = some (.int .i64 c.k) ∧ w'.cell? ⟨F, 1, none⟩ = some (.bool c.b) ∧ w'.cell? ⟨F, 2, none⟩ = some (.int .i64 c.i) ∧ w'.cell? ⟨F, 3, none⟩ = some (.string c.s) ∧ w'.cell? ⟨F, 4, none⟩ = some (.slice an ln cn) ∧ w'.cell? ⟨F, 5, none⟩ = some (.slice al ll cl))) (by kernel_rfl) (by first | assumption | go_keep) (fun hHeld => ?_)
   refine wpAnyH_take (i := 0) (v := ?_) rfl (by kernel_rfl) (by kernel_rfl) (by kernel_rfl) (fun _ _ _ h => h) (Or.inl ⟨by rfl, ?_⟩) (by assumption) ?_
   rotate_left 1
   ·intro w hSw; (try dsimp only at hSw); go_simp; first | done | with_reducible rfl | (rw [if_neg (by omega)])
   try simp only [Act.put, zA, zB, zD, zE, zF]
   refine wpAnyH_take (i := 1) (v := ?_) rfl (by kernel_rfl) (by kernel_rfl) (by kernel_rfl) (fun _ _ _ h => h) (Or.inl ⟨by rfl, ?_⟩) (by assumption) ?_
   rotate_left 1
   ·intro w hSw; (try dsimp only at hSw); go_simp; first | done | with_reducible rfl | (rw [if_neg (by omega)])
   try simp only [Act.put, zA, zB, zC, zD, zE, zF]
   refine wpAnyH_take (i := 2) (v := ?_) rfl (by kernel_rfl) (by kernel_rfl) (by kernel_rfl) (fun _ _ _ h => h) (Or.inl ⟨by rfl, ?_⟩) (by assumption) ?_
   rotate_left 1
   ·intro w hSw; (try dsimp only at hSw); go_simp; first | done | with_reducible rfl | (rw [if_neg (by omega)])
   try simp only [Act.put, zA, zB, zC, zD, zE, zF]
   refine wpAnyH_take (i := 3) (v := ?_) rfl (by kernel_rfl) (by kernel_rfl) (by kernel_rfl) (fun _ _ _ h => h) (Or.inl ⟨by rfl, ?_⟩) (by assumption) ?_
   rotate_left 1
   ·intro w hSw; (try dsimp only at hSw); go_simp; first | done | with_reducible rfl | (rw [if_neg (by omega)])
   try simp only [Act.put, zA, zB, zC, zD, zE, zF]
   refine wpAnyH_take (i := 4) (v := ?_) rfl (by kernel_rfl) (by kernel_rfl) (by kernel_rfl) (fun _ _ _ h => h) (Or.inl ⟨by rfl, ?_⟩) (by assumption) ?_
   rotate_left 1
   ·intro w hSw; (try dsimp only at hSw); go_simp; first | done | with_reducible rfl | (rw [if_neg (by omega)])
   try simp only [Act.put, zA, zB, zC, zD, zE, zF]
   refine wpAnyH_ready (rs := [5]) (by kernel_rfl) (by simp) ?_
   refine AllReadyH.cons rfl (fun K hK => ?_) (AllReadyH.nil)
   go_simp
   refine cS.mono ?_
   rintro e W1 ⟨hb1, hA⟩
   cases Y with
   | error c2 =>
    obtain rfl := hA
    obtain rfl := HU.out
    exact ⟨rfl, bel_d HBc.out hb1, rfl⟩
   | ok c2 =>
    obtain ⟨u9, rfl, hin2⟩ := hA
    obtain ⟨an2, ln2, cn2, al2, ll2, cl2, rfl⟩ := in_shape hin2
    have hs1 : wc.heap.size ≤ W1.heap.size := by have := hb1.size; rw [hsd] at this; exact this
    have kk := (hb1.block w.heap.size (by rw [hsd]; omega)).trans HKK.out
    have xx := (hb1.block (w.heap.size + 1) (by rw [hsd]; omega)).trans HXX.out
    have rr := (hb1.block (w.heap.size + 2) (by rw [hsd]; omega)).trans HRR.out
    have ff := (hb1.block F (by rw [hsd]; omega)).trans HFF.out
    have HB1 : Hid (Below w.heap.size w W1) := bel_d HBc.out hb1
    have rk : W1.cell? ⟨w.heap.size, 0, none⟩ = some (clo Mb Eb) := by simp [World.cell?, kk]
    obtain ⟨r0, r1, r2, r3⟩ := XBase.four_box xx
    obtain ⟨ra, rb, rc, rd, re, rf⟩ := six_box ff
    have HKK1 : Hid _ := kk
    have HXX1 : Hid _ := xx
    have HRR1 : Hid _ := rr
    have HFF1 : Hid _ := ff
    have hI1 : Base.In false (fun b => b < Kk) wc.drew (m + 1) (vl c.k c.b c.i c.s (.slice an ln cn) (.slice al ll cl)) c := Base.In.keep (w := wc) (w' := wc.drew) (fun _ _ _ => rfl) HI.out
    have hI2 := Base.In.keep (w := wc.drew) (w' := W1) (fun b _ hb'' => hb1.block b hb'') hI1
    have cP := HP.out Kk m W1 _ _ c c2 (by omega) (HT.out.below HB1.out) hI2 hin2 (HWF.out c rfl)
    have hU := HU.out
    clear hb1 hin2 cS kk xx rr ff HU hI1 hI2
    go_wp2_with fail
    refine hK.out _ _ (by first | assumption | go_keep) (fun hHeld => ?_)
    clear hK K
    try simp only [Act.put, zA, zB, zC, zD, zE, zF]
    refine wpAnyH_ready (rs := [6]) (by kernel_rfl) (by simp) ?_
    refine AllReadyH.cons rfl (fun K hK => ?_) (AllReadyH.nil)
    go_simp
    refine cP.mono ?_
    rintro e W2 ⟨hb2, hA⟩
    have hU : pr2 o c c2 = U := hU
    rw [hU] at hA
    cases U with
    | error c3 =>
     obtain rfl := hA
     exact ⟨rfl, HB1.out.trans (hb2.mono HB1.out.size), rfl⟩
    | ok c3 =>
     obtain ⟨u8, rfl, hin3⟩ := hA
     obtain ⟨an3, ln3, cn3, al3, ll3, cl3, rfl⟩ := in_shape hin3
     have hs2 := hb2.size
     have kk := (hb2.block w.heap.size (by omega)).trans HKK1.out
     have xx := (hb2.block (w.heap.size + 1) (by omega)).trans HXX1.out
     have rr := (hb2.block (w.heap.size + 2) (by omega)).trans HRR1.out
     have ff := (hb2.block F (by omega)).trans HFF1.out
     have HB2 : Hid (Below w.heap.size w W2) := HB1.out.trans (hb2.mono HB1.out.size)
     have tk : W2.cell? ⟨w.heap.size, 0, none⟩ = some (clo Mb Eb) := by simp [World.cell?, kk]
     obtain ⟨t0, t1, t2, t3⟩ := XBase.four_box xx
     obtain ⟨ta, tb, tc, td, te, tf⟩ := six_box ff
     have hr := rr
     obtain ⟨a0, a1, a2, a3, a4, a5⟩ := six_box hr
     have af0 := frozen_box hr 0
     have af1 := frozen_box hr 1
     have af2 := frozen_box hr 2
     have af3 := frozen_box hr 3
     have af4 := frozen_box hr 4
     have af5 := frozen_box hr 5
     have HR9 : Hid (W2.heap[w.heap.size + 2]? = some (.cells #[.int .i64 0, .bool false, .int .i64 0, .string ⟨#[]⟩, .slice none 0 0, .slice none 0 0] 32 (0, 0))) := rr
     have HI3 : Hid _ := hin3
     clear hb2 cP kk xx rr ff hr hin3 hU
     go_wp2_with fail
     refine hK.out _ _ (by first | assumption | go_keep) (fun hHeld => ?_)
     clear hK K
     try simp only [Act.put, zA, zB, zC, zD, zE, zF]
     obtain ⟨W9, hW9⟩ : ∃ W9, ((((((W2.setCell ⟨w.heap.size + 2, 0, none⟩ (.int .i64 c3.k)).setCell ⟨w.heap.size + 2, 1, none⟩ (.bool c3.b)).setCell ⟨w.heap.size + 2, 2, none⟩ (.int .i64 c3.i)).setCell ⟨w.heap.size + 2, 3, none⟩ (.string c3.s)).setCell ⟨w.heap.size + 2, 4, none⟩ (.slice an3 ln3 cn3)).setCell ⟨w.heap.size + 2, 5, none⟩ (.slice al3 ll3 cl3)) = W9 := ⟨_, rfl⟩
     obtain ⟨g1, g2, g3, g4⟩ := set6 _ _ _ _ _ _ HR9.out hW9
     have kx : ∀ (B j : Nat) (u : Value), B ≠ w.heap.size + 2 → W2.cell? ⟨B, j, none⟩ = some u → W9.cell? ⟨B, j, none⟩ = some u := fun B j u hne h => (World.cell?_of_block (w := W2) (g2 _ hne)).trans h
     have h9k := kx _ _ _ (by omega) tk
     have h90 := kx _ _ _ (by omega) t0
     have h91 := kx _ _ _ (by omega) t1
     have h92 := kx _ _ _ (by omega) t2
     have h93 := kx _ _ _ (by omega) t3
     have h9a := kx _ _ _ (by omega) ta
     have h9b := kx _ _ _ (by omega) tb
     have h9c := kx _ _ _ (by omega) tc
     have h9d := kx _ _ _ (by omega) td
     have h9e := kx _ _ _ (by omega) te
     have h9f := kx _ _ _ (by omega) tf
     clear kx
     refine wpAnyH_ready (rs := [7]) (by kernel_rfl) (by simp) ?_
     refine AllReadyH.cons rfl (fun K hK => ?_) (AllReadyH.nil)
     go_simp
     try rw [hW9]
     refine hK.out _ _ (by first | assumption | go_keep) (fun hHeld => ?_)
     clear hK K
     try simp only [Act.put, zA, zB, zC, zD, zE, zF]
     refine wpAnyH_done (by kernel_rfl) ?_ _
     go_wp2_with fail
     refine bodyPost_ret (results_cell_row rfl _ W9 (w.heap.size + 2) 32 _ (0, 0) _ rfl g1 Tryz.underlying32 rfl (by kernel_rfl)) rfl ?_
     exact ⟨g4 _ _ (by omega) HB2.out, _, rfl, in_low HI3.out (g4 _ _ (by omega) (Below.refl _ _))⟩
end Go.Proofs.YtdeigdbnnbikgaaGreatDoor.VVp
namespace Go.Proofs.YtdeigdbnnbikgaaGreatDoor.VPt
open Go.RowKit Base EPure VPure VSm VIn VEx VJn VRs VPk
theorem part_c {K m : Nat} {w : World} {va vb : Value} {a b : C} (hK : K ≤ w.heap.size) (hva : Base.In false (fun b => b < K) w (m + 1) va a) (hvb : Base.In false (fun b => b < K) w (m + 1) vb b) (hw : a.k = 6 → a.n.length ≤ a.l.length) :
  Calls Tryz.prog 148 #[va, vb] w fun e w' => VR K (m + 1) w (VPure.prt a b) e w' := by
 unfold VPure.prt
 obtain ⟨U, hU⟩ : ∃ U, prtR a.k a.n a.l b.k b.i b.s = U := ⟨_, rfl⟩
 rw [hU]
 obtain ⟨m', nv, lv, hm, rfl, hk1, hi1, hs1, hn1, hl1⟩ := hva.shape
 obtain rfl : m' = m := by omega
 obtain ⟨an, cn, rfl, hn2, hn3, hn4, hn5, hn6, hN⟩ := hn1.out
 obtain ⟨al, cl, rfl, hl2, hl3, hl4, hl5, hL⟩ := hl1.out
 obtain ⟨bn, mn, dn, bl, ml, dl, rfl⟩ := in_shape hvb
 have HN1 : Hid (Tx false (fun b => b < K) w (.slice an a.n.length cn) a.n) := hn1
 have HLL : Hid (LAt false (fun b => b < K) w m' al cl a.l) := hL
 have hkb := in_rng hvb
 obtain ⟨k1, b1, i1, s1, n, l⟩ := a
 obtain ⟨k2, b2, i2, s2, n2, l2⟩ := b
 simp only [C.k, C.b, C.i, C.s, C.n, C.l] at *
 unfold prtR at hU
 obtain ⟨ln, hln⟩ : ∃ ln, n.length = ln := ⟨_, rfl⟩
 obtain ⟨ll, hll⟩ : ∃ ll, l.length = ll := ⟨_, rfl⟩
 rw [hln] at HN1 hn2 hn4 hw
 rw [hll] at hl2 hl4 hw
 rw [hln, hll]
 obtain ⟨W0, hW0, hs0, hb0, hp, hq, hr⟩ := two3 w #[.int .i64 k1, .bool b1, .int .i64 i1, .string s1, .slice an ln cn, .slice al ll cl] #[.int .i64 k2, .bool b2, .int .i64 i2, .string s2, .slice bn mn dn, .slice bl ml dl]
 have HR : Hid (W0.heap[w.heap.size + 2]? = some (.cells #[.int .i64 0, .bool false, .int .i64 0, .string ⟨#[]⟩, .slice none 0 0, .slice none 0 0] 32 (0, 0))) := hr
 have HB : Hid (Below w.heap.size w W0) := hb0
 have HQ : Hid (W0.heap[w.heap.size + 1]? = some (.cells #[.int .i64 k2, .bool b2, .int .i64 i2, .string s2, .slice bn mn dn, .slice bl ml dl] 32 (0, 0))) := hq
 have HP : Hid (W0.heap[w.heap.size]? = some (.cells #[.int .i64 k1, .bool b1, .int .i64 i1, .string s1, .slice an ln cn, .slice al ll cl] 32 (0, 0))) := hp
 obtain ⟨p0, p1, p2, p3, p4, p5⟩ := six_box hp
 obtain ⟨q0, q1, q2, q3, q4, q5⟩ := six_box hq
 obtain ⟨r0, r1, r2, r3, r4, r5⟩ := six_box hr
 have rf0 := frozen_box hr 0
 have rf1 := frozen_box hr 1
 have rf2 := frozen_box hr 2
 have rf3 := frozen_box hr 3
 have rf4 := frozen_box hr 4
 have rf5 := frozen_box hr 5
 have HLN : Hid (n.length = ln ∧ l.length = ll) := ⟨hln, hll⟩
 have HW : Hid (k1 = 6 → ln ≤ ll) := hw
 clear hva hvb hn1 hl1 hN hL hp hq hb0 hr hln hll hw
 by_cases h5 : k1 = 5
 ·rw [if_pos h5] at hU
  subst h5
  have cI := integer_c k2 b2 i2 s2 (.slice bn mn dn) (.slice bl ml dl) W0
  by_cases h3 : k2 = 3
  ·rw [if_pos h3] at cI hU
   clear h3
   by_cases hneg : i2 < 0
   ·rw [if_pos (.inl hneg)] at hU
    subst hU
    have d0 : decide (i2 < 0) = true := decide_eq_true hneg
    clear hneg
    go_enter Tryz.func148, Tryz.ntmps148
    go_wp2_with fail
    try rw [hW0]
    refine cI.mono ?_
    rintro e W1 ⟨rfl, hb1⟩
    have hs1' := hb1.size
    have HB1 : Hid (Below w.heap.size w W1) := HB.out.trans (hb1.mono HB.out.size)
    obtain ⟨p0, p1, p2, p3, p4, p5⟩ := six_box ((hb1.block w.heap.size (by omega)).trans HP.out)
    have HR1 : Hid (W1.heap[w.heap.size + 2]? = some (.cells #[.int .i64 0, .bool false, .int .i64 0, .string ⟨#[]⟩, .slice none 0 0, .slice none 0 0] 32 (0, 0))) := (hb1.block (w.heap.size + 2) (by omega)).trans HR.out
    have hr := HR1.out
    obtain ⟨r0, r1, r2, r3, r4, r5⟩ := six_box hr
    have rf0 := frozen_box hr 0
    have rf1 := frozen_box hr 1
    have rf2 := frozen_box hr 2
    have rf3 := frozen_box hr 3
    have rf4 := frozen_box hr 4
    have rf5 := frozen_box hr 5
    clear hb1 cI hr
    go_wp2_with fail
    exact ⟨rfl, HB1.out, rfl⟩
   by_cases hbig : (ll : Int) ≤ i2
   ·rw [if_pos (.inr (by rw [HLN.out.2]; exact hbig))] at hU
    subst hU
    have d0 : decide (i2 < 0) = false := decide_eq_false hneg
    have d1 : decide ((ll : Int) ≤ i2) = true := decide_eq_true hbig
    clear hbig hneg
    go_enter Tryz.func148, Tryz.ntmps148
    go_wp2_with fail
    try rw [hW0]
    refine cI.mono ?_
    rintro e W1 ⟨rfl, hb1⟩
    have hs1' := hb1.size
    have HB1 : Hid (Below w.heap.size w W1) := HB.out.trans (hb1.mono HB.out.size)
    obtain ⟨p0, p1, p2, p3, p4, p5⟩ := six_box ((hb1.block w.heap.size (by omega)).trans HP.out)
    have HR1 : Hid (W1.heap[w.heap.size + 2]? = some (.cells #[.int .i64 0, .bool false, .int .i64 0, .string ⟨#[]⟩, .slice none 0 0, .slice none 0 0] 32 (0, 0))) := (hb1.block (w.heap.size + 2) (by omega)).trans HR.out
    have hr := HR1.out
    obtain ⟨r0, r1, r2, r3, r4, r5⟩ := six_box hr
    have rf0 := frozen_box hr 0
    have rf1 := frozen_box hr 1
    have rf2 := frozen_box hr 2
    have rf3 := frozen_box hr 3
    have rf4 := frozen_box hr 4
    have rf5 := frozen_box hr 5
    clear hb1 cI hr
    go_wp2_with fail
    exact ⟨rfl, HB1.out, rfl⟩
   skip
   rw [if_neg (by rw [HLN.out.2]; omega)] at hU
   obtain ⟨q, rfl⟩ : ∃ q : Nat, i2 = q := ⟨i2.toNat, by omega⟩
   have hq : q < ll := by omega
   have d0' : decide ((q : Int) < 0) = false := decide_eq_false (by omega)
   have d1' : decide ((ll : Int) ≤ (q : Int)) = false := decide_eq_false (by omega)
   clear hbig hneg
   go_enter Tryz.func148, Tryz.ntmps148
   go_wp2_with fail
   try rw [hW0]
   refine cI.mono ?_
   rintro e W1 ⟨rfl, hb1⟩
   have hs1' := hb1.size
   have HB1 : Hid (Below w.heap.size w W1) := HB.out.trans (hb1.mono HB.out.size)
   obtain ⟨p0, p1, p2, p3, p4, p5⟩ := six_box ((hb1.block w.heap.size (by omega)).trans HP.out)
   have HR1 : Hid (W1.heap[w.heap.size + 2]? = some (.cells #[.int .i64 0, .bool false, .int .i64 0, .string ⟨#[]⟩, .slice none 0 0, .slice none 0 0] 32 (0, 0))) := (hb1.block (w.heap.size + 2) (by omega)).trans HR.out
   have hr := HR1.out
   obtain ⟨r0, r1, r2, r3, r4, r5⟩ := six_box hr
   have rf0 := frozen_box hr 0
   have rf1 := frozen_box hr 1
   have rf2 := frozen_box hr 2
   have rf3 := frozen_box hr 3
   have rf4 := frozen_box hr 4
   have rf5 := frozen_box hr 5
   clear hb1 cI hr
   obtain ⟨g, oo, u, rfl, hSg, hSix, hIn⟩ := Base.elem_at HLL.out (q := q) (by rw [HLN.out.2]; omega)
   have hSix := (Base.Keep.of_below (S := All) (HB1.out)).six trivial hSix
   obtain ⟨e, he⟩ : ∃ e, l[q]'(by rw [HLN.out.2]; omega) = e := ⟨_, rfl⟩
   rw [he] at hIn
   obtain ⟨x0, x1, x2, x3, x4, x5, rfl, d0, d1, d2, d3, d4, d5⟩ := hSix
   obtain ⟨en, eln, ecn, el, ell, ecl, hu⟩ := in_shape hIn
   injection hu with hu
   simp only [Array.mk.injEq, List.cons.injEq, and_true] at hu
   obtain ⟨rfl, rfl, rfl, rfl, rfl, rfl⟩ := hu
   have hge : l.getD q zerC = e := by rw [List.getD_eq_getElem?_getD, List.getElem?_eq_getElem (by rw [HLN.out.2]; omega), he]; rfl
   have HI : Hid (Base.In false (fun b => b < K) w m' (vl e.k e.b e.i e.s (.slice en eln ecn) (.slice el ell ecl)) e) := hIn
   clear hIn he
   rw [Int.toNat_natCast, hge] at hU
   subst hU
   clear hge
   have hcl : ll ≤ cl := hl2
   skip
   generalize e.k = ek at *
   generalize e.b = eb at *
   generalize e.i = ei at *
   generalize e.s = es at *
   go_wp2_with fail
   obtain ⟨W9, hW9⟩ : ∃ W9, ((((((W1.setCell ⟨w.heap.size + 2, 0, none⟩ (.int .i64 ek)).setCell ⟨w.heap.size + 2, 1, none⟩ (.bool eb)).setCell ⟨w.heap.size + 2, 2, none⟩ (.int .i64 ei)).setCell ⟨w.heap.size + 2, 3, none⟩ (.string es)).setCell ⟨w.heap.size + 2, 4, none⟩ (.slice en eln ecn)).setCell ⟨w.heap.size + 2, 5, none⟩ (.slice el ell ecl)) = W9 := ⟨_, rfl⟩
   rw [hW9]
   obtain ⟨q1, q2, q3, q4⟩ := set6 _ _ _ _ _ _ HR1.out hW9
   refine bodyPost_ret (results_cell_row rfl _ W9 (w.heap.size + 2) 32 _ (0, 0) _ rfl q1 Tryz.underlying32 rfl (by kernel_rfl)) rfl ?_
   skip
   exact ⟨q4 _ _ (by omega) HB1.out, _, rfl, (in_low HI.out ((q4 _ _ (by omega) HB1.out).mono hK)).weak (fun _ h => h) false id _ (by omega)⟩
  ·rw [if_neg h3] at cI hU
   subst hU
   clear h3
   go_enter Tryz.func148, Tryz.ntmps148
   go_wp2_with fail
   try rw [hW0]
   refine cI.mono ?_
   rintro e W1 ⟨rfl, hb1⟩
   exact ⟨rfl, HB.out.trans (hb1.mono HB.out.size), rfl⟩
 rw [if_neg h5] at hU
 have e5 : (k1 == 5) = false := by simp [h5]
 by_cases h64 : k1 = 6 ∧ k2 = 4
 ·rw [if_pos h64] at hU
  obtain ⟨rfl, rfl⟩ := h64
  have hwn := HW.out rfl
  have cT := must_t W0
  have hx : Tx false All W0 (.slice an ln cn) n := (HN1.out.weak (S' := All) (fun _ _ => trivial) false id).below HB.out
  have cX := Part.index_c (.slice an ln cn) n s2 W0 hx
  unfold Part.fiI at cX
  clear h5 e5 hx
  cases hfi : Part.fi n s2 with
  | none =>
   rw [hfi] at cX hU
   simp only at cX hU
   subst hU
   clear hfi
   go_enter Tryz.func148, Tryz.ntmps148
   go_wp2_with fail
   try rw [hW0]
   refine cT.mono ?_
   rintro e W0 ⟨⟨v, rfl⟩, rfl⟩
   go_wp2_with fail
   refine cX.mono ?_
   rintro e W1 ⟨rfl, hb1⟩
   have hs1' := hb1.size
   have HB1 : Hid (Below w.heap.size w W1) := HB.out.trans (hb1.mono HB.out.size)
   obtain ⟨p0, p1, p2, p3, p4, p5⟩ := six_box ((hb1.block w.heap.size (by omega)).trans HP.out)
   have HR1 : Hid (W1.heap[w.heap.size + 2]? = some (.cells #[.int .i64 0, .bool false, .int .i64 0, .string ⟨#[]⟩, .slice none 0 0, .slice none 0 0] 32 (0, 0))) := (hb1.block (w.heap.size + 2) (by omega)).trans HR.out
   have hr := HR1.out
   obtain ⟨r0, r1, r2, r3, r4, r5⟩ := six_box hr
   have rf0 := frozen_box hr 0
   have rf1 := frozen_box hr 1
   have rf2 := frozen_box hr 2
   have rf3 := frozen_box hr 3
   have rf4 := frozen_box hr 4
   have rf5 := frozen_box hr 5
   clear hb1 cX cT hr
   go_wp2_with fail
   exact ⟨rfl, HB1.out, rfl⟩
  | some q =>
   have hq := Part.fi_lt hfi
   rw [HLN.out.1] at hq
   rw [hfi] at cX hU
   simp only at cX hU
   clear hfi
   have hq2 : q < ll := by omega
   have d0' : decide ((q : Int) < 0) = false := decide_eq_false (by omega)
   have hcl : ll ≤ cl := hl2
   go_enter Tryz.func148, Tryz.ntmps148
   go_wp2_with fail
   try rw [hW0]
   refine cT.mono ?_
   rintro e W0 ⟨⟨v, rfl⟩, rfl⟩
   go_wp2_with fail
   refine cX.mono ?_
   rintro e W1 ⟨rfl, hb1⟩
   have hs1' := hb1.size
   have HB1 : Hid (Below w.heap.size w W1) := HB.out.trans (hb1.mono HB.out.size)
   obtain ⟨p0, p1, p2, p3, p4, p5⟩ := six_box ((hb1.block w.heap.size (by omega)).trans HP.out)
   have HR1 : Hid (W1.heap[w.heap.size + 2]? = some (.cells #[.int .i64 0, .bool false, .int .i64 0, .string ⟨#[]⟩, .slice none 0 0, .slice none 0 0] 32 (0, 0))) := (hb1.block (w.heap.size + 2) (by omega)).trans HR.out
   have hr := HR1.out
   obtain ⟨r0, r1, r2, r3, r4, r5⟩ := six_box hr
   have rf0 := frozen_box hr 0
   have rf1 := frozen_box hr 1
   have rf2 := frozen_box hr 2
   have rf3 := frozen_box hr 3
   have rf4 := frozen_box hr 4
   have rf5 := frozen_box hr 5
   clear hb1 cX cT hr
   obtain ⟨g, oo, u, rfl, hSg, hSix, hIn⟩ := Base.elem_at HLL.out (q := q) (by rw [HLN.out.2]; omega)
   have hSix := (Base.Keep.of_below (S := All) (HB1.out)).six trivial hSix
   obtain ⟨e, he⟩ : ∃ e, l[q]'(by rw [HLN.out.2]; omega) = e := ⟨_, rfl⟩
   rw [he] at hIn
   obtain ⟨x0, x1, x2, x3, x4, x5, rfl, d0, d1, d2, d3, d4, d5⟩ := hSix
   obtain ⟨en, eln, ecn, el, ell, ecl, hu⟩ := in_shape hIn
   injection hu with hu
   simp only [Array.mk.injEq, List.cons.injEq, and_true] at hu
   obtain ⟨rfl, rfl, rfl, rfl, rfl, rfl⟩ := hu
   have hge : l.getD q zerC = e := by rw [List.getD_eq_getElem?_getD, List.getElem?_eq_getElem (by rw [HLN.out.2]; omega), he]; rfl
   have HI : Hid (Base.In false (fun b => b < K) w m' (vl e.k e.b e.i e.s (.slice en eln ecn) (.slice el ell ecl)) e) := hIn
   clear hIn he
   rw [hge] at hU
   subst hU
   clear hge
   generalize e.k = ek at *
   generalize e.b = eb at *
   generalize e.i = ei at *
   generalize e.s = es at *
   go_wp2_with fail
   obtain ⟨W9, hW9⟩ : ∃ W9, ((((((W1.setCell ⟨w.heap.size + 2, 0, none⟩ (.int .i64 ek)).setCell ⟨w.heap.size + 2, 1, none⟩ (.bool eb)).setCell ⟨w.heap.size + 2, 2, none⟩ (.int .i64 ei)).setCell ⟨w.heap.size + 2, 3, none⟩ (.string es)).setCell ⟨w.heap.size + 2, 4, none⟩ (.slice en eln ecn)).setCell ⟨w.heap.size + 2, 5, none⟩ (.slice el ell ecl)) = W9 := ⟨_, rfl⟩
   rw [hW9]
   obtain ⟨q1, q2, q3, q4⟩ := set6 _ _ _ _ _ _ HR1.out hW9
   refine bodyPost_ret (results_cell_row rfl _ W9 (w.heap.size + 2) 32 _ (0, 0) _ rfl q1 Tryz.underlying32 rfl (by kernel_rfl)) rfl ?_
   skip
   exact ⟨q4 _ _ (by omega) HB1.out, _, rfl, (in_low HI.out ((q4 _ _ (by omega) HB1.out).mono hK)).weak (fun _ h => h) false id _ (by omega)⟩
 ·rw [if_neg h64] at hU
  subst hU
  by_cases g6 : k1 = 6
  ·have e6 : (k1 == 6) = true := by simp [g6]
   have e4 : (k2 == 4) = false := by simp; omega
   clear h5 h64 g6
   have cF := must_f W0
   go_enter Tryz.func148, Tryz.ntmps148
   go_wp2_with fail
   try rw [hW0]
   refine cF.mono ?_
   rintro e W1 ⟨rfl, rfl⟩
   exact ⟨rfl, HB.out, rfl⟩
  ·have e6 : (k1 == 6) = false := by simp [g6]
   clear h5 h64 g6
   have cF := must_f W0
   go_enter Tryz.func148, Tryz.ntmps148
   go_wp2_with fail
   try rw [hW0]
   refine cF.mono ?_
   rintro e W1 ⟨rfl, rfl⟩
   exact ⟨rfl, HB.out, rfl⟩
theorem pair7 {K m : Nat} {w : World} {va vb : Value} {a b : C} (hK : K ≤ w.heap.size) (hva : Base.In false (fun b => b < K) w (m + 1) va a) (hvb : Base.In false (fun b => b < K) w (m + 1) vb b) (hw : a.k = 6 → a.n.length ≤ a.l.length) :
  Calls Tryz.prog 110 #[.int .i64 7, va, vb] w fun e w' => VR K (m + 1) w (VPure.prt a b) e w' := by
 obtain ⟨U, hU⟩ : ∃ U, VPure.prt a b = U := ⟨_, rfl⟩
 have cI := fun W (hW : Below w.heap.size w W) => part_c (w := W) (Nat.le_trans hK hW.size) (in_low hva (hW.mono hK)) (in_low hvb (hW.mono hK)) hw
 rw [hU] at cI ⊢
 obtain ⟨an, ln, cn, al, ll, cl, rfl⟩ := in_shape hva
 obtain ⟨bn, mn, dn, bl, ml, dl, rfl⟩ := in_shape hvb
 clear hU hva hvb hw
 generalize a.k = k1 at *
 generalize a.b = b1 at *
 generalize a.i = i1 at *
 generalize a.s = s1 at *
 generalize b.k = k2 at *
 generalize b.b = b2 at *
 generalize b.i = i2 at *
 generalize b.s = s2 at *
 obtain ⟨W0, hW0, hs0, hb0, hp, hq, hr⟩ := two3 w #[.int .i64 k1, .bool b1, .int .i64 i1, .string s1, .slice an ln cn, .slice al ll cl] #[.int .i64 k2, .bool b2, .int .i64 i2, .string s2, .slice bn mn dn, .slice bl ml dl]
 have HR : Hid (W0.heap[w.heap.size + 2]? = some (.cells #[.int .i64 0, .bool false, .int .i64 0, .string ⟨#[]⟩, .slice none 0 0, .slice none 0 0] 32 (0, 0))) := hr
 have HB : Hid (Below w.heap.size w W0) := hb0
 obtain ⟨p0, p1, p2, p3, p4, p5⟩ := six_box hp
 obtain ⟨q0, q1, q2, q3, q4, q5⟩ := six_box hq
 have cI := cI W0 hb0
 clear hp hq hb0 hr
 go_enter Tryz.func110, Tryz.ntmps110
 go_upto_if 8 with fail
 refine wp_cond_true (by rfl) ?_
 refine wp_skip ?_
 refine ex_norm ?_
 apply_assumption
 go_upto_if 8 with fail
 refine wp_cond_true (by rfl) ?_
 refine wp_exit ?_
 repeat (first | (with_reducible refine ex_then ?_) | (with_reducible refine ex_skip (by decide) ?_))
 refine ex_hit ?_
 refine ex_norm ?_
 apply_assumption
 refine wp_mono (Q := Out ?outB) ?outM (out_mono ?outR ?outP)
 case outR => intro a w h; (repeat (first | (with_reducible refine rt_then ?_) | (with_reducible refine rt_blk ?_))); exact h
 case outP => intro c a w h; (repeat (first | (with_reducible refine pn_then ?_) | (with_reducible refine pn_blk ?_))); exact h
 try simp only [hW0]
 go_wp2_with fail
 try rw [hW0]
 refine cI.mono ?_
 rintro e W1 ⟨hb1, hA⟩
 clear cI
 have hs1 := hb1.size
 have HB1 : Hid (Below w.heap.size w W1) := HB.out.trans (hb1.mono HB.out.size)
 have HR1 : Hid (W1.heap[w.heap.size + 2]? = some (.cells #[.int .i64 0, .bool false, .int .i64 0, .string ⟨#[]⟩, .slice none 0 0, .slice none 0 0] 32 (0, 0))) := (hb1.block (w.heap.size + 2) (by omega)).trans HR.out
 clear hb1
 cases U with
 | error c =>
  obtain rfl := hA
  exact ⟨rfl, HB1.out, rfl⟩
 | ok e =>
  obtain ⟨u, rfl, hin⟩ := hA
  obtain ⟨en, eln, ecn, el, ell, ecl, rfl⟩ := in_shape hin
  have HI : Hid (Base.In false (fun b => b < K) W1 (m + 1) (vl e.k e.b e.i e.s (.slice en eln ecn) (.slice el ell ecl)) e) := hin
  have hr := HR1.out
  obtain ⟨r0, r1, r2, r3, r4, r5⟩ := six_box hr
  have rf0 := frozen_box hr 0
  have rf1 := frozen_box hr 1
  have rf2 := frozen_box hr 2
  have rf3 := frozen_box hr 3
  have rf4 := frozen_box hr 4
  have rf5 := frozen_box hr 5
  clear hin hr
  generalize e.k = ek at *
  generalize e.b = eb at *
  generalize e.i = ei at *
  generalize e.s = es at *
  go_wp2_with fail
  obtain ⟨W9, hW9⟩ : ∃ W9, ((((((W1.setCell ⟨w.heap.size + 2, 0, none⟩ (.int .i64 ek)).setCell ⟨w.heap.size + 2, 1, none⟩ (.bool eb)).setCell ⟨w.heap.size + 2, 2, none⟩ (.int .i64 ei)).setCell ⟨w.heap.size + 2, 3, none⟩ (.string es)).setCell ⟨w.heap.size + 2, 4, none⟩ (.slice en eln ecn)).setCell ⟨w.heap.size + 2, 5, none⟩ (.slice el ell ecl)) = W9 := ⟨_, rfl⟩
  rw [hW9]
  obtain ⟨q1, q2, q3, q4⟩ := set6 _ _ _ _ _ _ HR1.out hW9
  first | refine out_ret (results_cell_row rfl _ W9 (w.heap.size + 2) 32 _ (0, 0) _ rfl q1 Tryz.underlying32 rfl (by kernel_rfl)) rfl ?_ | refine bodyPost_ret (results_cell_row rfl _ W9 (w.heap.size + 2) 32 _ (0, 0) _ rfl q1 Tryz.underlying32 rfl (by kernel_rfl)) rfl ?_
  exact ⟨q4 _ _ (by omega) HB1.out, _, rfl, in_low HI.out (q4 _ _ (by omega) (Below.refl _ _))⟩
theorem pair8 {K m : Nat} {w : World} {va vb : Value} {a b : C} (hK : K ≤ w.heap.size) (hva : Base.In false (fun b => b < K) w (m + 1) va a) (hvb : Base.In false (fun b => b < K) w (m + 1) vb b) (hw : a.k = 6 → a.n.length ≤ a.l.length) :
  Calls Tryz.prog 110 #[.int .i64 8, va, vb] w fun e w' => VR K (m + 1) w (VPure.prt a b) e w' := by
 obtain ⟨U, hU⟩ : ∃ U, VPure.prt a b = U := ⟨_, rfl⟩
 have cI := fun W (hW : Below w.heap.size w W) => part_c (w := W) (Nat.le_trans hK hW.size) (in_low hva (hW.mono hK)) (in_low hvb (hW.mono hK)) hw
 rw [hU] at cI ⊢
 obtain ⟨an, ln, cn, al, ll, cl, rfl⟩ := in_shape hva
 obtain ⟨bn, mn, dn, bl, ml, dl, rfl⟩ := in_shape hvb
 clear hU hva hvb hw
 generalize a.k = k1 at *
 generalize a.b = b1 at *
 generalize a.i = i1 at *
 generalize a.s = s1 at *
 generalize b.k = k2 at *
 generalize b.b = b2 at *
 generalize b.i = i2 at *
 generalize b.s = s2 at *
 obtain ⟨W0, hW0, hs0, hb0, hp, hq, hr⟩ := two3 w #[.int .i64 k1, .bool b1, .int .i64 i1, .string s1, .slice an ln cn, .slice al ll cl] #[.int .i64 k2, .bool b2, .int .i64 i2, .string s2, .slice bn mn dn, .slice bl ml dl]
 have HR : Hid (W0.heap[w.heap.size + 2]? = some (.cells #[.int .i64 0, .bool false, .int .i64 0, .string ⟨#[]⟩, .slice none 0 0, .slice none 0 0] 32 (0, 0))) := hr
 have HB : Hid (Below w.heap.size w W0) := hb0
 obtain ⟨p0, p1, p2, p3, p4, p5⟩ := six_box hp
 obtain ⟨q0, q1, q2, q3, q4, q5⟩ := six_box hq
 have cI := cI W0 hb0
 clear hp hq hb0 hr
 go_enter Tryz.func110, Tryz.ntmps110
 go_upto_if 8 with fail
 refine wp_cond_false (by rfl) ?_
 go_upto_if 8 with fail
 refine wp_cond_true (by rfl) ?_
 refine wp_exit ?_
 repeat (first | (with_reducible refine ex_then ?_) | (with_reducible refine ex_skip (by decide) ?_))
 refine ex_hit ?_
 refine ex_norm ?_
 apply_assumption
 refine wp_mono (Q := Out ?outB) ?outM (out_mono ?outR ?outP)
 case outR => intro a w h; (repeat (first | (with_reducible refine rt_then ?_) | (with_reducible refine rt_blk ?_))); exact h
 case outP => intro c a w h; (repeat (first | (with_reducible refine pn_then ?_) | (with_reducible refine pn_blk ?_))); exact h
 try simp only [hW0]
 go_wp2_with fail
 try rw [hW0]
 refine cI.mono ?_
 rintro e W1 ⟨hb1, hA⟩
 clear cI
 have hs1 := hb1.size
 have HB1 : Hid (Below w.heap.size w W1) := HB.out.trans (hb1.mono HB.out.size)
 have HR1 : Hid (W1.heap[w.heap.size + 2]? = some (.cells #[.int .i64 0, .bool false, .int .i64 0, .string ⟨#[]⟩, .slice none 0 0, .slice none 0 0] 32 (0, 0))) := (hb1.block (w.heap.size + 2) (by omega)).trans HR.out
 clear hb1
 cases U with
 | error c =>
  obtain rfl := hA
  exact ⟨rfl, HB1.out, rfl⟩
 | ok e =>
  obtain ⟨u, rfl, hin⟩ := hA
  obtain ⟨en, eln, ecn, el, ell, ecl, rfl⟩ := in_shape hin
  have HI : Hid (Base.In false (fun b => b < K) W1 (m + 1) (vl e.k e.b e.i e.s (.slice en eln ecn) (.slice el ell ecl)) e) := hin
  have hr := HR1.out
  obtain ⟨r0, r1, r2, r3, r4, r5⟩ := six_box hr
  have rf0 := frozen_box hr 0
  have rf1 := frozen_box hr 1
  have rf2 := frozen_box hr 2
  have rf3 := frozen_box hr 3
  have rf4 := frozen_box hr 4
  have rf5 := frozen_box hr 5
  clear hin hr
  generalize e.k = ek at *
  generalize e.b = eb at *
  generalize e.i = ei at *
  generalize e.s = es at *
  go_wp2_with fail
  obtain ⟨W9, hW9⟩ : ∃ W9, ((((((W1.setCell ⟨w.heap.size + 2, 0, none⟩ (.int .i64 ek)).setCell ⟨w.heap.size + 2, 1, none⟩ (.bool eb)).setCell ⟨w.heap.size + 2, 2, none⟩ (.int .i64 ei)).setCell ⟨w.heap.size + 2, 3, none⟩ (.string es)).setCell ⟨w.heap.size + 2, 4, none⟩ (.slice en eln ecn)).setCell ⟨w.heap.size + 2, 5, none⟩ (.slice el ell ecl)) = W9 := ⟨_, rfl⟩
  rw [hW9]
  obtain ⟨q1, q2, q3, q4⟩ := set6 _ _ _ _ _ _ HR1.out hW9
  first | refine out_ret (results_cell_row rfl _ W9 (w.heap.size + 2) 32 _ (0, 0) _ rfl q1 Tryz.underlying32 rfl (by kernel_rfl)) rfl ?_ | refine bodyPost_ret (results_cell_row rfl _ W9 (w.heap.size + 2) 32 _ (0, 0) _ rfl q1 Tryz.underlying32 rfl (by kernel_rfl)) rfl ?_
  exact ⟨q4 _ _ (by omega) HB1.out, _, rfl, in_low HI.out (q4 _ _ (by omega) (Below.refl _ _))⟩
end Go.Proofs.YtdeigdbnnbikgaaGreatDoor.VPt

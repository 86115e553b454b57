import Derived.Test.YthonejomogkjjaaGreatDoorPA24
set_option linter.unusedVariables false
set_option maxRecDepth 20000
set_option maxHeartbeats 3200000
namespace Go.Proofs.YthonejomogkjjaaGreatDoor.GNe
open Go.RowKit Base EPure JPure VSm VIn VJn VRs JVr JVa JRv GPl GVa GTr GEn GAt GAs GTx GBu GBt GBe GNs GNo
open VPure hiding evL
open TBase (T)
open KBase (Pt Fld Co RP RF)
def nE (L : List C) (t : ByteArray) (fs : List Fld) (kd : Except Nat (List T × Int)) (r : Int) : Except Nat (T × Int) := if r = 0 then .error 1601 else bnd (ats L fs) fun n => bnd kd fun a => .ok (T.mk t ⟨#[]⟩ n a.1, a.2)
theorem kid_c {W : World} {B b0 b1 b2 : Nat} {num k : Int} {t : ByteArray} {fv pv xv lv uv : Value} {R : Int → World → Option Nat → Prop} {lo0 Bb : Nat} {X : Option Nat} {A : Except Nat (List T × Int)} {W' : World} (hn : 0 ≤ num ∧ num ≤ 100000) (g1 : W.heap[b0]? = some (.cells #[ptr B] 189 (0, 0))) (g2 : W.heap[b1]? = some (.cells #[.int .i64 k, .string t, fv, pv, xv, lv, uv] 66 (0, 0))) (g3 : W.heap[b2]? = some (.cells #[.int .i64 num] 3 (0, 0)))
  (hk : Calls Tryz.prog 87 #[ptr B, lv, .int .i64 (num + 1)] W fun e w' => KR R lo0 B Bb X W' A e w') : Calls Tryz.prog 184 #[ptr b0, ptr b1, ptr b2] W fun e w' => KR R lo0 B Bb X W' A e w' := by
 have p0 := one_b g1
 obtain ⟨-, -, -, -, -, e5, -⟩ := seven_b g2
 have p1 := one_b g3
 have hw : IntKind.i64.wrap (num + 1) = num + 1 := by rw [IntKind.wrap_i64]; omega
 clear g1 g2 g3
 cases A with
 | error q =>
  go_enter Tryz.func184, Tryz.ntmps184
  go_wp2_with (first
   | (go_at_call 87; refine hk.mono ?_; rintro e w' ⟨rfl, hf⟩))
  exact ⟨rfl, rfl, hf⟩
 | ok a =>
  go_enter Tryz.func184, Tryz.ntmps184
  go_wp2_with (first
   | (go_at_call 87; refine hk.mono ?_; rintro e w' ⟨h1, ⟨v, rfl⟩, h2⟩))
  go_end0
  exact ⟨h1, ⟨_, rfl⟩, h2⟩
theorem own_ax {w : World} {B : Nat} {S : Nat → Prop} {v : Value} {n : List (ByteArray × ByteArray)} (h : TBase.OwnA w B v n) (hS : ∀ g, v.ownBlock = some g → S g) (hl : n.length ≤ 4096) (hs : ∀ t ∈ n, t.1.size ≤ 140737488351232 ∧ t.2.size ≤ 140737488351232) : TBase.Ax false S w v n := by
 have h' := h
 rcases h'.2 with ⟨rfl, e⟩ | ⟨g, cap, cur, rfl, h2, h3, h4, h5, h6⟩
 ·obtain rfl : n = [] := List.eq_nil_of_length_eq_zero (by omega)
  exact ⟨none, 0, rfl, by simp, by omega, by simp, by simp, fun _ => rfl, .inl ⟨rfl, rfl⟩⟩
 ·exact ⟨some ⟨g, 0, none⟩, cap, rfl, h4, by unfold maxLen at h5; omega, by omega, hs, fun e => by simp at e, .inr ⟨g, 0, rfl, hS g rfl, fun j hj => TBase.ownA_cell h j hj, fun e => by cases e⟩⟩
set_option maxHeartbeats 6400000 in
theorem elem_no {K m lo : Nat} {w : World} {B Bb : Nat} {Pv : Value} {sv : Sz} {L : List C} {tv : Value} {F : List T} {num : Int} {t : ByteArray} {fv pv xv lv uv : Value} {fs : List Fld} {kd : Except Nat (List T × Int)} (h : Wr K m w B Bb Pv sv 0 L) :
  Calls Tryz.prog 130 #[ptr B, .agg #[.int .i64 2, .string t, fv, pv, xv, lv, uv], .int .i64 num] w fun e w' => ER (Rs K m B Bb sv L) lo B Bb Pv.ownBlock tv F w (nE L t fs kd 0) e w' := by
 obtain ⟨W0, hW0, s0, b0, g1, g2, g3⟩ := boxes3 w #[ptr B] #[.int .i64 2, .string t, fv, pv, xv, lv, uv] #[.int .i64 num] 189 66 3
 have h0 := h.below b0
 have hlt := h.lt
 have q0 : W0.cell? ⟨w.heap.size, 0, none⟩ = some (ptr B) := one_b g1
 obtain ⟨d0, d1, d2, d3, d4, d5, d6⟩ := seven_b g2
 have n0 : W0.cell? ⟨w.heap.size + 2, 0, none⟩ = some (.int .i64 num) := one_b g3
 have cE := enter_no h0.box
 have HB0 : Hid _ := b0
 clear h0 h b0 g1 g2 g3
 go_enter Tryz.func130, Tryz.ntmps130
 go_wp2_with (first
  | (go_at_call 181; refine cE.mono ?_; rintro e W1 ⟨rfl, rfl⟩))
 refine ⟨rfl, rfl, fun n h1 h2 h3 h4 => HB0.out.mono (by omega), HB0.out.size, fun b h1 h2 h3 h4 h5 => HB0.out.block b h1⟩
theorem ownA_shape {w : World} {B : Nat} {v : Value} {n : List (ByteArray × ByteArray)} (h : TBase.OwnA w B v n) : ∃ a k c, v = .slice a k c := by
 rcases h.2 with ⟨rfl, e⟩ | ⟨g, cap, cur, rfl, h2, h3, h4, h5, h6⟩
 ·exact ⟨_, _, _, rfl⟩
 ·exact ⟨_, _, _, rfl⟩
set_option maxHeartbeats 6400000 in
theorem elem_ok {K m lo : Nat} {w : World} {B Bb : Nat} {Pv : Value} {sv : Sz} {r : Int} {L : List C} {tv : Value} {F : List T} {num : Int} {t : ByteArray} {fv pv xv lv uv : Value} {fs : List Fld} {kd : Except Nat (List T × Int)} (h : Wr K m w B Bb Pv sv r L) (hr : 0 < r ∧ r ≤ 100000) (hb : Bt lo w Bb Pv.ownBlock tv F) (hBlo : B < lo) (hzl : sv.1 < lo) (hF : F.length ≤ 65536) (hn : 0 ≤ num ∧ num ≤ 100000) (ht : t.size ≤ 140737488351232) (hf : RF false (fun b => b < K) w fv fs) (hg : ∀ j (h : j < fs.length), fs[j].b = true → gd fs[j].e ∧ ops okOp fs[j].e) (hfn : fs.length ≤ 4096)
  (hsz : ∀ n, ats L fs = .ok n → n.length ≤ 4096 ∧ ∀ t ∈ n, t.1.size ≤ 140737488351232 ∧ t.2.size ≤ 140737488351232)
  (hN : ∀ W, Wr K m W B Bb Pv sv (r - 1) L → Bt W.heap.size W Bb Pv.ownBlock (.slice none 0 0) [] → Below K w W → Calls Tryz.prog 87 #[ptr B, lv, .int .i64 (num + 1)] W fun e w' => KR (Rs K m B Bb sv L) W.heap.size B Bb Pv.ownBlock W kd e w') :
  Calls Tryz.prog 130 #[ptr B, .agg #[.int .i64 2, .string t, fv, pv, xv, lv, uv], .int .i64 num] w fun e w' => ER (Rs K m B Bb sv L) lo B Bb Pv.ownBlock tv F w (nE L t fs kd r) e w' := by
 obtain ⟨fa, fc, rfl, hf2⟩ := hf
 have hf : RF false (fun b => b < K) w (.slice fa fs.length fc) fs := ⟨fa, fc, rfl, hf2⟩
 have e0 : nE L t fs kd r = bnd (ats L fs) fun n => bnd kd fun a => .ok (T.mk t ⟨#[]⟩ n a.1, a.2) := if_neg (by omega)
 rw [e0]
 obtain ⟨W0, hW0, s0, b0, g1, g2, g3⟩ := boxes3 w #[ptr B] #[.int .i64 2, .string t, (.slice fa fs.length fc), pv, xv, lv, uv] #[.int .i64 num] 189 66 3
 have h0 := h.below b0
 have hlt := h.lt
 have q0 : W0.cell? ⟨w.heap.size, 0, none⟩ = some (ptr B) := one_b g1
 obtain ⟨d0, d1, d2, d3, d4, d5, d6⟩ := seven_b g2
 have n0 : W0.cell? ⟨w.heap.size + 2, 0, none⟩ = some (.int .i64 num) := one_b g3
 obtain ⟨W1, hW1⟩ : ∃ W, W0.setCell ⟨B, 3, none⟩ (.int .i64 (r - 1)) = W := ⟨_, rfl⟩
 have h1 := h0.room (r - 1) hW1
 have s1 : W1.heap.size = w.heap.size + 3 := by rw [← hW1, World.size_setCell, s0]
 have o1 : ∀ b, b ≠ B → W1.heap[b]? = W0.heap[b]? := fun b hb => by rw [← hW1, Below.heap_setCell _ _ _ _ (by simpa using hb)]
 have HO1 : Hid (∀ b, b < w.heap.size → b ≠ B → W1.heap[b]? = w.heap[b]?) := fun b hl hb => (o1 b hb).trans (b0.block b hl)
 have HB1 : Hid (∀ n, n ≤ B → Below n w W1) := fun n hn => by rw [← hW1]; exact (b0.mono (by omega)).setCell (by simpa using hn) _
 have cE := enter_ok h0.box hr
 have G1 : Hid _ := (o1 w.heap.size (by omega)).trans g1
 have G2 : Hid _ := (o1 (w.heap.size + 1) (by omega)).trans g2
 have G3 : Hid _ := (o1 (w.heap.size + 2) (by omega)).trans g3
 have H1 : Hid (Wr K m W1 B Bb Pv sv (r - 1) L) := h1
 have HB : Hid _ := hb
 have hlo := hb.hi
 have p0 : W1.cell? ⟨w.heap.size, 0, none⟩ = some (ptr B) := one_b G1.out
 obtain ⟨-, e1, e2, e3, -, e5, -⟩ := seven_b G2.out
 have p1 : W1.cell? ⟨w.heap.size + 1 + 1, 0, none⟩ = some (.int .i64 num) := one_b G3.out
 obtain ⟨-, m1, -, -⟩ := wk_box h1.box
 have hfd : RF false (fun b => b < K) W1.drew (.slice fa fs.length fc) fs := KBase.RF.keep (w := w) (w' := W1.drew) (fun b hb hl => HO1.out b hl (by have := h1.lB; omega)) hf
 have ct := GAs.attrs_c (h1.bs.below ((Below.refl _ W1).drew)) hfd hg hfn
 obtain ⟨U, hU⟩ : ∃ U, ats L fs = U := ⟨_, rfl⟩
 rw [hU] at ct hsz
 rw [hU]
 have HSZ : Hid _ := hsz
 have HXL : Hid (∀ x, Pv.ownBlock = some x → x < w.heap.size) := fun x e => (h.xb x e).2.1
 have HNN : Hid _ := hN
 have cT : Hid (Calls Tryz.prog 183 #[ptr B, .slice fa fs.length fc] W1.drew fun e w' => AR W1.drew U e w') := ct
 have hbl : Bb < w.heap.size := (Array.getElem?_eq_some_iff.1 hb.box).1
 clear hU ct hfd
 clear h0 h b0 g1 g2 g3 hf hf2 hg e0 hb h1 o1 d1 d2 d3 d4 d5 d6 hsz hN e3 e5
 cases U with
 | error q =>
  go_enter Tryz.func130, Tryz.ntmps130
  go_wp2_with (first
   | (go_at_call 181; refine cE.mono ?_; rintro e W9 ⟨⟨v9, rfl⟩, rfl⟩; rw [hW1]))
  refine wp_region_held_drew (S := fun w' => w'.cell? ⟨w.heap.size, 0, none⟩ = some (ptr B) ∧ w'.cell? ⟨B, 1, none⟩ = some (mkr Bb) ∧ w'.cell? ⟨w.heap.size + 1, 1, none⟩ = some (.string t) ∧ w'.cell? ⟨w.heap.size + 1, 2, none⟩ = some (.slice fa fs.length fc) ∧ w'.cell? ⟨w.heap.size + 1 + 1, 0, none⟩ = some (.int .i64 num)) (by kernel_rfl) (by exact ⟨p0, m1, e1, e2, p1⟩) (fun hHeld => ?_)
  refine wpAnyH_take (i := 0) (v := ?_) rfl (by kernel_rfl) (by kernel_rfl) (by kernel_rfl) (fun _ _ _ h => h) (Or.inl ⟨by rfl, ?_⟩) (by assumption) ?_
  rotate_left 1
  ·intro w hSw; (try dsimp only at hSw); go_simp; first | done | with_reducible rfl | (rw [if_neg (by omega)])
  try simp only [Act.put, zA, zB, zD, zE, zF]
  refine wpAnyH_take (i := 1) (v := ?_) rfl (by kernel_rfl) (by kernel_rfl) (by kernel_rfl) (fun _ _ _ h => h) (Or.inl ⟨by rfl, ?_⟩) (by assumption) ?_
  rotate_left 1
  ·intro w hSw; (try dsimp only at hSw); go_simp; first | done | with_reducible rfl | (rw [if_neg (by omega)])
  try simp only [Act.put, zA, zB, zC, zD, zE, zF]
  refine wpAnyH_take (i := 2) (v := ?_) rfl (by kernel_rfl) (by kernel_rfl) (by kernel_rfl) (fun _ _ _ h => h) (Or.inl ⟨by rfl, ?_⟩) (by assumption) ?_
  rotate_left 1
  ·intro w hSw; (try dsimp only at hSw); go_simp; first | done | with_reducible rfl | (rw [if_neg (by omega)])
  try simp only [Act.put, zA, zB, zC, zD, zE, zF]
  refine wpAnyH_take (i := 3) (v := ?_) rfl (by kernel_rfl) (by kernel_rfl) (by kernel_rfl) (fun _ _ _ h => h) (Or.inl ⟨by rfl, ?_⟩) (by assumption) ?_
  rotate_left 1
  ·intro w hSw; (try dsimp only at hSw); go_simp; first | done | with_reducible rfl | (rw [if_neg (by omega)])
  try simp only [Act.put, zA, zB, zC, zD, zE, zF]
  refine wpAnyH_take (i := 4) (v := ?_) rfl (by kernel_rfl) (by kernel_rfl) (by kernel_rfl) (fun _ _ _ h => h) (Or.inl ⟨by rfl, ?_⟩) (by assumption) ?_
  rotate_left 1
  ·intro w hSw; (try dsimp only at hSw); go_simp; first | done | with_reducible rfl | (rw [if_neg (by omega)])
  try simp only [Act.put, zA, zB, zC, zD, zE, zF]
  refine wpAnyH_take (i := 5) (v := ?_) rfl (by kernel_rfl) (by kernel_rfl) (by kernel_rfl) (fun _ _ _ h => h) (Or.inl ⟨by rfl, ?_⟩) (by assumption) ?_
  rotate_left 1
  ·intro w hSw; (try dsimp only at hSw); go_simp; first | done | with_reducible rfl | (rw [if_neg (by omega)])
  try simp only [Act.put, zA, zB, zC, zD, zE, zF]
  refine wpAnyH_take (i := 6) (v := ?_) rfl (by kernel_rfl) (by kernel_rfl) (by kernel_rfl) (fun _ _ _ h => h) (Or.inl ⟨by rfl, ?_⟩) (by assumption) ?_
  rotate_left 1
  ·intro w hSw; (try dsimp only at hSw); go_simp; first | done | with_reducible rfl | (rw [if_neg (by omega)])
  try simp only [Act.put, zA, zB, zC, zD, zE, zF]
  refine wpAnyH_take (i := 7) (v := ?_) rfl (by kernel_rfl) (by kernel_rfl) (by kernel_rfl) (fun _ _ _ h => h) (Or.inl ⟨by rfl, ?_⟩) (by assumption) ?_
  rotate_left 1
  ·intro w hSw; (try dsimp only at hSw); go_simp; first | done | with_reducible rfl | (rw [if_neg (by omega)])
  try simp only [Act.put, zA, zB, zC, zD, zE, zF]
  refine wpAnyH_take (i := 8) (v := ?_) rfl (by kernel_rfl) (by kernel_rfl) (by kernel_rfl) (fun _ _ _ h => h) (Or.inl ⟨by rfl, ?_⟩) (by assumption) ?_
  rotate_left 1
  ·intro w hSw; (try dsimp only at hSw); go_simp; first | done | with_reducible rfl | (rw [if_neg (by omega)])
  try simp only [Act.put, zA, zB, zC, zD, zE, zF]
  refine wpAnyH_take (i := 9) (v := ?_) rfl (by kernel_rfl) (by kernel_rfl) (by kernel_rfl) (fun _ _ _ h => h) (Or.inl ⟨by rfl, ?_⟩) (by assumption) ?_
  rotate_left 1
  ·intro w hSw; (try dsimp only at hSw); go_simp; first | done | with_reducible rfl | (rw [if_neg (by omega)])
  try simp only [Act.put, zA, zB, zC, zD, zE, zF]
  refine wpAnyH_take (i := 11) (v := ?_) rfl (by kernel_rfl) (by kernel_rfl) (by kernel_rfl) (fun _ _ _ h => h) (Or.inl ⟨by rfl, ?_⟩) (by assumption) ?_
  rotate_left 1
  ·intro w hSw; (try dsimp only at hSw); go_simp; first | done | with_reducible rfl | (rw [if_neg (by omega)])
  try simp only [Act.put, zA, zB, zC, zD, zE, zF]
  refine wpAnyH_take (i := 12) (v := ?_) rfl (by kernel_rfl) (by kernel_rfl) (by kernel_rfl) (fun _ _ _ h => h) (Or.inl ⟨by rfl, ?_⟩) (by assumption) ?_
  rotate_left 1
  ·intro w hSw; (try dsimp only at hSw); go_simp; first | done | with_reducible rfl | (rw [if_neg (by omega)])
  try simp only [Act.put, zA, zB, zC, zD, zE, zF]
  refine wpAnyH_take (i := 13) (v := ?_) rfl (by kernel_rfl) (by kernel_rfl) (by kernel_rfl) (fun _ _ _ h => h) (Or.inl ⟨by rfl, ?_⟩) (by assumption) ?_
  rotate_left 1
  ·intro w hSw; (try dsimp only at hSw); go_simp; first | done | with_reducible rfl | (rw [if_neg (by omega)])
  try simp only [Act.put, zA, zB, zC, zD, zE, zF]
  refine wpAnyH_ready (rs := [10]) (by kernel_rfl) (by simp) ?_
  refine AllReadyH.cons rfl (fun K0 hK => ?_) (AllReadyH.nil)
  go_simp
  refine cT.out.mono ?_
  rintro ee W2 ⟨b2, hq⟩
  obtain rfl := hq
  have b2' : Below W1.heap.size W1 W2 := (Below.refl _ W1).drew.trans b2
  have s2 := b2'.size
  refine ⟨rfl, rfl, fun n h1 h2 h3 h4 => (HB1.out n h1).trans (b2'.mono (by omega)), by omega, fun b h1 h2 h3 h4 h5 => ?_⟩
  rw [b2'.block b (by omega), HO1.out b h1 h2]
 | ok n =>
  have HN : Hid _ := HSZ.out n rfl
  go_enter Tryz.func130, Tryz.ntmps130
  go_wp2_with (first
   | (go_at_call 181; refine cE.mono ?_; rintro e W9 ⟨⟨v9, rfl⟩, rfl⟩; rw [hW1]))
  refine wp_region_held_drew (S := fun w' => w'.cell? ⟨w.heap.size, 0, none⟩ = some (ptr B) ∧ w'.cell? ⟨B, 1, none⟩ = some (mkr Bb) ∧ w'.cell? ⟨w.heap.size + 1, 1, none⟩ = some (.string t) ∧ w'.cell? ⟨w.heap.size + 1, 2, none⟩ = some (.slice fa fs.length fc) ∧ w'.cell? ⟨w.heap.size + 1 + 1, 0, none⟩ = some (.int .i64 num)) (by kernel_rfl) (by exact ⟨p0, m1, e1, e2, p1⟩) (fun hHeld => ?_)
  refine wpAnyH_take (i := 0) (v := ?_) rfl (by kernel_rfl) (by kernel_rfl) (by kernel_rfl) (fun _ _ _ h => h) (Or.inl ⟨by rfl, ?_⟩) (by assumption) ?_
  rotate_left 1
  ·intro w hSw; (try dsimp only at hSw); go_simp; first | done | with_reducible rfl | (rw [if_neg (by omega)])
  try simp only [Act.put, zA, zB, zD, zE, zF]
  refine wpAnyH_take (i := 1) (v := ?_) rfl (by kernel_rfl) (by kernel_rfl) (by kernel_rfl) (fun _ _ _ h => h) (Or.inl ⟨by rfl, ?_⟩) (by assumption) ?_
  rotate_left 1
  ·intro w hSw; (try dsimp only at hSw); go_simp; first | done | with_reducible rfl | (rw [if_neg (by omega)])
  try simp only [Act.put, zA, zB, zC, zD, zE, zF]
  refine wpAnyH_take (i := 2) (v := ?_) rfl (by kernel_rfl) (by kernel_rfl) (by kernel_rfl) (fun _ _ _ h => h) (Or.inl ⟨by rfl, ?_⟩) (by assumption) ?_
  rotate_left 1
  ·intro w hSw; (try dsimp only at hSw); go_simp; first | done | with_reducible rfl | (rw [if_neg (by omega)])
  try simp only [Act.put, zA, zB, zC, zD, zE, zF]
  refine wpAnyH_take (i := 3) (v := ?_) rfl (by kernel_rfl) (by kernel_rfl) (by kernel_rfl) (fun _ _ _ h => h) (Or.inl ⟨by rfl, ?_⟩) (by assumption) ?_
  rotate_left 1
  ·intro w hSw; (try dsimp only at hSw); go_simp; first | done | with_reducible rfl | (rw [if_neg (by omega)])
  try simp only [Act.put, zA, zB, zC, zD, zE, zF]
  refine wpAnyH_take (i := 4) (v := ?_) rfl (by kernel_rfl) (by kernel_rfl) (by kernel_rfl) (fun _ _ _ h => h) (Or.inl ⟨by rfl, ?_⟩) (by assumption) ?_
  rotate_left 1
  ·intro w hSw; (try dsimp only at hSw); go_simp; first | done | with_reducible rfl | (rw [if_neg (by omega)])
  try simp only [Act.put, zA, zB, zC, zD, zE, zF]
  refine wpAnyH_take (i := 5) (v := ?_) rfl (by kernel_rfl) (by kernel_rfl) (by kernel_rfl) (fun _ _ _ h => h) (Or.inl ⟨by rfl, ?_⟩) (by assumption) ?_
  rotate_left 1
  ·intro w hSw; (try dsimp only at hSw); go_simp; first | done | with_reducible rfl | (rw [if_neg (by omega)])
  try simp only [Act.put, zA, zB, zC, zD, zE, zF]
  refine wpAnyH_take (i := 6) (v := ?_) rfl (by kernel_rfl) (by kernel_rfl) (by kernel_rfl) (fun _ _ _ h => h) (Or.inl ⟨by rfl, ?_⟩) (by assumption) ?_
  rotate_left 1
  ·intro w hSw; (try dsimp only at hSw); go_simp; first | done | with_reducible rfl | (rw [if_neg (by omega)])
  try simp only [Act.put, zA, zB, zC, zD, zE, zF]
  refine wpAnyH_take (i := 7) (v := ?_) rfl (by kernel_rfl) (by kernel_rfl) (by kernel_rfl) (fun _ _ _ h => h) (Or.inl ⟨by rfl, ?_⟩) (by assumption) ?_
  rotate_left 1
  ·intro w hSw; (try dsimp only at hSw); go_simp; first | done | with_reducible rfl | (rw [if_neg (by omega)])
  try simp only [Act.put, zA, zB, zC, zD, zE, zF]
  refine wpAnyH_take (i := 8) (v := ?_) rfl (by kernel_rfl) (by kernel_rfl) (by kernel_rfl) (fun _ _ _ h => h) (Or.inl ⟨by rfl, ?_⟩) (by assumption) ?_
  rotate_left 1
  ·intro w hSw; (try dsimp only at hSw); go_simp; first | done | with_reducible rfl | (rw [if_neg (by omega)])
  try simp only [Act.put, zA, zB, zC, zD, zE, zF]
  refine wpAnyH_take (i := 9) (v := ?_) rfl (by kernel_rfl) (by kernel_rfl) (by kernel_rfl) (fun _ _ _ h => h) (Or.inl ⟨by rfl, ?_⟩) (by assumption) ?_
  rotate_left 1
  ·intro w hSw; (try dsimp only at hSw); go_simp; first | done | with_reducible rfl | (rw [if_neg (by omega)])
  try simp only [Act.put, zA, zB, zC, zD, zE, zF]
  refine wpAnyH_take (i := 11) (v := ?_) rfl (by kernel_rfl) (by kernel_rfl) (by kernel_rfl) (fun _ _ _ h => h) (Or.inl ⟨by rfl, ?_⟩) (by assumption) ?_
  rotate_left 1
  ·intro w hSw; (try dsimp only at hSw); go_simp; first | done | with_reducible rfl | (rw [if_neg (by omega)])
  try simp only [Act.put, zA, zB, zC, zD, zE, zF]
  refine wpAnyH_take (i := 12) (v := ?_) rfl (by kernel_rfl) (by kernel_rfl) (by kernel_rfl) (fun _ _ _ h => h) (Or.inl ⟨by rfl, ?_⟩) (by assumption) ?_
  rotate_left 1
  ·intro w hSw; (try dsimp only at hSw); go_simp; first | done | with_reducible rfl | (rw [if_neg (by omega)])
  try simp only [Act.put, zA, zB, zC, zD, zE, zF]
  refine wpAnyH_take (i := 13) (v := ?_) rfl (by kernel_rfl) (by kernel_rfl) (by kernel_rfl) (fun _ _ _ h => h) (Or.inl ⟨by rfl, ?_⟩) (by assumption) ?_
  rotate_left 1
  ·intro w hSw; (try dsimp only at hSw); go_simp; first | done | with_reducible rfl | (rw [if_neg (by omega)])
  try simp only [Act.put, zA, zB, zC, zD, zE, zF]
  refine wpAnyH_ready (rs := [10]) (by kernel_rfl) (by simp) ?_
  refine AllReadyH.cons rfl (fun K0 hK => ?_) (AllReadyH.nil)
  go_simp
  refine cT.out.mono ?_
  rintro ee W2 ⟨b2, av, rfl, hav⟩
  obtain ⟨aa, an, ac, rfl⟩ := ownA_shape hav
  have b2' : Below W1.heap.size W1 W2 := (Below.refl _ W1).drew.trans b2
  have s2 := b2'.size
  have H2 : Hid (Wr K m W2 B Bb Pv sv (r - 1) L) := H1.out.below b2'
  have hob := bt_own HB.out
  have HT2 : Hid (Bt lo W2 Bb Pv.ownBlock tv F) := bt_keep HB.out (by omega) (by rw [b2'.block Bb (by omega), HO1.out Bb (by omega) (fun e => H1.out.ne e.symm)]) (fun b h1 h2 h3 => by rw [b2'.block b (by omega), HO1.out b h2 (by omega)])
  have D1 : Hid _ := (b2'.block w.heap.size (by omega)).trans G1.out
  have D2 : Hid _ := (b2'.block (w.heap.size + 1) (by omega)).trans G2.out
  have D3 : Hid _ := (b2'.block (w.heap.size + 2) (by omega)).trans G3.out
  have HAX : Hid (TBase.Ax false (Es lo W2.heap.size Pv.ownBlock tv) W2 (.slice aa an ac) n) := own_ax hav (fun g hg => by have := World.ownsRow.lt hav g hg; exact ⟨by simp at this; omega, this.2, fun e => by have := (H1.out.xb g e.symm).2.1; simp at *; omega, fun e => by have := (hob g e).2.1; simp at *; omega⟩) HN.out.1 HN.out.2
  clear hav
  have p0 := one_b D1.out
  obtain ⟨-, e1, e2, e3, -, e5, -⟩ := seven_b D2.out
  have p1 := one_b D3.out
  obtain ⟨-, m1, -, -⟩ := wk_box H2.out.box
  refine hK.out _ _ (by exact ⟨p0, m1, e1, e2, p1⟩) (fun hHeld => ?_)
  clear hK K0
  try simp only [Act.put, zA, zB, zC, zD, zE, zF]
  refine wpAnyH_ready (rs := [14]) (by kernel_rfl) (by simp) ?_
  refine AllReadyH.cons rfl (fun K0 hK => ?_) (AllReadyH.nil)
  go_simp
  rw [meth_e _ (by kernel_rfl)]
  go_simp
  obtain ⟨V, hV⟩ : ∃ V, W2.setCell ⟨Bb, 0, none⟩ (.slice none 0 0) = V := ⟨_, rfl⟩
  have sV : V.heap.size = W2.heap.size := by rw [← hV, World.size_setCell]
  have oV : ∀ b, b ≠ Bb → V.heap[b]? = W2.heap[b]? := fun b hb => by rw [← hV, Below.heap_setCell _ _ _ _ (by simpa using hb)]
  have bV : ∀ n, n ≤ Bb → Below n W2 V := fun n hn => by rw [← hV]; exact (Below.refl n W2).setCell (by simpa using hn) _
  have hKB := H2.out.lb
  have hKW := H2.out.lB
  have hWV : Wr K m V B Bb Pv sv (r - 1) L := H2.out.keep (by omega) (bV K hKB) (oV B H2.out.ne) (fun b hl e => oV b (H2.out.xb b e).2.2.2) (oV _ H2.out.zb.2.2.1)
  have hBV : Bt V.heap.size V Bb Pv.ownBlock (.slice none 0 0) [] := ⟨by rw [← hV]; exact TBase.block_set HT2.out.box _, by omega, Nat.le_refl _, (fun g e => by cases e), [], ⟨World.ownsRow_nil _ _ _ _, (fun u hu => by cases hu)⟩, rfl, (fun j h => by cases h)⟩
  have hNV := HNN.out V hWV hBV (((HB1.out K hKW).trans (b2'.mono (by omega))).trans (bV K hKB))
  rw [sV] at hNV
  have hkv := kid_c hn ((oV w.heap.size (by omega)).trans D1.out) ((oV (w.heap.size + 1) (by omega)).trans D2.out) ((oV (w.heap.size + 2) (by omega)).trans D3.out) hNV
  have hR : ∀ q W W' X', Rs K m B Bb sv L q W X' → (∀ g, tv.ownBlock = some g → g < W.heap.size ∧ some g ≠ X') → W.heap.size ≤ W'.heap.size → (∀ n, n ≤ Bb → Below n W W') → (∀ b, b < W.heap.size → b ≠ Bb → some b ≠ tv.ownBlock → W'.heap[b]? = W.heap[b]?) → Rs K m B Bb sv L q W' X' := fun q W W' X' h1 h2 h3 h4 h5 => Rs.keep (tv := tv) h1 hBlo hzl (fun g hg => (hob g hg).1) h2 h3 h4 h5
  rw [← hV] at hkv
  have ce := elem_c (num := num) hR HT2.out (fun x e => (H2.out.xb x e).2.1) hBlo hF ht HAX.out hkv
  refine ce.mono ?_
  clear ce hkv hNV hBV hWV
  cases kd with
  | error q =>
   rintro ee W3 ⟨rfl, hfm⟩
   refine ⟨rfl, rfl, fun n h1 h2 h3 h4 => ((HB1.out n h1).trans (b2'.mono (by omega))).trans (hfm.below n h1 h2 h3 h4), by have := hfm.size; omega, fun b h1 h2 h3 h4 h5 => ?_⟩
   rw [hfm.other b (by omega) h2 h3 h4 h5, b2'.block b (by omega), HO1.out b h1 h2]
  | ok ak =>
   rintro ee W3 ⟨⟨v8, rfl⟩, hfm, X', tv', hx1, hx2, hrs, hbt, hat⟩
   have s3 := hfm.size
   have oth : ∀ b, b < W2.heap.size → b ≠ Bb → b ≠ B → w.heap.size ≤ b → W3.heap[b]? = W2.heap[b]? := fun b h1 h2 h3 h4 => hfm.other b h1 h3 h2 (fun e => by have := (H1.out.xb b e.symm).2.1; have := HXL.out b e.symm; omega) (fun e => by have := hob b e.symm; omega)
   have D1c : Hid _ := (oth w.heap.size (by omega) (by omega) (by omega) (by omega)).trans D1.out
   have D2c : Hid _ := (oth (w.heap.size + 1) (by omega) (by omega) (by omega) (by omega)).trans D2.out
   have D3c : Hid _ := (oth (w.heap.size + 2) (by omega) (by omega) (by omega) (by omega)).trans D3.out
   obtain ⟨Pv', hPX, hwr⟩ := hrs
   have p0 := one_b D1c.out
   obtain ⟨-, e1, e2, e3, -, e5, -⟩ := seven_b D2c.out
   have p1 := one_b D3c.out
   obtain ⟨-, m1, -, -⟩ := wk_box hwr.box
   refine hK.out _ _ (by exact ⟨p0, m1, e1, e2, p1⟩) (fun hHeld => ?_)
   clear hK K0
   try simp only [Act.put, zA, zB, zC, zD, zE, zF]
   refine wpAnyH_done (by kernel_rfl) ?_ _
   go_wp2_with fail
   go_end0
   refine ⟨⟨_, rfl⟩, ⟨fun n h1 h2 h3 h4 => ((HB1.out n h1).trans (b2'.mono (by omega))).trans (hfm.below n h1 h2 h3 h4), by omega, fun b h1 h2 h3 h4 h5 => ?_⟩, X', tv', hx1.imp (fun e => e) (fun ⟨x, e, hx⟩ => ⟨x, e, by omega⟩), hx2, ⟨Pv', hPX, hwr⟩, hbt, hat.imp (fun e => e) (fun ⟨g, e, hg⟩ => ⟨g, e, by omega⟩)⟩
   rw [hfm.other b (by omega) h2 h3 h4 h5, b2'.block b (by omega), HO1.out b h1 h2]
end Go.Proofs.YthonejomogkjjaaGreatDoor.GNe
namespace Go.Proofs.YthonejomogkjjaaGreatDoor.GRe
open Go.RowKit Base EPure JPure VSm VIn VJn VRs JVr JVa JRv GPl GVa GTr GEn GAt GAs GTx GBu GBt GBe GNs
open VPure hiding evL
open TBase (T)
open KBase (Pt Fld Co RP RF)
def TR (Bb : Nat) (w : World) (A : Except Nat (List T)) (e : Ending) (w' : World) : Prop := match A with
 | .ok F => e = .returned (.int .i64 0) ∧ Below Bb w w' ∧ F.length ≤ 65536 ∧ ∃ lo X tv, Bt lo w' Bb X tv F
 | .error q => q ≠ 0 ∧ e = .returned (.int .i64 q) ∧ Below Bb w w'
def RR (w : World) (A : Except Nat (List T)) (e : Ending) (w' : World) : Prop := Below w.heap.size w w' ∧ match A with
 | .ok F => ∃ m tv, e = .returned (.tuple #[tv, .int .i64 0]) ∧ TBase.InL false (fun _ => True) w' m tv F
 | .error q => e = .returned (.tuple #[.slice none 0 0, .int .i64 q])
theorem render_of {w W0 : World} {cv nv lv : Value} {k i : Int} {b : Bool} {s : ByteArray} {A : Except Nat (List T)} (hW0 : (w.alloc (.cells #[.int .i64 k, .bool b, .int .i64 i, .string s, nv, lv] 26)).alloc (.cells #[.slice none 0 0] 84) = W0)
  (hT : Calls Tryz.prog 45 #[cv, .agg #[.int .i64 k, .bool b, .int .i64 i, .string s, nv, lv], mkr (w.heap.size + 1)] W0 fun e w' => TR (w.heap.size + 1) W0 A e w') : Calls Tryz.prog 12 #[cv, .agg #[.int .i64 k, .bool b, .int .i64 i, .string s, nv, lv]] w fun e w' => RR w A e w' := by
 have b0 : Below w.heap.size w W0 := by rw [← hW0]; exact ((Below.refl _ w).alloc (Nat.le_refl _) _).alloc (by simp) _
 have g1 : (w.alloc (.cells #[.int .i64 k, .bool b, .int .i64 i, .string s, nv, lv] 26)).heap[w.heap.size]? = some (.cells #[.int .i64 k, .bool b, .int .i64 i, .string s, nv, lv] 26 (0, 0)) := heap_alloc_new w _
 have g2 : W0.heap[w.heap.size]? = some (.cells #[.int .i64 k, .bool b, .int .i64 i, .string s, nv, lv] 26 (0, 0)) := by rw [← hW0, Below.heap_alloc _ _ _ (by simp), g1]
 obtain ⟨c0, c1, c2, c3, c4, c5⟩ := six_box g2
 have HB : Hid _ := b0
 clear g1 g2 b0
 cases A with
 | error q =>
  have hne : ((q : Int) != 0) = true := by
   obtain ⟨_, _, _, h, _⟩ := hT []
   have := h.1
   simp; omega
  go_enter Tryz.func12, Tryz.ntmps12
  go_wp2_with (first
   | (go_at_call 45; refine hT.mono ?_; rintro e w' ⟨hq, rfl, hb⟩))
  go_ret2
  exact ⟨HB.out.trans (hb.mono (by omega)), rfl⟩
 | ok F =>
  go_enter Tryz.func12, Tryz.ntmps12
  go_wp2_with (first
   | (go_at_call 45; refine hT.mono ?_; rintro e w' ⟨rfl, hb, hF, lo, X, tv, hbt⟩; have kk : w'.cell? ⟨w.heap.size + 1, 0, none⟩ = some tv := by simp [World.cell?, hbt.box]))
  go_ret2
  obtain ⟨m, hL⟩ := bt_inL (lo := lo) (tv := .slice none 0 0) hbt (Nat.le_refl _) (fun g e => by cases e) hF
  exact ⟨HB.out.trans (hb.mono (by omega)), m, tv, rfl, hL.weak (fun _ _ => trivial) false id m (Nat.le_refl _)⟩
end Go.Proofs.YthonejomogkjjaaGreatDoor.GRe

import Derived.Test.YthjbknncbhkinaaGreatDoorPS03
import Derived.Test.YthjbknncbhkinaaGreatDoorPS24
open Go.Proofs.Tryz
set_option linter.unusedVariables false
set_option maxRecDepth 20000
set_option maxHeartbeats 3200000
namespace Go.Proofs.YthjbknncbhkinaaGreatDoor.NLa
open Go.RowKit CPu CIn Tak NWr
open NGe (isT opd tx)
open XBase (four_box frozen_box)
theorem flat_set (P R : List Ins) (o a b : Int) : (flat (P ++ (o, a) :: R)).set (P.length * 2 + 1) (.int .i64 b) = flat (P ++ (o, b) :: R) := by
 have e : ∀ z : Int, flat (P ++ (o, z) :: R) = flat P ++ ([.int .i64 o, .int .i64 z] ++ flat R) := fun z => by simp [flat]
 rw [e, e, List.set_append_right _ _ (by rw [flat_len]; omega), flat_len, show P.length * 2 + 1 - P.length * 2 = 1 by omega]
 rfl
theorem Wb.put {w : World} {W : Nat} {cv tv : Value} {P R : List Ins} {o a : Int} {T : List ByteArray} (h : Wb w W cv tv (P ++ (o, a) :: R) T) (b : Int) {g cap : Nat} (hc : cv = .slice (some ⟨g, 0, none⟩) (P ++ (o, a) :: R).length cap) :
  Wb (w.setCell ⟨g, P.length * 2 + 1, none⟩ (.int .i64 b)) W cv tv (P ++ (o, b) :: R) T /\ Kw W cv tv cv tv w (w.setCell ⟨g, P.length * 2 + 1, none⟩ (.int .i64 b)) := by
 have hg : cv.ownBlock = some g := by rw [hc]; rfl
 have hl := h.c_lt hg
 have hst : ∀ k, k ≠ g -> (w.setCell ⟨g, P.length * 2 + 1, none⟩ (.int .i64 b)).heap[k]? = w.heap[k]? := fun k hk => Below.heap_setCell _ _ _ _ hk
 refine ⟨⟨(hst W (by omega)).trans h.box, ?_, own_keep h.tex fun k hk => hst k (fun e => h.ne g hg (e ▸ hk)), h.ne⟩, ⟨(Below.refl W w).setCell (by simp; omega) _, fun k hk h1 h2 h3 => hst k (fun e => h2 (e ▸ hg)), .inl rfl, .inl rfl⟩⟩
 have := h.own
 unfold Oc at this ⊢
 subst hc
 have h2 := (World.ownsRow.stored this (P.length * 2 + 1) (.int .i64 b)).1
 rw [flat_set] at h2
 have e : (P ++ (o, b) :: R).length = (P ++ (o, a) :: R).length := by simp
 rw [e]
 exact h2
theorem Wb.drew {w : World} {W : Nat} {cv tv : Value} {C : List Ins} {T : List ByteArray} (h : Wb w W cv tv C T) : Wb w.drew W cv tv C T := h.keep fun _ _ => rfl
theorem Kw.drew {W : Nat} {cv tv cv' tv' : Value} {w w' : World} (h : Kw W cv tv cv' tv' w w') : Kw W cv tv cv' tv' w w'.drew := ⟨h.below.drew, h.other, h.c, h.t⟩
theorem land_c {w : World} {W : Nat} {cv tv : Value} {P R : List Ins} {o a : Int} {T : List ByteArray} (h : Wb w W cv tv (P ++ (o, a) :: R) T) (k : Nat) (hk : k = P.length) (n : Nat) (hn : n = (P ++ (o, a) :: R).length) (hl : n <= 65536) :
  Calls prog 73 #[ptr W, .int .i64 k] w fun e w' => e = .returned (.tuple #[]) /\ Wb w' W cv tv (P ++ (o, (n : Int)) :: R) T /\ Kw W cv tv cv tv w w' := by
 obtain ⟨k0, -, f0, -⟩ := h.cells
 have hown := h.own
 unfold Oc at hown
 obtain ⟨m, hm⟩ : ∃ m, (P ++ (o, a) :: R).length = m + 1 := ⟨P.length + R.length, by simp; omega⟩
 rw [hm] at hown
 obtain ⟨g, cap, hcv, hc1, hc2⟩ := succ_sh hown
 have hput := Wb.put h (n : Int) (g := g) (cap := cap) (by rw [hm]; exact hcv)
 subst hcv
 have c1 : w.cell? ⟨g, P.length * 2 + 1, none⟩ = some (.int .i64 a) := by
  rw [World.ownsRow.cellAt hown _ (by simp at hm; omega)]
  have e : flat (P ++ (o, a) :: R) = flat P ++ ([.int .i64 o, .int .i64 a] ++ flat R) := by simp [flat]
  rw [e, List.getElem?_append_right (by rw [flat_len]; omega), flat_len, show P.length * 2 + 1 - P.length * 2 = 1 by omega]
  rfl
 have f1 := World.ownsRow.frozenAt hown (P.length * 2 + 1)
 have hn2 : n = m + 1 := hn.trans hm
 have hkm : k <= m := by simp at hm; omega
 have hgW : W < g := (h.c_lt (g := g) rfl).1
 have HP : Hid _ := hput
 rw [<- hk] at c1 f1 HP
 clear h hown hput hm hk hn
 have hi1 : (k : Int) < (m : Int) + 1 := by omega
 have hi2 : (0 : Int) <= (k : Int) := by omega
 go_enter func73, ntmps73
 go_wp2_with fail
 have hWg : (⟨W, 0, none⟩ : Addr).block ≠ g := fun e => by have : W = g := e; omega
 refine wp_region_held_drew (S := fun w' => w'.cell? ⟨W, 0, none⟩ = some (.slice (some ⟨g, 0, none⟩) (m + 1) cap)) (by kernel_rfl) k0 (fun hHeld => ?_)
 refine tkH 0 rfl ?_; try simp only [ptH]
 refine tkH 1 rfl ?_; try simp only [ptH]
 refine tkH 2 rfl ?_; try simp only [ptH]
 refine tkH 3 rfl ?_; try simp only [ptH]
 refine tkH 4 rfl ?_; try simp only [ptH]
 refine tkH 5 rfl ?_; try simp only [ptH]
 refine tkH 6 rfl ?_; try simp only [ptH]
 refine tkH 7 rfl ?_; try simp only [ptH]
 refine tkH 8 rfl ?_; try simp only [ptH]
 refine tkH 9 rfl ?_; try simp only [ptH]
 refine tkH 10 rfl ?_; try simp only [ptH]
 refine tkH 11 rfl ?_; try simp only [ptH]
 refine rdH [12] ?_
 refine alH rfl fun K0 hK => ?_
 go_simp
 refine hK.out _ _ (by have := World.cell?_of_block (a := ⟨W, 0, none⟩) (Below.heap_setCell w ⟨g, k * 2 + 1, none⟩ (Value.int IntKind.i64 ((m : Int) + 1)) W hWg); exact this.trans k0) (fun hHeld => ?_)
 clear hK K0
 try simp only [ptH]
 refine dnH ?_
 go_wp2_with fail
 go_end0
 have e2 : ((m : Int) + 1) = ((n : Nat) : Int) := by omega
 rw [e2]
 exact ⟨rfl, Wb.drew HP.out.1, Kw.drew HP.out.2⟩
theorem operand_no {w : World} {W : Nat} {cv tv : Value} {C : List Ins} {T : List ByteArray} (h : Wb w W cv tv C T) (o i : Int) (s : ByteArray) (lv : Value) (hT : isT o = false) :
  Calls prog 54 #[ptr W, .agg #[.int .i64 o, .int .i64 i, .string s, lv]] w fun e w' => e = .returned (.int .i64 i) /\ Below w.heap.size w w' := by
 have b0 : Below w.heap.size w (w.alloc (.cells #[.int .i64 o, .int .i64 i, .string s, lv] 24)) := (Below.refl _ w).alloc (Nat.le_refl _) _
 unfold isT at hT
 have e5 : (o != 5) = true := by simp at hT ⊢; omega
 have e7 : (o != 7) = true := by simp at hT ⊢; omega
 clear h hT
 go_enter func54, ntmps54
 go_wp2_with fail
 go_ret
 exact ⟨rfl, b0⟩
theorem operand_yes {w : World} {W : Nat} {cv tv : Value} {C : List Ins} {T : List ByteArray} (h : Wb w W cv tv C T) (hl : T.length <= 65536) (o i : Int) (s : ByteArray) (lv : Value) (hT : isT o = true) :
  Calls prog 54 #[ptr W, .agg #[.int .i64 o, .int .i64 i, .string s, lv]] w fun e w' => e = .returned (.int .i64 T.length) /\ ∃ tv', Wb w' W cv tv' C (T ++ [s]) /\ Kw W cv tv cv tv' w w' := by
 obtain ⟨W0, hW0⟩ : ∃ W0, w.alloc (.cells #[.int .i64 o, .int .i64 i, .string s, lv] 24) = W0 := ⟨_, rfl⟩
 have b0 : Below w.heap.size w W0 := by rw [<- hW0]; exact (Below.refl _ w).alloc (Nat.le_refl _) _
 have x0 : W0.heap[w.heap.size]? = some (.cells #[.int .i64 o, .int .i64 i, .string s, lv] 24 (0, 0)) := by rw [<- hW0]; exact heap_alloc_new w _
 obtain ⟨r0, r1, r2, r3⟩ := four_box x0
 obtain ⟨a, cap, hsh, -⟩ := own_sh h.tex
 have h0 := h.below b0
 have hK0 : Kw W cv tv cv tv w W0 := Kw.refl b0 (Nat.le_of_lt h.lt)
 subst hsh
 have hWc : W < w.heap.size := h.lt
 have hc0 := h0.cells.2.1
 have H0 : Hid _ := h0
 have HK : Hid _ := hK0
 have HC : Hid (∀ k, cv.ownBlock = some k -> k < w.heap.size) := fun k e => (h.c_lt e).2
 have HT : Hid (∀ k, (Value.slice a T.length cap).ownBlock = some k -> k < w.heap.size) := fun k e => (h.t_lt e).2
 clear h h0 b0 hK0
 have hneq : ∀ W1 : World, ∀ u, Below W0.heap.size W0 W1 -> W0.cell? ⟨w.heap.size, 2, none⟩ = some u -> W1.cell? ⟨w.heap.size, 2, none⟩ = some u := fun W1 u hb hc => (World.cell?_of_block (hb.block _ (Array.getElem?_eq_some_iff.1 x0).1)).trans hc
 have HS : Hid (∀ W1 : World, W1.heap[w.heap.size]? = W0.heap[w.heap.size]? -> W1.cell? ⟨w.heap.size, 2, none⟩ = some (.string s)) := fun W1 e => (World.cell?_of_block (a := ⟨w.heap.size, 2, none⟩) e).trans r2
 have hW1 : (W0.drew.alloc (.cells #[.string s] 9)).heap[w.heap.size]? = W0.heap[w.heap.size]? := Below.heap_alloc _ _ _ (Array.getElem?_eq_some_iff.1 x0).1
 have HD : Hid (Wb W0.drew W cv (.slice a T.length cap) C T) := Wb.drew H0.out
 have hc1 : (W0.drew.alloc (.cells #[.string s] 9)).cell? ⟨W, 1, none⟩ = some (.slice a T.length cap) := (World.cell?_of_block (a := ⟨W, 1, none⟩) (Below.heap_alloc _ _ _ H0.out.lt)).trans hc0
 have hc2 : (W0.alloc (.cells #[.string s] 9)).cell? ⟨W, 1, none⟩ = some (.slice a T.length cap) := (World.cell?_of_block (a := ⟨W, 1, none⟩) (Below.heap_alloc _ _ _ H0.out.lt)).trans hc0
 have HOTH : Hid (∀ W' v, At W0.drew W' W cv (.slice a T.length cap) C T s v -> W'.heap[w.heap.size]? = W0.heap[w.heap.size]? /\ (W'.setCell ⟨W, 1, none⟩ v).heap[w.heap.size]? = W0.heap[w.heap.size]?) := by
  intro W' v hA
  have e2 := hA.kw.other w.heap.size (Array.getElem?_eq_some_iff.1 x0).1 (by omega) (fun e => by have := HC.out _ e; omega) (fun e => by have := HT.out _ e; omega)
  exact ⟨(Below.heap_setCell W' ⟨W, 1, none⟩ v w.heap.size (by show w.heap.size ≠ W; omega)).symm.trans e2, e2⟩
 clear x0
 have ho : o = 5 \/ o = 7 := by unfold isT at hT; simpa using hT
 rcases ho with rfl | rfl
 all_goals
  clear hT
  go_enter func54, ntmps54
  go_wp2_with fail
  (try rw [hW0])
  refine wp_region_held_drew (S := fun w' => w'.cell? ⟨w.heap.size, 2, none⟩ = some (.string s)) (by kernel_rfl) r2 (fun hHeld => ?_)
  refine tkH 0 rfl ?_; try simp only [ptH]
  refine tkH 1 rfl ?_; try simp only [ptH]
  refine tkH 2 rfl ?_; try simp only [ptH]
  refine tkH 3 rfl ?_; try simp only [ptH]
  refine tkH 5 rfl ?_; try simp only [ptH]
  refine tkH 6 rfl ?_; try simp only [ptH]
  refine rdH [4, 7] ?_
  refine AllReadyH.cons rfl (fun K0 hK => ?_) (AllReadyH.cons rfl (fun K0 hK => ?_) (AllReadyH.nil))
  ·go_simp
   refine hK.out _ _ (HS.out _ rfl) (fun hHeld => ?_)
   clear hK K0
   try simp only [ptH]
   refine rdH [7] ?_
   refine alH rfl fun K0 hK => ?_
   go_simp
   refine hK.out _ _ (HS.out _ hW1) (fun hHeld => ?_)
   clear hK K0
   try simp only [ptH]
   refine rdH [8] ?_
   refine alH rfl fun K0 hK => ?_
   refine step_t rfl _ _ rfl HD.out hl s (by rfl) (by rfl) (by rfl) ?_
   rintro v W' hAt
   obtain ⟨g, vc, hvsh, -, -⟩ := hAt.sh
   subst hvsh
   have kc := hAt.c
   have kf := hAt.f
   have HA : Hid (At _ W' W cv (.slice a T.length cap) C T s (.slice (some ⟨g, 0, none⟩) (T.length + 1) vc)) := hAt
   have hbx := HOTH.out _ _ hAt
   clear hAt
   refine hK.out _ _ (HS.out _ hbx.1) (fun hHeld => ?_)
   clear hK K0
   try simp only [ptH]
   refine tkH 9 rfl ?_; try simp only [ptH]
   refine tkH 10 rfl ?_; try simp only [ptH]
   refine rdH [11] ?_
   refine alH rfl fun K0 hK => ?_
   go_simp
   refine hK.out _ _ (HS.out _ hbx.2) (fun hHeld => ?_)
   clear hK K0
   try simp only [ptH]
   refine dnH ?_
   have kd : (W'.setCell ⟨W, 1, none⟩ (.slice (some ⟨g, 0, none⟩) (T.length + 1) vc)).cell? ⟨W, 1, none⟩ = some (.slice (some ⟨g, 0, none⟩) (T.length + 1) vc) := HA.out.wb.cells.2.1
   go_wp2_with fail
   go_ret
   exact ⟨rfl, _, HA.out.wb, (Kw.drew HK.out).trans HA.out.kw⟩
  ·go_simp
   refine hK.out _ _ (HS.out _ hW1) (fun hHeld => ?_)
   clear hK K0
   try simp only [ptH]
   refine rdH [4] ?_
   refine alH rfl fun K0 hK => ?_
   go_simp
   refine hK.out _ _ (HS.out _ hW1) (fun hHeld => ?_)
   clear hK K0
   try simp only [ptH]
   refine rdH [8] ?_
   refine alH rfl fun K0 hK => ?_
   refine step_t rfl _ _ rfl HD.out hl s (by rfl) (by rfl) (by rfl) ?_
   rintro v W' hAt
   obtain ⟨g, vc, hvsh, -, -⟩ := hAt.sh
   subst hvsh
   have kc := hAt.c
   have kf := hAt.f
   have HA : Hid (At _ W' W cv (.slice a T.length cap) C T s (.slice (some ⟨g, 0, none⟩) (T.length + 1) vc)) := hAt
   have hbx := HOTH.out _ _ hAt
   clear hAt
   refine hK.out _ _ (HS.out _ hbx.1) (fun hHeld => ?_)
   clear hK K0
   try simp only [ptH]
   refine tkH 9 rfl ?_; try simp only [ptH]
   refine tkH 10 rfl ?_; try simp only [ptH]
   refine rdH [11] ?_
   refine alH rfl fun K0 hK => ?_
   go_simp
   refine hK.out _ _ (HS.out _ hbx.2) (fun hHeld => ?_)
   clear hK K0
   try simp only [ptH]
   refine dnH ?_
   have kd : (W'.setCell ⟨W, 1, none⟩ (.slice (some ⟨g, 0, none⟩) (T.length + 1) vc)).cell? ⟨W, 1, none⟩ = some (.slice (some ⟨g, 0, none⟩) (T.length + 1) vc) := HA.out.wb.cells.2.1
   go_wp2_with fail
   go_ret
   exact ⟨rfl, _, HA.out.wb, (Kw.drew HK.out).trans HA.out.kw⟩
end Go.Proofs.YthjbknncbhkinaaGreatDoor.NLa
namespace Go.Proofs.YthjbknncbhkinaaGreatDoor.NWt
open Go.RowKit EPure NWr NLa
open CPu (Ins)
open NGe (gen sz kid)
open XBase (four_box frozen_box In InL LAt)
def WI (lf : Int -> Int -> ByteArray -> Bool) (m : Nat) : Prop := ∀ (w : World) (W K : Nat) (cv tv v : Value) (C : List Ins) (T : List ByteArray) (x : Ex), Wb w W cv tv C T -> K <= W -> In false (fun b => b < K) w m v x -> NGe.Ok lf m x -> C.length + 2 * sz m x <= 60000 -> T.length + sz m x <= 60000 ->
 Calls prog 29 #[ptr W, v] w fun e w' => e = .returned (.tuple #[]) /\ ∃ cv' tv', Wb w' W cv' tv' (C ++ (gen m x C.length T.length).1) (T ++ (gen m x C.length T.length).2) /\ Kw W cv tv cv' tv' w w'
theorem kids_at {w : World} {K m : Nat} {a : Option Addr} {cap : Nat} {l : List Ex} (h : InL false (fun b => b < K) w m (.slice a l.length cap) l) (hl : 0 < l.length) :
  ∃ g o, a = some ⟨g, o, none⟩ /\ g < K /\ ∀ j, j < l.length -> ∃ k i s n sl cp, w.cell? ⟨g, o + j * 4, none⟩ = some (.int .i64 k) /\ w.cell? ⟨g, o + j * 4 + 1, none⟩ = some (.int .i64 i) /\ w.cell? ⟨g, o + j * 4 + 2, none⟩ = some (.string s) /\ w.cell? ⟨g, o + j * 4 + 3, none⟩ = some (.slice sl n cp) /\
   In false (fun b => b < K) w m (.agg #[.int .i64 k, .int .i64 i, .string s, .slice sl n cp]) (kid l j) := by
 obtain ⟨a', cap', e, -, -, -, -, hL⟩ := h
 cases e
 rcases hL with ⟨e, -⟩ | ⟨g, o, ha, hg, hc, -⟩
 ·subst e; simp at hl
 ·refine ⟨g, o, ha, hg, fun j hj => ?_⟩
  obtain ⟨u, ⟨c0, c1, c2, c3, rfl, d0, d1, d2, d3⟩, hi⟩ := hc j hj
  obtain ⟨m', a2, cp2, -, rfl, rfl, rfl, rfl, -⟩ := hi.kinds
  rw [NGe.kid_at hj]
  exact ⟨_, _, _, _, _, _, d0, d1, d2, d3, hi⟩
theorem Kw.cell {W K g j : Nat} {cv tv cv' tv' : Value} {w w' : World} {u : Value} (h : Kw W cv tv cv' tv' w w') (hK : K <= W) (hg : g < K) (hc : w.cell? ⟨g, j, none⟩ = some u) : w'.cell? ⟨g, j, none⟩ = some u := (World.cell?_of_block (h.below.block g (by omega))).trans hc
theorem Kw.inx {W K m : Nat} {cv tv cv' tv' : Value} {w w' : World} {v : Value} {x : Ex} (h : Kw W cv tv cv' tv' w w') (hK : K <= W) (hc : In false (fun b => b < K) w m v x) : In false (fun b => b < K) w' m v x := hc.keep (fun b hb _ => h.below.block b (Nat.lt_of_lt_of_le hb hK))
theorem Kw.inl {W K m : Nat} {cv tv cv' tv' : Value} {w w' : World} {v : Value} {x : List Ex} (h : Kw W cv tv cv' tv' w w') (hK : K <= W) (hc : InL false (fun b => b < K) w m v x) : InL false (fun b => b < K) w' m v x := hc.keep (fun b hb _ => h.below.block b (Nat.lt_of_lt_of_le hb hK))
theorem Kw.box {W B : Nat} {cv tv cv' tv' : Value} {w w' : World} {o : Option Obj} (h : Kw W cv tv cv' tv' w w') (hB : B < w.heap.size) (hW : B ≠ W) (hc : cv.ownBlock ≠ some B) (ht : tv.ownBlock ≠ some B) (ho : w.heap[B]? = o) : w'.heap[B]? = o /\ cv'.ownBlock ≠ some B /\ tv'.ownBlock ≠ some B := by
 refine ⟨(h.other B hB hW hc ht).trans ho, ?_, ?_⟩
 ·rcases h.c with e | ⟨g, e, hg⟩
  ·rw [e]; exact hc
  ·rw [e]; intro e2; cases e2; omega
 ·rcases h.t with e | ⟨g, e, hg⟩
  ·rw [e]; exact ht
  ·rw [e]; intro e2; cases e2; omega
theorem logic_fin (C A B : List Ins) (j : Int) : (C ++ A ++ [(j, 0)] ++ B ++ [(29, 0)]) = (C ++ A) ++ (j, 0) :: (B ++ [(29, 0)]) := by simp
theorem logic_of {lf : Int -> Int -> ByteArray -> Bool} {m : Nat} (hw : WI lf m) {w : World} {W K : Nat} {cv tv : Value} {C : List Ins} {T : List ByteArray} (h : Wb w W cv tv C T) (hK : K <= W) {o i : Int} {s : ByteArray} {l : List Ex} {a : Option Addr} {cap : Nat} (hin : InL false (fun b => b < K) w m (.slice a l.length cap) l) (hcap : l.length <= cap /\ cap <= 9223372036854775807) (hl : l.length = 2) (hok : ∀ y ∈ l, NGe.Ok lf m y)
  (hC : C.length + 2 * (sz m (kid l 0) + sz m (kid l 1)) + 2 <= 60000) (hT : T.length + (sz m (kid l 0) + sz m (kid l 1)) <= 60000) (j : Int) :
  Calls prog 51 #[ptr W, .int .i64 j, .agg #[.int .i64 o, .int .i64 i, .string s, .slice a l.length cap]] w fun e w' => e = .returned (.tuple #[]) /\ ∃ cv' tv', Wb w' W cv' tv' (C ++ (NGe.logic (gen m) j (kid l 0) (kid l 1) C.length T.length).1) (T ++ (NGe.logic (gen m) j (kid l 0) (kid l 1) C.length T.length).2) /\ Kw W cv tv cv' tv' w w' := by
 obtain ⟨W0, hW0⟩ : ∃ W0, w.alloc (.cells #[.int .i64 o, .int .i64 i, .string s, .slice a l.length cap] 24) = W0 := ⟨_, rfl⟩
 have b0 : Below w.heap.size w W0 := by rw [<- hW0]; exact (Below.refl _ w).alloc (Nat.le_refl _) _
 have x0 : W0.heap[w.heap.size]? = some (.cells #[.int .i64 o, .int .i64 i, .string s, .slice a l.length cap] 24 (0, 0)) := by rw [<- hW0]; exact heap_alloc_new w _
 have hlt := h.lt
 have hk0 : Kw W cv tv cv tv w W0 := Kw.refl b0 (Nat.le_of_lt hlt)
 have h0 := h.below b0
 have hx0 : w.heap.size < W0.heap.size := (Array.getElem?_eq_some_iff.1 x0).1
 have hn1 : w.heap.size ≠ W := by omega
 have hn2 : cv.ownBlock ≠ some w.heap.size := fun e => by have := h.c_lt e; omega
 have hn3 : tv.ownBlock ≠ some w.heap.size := fun e => by have := h.t_lt e; omega
 obtain ⟨g, of, rfl, hg, hkid⟩ := kids_at (Kw.inl hk0 hK hin) (by omega)
 obtain ⟨q0, q1, q2, q3, q4, q5, c0, c1, c2, c3, i0⟩ := hkid 0 (by omega)
 obtain ⟨p0, p1, p2, p3, p4, p5, d0, d1, d2, d3, i1⟩ := hkid 1 (by omega)
 have m0 := NGe.kid_mem (l := l) (j := 0) (by omega)
 have m1 := NGe.kid_mem (l := l) (j := 1) (by omega)
 have k0 := hok _ m0
 have k1 := hok _ m1
 have cA := hw W0 W K cv tv _ C T (kid l 0) h0 hK i0 k0 (by omega) (by omega)
 have gA := NGe.gen_len lf m (kid l 0) C.length T.length k0
 obtain ⟨A, hA⟩ : ∃ A, gen m (kid l 0) C.length T.length = A := ⟨_, rfl⟩
 rw [hA] at cA gA
 obtain ⟨v0, v1, v2, v3⟩ := four_box x0
 rw [hl] at v3 x0 hW0 hcap ⊢
 have HX : Hid (W0.heap[w.heap.size]? = _) := x0
 have HK0 : Hid _ := hk0
 clear h h0 hin hkid b0 x0 hk0 hok
 simp only [Nat.zero_mul, Nat.add_zero, Nat.one_mul] at c0 c1 c2 c3 d0 d1 d2 d3
 go_enter func51, ntmps51
 go_wp2_with fail
 try rw [hW0]
 refine cA.mono ?_
 rintro e w1 ⟨rfl, cv1, tv1, wb1, kw1⟩
 obtain ⟨y1, n12, n13⟩ := Kw.box kw1 hx0 hn1 hn2 hn3 HX.out
 have cP := put_c wb1 (by simp; omega) j 0
 obtain ⟨kk, hkk⟩ : ∃ kk, (C ++ A.1).length = kk := ⟨_, rfl⟩
 rw [hkk] at cP
 clear cA
 go_wp2_with fail
 refine cP.mono ?_
 rintro e w2 ⟨rfl, cv2, wb2, kw2⟩
 have hz1 := (Array.getElem?_eq_some_iff.1 y1).1
 obtain ⟨y2, n22, n23⟩ := Kw.box kw2 hz1 hn1 n12 n13 y1
 have L2 := kw1.trans kw2
 have e0 := Kw.cell L2 hK hg d0
 have e1 := Kw.cell L2 hK hg d1
 have e2 := Kw.cell L2 hK hg d2
 have e3 := Kw.cell L2 hK hg d3
 obtain ⟨u0, u1, u2, u3⟩ := four_box y2
 have hkl : C.length + A.1.length = kk := by simpa using hkk
 have cB := hw w2 W K cv2 tv1 _ (C ++ A.1 ++ [(j, 0)]) (T ++ A.2) (kid l 1) wb2 hK (Kw.inx L2 hK i1) k1 (by simp; omega) (by simp; omega)
 have hl1 : (C ++ A.1 ++ [(j, 0)]).length = C.length + A.1.length + 1 := by simp; omega
 have hl2 : (T ++ A.2).length = T.length + A.2.length := by simp
 rw [hl1, hl2] at cB
 have gB := NGe.gen_len lf m (kid l 1) (C.length + A.1.length + 1) (T.length + A.2.length) k1
 obtain ⟨B, hB⟩ : ∃ B, gen m (kid l 1) (C.length + A.1.length + 1) (T.length + A.2.length) = B := ⟨_, rfl⟩
 rw [hB] at cB gB
 clear cP c0 c1 c2 c3 d0 d1 d2 d3 v0 v1 v2 v3 y1 wb1 wb2 hn2 hn3 n12 n13
 go_wp2_with fail
 refine cB.mono ?_
 rintro e w3 ⟨rfl, cv3, tv3, wb3, kw3⟩
 have cQ := put_c wb3 (by simp; omega) 29 0
 obtain ⟨kq, hkq⟩ : ∃ kq, (C ++ A.1 ++ [(j, 0)] ++ B.1).length = kq := ⟨_, rfl⟩
 rw [hkq] at cQ
 clear cB e0 e1 e2 e3 u0 u1 u2 u3 y2
 go_wp2_with fail
 refine cQ.mono ?_
 rintro e w4 ⟨rfl, cv4, wb4, kw4⟩
 rw [logic_fin] at wb4
 have cL := land_c wb4 kk (by simp; omega) (C.length + A.1.length + 1 + B.1.length + 1) (by simp; omega) (by omega)
 clear cQ wb3 wb4
 go_wp2_with fail
 refine cL.mono ?_
 rintro e w5 ⟨rfl, wb5, kw5⟩
 clear cL
 go_wp2_with fail
 go_end0
 refine ⟨rfl, cv4, tv3, ?_, HK0.out.trans (((L2.trans kw3).trans kw4).trans kw5)⟩
 have eL : NGe.logic (gen m) j (kid l 0) (kid l 1) C.length T.length = NGe.both2 j C.length A B := by
  unfold NGe.logic
  rw [hA, hB]
 rw [eL]
 unfold NGe.both2
 rw [show C ++ (A.1 ++ (j, ((C.length + A.1.length + 1 + B.1.length + 1 : Nat) : Int)) :: (B.1 ++ [(29, 0)])) = C ++ A.1 ++ (j, ((C.length + A.1.length + 1 + B.1.length + 1 : Nat) : Int)) :: (B.1 ++ [(29, 0)]) by simp, <- List.append_assoc]
 exact wb5
end Go.Proofs.YthjbknncbhkinaaGreatDoor.NWt
namespace Go.Proofs.YthjbknncbhkinaaGreatDoor.NWu
open Go.RowKit EPure NWr NLa NWt
open CPu (Ins)
open NGe (gen sz kid)
open XBase (four_box frozen_box In InL LAt)
theorem choice_fin (C A B : List Ins) : (C ++ A ++ [(32, 0)] ++ B ++ [(33, 0)]) = (C ++ A) ++ (32, 0) :: (B ++ [(33, 0)]) := by simp
theorem choice_fin2 (C A B D : List Ins) (n : Int) : (C ++ A ++ (32, n) :: (B ++ [(33, 0)]) ++ D) = (C ++ A ++ (32, n) :: B) ++ (33, 0) :: D := by simp
theorem choice_of {lf : Int -> Int -> ByteArray -> Bool} {m : Nat} (hw : WI lf m) {w : World} {W K : Nat} {cv tv : Value} {C : List Ins} {T : List ByteArray} (h : Wb w W cv tv C T) (hK : K <= W) {o i : Int} {s : ByteArray} {l : List Ex} {a : Option Addr} {cap : Nat} (hin : InL false (fun b => b < K) w m (.slice a l.length cap) l) (hcap : l.length <= cap /\ cap <= 9223372036854775807) (hl : l.length = 3) (hok : ∀ y ∈ l, NGe.Ok lf m y)
  (hC : C.length + 2 * (sz m (kid l 0) + sz m (kid l 1) + sz m (kid l 2)) + 2 <= 60000) (hT : T.length + (sz m (kid l 0) + sz m (kid l 1) + sz m (kid l 2)) <= 60000) :
  Calls prog 52 #[ptr W, .agg #[.int .i64 o, .int .i64 i, .string s, .slice a l.length cap]] w fun e w' => e = .returned (.tuple #[]) /\ ∃ cv' tv', Wb w' W cv' tv' (C ++ (NGe.choice (gen m) (kid l 0) (kid l 1) (kid l 2) C.length T.length).1) (T ++ (NGe.choice (gen m) (kid l 0) (kid l 1) (kid l 2) C.length T.length).2) /\ Kw W cv tv cv' tv' w w' := by
 obtain ⟨W0, hW0⟩ : ∃ W0, w.alloc (.cells #[.int .i64 o, .int .i64 i, .string s, .slice a l.length cap] 24) = W0 := ⟨_, rfl⟩
 have b0 : Below w.heap.size w W0 := by rw [<- hW0]; exact (Below.refl _ w).alloc (Nat.le_refl _) _
 have x0 : W0.heap[w.heap.size]? = some (.cells #[.int .i64 o, .int .i64 i, .string s, .slice a l.length cap] 24 (0, 0)) := by rw [<- hW0]; exact heap_alloc_new w _
 have hlt := h.lt
 have hk0 : Kw W cv tv cv tv w W0 := Kw.refl b0 (Nat.le_of_lt hlt)
 have h0 := h.below b0
 have hx0 : w.heap.size < W0.heap.size := (Array.getElem?_eq_some_iff.1 x0).1
 have hn1 : w.heap.size ≠ W := by omega
 have hn2 : cv.ownBlock ≠ some w.heap.size := fun e => by have := h.c_lt e; omega
 have hn3 : tv.ownBlock ≠ some w.heap.size := fun e => by have := h.t_lt e; omega
 obtain ⟨g, of, rfl, hg, hkid⟩ := kids_at (NWt.Kw.inl hk0 hK hin) (by omega)
 obtain ⟨q0, q1, q2, q3, q4, q5, c0, c1, c2, c3, i0⟩ := hkid 0 (by omega)
 obtain ⟨p0, p1, p2, p3, p4, p5, d0, d1, d2, d3, i1⟩ := hkid 1 (by omega)
 obtain ⟨t0, t1, t2, t3, t4, t5, f0, f1, f2, f3, i2⟩ := hkid 2 (by omega)
 have m2 := NGe.kid_mem (l := l) (j := 2) (by omega)
 have m0 := NGe.kid_mem (l := l) (j := 0) (by omega)
 have m1 := NGe.kid_mem (l := l) (j := 1) (by omega)
 have k0 := hok _ m0
 have k1 := hok _ m1
 have k2 := hok _ m2
 have cA := hw W0 W K cv tv _ C T (kid l 0) h0 hK i0 k0 (by omega) (by omega)
 have gA := NGe.gen_len lf m (kid l 0) C.length T.length k0
 obtain ⟨A, hA⟩ : ∃ A, gen m (kid l 0) C.length T.length = A := ⟨_, rfl⟩
 rw [hA] at cA gA
 obtain ⟨v0, v1, v2, v3⟩ := four_box x0
 rw [hl] at v3 x0 hW0 hcap ⊢
 have HX : Hid (W0.heap[w.heap.size]? = _) := x0
 have HK0 : Hid _ := hk0
 clear h h0 hin hkid b0 x0 hk0 hok
 simp only [Nat.zero_mul, Nat.add_zero, Nat.one_mul] at c0 c1 c2 c3 d0 d1 d2 d3
 simp only [show 2 * 4 = 8 from rfl] at f0 f1 f2 f3
 go_enter func52, ntmps52
 go_wp2_with fail
 try rw [hW0]
 refine cA.mono ?_
 rintro e w1 ⟨rfl, cv1, tv1, wb1, kw1⟩
 obtain ⟨y1, n12, n13⟩ := NWt.Kw.box kw1 hx0 hn1 hn2 hn3 HX.out
 have cP := put_c wb1 (by simp; omega) 32 0
 obtain ⟨kk, hkk⟩ : ∃ kk, (C ++ A.1).length = kk := ⟨_, rfl⟩
 rw [hkk] at cP
 clear cA
 go_wp2_with fail
 refine cP.mono ?_
 rintro e w2 ⟨rfl, cv2, wb2, kw2⟩
 have hz1 := (Array.getElem?_eq_some_iff.1 y1).1
 obtain ⟨y2, n22, n23⟩ := NWt.Kw.box kw2 hz1 hn1 n12 n13 y1
 have L2 := kw1.trans kw2
 have e0 := NWt.Kw.cell L2 hK hg d0
 have e1 := NWt.Kw.cell L2 hK hg d1
 have e2 := NWt.Kw.cell L2 hK hg d2
 have e3 := NWt.Kw.cell L2 hK hg d3
 obtain ⟨u0, u1, u2, u3⟩ := four_box y2
 have hkl : C.length + A.1.length = kk := by simpa using hkk
 have cB := hw w2 W K cv2 tv1 _ (C ++ A.1 ++ [(32, 0)]) (T ++ A.2) (kid l 1) wb2 hK (NWt.Kw.inx L2 hK i1) k1 (by simp; omega) (by simp; omega)
 have hl1 : (C ++ A.1 ++ [(32, 0)]).length = C.length + A.1.length + 1 := by simp; omega
 have hl2 : (T ++ A.2).length = T.length + A.2.length := by simp
 rw [hl1, hl2] at cB
 have gB := NGe.gen_len lf m (kid l 1) (C.length + A.1.length + 1) (T.length + A.2.length) k1
 obtain ⟨B, hB⟩ : ∃ B, gen m (kid l 1) (C.length + A.1.length + 1) (T.length + A.2.length) = B := ⟨_, rfl⟩
 rw [hB] at cB gB
 clear cP c0 c1 c2 c3 d0 d1 d2 d3 v0 v1 v2 v3 y1 wb1 wb2 hn2 hn3 n12 n13
 go_wp2_with fail
 refine cB.mono ?_
 rintro e w3 ⟨rfl, cv3, tv3, wb3, kw3⟩
 have cQ := put_c wb3 (by simp; omega) 33 0
 obtain ⟨kq, hkq⟩ : ∃ kq, (C ++ A.1 ++ [(32, 0)] ++ B.1).length = kq := ⟨_, rfl⟩
 rw [hkq] at cQ
 have hz2 := (Array.getElem?_eq_some_iff.1 y2).1
 obtain ⟨y3, n32, n33⟩ := NWt.Kw.box kw3 hz2 hn1 n22 n23 y2
 clear cB e0 e1 e2 e3 u0 u1 u2 u3 y2
 go_wp2_with fail
 refine cQ.mono ?_
 rintro e w4 ⟨rfl, cv4, wb4, kw4⟩
 have hz3 := (Array.getElem?_eq_some_iff.1 y3).1
 obtain ⟨y4, n42, n43⟩ := NWt.Kw.box kw4 hz3 hn1 n32 n33 y3
 rw [choice_fin] at wb4
 have cL := land_c wb4 kk (by simp; omega) (C.length + A.1.length + 1 + B.1.length + 1) (by simp; omega) (by omega)
 clear cQ wb3 wb4
 go_wp2_with fail
 refine cL.mono ?_
 rintro e w5 ⟨rfl, wb5, kw5⟩
 clear cL
 have hz4 := (Array.getElem?_eq_some_iff.1 y4).1
 obtain ⟨y5, n52, n53⟩ := NWt.Kw.box kw5 hz4 hn1 n42 n43 y4
 have L5 := ((L2.trans kw3).trans kw4).trans kw5
 have e0 := NWt.Kw.cell L5 hK hg f0
 have e1 := NWt.Kw.cell L5 hK hg f1
 have e2 := NWt.Kw.cell L5 hK hg f2
 have e3 := NWt.Kw.cell L5 hK hg f3
 obtain ⟨u0, u1, u2, u3⟩ := four_box y5
 obtain ⟨n1, hn⟩ : ∃ n1, C.length + A.1.length + 1 + B.1.length + 1 = n1 := ⟨_, rfl⟩
 rw [hn] at wb5
 have cD := hw w5 W K cv4 tv3 _ _ _ (kid l 2) wb5 hK (NWt.Kw.inx L5 hK i2) k2 (by simp; omega) (by simp; omega)
 have hl3 : (C ++ A.1 ++ (32, (n1 : Int)) :: (B.1 ++ [(33, 0)])).length = n1 := by simp; omega
 have hl4 : (T ++ A.2 ++ B.2).length = T.length + A.2.length + B.2.length := by simp; omega
 rw [hl3, hl4] at cD
 have gD := NGe.gen_len lf m (kid l 2) n1 (T.length + A.2.length + B.2.length) k2
 obtain ⟨D, hD⟩ : ∃ D, gen m (kid l 2) n1 (T.length + A.2.length + B.2.length) = D := ⟨_, rfl⟩
 rw [hD] at cD gD
 clear wb5 f0 f1 f2 f3 y3 y4 y5
 go_wp2_with fail
 refine cD.mono ?_
 rintro e w6 ⟨rfl, cv6, tv6, wb6, kw6⟩
 rw [choice_fin2] at wb6
 have cM := land_c wb6 kq (by rw [<- hkq]; simp) (n1 + D.1.length) (by simp; omega) (by omega)
 clear cD wb6 e0 e1 e2 e3 u0 u1 u2 u3
 go_wp2_with fail
 refine cM.mono ?_
 rintro e w7 ⟨rfl, wb7, kw7⟩
 clear cM
 go_wp2_with fail
 go_end0
 refine ⟨rfl, cv6, tv6, ?_, HK0.out.trans ((L5.trans kw6).trans kw7)⟩
 have eL : NGe.choice (gen m) (kid l 0) (kid l 1) (kid l 2) C.length T.length = NGe.three C.length A B D := by
  unfold NGe.choice NGe.choice2
  rw [hA, hB, hn, hD]
 rw [eL]
 unfold NGe.three
 rw [hn, show C ++ (A.1 ++ (32, (n1 : Int)) :: (B.1 ++ (33, ((n1 + D.1.length : Nat) : Int)) :: D.1)) = (C ++ A.1 ++ (32, (n1 : Int)) :: B.1) ++ (33, ((n1 + D.1.length : Nat) : Int)) :: D.1 by simp, show T ++ (A.2 ++ B.2 ++ D.2) = T ++ A.2 ++ B.2 ++ D.2 by simp]
 exact wb7
end Go.Proofs.YthjbknncbhkinaaGreatDoor.NWu
namespace Go.Proofs.YthjbknncbhkinaaGreatDoor.NRd
open Go.RowKit CPu CBx CIn NWr
open IBase (add_none below_drewN)
theorem tx_at {w : World} {B : Nat} {v : Value} {T : List ByteArray} (h : Ot w B v T) {j : Nat} (hj : j < T.length) : ∃ g cap, v = .slice (some ⟨g, 0, none⟩) T.length cap /\ v.ownBlock = some g /\ B <= g /\ g < w.heap.size /\ T.length <= cap /\ cap <= 9223372036854775807 /\ w.cell? ⟨g, j, none⟩ = some (.string T[j]) /\ w.frozen? ⟨g, j, none⟩ = false := by
 have hh := h
 rcases hh.2 with ⟨_, e⟩ | ⟨g, cap, cur, rfl, hb, hc, hle, hm, hsz, htk⟩
 ·omega
 ·refine ⟨g, cap, rfl, rfl, hb, (World.ownsRow.lt h g rfl).2, hle, by unfold maxLen at hm; omega, ?_, World.ownsRow.frozenAt h j⟩
  rw [World.ownsRow.cellAt h j (by omega)]
  simp [hj]
theorem in_at {w : World} {B : Nat} {v : Value} {C : List Ins} (h : Oc w B v C) {j : Nat} (hj : j < C.length) : ∃ g cap, v = .slice (some ⟨g, 0, none⟩) C.length cap /\ v.ownBlock = some g /\ B <= g /\ g < w.heap.size /\ C.length <= cap /\ cap <= 9223372036854775807 /\ w.cell? ⟨g, j * 2, none⟩ = some (.int .i64 C[j].1) /\ w.cell? ⟨g, j * 2 + 1, none⟩ = some (.int .i64 C[j].2) /\ w.frozen? ⟨g, j * 2 + 1, none⟩ = false := by
 have hh := h
 rcases hh.2 with ⟨_, e⟩ | ⟨g, cap, cur, rfl, hb, hc, hle, hm, hsz, htk⟩
 ·omega
 ·obtain ⟨k1, k2⟩ := flat_get C j hj
  refine ⟨g, cap, rfl, rfl, hb, (World.ownsRow.lt h g rfl).2, hle, by unfold maxLen at hm; omega, ?_, ?_, World.ownsRow.frozenAt h _⟩
  ·rw [World.ownsRow.cellAt h _ (by omega)]; exact k1
  ·rw [World.ownsRow.cellAt h _ (by omega)]; exact k2
theorem oc_cx {w : World} {B K : Nat} {v : Value} {C : List Ins} (h : Oc w B v C) (hK : ∀ g, v.ownBlock = some g -> g < K) : Cx K w v C := by
 obtain ⟨a, cap, e, h1, h2, h3⟩ := own_sh h
 refine ⟨a, cap, e, h1, h2, h3, ?_⟩
 by_cases h0 : C = []
 ·exact .inl h0
 ·right
  have hl : 0 < C.length := List.length_pos_iff.2 h0
  obtain ⟨g, c2, e2, hb, -⟩ := in_at h hl
  rw [e] at e2
  cases e2
  subst e
  refine ⟨g, 0, rfl, hK g hb, fun j hj => ?_⟩
  obtain ⟨g', c', e', -, -, -, -, -, k1, k2, -⟩ := in_at h hj
  cases e'
  rw [Nat.zero_add]
  exact ⟨k1, k2⟩
end Go.Proofs.YthjbknncbhkinaaGreatDoor.NRd

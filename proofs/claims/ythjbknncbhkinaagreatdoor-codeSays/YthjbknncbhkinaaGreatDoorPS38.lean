import Derived.Deep.WholeRow
import Derived.Test.YthjbknncbhkinaaGreatDoorPS10
open Go.Proofs.Tryz
set_option linter.unusedVariables false
set_option maxRecDepth 20000
set_option maxHeartbeats 3200000
namespace Go.Proofs.YthjbknncbhkinaaGreatDoor.CFl
open Go.RowKit CPu CBx CHt CLo CLn
def FR (B : Nat) (w : World) (n t d : Int) (X : Except Int (Nat -> Int)) (e : Ending) (w' : World) : Prop := Below B w w' /\ match X with
 | .error c => e = .returned (.int .i64 c)
 | .ok H' => e = .returned (.int .i64 0) /\ Wy w' B n t d H'
theorem two_keep {W W' : World} {g : Nat} {x y : Value} (h : W.cell? ⟨g, 0, none⟩ = some x /\ W.cell? ⟨g, 1, none⟩ = some y) (hb : Below W.heap.size W W') : W'.cell? ⟨g, 0, none⟩ = some x /\ W'.cell? ⟨g, 1, none⟩ = some y := ⟨IBase.below_cell h.1 hb, IBase.below_cell h.2 hb⟩
theorem fl_low {n : Nat} {t d : Int} {H : Nat -> Int} {i : Nat} {o a : Int} (h1 : H i < 0) : fl n t d H i (o, a) = .error 2001 := by simp [fl, h1]
theorem fl_form {n : Nat} {t d : Int} {H : Nat -> Int} {i : Nat} {o a : Int} (h1 : 0 <= H i) (hF : fmd o a = false) : fl n t d H i (o, a) = .error 2000 := by simp [fl, Int.not_lt.2 h1, hF]
theorem fl_name {n : Nat} {t d : Int} {H : Nat -> Int} {i : Nat} {o a : Int} (h1 : 0 <= H i) (hF : fmd o a = true) (hG : hnm t d o a = false) : fl n t d H i (o, a) = .error 2003 := by simp [fl, Int.not_lt.2 h1, hF, hG]
theorem fl_jump {n : Nat} {t d : Int} {H : Nat -> Int} {i : Nat} {o a : Int} (h1 : 0 <= H i) (hF : fmd o a = true) (hG : hnm t d o a = true) (hJ : ijp o = true /\ (a <= (i : Int) \/ (n : Int) < a)) : fl n t d H i (o, a) = .error 2002 := by
 unfold fl
 dsimp only
 rw [if_neg (Int.not_lt.2 h1), if_neg (by rw [hF]; decide), if_neg (by rw [hG]; decide), if_pos hJ]
theorem fl_none {n : Nat} {t d : Int} {H : Nat -> Int} {i : Nat} {o a : Int} (h1 : 0 <= H i) (hF : fmd o a = true) (hG : hnm t d o a = true) (hJ : ijp o = true -> (i : Int) < a /\ a <= (n : Int)) (hL : lon H i o a = none) : fl n t d H i (o, a) = .error 2001 := by
 unfold fl
 dsimp only
 rw [if_neg (Int.not_lt.2 h1), if_neg (by rw [hF]; decide), if_neg (by rw [hG]; decide), if_neg (fun hh => by have := hJ hh.1; omega), hL]
theorem fl_some {n : Nat} {t d : Int} {H H' : Nat -> Int} {i : Nat} {o a : Int} (h1 : 0 <= H i) (hF : fmd o a = true) (hG : hnm t d o a = true) (hJ : ijp o = true -> (i : Int) < a /\ a <= (n : Int)) (hL : lon H i o a = some H') : fl n t d H i (o, a) = .ok H' := by
 unfold fl
 dsimp only
 rw [if_neg (Int.not_lt.2 h1), if_neg (by rw [hF]; decide), if_neg (by rw [hG]; decide), if_neg (fun hh => by have := hJ hh.1; omega), hL]
theorem fault_c {w : World} {B n : Nat} {t d : Int} {H : Nat -> Int} (h : Wy w B n t d H) (hH : Hb H) (hn : n <= 8192) {i : Nat} (hi : i < n) (o a : Int) :
  Calls prog 34 #[.pointer (some ⟨B, 0, none⟩), .int .i64 (i : Nat), .agg #[.int .i64 o, .int .i64 a]] w fun e w' => FR B w n t d (fl n t d H i (o, a)) e w' := by
 obtain ⟨W, hW, hb, hs, c0, c1⟩ := box1 w (.int .i64 o) (.int .i64 a) 57
 have hB := h.lt
 have hwy := h.keep hb hB
 have cH := height_c hwy hH (k := i) (by omega)
 have HC : Hid (W.cell? ⟨w.heap.size, 0, none⟩ = some (.int .i64 o) /\ W.cell? ⟨w.heap.size, 1, none⟩ = some (.int .i64 a)) := ⟨c0, c1⟩
 have cF := isFormed_c o a W
 have HB : Hid (Below B w W) := hb.mono (by omega)
 have HW : Hid (Wy W B n t d H) := hwy
 have HH : Hid (Hb H) := hH
 obtain ⟨X, hX⟩ : ∃ X, fl n t d H i (o, a) = X := ⟨_, rfl⟩
 rw [hX]
 obtain ⟨y, hy⟩ : ∃ y, H i = y := ⟨_, rfl⟩
 rw [hy] at cH
 clear h hH hwy hb
 by_cases h1 : y < 0
 ·rw [fl_low (by rw [hy]; exact h1)] at hX
  subst hX
  have d1 : decide (y < 0) = true := by simp [h1]
  clear h1 hy cF HC HW HH c0 c1
  go_enter func34, ntmps34
  go_wp2_with fail
  refine cH.mono ?_
  rintro e w1 ⟨rfl, rfl⟩
  go_wp2_with fail
  go_ret
  exact ⟨HB.out, rfl⟩
 have d1 : decide (y < 0) = false := by simp [h1]
 have HX : Hid (fl n t d H i (o, a) = X) := hX
 have HN : Hid (0 <= H i) := by show 0 <= H i; rw [hy]; omega
 clear h1 hX hy
 go_enter func34, ntmps34
 go_wp2_with fail
 refine cH.mono ?_
 rintro e w1 ⟨rfl, rfl⟩
 go_wp2_with fail
 refine cF.mono ?_
 rintro e W1 ⟨rfl, b1⟩
 have hs1 := b1.size
 have HW1 : Hid (Wy W1 B n t d H) := HW.out.keep b1 HW.out.lt
 have HB1 : Hid (Below B w W1) := HB.out.trans (b1.mono (Nat.le_of_lt HW.out.lt))
 have HC1 : Hid (W1.cell? ⟨w.heap.size, 0, none⟩ = some (.int .i64 o) /\ W1.cell? ⟨w.heap.size, 1, none⟩ = some (.int .i64 a)) := two_keep HC.out b1
 obtain ⟨x0, x1⟩ := HC1.out
 obtain ⟨F, hF⟩ : ∃ F, fmd o a = F := ⟨_, rfl⟩
 have HF : Hid (fmd o a = F) := hF
 rw [hF]
 clear hF cH cF b1 c0 c1 HC HW HB hW
 have cN := hasName_c HW1.out o a
 cases F with
 | false =>
  have hX := HX.out
  rw [fl_form HN.out HF.out] at hX
  subst hX
  clear cN
  go_wp2_with fail
  go_ret
  exact ⟨HB1.out, rfl⟩
 | true =>
 go_wp2_with fail
 refine cN.mono ?_
 rintro e W2 ⟨rfl, b2⟩
 have hs2 := b2.size
 have HW2 : Hid (Wy W2 B n t d H) := HW1.out.keep b2 HW1.out.lt
 have HB2 : Hid (Below B w W2) := HB1.out.trans (b2.mono (Nat.le_of_lt HW1.out.lt))
 have HC2 : Hid (W2.cell? ⟨w.heap.size, 0, none⟩ = some (.int .i64 o) /\ W2.cell? ⟨w.heap.size, 1, none⟩ = some (.int .i64 a)) := two_keep HC1.out b2
 obtain ⟨z0, z1⟩ := HC2.out
 obtain ⟨G, hG⟩ : ∃ G, hnm t d o a = G := ⟨_, rfl⟩
 have HG : Hid (hnm t d o a = G) := hG
 rw [hG]
 clear hG cN b2 x0 x1 HC1 HW1 HB1
 cases G with
 | false =>
  have hX := HX.out
  rw [fl_name HN.out HF.out HG.out] at hX
  subst hX
  go_wp2_with fail
  go_ret
  exact ⟨HB2.out, rfl⟩
 | true =>
 have zn := HW2.out.n
 have cJ : ∀ m, Calls prog 59 #[.int .i64 o] (W2.drewN m) fun e w' => e = .returned (.bool (ijp o)) /\ w' = W2.drewN m := fun m => (isJump_c o (W2.drewN m)).mono fun _ _ h => ⟨h.1, h.2.symm⟩
 have cL : ∀ m, (ijp o = true -> (i : Int) < a /\ a <= 8192) -> Calls prog 60 #[.pointer (some ⟨B, 0, none⟩), .int .i64 (i : Nat), .agg #[.int .i64 o, .int .i64 a]] (W2.drewN m) fun e w' => LO B (W2.drewN m) n t d (lon H i o a) e w' := fun m hh => leadOn_c (w := W2.drewN m) HW2.out HH.out (by omega) hh
 have HL : Hid (∀ m, (ijp o = true -> (i : Int) < a /\ a <= 8192) -> Calls prog 60 #[.pointer (some ⟨B, 0, none⟩), .int .i64 (i : Nat), .agg #[.int .i64 o, .int .i64 a]] (W2.drewN m) fun e w' => LO B (W2.drewN m) n t d (lon H i o a) e w') := cL
 clear cL
 obtain ⟨J, hJ⟩ : ∃ J, ijp o = J := ⟨_, rfl⟩
 have HJ : Hid (ijp o = J) := hJ
 rw [hJ] at cJ
 clear hJ
 obtain ⟨e1, he1⟩ : ∃ b, decide (a <= (i : Int)) = b := ⟨_, rfl⟩
 obtain ⟨e2, he2⟩ : ∃ b, decide ((n : Int) < a) = b := ⟨_, rfl⟩
 have HE : Hid (decide (a <= (i : Int)) = e1 /\ decide ((n : Int) < a) = e2) := ⟨he1, he2⟩
 by_cases hK : J = true /\ (e1 = true \/ e2 = true)
 ·have hX := HX.out
  rw [fl_jump HN.out HF.out HG.out ⟨HJ.out.trans hK.1, hK.2.imp (fun h => by simpa using HE.out.1.trans h) (fun h => by simpa using HE.out.2.trans h)⟩] at hX
  subst hX
  obtain ⟨rfl, hK⟩ := hK
  cases e1 <;> cases e2 <;> first | (simp at hK; done) | skip
  all_goals
   clear hK
   go_wp2_with fail
   go_quiet (first | (go_at_call 59; exact Calls.quiet_of_same (cJ _)))
   go_wp2_with fail
   go_ret
   exact ⟨IBase.below_drewN HB2.out, rfl⟩
 ·have hj : ijp o = true -> (i : Int) < a /\ a <= (n : Int) := fun hj => by
   have hJ := HJ.out.symm.trans hj
   have h1 := HE.out.1
   have h2 := HE.out.2
   have h3 : ¬ e1 = true := fun h => hK ⟨hJ, .inl h⟩
   have h4 : ¬ e2 = true := fun h => hK ⟨hJ, .inr h⟩
   rw [<- h1] at h3
   rw [<- h2] at h4
   simp at h3 h4
   omega
  have HK : Hid (ijp o = true -> (i : Int) < a /\ a <= (n : Int)) := hj
  have cL := fun m => HL.out m fun hh => by have := hj hh; omega
  obtain ⟨Y, hY⟩ : ∃ Y, lon H i o a = Y := ⟨_, rfl⟩
  rw [hY] at cL
  have HYY : Hid (lon H i o a = Y) := hY
  clear hY hj HL
  cases J <;> cases e1 <;> cases e2 <;> first | (simp at hK; done) | skip
  all_goals
   clear hK
   go_wp2_with fail
   go_quiet (first | (go_at_call 59; exact Calls.quiet_of_same (cJ _)))
   go_wp2_with fail
   refine (cL _).mono ?_
   rintro e W3 ⟨b3, hA⟩
   have HB3 : Hid (Below B w W3) := (IBase.below_drewN HB2.out).trans b3
   have hX := HX.out
   clear b3 cL cJ
   cases Y with
   | none =>
    obtain rfl := hA
    rw [fl_none HN.out HF.out HG.out HK.out HYY.out] at hX
    subst hX
    go_wp2_with fail
    go_ret
    exact ⟨HB3.out, rfl⟩
   | some H' =>
    obtain ⟨rfl, hA⟩ := hA
    have HA : Hid (Wy W3 B n t d H') := hA
    clear hA
    rw [fl_some HN.out HF.out HG.out HK.out HYY.out] at hX
    subst hX
    go_wp2_with fail
    go_ret
    exact ⟨HB3.out, rfl, HA.out⟩
end Go.Proofs.YthjbknncbhkinaaGreatDoor.CFl
namespace Go.Proofs.YthjbknncbhkinaaGreatDoor.CZe
open Go.RowKit CBx
open IBase (ro ro_len)
def isZ (v : Value) : Bool := match v with
 | .int .i16 n => n == 0
 | _ => false
theorem z1 : Tryz.zeroCells62.toList.take 3 = [Value.int .i64 0, Value.int .i64 0, Value.int .i64 0] := by kernel_rfl
theorem z2 : (Tryz.zeroCells62.toList.drop 3).all isZ = true := by kernel_rfl
theorem isZ_eq {v : Value} (h : isZ v = true) : v = .int .i16 0 := by
 unfold isZ at h
 split at h
 ·simp at h; subst h; rfl
 ·cases h
theorem z36 : Tryz.zeroCells62 = (Value.int .i64 0 :: Value.int .i64 0 :: Value.int .i64 0 :: List.replicate 8193 (Value.int .i16 0)).toArray := by
 have h1 : Tryz.zeroCells62.toList.drop 3 = List.replicate 8193 (Value.int .i16 0) := by
  rw [List.eq_replicate_iff]
  refine ⟨?_, fun b hb => isZ_eq (List.all_eq_true.1 z2 b hb)⟩
  have := Tryz.zeroCells62_size
  rw [List.length_drop, Array.length_toList, this]
 apply Array.toList_inj.1
 rw [<- List.take_append_drop 3 Tryz.zeroCells62.toList, z1, h1]
 rfl
theorem wyc_new (n t d : Int) : wyc n t d (fun _ => -1) = (Value.int .i64 n :: Value.int .i64 t :: Value.int .i64 d :: List.replicate 8193 (Value.int .i16 0)).toArray := by
 have e : (ro 8193 fun k => (fun _ => (-1 : Int)) k + 1).map (Value.int .i16) = List.replicate 8193 (Value.int .i16 0) := by
  rw [List.eq_replicate_iff]
  refine ⟨by rw [List.length_map, ro_len], fun b hb => ?_⟩
  obtain ⟨x, hx, rfl⟩ := List.mem_map.1 hb
  unfold ro at hx
  obtain ⟨k, -, rfl⟩ := List.mem_map.1 hx
  rfl
 unfold wyc
 rw [e]
theorem ones (n t d : Int) (H : Nat -> Int) : (wyc n t d H).all (·.oneCell') = true := by
 rw [Array.all_eq_true_iff_forall_mem]
 intro x hx
 simp [wyc] at hx
 rcases hx with rfl | rfl | rfl | ⟨k, -, rfl⟩ <;> rfl
theorem set_c (n t d : Int) : ((Tryz.zeroCells62.toList.set 0 (.int .i64 n)).set 1 (.int .i64 t)).set 2 (.int .i64 d) = (wyc n t d fun _ => -1).toList := by
 rw [z36, wyc_new]
 rfl
theorem store_c (n t d : Int) (w : World) : (storeCells ⟨w.heap.size, 0, none⟩ (((Tryz.zeroCells62.toList.set 0 (.int .i64 n)).set 1 (.int .i64 t)).set 2 (.int .i64 d))).run prog (w.alloc (.cells Tryz.zeroCells62 62)) = .ok () (w.alloc (.cells (wyc n t d fun _ => -1) 62)) := by
 rw [set_c]
 exact run_storeCells_new w _ _ _ (by rw [wyc_size]; kernel_rfl) (by rw [wyc_size]; exact Tryz.zeroCells62_size) (ones n t d _)
end Go.Proofs.YthjbknncbhkinaaGreatDoor.CZe
namespace Go.Proofs.YthjbknncbhkinaaGreatDoor.CCk
open Go.RowKit IPure CPu CBx CHt CLo CFl CZe
theorem fl_ne {n : Nat} {t d : Int} {H : Nat -> Int} {i : Nat} {x : Ins} {c : Int} (h : fl n t d H i x = .error c) : (c == 0) = false := by
 unfold fl at h
 split at h
 ·cases h; decide
 split at h
 ·cases h; decide
 split at h
 ·cases h; decide
 split at h
 ·cases h; decide
 split at h
 ·cases h; decide
 ·cases h
theorem ld0 : ld (fun _ => -1) 0 0 = h0 := by
 unfold ld h0 upd
 simp
theorem check_c {K : Nat} {w : World} {v : Value} {L : List Ins} (hv : Cx K w v L) (hK : K <= w.heap.size) (t d : Int) :
  Calls prog 19 #[v, .int .i64 t, .int .i64 d] w fun e w' => e = .returned (.int .i64 (ck L t d)) /\ Below w.heap.size w w' := by
 have HV : Hid (Cx K w v L) := hv
 obtain ⟨a, cap, rfl, hl, hm, hnil, hL⟩ := hv
 clear hL hnil
 obtain ⟨R, hR⟩ : ∃ R, ck L t d = R := ⟨_, rfl⟩
 rw [hR]
 unfold ck at hR
 obtain ⟨n, hn⟩ : ∃ n, L.length = n := ⟨_, rfl⟩
 rw [hn] at hR hl ⊢
 by_cases h8 : 8192 < n
 ·rw [if_pos h8] at hR
  subst hR
  have d8 : decide ((8192 : Int) < (n : Int)) = true := by simp; omega
  clear hn h8
  go_enter func19, ntmps19
  go_wp2_with fail
  go_ret
  exact ⟨rfl, Below.refl _ _⟩
 rw [if_neg h8] at hR
 have d8 : decide ((8192 : Int) < (n : Int)) = false := by simp; omega
 have HN : Hid (L.length = n) := hn
 have HR : Hid (fls n t d h0 0 L = R) := hR
 have hS := store_c n t d w
 obtain ⟨W0, hW0⟩ : ∃ W0, w.alloc (.cells (wyc n t d fun _ => -1) 62) = W0 := ⟨_, rfl⟩
 have b0 : Below w.heap.size w W0 := by rw [<- hW0]; exact (Below.refl _ w).alloc (Nat.le_refl _) _
 have y0 : Wy W0 w.heap.size n t d fun _ => -1 := by rw [<- hW0]; exact heap_alloc_new w _
 have cL := lead_c y0 (fun k => ⟨Int.le_refl _, by show (-1 : Int) <= k; omega⟩) (k := 0) (by omega) (x := 0) (by omega) (by omega)
 rw [hW0] at hS
 have HB0 : Hid (Below w.heap.size w W0) := b0
 have h9 : n <= 8192 := by omega
 clear hn hR b0 y0 h8 hW0
 go_enter func19, ntmps19
 go_wp2_with fail
 refine cL.mono ?_
 rintro e W1 ⟨rfl, y1, b1⟩
 rw [ld0] at y1
 have HB1 : Hid (Below w.heap.size w W1) := HB0.out.trans b1
 have HY1 : Hid (Wy W1 w.heap.size n t d h0) := y1
 have HLE : Hid (n <= 8192) := h9
 clear cL b1 y1 HB0 hS h9
 go_wp2_with fail
 go_loopw [22] (fun v1 wr => ∃ (q : Nat) (H : Nat -> Int), v1 = .int .i64 q /\ q <= n /\ Wy wr w.heap.size n t d H /\ Hb H /\ Below w.heap.size w wr /\ fls n t d H q (L.drop q) = R) (fun v1 _ => n - (intOf v1).toNat)
 case atStart => exact ⟨0, h0, rfl, by omega, HY1.out, hb0, HB1.out, HR.out⟩
 case round =>
  clear HB1 HY1 HR
  obtain ⟨q, H, rfl, hq, hy, hh, hB, hF⟩ := hrel
  have HYR : Hid (Wy wr w.heap.size n t d H) := hy
  have HBR : Hid (Below w.heap.size w wr) := hB
  have HHR : Hid (Hb H) := hh
  have HF : Hid (fls n t d H q (L.drop q) = R) := hF
  clear hy hh hB hF
  by_cases hlt : q < n
  ·have d0 : decide ((q : Int) < (n : Int)) = true := by simp; omega
   obtain ⟨aa, cc, hsl, -, -, -, hL⟩ := HV.out
   cases hsl
   have hlq : q < L.length := by rw [HN.out]; exact hlt
   obtain ⟨g, og, rfl, hg, hc⟩ : ∃ g o, a = some ⟨g, o, none⟩ /\ g < K /\ ∀ j (h : j < L.length), w.cell? ⟨g, o + j * 2, none⟩ = some (.int .i64 L[j].1) /\ w.cell? ⟨g, o + j * 2 + 1, none⟩ = some (.int .i64 L[j].2) := by
    rcases hL with rfl | hL
    ·simp at hlq
    ·exact hL
   obtain ⟨k0, k1⟩ := hc q hlq
   have k0 := cell_keep (by omega : g < w.heap.size) k0 HBR.out
   have k1 := cell_keep (by omega : g < w.heap.size) k1 HBR.out
   have HD : Hid (L.drop q = L[q] :: L.drop (q + 1)) := List.drop_eq_getElem_cons hlq
   clear hc hL
   generalize L[q] = x at *
   obtain ⟨o, a⟩ := x
   dsimp only at k0 k1
   obtain ⟨W4, hW4, b4, s4, e0, e1⟩ := box1 wr (.int .i64 o) (.int .i64 a) 57
   have cF := fault_c (HYR.out.keep b4 HYR.out.lt) HHR.out HLE.out hlt o a
   have hF := HF.out
   rw [HD.out, fls] at hF
   obtain ⟨X, hX⟩ : ∃ X, fl n t d H q (o, a) = X := ⟨_, rfl⟩
   rw [hX] at hF cF
   have HX : Hid (fl n t d H q (o, a) = X) := hX
   have HB4 : Hid (Below w.heap.size w W4) := HBR.out.trans (b4.mono HBR.out.size)
   clear hX HD HF b4
   have HF : Hid (_ = R) := hF
   clear hF
   go_wp2_with fail
   refine cF.mono ?_
   rintro e W5 ⟨b5, hA⟩
   have HB5 : Hid (Below w.heap.size w W5) := HB4.out.trans b5
   clear cF b5 HB4 e0 e1 hW4 k0 k1
   cases X with
   | error c =>
    obtain rfl := hA
    have hc := fl_ne HX.out
    have hF := HF.out
    dsimp only at hF
    subst hF
    go_wp2_with fail
    go_ret
    exact ⟨rfl, HB5.out⟩
   | ok H' =>
    obtain ⟨rfl, y5⟩ := hA
    have HY5 : Hid (Wy W5 w.heap.size n t d H') := y5
    clear y5
    go_wp2_with fail
    go_roundw
    case rel => exact ⟨q + 1, H', by go_num, by omega, HY5.out, fl_hb HHR.out HX.out, HB5.out, HF.out⟩
    case measure => simp only [intOf]; omega
  ·have d0 : decide ((q : Int) < (n : Int)) = false := by simp; omega
   obtain rfl : q = n := by omega
   have hF := HF.out
   rw [List.drop_eq_nil_of_le (by rw [HN.out]; exact Nat.le_refl _), fls] at hF
   have cH := height_c HYR.out HHR.out (k := q) (by have := HLE.out; omega)
   have zn := HYR.out.n
   generalize H q = y at *
   by_cases h1 : y = 1
   ·rw [if_pos h1] at hF
    subst h1
    subst hF
    go_wp2_with fail
    refine cH.mono ?_
    rintro e w9 ⟨rfl, rfl⟩
    go_wp2_with fail
    go_ret
    exact ⟨rfl, HBR.out⟩
   ·rw [if_neg h1] at hF
    have d1 : (y == 1) = false := by simp [h1]
    subst hF
    clear h1
    go_wp2_with fail
    refine cH.mono ?_
    rintro e w9 ⟨rfl, rfl⟩
    go_wp2_with fail
    go_ret
    exact ⟨rfl, HBR.out⟩
end Go.Proofs.YthjbknncbhkinaaGreatDoor.CCk

/- Contract of code.Check. -/
import Derived.Test.YtamocioljeaicaaGreatDoorCFl
import Derived.Deep.WholeRow
namespace Go.Proofs.YtamocioljeaicaaGreatDoor.CZe
open Go.RowKit Go.Proofs.YtamocioljeaicaaGreatDoor.IPure Go.Proofs.YtamocioljeaicaaGreatDoor.CPu Go.Proofs.YtamocioljeaicaaGreatDoor.CBx
open Go.Proofs.YtamocioljeaicaaGreatDoor.IBase (ro ro_len)
set_option linter.unusedVariables false

def isZ (v : Value) : Bool := match v with
  | .int .i16 n => n == 0
  | _ => false
theorem z1 : Tryz.zeroCells36.toList.take 3 = [Value.int .i64 0, Value.int .i64 0, Value.int .i64 0] := by kernel_rfl
theorem z2 : (Tryz.zeroCells36.toList.drop 3).all isZ = true := by kernel_rfl
theorem isZ_eq {v : Value} (h : isZ v = true) : v = .int .i16 0 := by
  unfold isZ at h
  split at h
  · simp at h; subst h; rfl
  · cases h
theorem z36 : Tryz.zeroCells36 = (Value.int .i64 0 :: Value.int .i64 0 :: Value.int .i64 0 :: List.replicate 8193 (Value.int .i16 0)).toArray := by
  have h1 : Tryz.zeroCells36.toList.drop 3 = List.replicate 8193 (Value.int .i16 0) := by
    rw [List.eq_replicate_iff]
    refine ⟨?_, fun b hb => isZ_eq (List.all_eq_true.1 z2 b hb)⟩
    have := Tryz.zeroCells36_size
    rw [List.length_drop, Array.length_toList, this]
  apply Array.toList_inj.1
  rw [← List.take_append_drop 3 Tryz.zeroCells36.toList, z1, h1]
  rfl
theorem wyc_new (n t d : Int) : wyc n t d (fun _ => -1) = (Value.int .i64 n :: Value.int .i64 t :: Value.int .i64 d :: List.replicate 8193 (Value.int .i16 0)).toArray := by
  have e : (ro 8193 fun k => (fun _ => (-1 : Int)) k + 1).map (Value.int .i16) = List.replicate 8193 (Value.int .i16 0) := by
    rw [List.eq_replicate_iff]
    refine ⟨by rw [List.length_map, ro_len], fun b hb => ?_⟩
    obtain ⟨x, hx, rfl⟩ := List.mem_map.1 hb
    unfold ro at hx
    obtain ⟨k, -, rfl⟩ := List.mem_map.1 hx
    rfl
  unfold wyc
  rw [e]
theorem ones (n t d : Int) (H : Nat → Int) : (wyc n t d H).all (·.oneCell') = true := by
  rw [Array.all_eq_true_iff_forall_mem]
  intro x hx
  simp [wyc] at hx
  rcases hx with rfl | rfl | rfl | ⟨k, -, rfl⟩ <;> rfl
theorem set_c (n t d : Int) : ((Tryz.zeroCells36.toList.set 0 (.int .i64 n)).set 1 (.int .i64 t)).set 2 (.int .i64 d) = (wyc n t d fun _ => -1).toList := by
  rw [z36, wyc_new]
  rfl
theorem store_c (n t d : Int) (w : World) : (storeCells ⟨w.heap.size, 0, none⟩ (((Tryz.zeroCells36.toList.set 0 (.int .i64 n)).set 1 (.int .i64 t)).set 2 (.int .i64 d))).run Tryz.prog (w.alloc (.cells Tryz.zeroCells36 36)) = .ok () (w.alloc (.cells (wyc n t d fun _ => -1) 36)) := by
  rw [set_c]
  exact run_storeCells_new w _ _ _ (by rw [wyc_size]; kernel_rfl) (by rw [wyc_size]; exact Tryz.zeroCells36_size) (ones n t d _)
end Go.Proofs.YtamocioljeaicaaGreatDoor.CZe

namespace Go.Proofs.YtamocioljeaicaaGreatDoor.CCk
open Go.RowKit Go.Proofs.YtamocioljeaicaaGreatDoor.IPure Go.Proofs.YtamocioljeaicaaGreatDoor.CPu Go.Proofs.YtamocioljeaicaaGreatDoor.CBx Go.Proofs.YtamocioljeaicaaGreatDoor.CHt Go.Proofs.YtamocioljeaicaaGreatDoor.CLo Go.Proofs.YtamocioljeaicaaGreatDoor.CLn Go.Proofs.YtamocioljeaicaaGreatDoor.CFl Go.Proofs.YtamocioljeaicaaGreatDoor.CZe
open Go.Proofs.YtamocioljeaicaaGreatDoor.IBase (heap_alloc_new)
set_option linter.unusedVariables false

theorem fl_ne {n : Nat} {t d : Int} {H : Nat → Int} {i : Nat} {x : Ins} {c : Int} (h : fl n t d H i x = .error c) : (c == 0) = false := by
  unfold fl at h
  split at h
  · cases h; decide
  split at h
  · cases h; decide
  split at h
  · cases h; decide
  split at h
  · cases h; decide
  split at h
  · cases h; decide
  · cases h
theorem ld0 : ld (fun _ => -1) 0 0 = h0 := by
  unfold ld h0 upd
  simp
set_option maxRecDepth 20000 in
set_option maxHeartbeats 3200000 in
theorem check_c {K : Nat} {w : World} {v : Value} {L : List Ins} (hv : Cx K w v L) (hK : K ≤ w.heap.size) (t d : Int) :
    Calls Tryz.prog 5 #[v, .int .i64 t, .int .i64 d] w fun e w' => e = .returned (.int .i64 (ck L t d)) ∧ Below w.heap.size w w' := by
  have HV : Hid (Cx K w v L) := hv
  obtain ⟨a, cap, rfl, hl, hm, hnil, hL⟩ := hv
  clear hL hnil
  obtain ⟨R, hR⟩ : ∃ R, ck L t d = R := ⟨_, rfl⟩
  rw [hR]
  unfold ck at hR
  obtain ⟨n, hn⟩ : ∃ n, L.length = n := ⟨_, rfl⟩
  rw [hn] at hR hl ⊢
  by_cases h8 : 8192 < n
  · rw [if_pos h8] at hR
    subst hR
    have d8 : decide ((8192 : Int) < (n : Int)) = true := by simp; omega
    clear hn h8
    go_enter Tryz.func5, Tryz.ntmps5
    go_wp2_with fail
    go_ret
    exact ⟨rfl, Below.refl _ _⟩
  rw [if_neg h8] at hR
  have d8 : decide ((8192 : Int) < (n : Int)) = false := by simp; omega
  have HN : Hid (L.length = n) := hn
  have HR : Hid (fls n t d h0 0 L = R) := hR
  have hS := store_c n t d w
  obtain ⟨W0, hW0⟩ : ∃ W0, w.alloc (.cells (wyc n t d fun _ => -1) 36) = W0 := ⟨_, rfl⟩
  have b0 : Below w.heap.size w W0 := by rw [← hW0]; exact (Below.refl _ w).alloc (Nat.le_refl _) _
  have y0 : Wy W0 w.heap.size n t d fun _ => -1 := by rw [← hW0]; exact heap_alloc_new w _
  have cL := lead_c y0 (fun k => ⟨Int.le_refl _, by show (-1 : Int) ≤ k; omega⟩) (k := 0) (by omega) (x := 0) (by omega) (by omega)
  rw [hW0] at hS
  have HB0 : Hid (Below w.heap.size w W0) := b0
  have h9 : n ≤ 8192 := by omega
  clear hn hR b0 y0 h8 hW0
  go_enter Tryz.func5, Tryz.ntmps5
  go_wp2_with fail
  refine cL.mono ?_
  rintro e W1 ⟨rfl, y1, b1⟩
  rw [ld0] at y1
  have HB1 : Hid (Below w.heap.size w W1) := HB0.out.trans b1
  have HY1 : Hid (Wy W1 w.heap.size n t d h0) := y1
  have HLE : Hid (n ≤ 8192) := h9
  clear cL b1 y1 HB0 hS h9
  go_wp2_with fail
  go_loopw [22] (fun v1 wr => ∃ (q : Nat) (H : Nat → Int), v1 = .int .i64 q ∧ q ≤ n ∧ Wy wr w.heap.size n t d H ∧ Hb H ∧ Below w.heap.size w wr ∧ fls n t d H q (L.drop q) = R) (fun v1 _ => n - (intOf v1).toNat)
  case atStart => exact ⟨0, h0, rfl, by omega, HY1.out, hb0, HB1.out, HR.out⟩
  case round =>
    clear HB1 HY1 HR
    obtain ⟨q, H, rfl, hq, hy, hh, hB, hF⟩ := hrel
    have HYR : Hid (Wy wr w.heap.size n t d H) := hy
    have HBR : Hid (Below w.heap.size w wr) := hB
    have HHR : Hid (Hb H) := hh
    have HF : Hid (fls n t d H q (L.drop q) = R) := hF
    clear hy hh hB hF
    by_cases hlt : q < n
    · have d0 : decide ((q : Int) < (n : Int)) = true := by simp; omega
      obtain ⟨aa, cc, hsl, -, -, -, hL⟩ := HV.out
      cases hsl
      have hlq : q < L.length := by rw [HN.out]; exact hlt
      obtain ⟨g, og, rfl, hg, hc⟩ : ∃ g o, a = some ⟨g, o, none⟩ ∧ g < K ∧ ∀ j (h : j < L.length), w.cell? ⟨g, o + j * 2, none⟩ = some (.int .i64 L[j].1) ∧ w.cell? ⟨g, o + j * 2 + 1, none⟩ = some (.int .i64 L[j].2) := by
        rcases hL with rfl | hL
        · simp at hlq
        · exact hL
      obtain ⟨k0, k1⟩ := hc q hlq
      have k0 := cell_keep (by omega : g < w.heap.size) k0 HBR.out
      have k1 := cell_keep (by omega : g < w.heap.size) k1 HBR.out
      have HD : Hid (L.drop q = L[q] :: L.drop (q + 1)) := List.drop_eq_getElem_cons hlq
      clear hc hL
      generalize L[q] = x at *
      obtain ⟨o, a⟩ := x
      dsimp only at k0 k1
      obtain ⟨W4, hW4, b4, s4, e0, e1⟩ := box1 wr (.int .i64 o) (.int .i64 a) 32
      have cF := fault_c (HYR.out.keep b4 HYR.out.lt) HHR.out HLE.out hlt o a
      have hF := HF.out
      rw [HD.out, fls] at hF
      obtain ⟨X, hX⟩ : ∃ X, fl n t d H q (o, a) = X := ⟨_, rfl⟩
      rw [hX] at hF cF
      have HX : Hid (fl n t d H q (o, a) = X) := hX
      have HB4 : Hid (Below w.heap.size w W4) := HBR.out.trans (b4.mono HBR.out.size)
      clear hX HD HF b4
      have HF : Hid (_ = R) := hF
      clear hF
      go_wp2_with fail
      refine cF.mono ?_
      rintro e W5 ⟨b5, hA⟩
      have HB5 : Hid (Below w.heap.size w W5) := HB4.out.trans b5
      clear cF b5 HB4 e0 e1 hW4 k0 k1
      cases X with
      | error c =>
        obtain rfl := hA
        have hc := fl_ne HX.out
        have hF := HF.out
        dsimp only at hF
        subst hF
        go_wp2_with fail
        go_ret
        exact ⟨rfl, HB5.out⟩
      | ok H' =>
        obtain ⟨rfl, y5⟩ := hA
        have HY5 : Hid (Wy W5 w.heap.size n t d H') := y5
        clear y5
        go_wp2_with fail
        go_roundw
        case rel => exact ⟨q + 1, H', by go_num, by omega, HY5.out, fl_hb HHR.out HX.out, HB5.out, HF.out⟩
        case measure => simp only [intOf]; omega
    · have d0 : decide ((q : Int) < (n : Int)) = false := by simp; omega
      obtain rfl : q = n := by omega
      have hF := HF.out
      rw [List.drop_eq_nil_of_le (by rw [HN.out]; exact Nat.le_refl _), fls] at hF
      have cH := height_c HYR.out HHR.out (k := q) (by have := HLE.out; omega)
      have zn := HYR.out.n
      generalize H q = y at *
      by_cases h1 : y = 1
      · rw [if_pos h1] at hF
        subst h1
        subst hF
        go_wp2_with fail
        refine cH.mono ?_
        rintro e w9 ⟨rfl, rfl⟩
        go_wp2_with fail
        go_ret
        exact ⟨rfl, HBR.out⟩
      · rw [if_neg h1] at hF
        have d1 : (y == 1) = false := by simp [h1]
        subst hF
        clear h1
        go_wp2_with fail
        refine cH.mono ?_
        rintro e w9 ⟨rfl, rfl⟩
        go_wp2_with fail
        go_ret
        exact ⟨rfl, HBR.out⟩
end Go.Proofs.YtamocioljeaicaaGreatDoor.CCk

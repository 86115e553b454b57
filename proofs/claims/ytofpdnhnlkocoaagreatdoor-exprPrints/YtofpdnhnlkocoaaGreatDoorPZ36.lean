import Derived.Deep.RegionHeld3
import Derived.Test.YtofpdnhnlkocoaaGreatDoorPZ26
import Derived.Test.YtofpdnhnlkocoaaGreatDoorPZ35
namespace Go.Proofs.YtofpdnhnlkocoaaGreatDoor.QPw
open Go.RowKit Go.Proofs.YtofpdnhnlkocoaaGreatDoor.UBase Go.Proofs.YtofpdnhnlkocoaaGreatDoor.EPure Go.Proofs.YtofpdnhnlkocoaaGreatDoor.PPl Go.Proofs.YtofpdnhnlkocoaaGreatDoor.PFit Go.Proofs.YtofpdnhnlkocoaaGreatDoor.PTx Go.Proofs.YtofpdnhnlkocoaaGreatDoor.ENd Go.Proofs.YtofpdnhnlkocoaaGreatDoor.ERg Go.Proofs.YtofpdnhnlkocoaaGreatDoor.QLv Go.Proofs.YtofpdnhnlkocoaaGreatDoor.EBk Go.Proofs.YtofpdnhnlkocoaaGreatDoor.QPd
open Go.Proofs.YtofpdnhnlkocoaaGreatDoor.XBase (In InL in_iff LAt Four elem_at four_below four_box)
open Go.Proofs.YtofpdnhnlkocoaaGreatDoor.Base (nx All heap_alloc_new below_cell)
open Go.Proofs.YtofpdnhnlkocoaaGreatDoor.PPr (pr gd gdL gdL_cons gd_range)
set_option linter.unusedVariables false
set_option maxRecDepth 20000 in
set_option maxHeartbeats 3200000 in
theorem p1 {m : Nat} (hP : Pr m) (hU : Un m)  {w : World} {v : Value} (hlen0 : (pr (-1) (nd 1 [])).length ≤ 100000000000) (h : In false All w (m + 1) v (nd 1 [])) :
    Calls Tryz.prog 27 #[v] w fun e w' => e = .returned (.string ⟨(pr (-1) (nd 1 [])).toArray⟩) ∧ Below w.heap.size w w' := by
  rw [tx_word (by omega)]
  unfold nd at h
  rw [in_iff] at h
  obtain ⟨lv, rfl, ho, hi, hs, a, cap, rfl, hl, hcap, hlen, ha, hL⟩ := h
  simp only [List.length_nil] at hl hlen ⊢
  obtain ⟨W0, hW0⟩ : ∃ W0, w.alloc (.cells #[.int .i64 1, .int .i64 0, .string ⟨#[]⟩, .slice a 0 cap] 24) = W0 := ⟨_, rfl⟩
  have b0 : Below w.heap.size w W0 := by rw [← hW0]; exact (Below.refl _ w).alloc (Nat.le_refl _) _
  have s0 : W0.heap.size = w.heap.size + 1 := by rw [← hW0]; simp
  have hx : W0.heap[w.heap.size]? = some (.cells #[.int .i64 1, .int .i64 0, .string ⟨#[]⟩, .slice a 0 cap] 24 (0, 0)) := by rw [← hW0]; exact heap_alloc_new w _
  have HX : Hid (W0.heap[w.heap.size]? = some (.cells #[.int .i64 1, .int .i64 0, .string ⟨#[]⟩, .slice a 0 cap] 24 (0, 0)) ∧ W0.heap.size = w.heap.size + 1 ∧ Below w.heap.size w W0) := ⟨hx, s0, b0⟩
  obtain ⟨y0, y1, y2, y3⟩ := four_box hx
  have cL := level_c 1 W0
  rw [show rl 1 = 14 by decide] at cL
  clear hL
  clear hx b0 s0
  go_enter Tryz.func27, Tryz.ntmps27
  go_wp2_with fail
  clear hW0
  refine cL.mono ?_
  rintro e W1 ⟨rfl, b1⟩
  have hb1 : Below w.heap.size w W1 := HX.out.2.2.trans (b1.mono (by have := HX.out.2.1; omega))
  clear y0 y1 y2 y3
  obtain ⟨y0, y1, y2, y3⟩ := four_box ((b1.block w.heap.size (by have := HX.out.2.1; omega)).trans HX.out.1)
  have HB1 : Hid (Below w.heap.size w W1 ∧ Below W0.heap.size W0 W1) := ⟨hb1, b1⟩
  clear b1 hb1 cL
  go_wp2_with fail
  go_ret
  exact ⟨rfl, HB1.out.1⟩
set_option maxRecDepth 20000 in
set_option maxHeartbeats 3200000 in
theorem p2 {m : Nat} (hP : Pr m) (hU : Un m)  {w : World} {v : Value} (hlen0 : (pr (-1) (nd 2 [])).length ≤ 100000000000) (h : In false All w (m + 1) v (nd 2 [])) :
    Calls Tryz.prog 27 #[v] w fun e w' => e = .returned (.string ⟨(pr (-1) (nd 2 [])).toArray⟩) ∧ Below w.heap.size w w' := by
  rw [tx_word (by omega)]
  unfold nd at h
  rw [in_iff] at h
  obtain ⟨lv, rfl, ho, hi, hs, a, cap, rfl, hl, hcap, hlen, ha, hL⟩ := h
  simp only [List.length_nil] at hl hlen ⊢
  obtain ⟨W0, hW0⟩ : ∃ W0, w.alloc (.cells #[.int .i64 2, .int .i64 0, .string ⟨#[]⟩, .slice a 0 cap] 24) = W0 := ⟨_, rfl⟩
  have b0 : Below w.heap.size w W0 := by rw [← hW0]; exact (Below.refl _ w).alloc (Nat.le_refl _) _
  have s0 : W0.heap.size = w.heap.size + 1 := by rw [← hW0]; simp
  have hx : W0.heap[w.heap.size]? = some (.cells #[.int .i64 2, .int .i64 0, .string ⟨#[]⟩, .slice a 0 cap] 24 (0, 0)) := by rw [← hW0]; exact heap_alloc_new w _
  have HX : Hid (W0.heap[w.heap.size]? = some (.cells #[.int .i64 2, .int .i64 0, .string ⟨#[]⟩, .slice a 0 cap] 24 (0, 0)) ∧ W0.heap.size = w.heap.size + 1 ∧ Below w.heap.size w W0) := ⟨hx, s0, b0⟩
  obtain ⟨y0, y1, y2, y3⟩ := four_box hx
  have cL := level_c 2 W0
  rw [show rl 2 = 14 by decide] at cL
  clear hL
  clear hx b0 s0
  go_enter Tryz.func27, Tryz.ntmps27
  go_wp2_with fail
  clear hW0
  refine cL.mono ?_
  rintro e W1 ⟨rfl, b1⟩
  have hb1 : Below w.heap.size w W1 := HX.out.2.2.trans (b1.mono (by have := HX.out.2.1; omega))
  clear y0 y1 y2 y3
  obtain ⟨y0, y1, y2, y3⟩ := four_box ((b1.block w.heap.size (by have := HX.out.2.1; omega)).trans HX.out.1)
  have HB1 : Hid (Below w.heap.size w W1 ∧ Below W0.heap.size W0 W1) := ⟨hb1, b1⟩
  clear b1 hb1 cL
  go_wp2_with fail
  go_ret
  exact ⟨rfl, HB1.out.1⟩
set_option maxRecDepth 20000 in
set_option maxHeartbeats 3200000 in
theorem p3 {m : Nat} (hP : Pr m) (hU : Un m)  {w : World} {v : Value} (hlen0 : (pr (-1) (nd 3 [])).length ≤ 100000000000) (h : In false All w (m + 1) v (nd 3 [])) :
    Calls Tryz.prog 27 #[v] w fun e w' => e = .returned (.string ⟨(pr (-1) (nd 3 [])).toArray⟩) ∧ Below w.heap.size w w' := by
  rw [tx_word (by omega)]
  unfold nd at h
  rw [in_iff] at h
  obtain ⟨lv, rfl, ho, hi, hs, a, cap, rfl, hl, hcap, hlen, ha, hL⟩ := h
  simp only [List.length_nil] at hl hlen ⊢
  obtain ⟨W0, hW0⟩ : ∃ W0, w.alloc (.cells #[.int .i64 3, .int .i64 0, .string ⟨#[]⟩, .slice a 0 cap] 24) = W0 := ⟨_, rfl⟩
  have b0 : Below w.heap.size w W0 := by rw [← hW0]; exact (Below.refl _ w).alloc (Nat.le_refl _) _
  have s0 : W0.heap.size = w.heap.size + 1 := by rw [← hW0]; simp
  have hx : W0.heap[w.heap.size]? = some (.cells #[.int .i64 3, .int .i64 0, .string ⟨#[]⟩, .slice a 0 cap] 24 (0, 0)) := by rw [← hW0]; exact heap_alloc_new w _
  have HX : Hid (W0.heap[w.heap.size]? = some (.cells #[.int .i64 3, .int .i64 0, .string ⟨#[]⟩, .slice a 0 cap] 24 (0, 0)) ∧ W0.heap.size = w.heap.size + 1 ∧ Below w.heap.size w W0) := ⟨hx, s0, b0⟩
  obtain ⟨y0, y1, y2, y3⟩ := four_box hx
  have cL := level_c 3 W0
  rw [show rl 3 = 14 by decide] at cL
  clear hL
  clear hx b0 s0
  go_enter Tryz.func27, Tryz.ntmps27
  go_wp2_with fail
  clear hW0
  refine cL.mono ?_
  rintro e W1 ⟨rfl, b1⟩
  have hb1 : Below w.heap.size w W1 := HX.out.2.2.trans (b1.mono (by have := HX.out.2.1; omega))
  clear y0 y1 y2 y3
  obtain ⟨y0, y1, y2, y3⟩ := four_box ((b1.block w.heap.size (by have := HX.out.2.1; omega)).trans HX.out.1)
  have HB1 : Hid (Below w.heap.size w W1 ∧ Below W0.heap.size W0 W1) := ⟨hb1, b1⟩
  clear b1 hb1 cL
  go_wp2_with fail
  go_ret
  exact ⟨rfl, HB1.out.1⟩
set_option maxRecDepth 20000 in
set_option maxHeartbeats 3200000 in
theorem p4 {m : Nat} (hP : Pr m) (hU : Un m) {i : Int} (h0 : 0 ≤ i) {w : World} {v : Value} (hlen0 : (pr (-1) (.mk 4 i ⟨#[]⟩ [])).length ≤ 100000000000) (h : In false All w (m + 1) v (.mk 4 i ⟨#[]⟩ [])) :
    Calls Tryz.prog 27 #[v] w fun e w' => e = .returned (.string ⟨(pr (-1) (.mk 4 i ⟨#[]⟩ [])).toArray⟩) ∧ Below w.heap.size w w' := by
  rw [tx_int]
  rw [in_iff] at h
  obtain ⟨lv, rfl, ho, hi, hs, a, cap, rfl, hl, hcap, hlen, ha, hL⟩ := h
  simp only [List.length_nil] at hl hlen ⊢
  obtain ⟨W0, hW0⟩ : ∃ W0, w.alloc (.cells #[.int .i64 4, .int .i64 i, .string ⟨#[]⟩, .slice a 0 cap] 24) = W0 := ⟨_, rfl⟩
  have b0 : Below w.heap.size w W0 := by rw [← hW0]; exact (Below.refl _ w).alloc (Nat.le_refl _) _
  have s0 : W0.heap.size = w.heap.size + 1 := by rw [← hW0]; simp
  have hx : W0.heap[w.heap.size]? = some (.cells #[.int .i64 4, .int .i64 i, .string ⟨#[]⟩, .slice a 0 cap] 24 (0, 0)) := by rw [← hW0]; exact heap_alloc_new w _
  have HX : Hid (W0.heap[w.heap.size]? = some (.cells #[.int .i64 4, .int .i64 i, .string ⟨#[]⟩, .slice a 0 cap] 24 (0, 0)) ∧ W0.heap.size = w.heap.size + 1 ∧ Below w.heap.size w W0) := ⟨hx, s0, b0⟩
  obtain ⟨y0, y1, y2, y3⟩ := four_box hx
  have cL := level_c 4 W0
  rw [show rl 4 = 14 by decide] at cL
  clear hL
  clear hx b0 s0
  go_enter Tryz.func27, Tryz.ntmps27
  go_wp2_with fail
  clear hW0
  refine cL.mono ?_
  rintro e W1 ⟨rfl, b1⟩
  have hb1 : Below w.heap.size w W1 := HX.out.2.2.trans (b1.mono (by have := HX.out.2.1; omega))
  clear y0 y1 y2 y3
  obtain ⟨y0, y1, y2, y3⟩ := four_box ((b1.block w.heap.size (by have := HX.out.2.1; omega)).trans HX.out.1)
  have HB1 : Hid (Below w.heap.size w W1 ∧ Below W0.heap.size W0 W1) := ⟨hb1, b1⟩
  have c2 := Digits.rtext i hi.1 hi.2 W1
  clear b1 hb1 cL
  go_wp2_with fail
  refine c2.mono ?_
  rintro e W2 ⟨rfl, b2⟩
  have HB2 : Hid (Below w.heap.size w W2) := HB1.out.1.trans (b2.mono HB1.out.1.size)
  clear c2 b2
  go_wp2_with fail
  go_ret
  exact ⟨rfl, HB2.out⟩
set_option maxRecDepth 20000 in
set_option maxHeartbeats 3200000 in
theorem p5 {m : Nat} (hP : Pr m) (hU : Un m) {t : ByteArray} (ht : tx t = true) {w : World} {v : Value} (hlen0 : (pr (-1) (.mk 5 0 t [])).length ≤ 100000000000) (h : In false All w (m + 1) v (.mk 5 0 t [])) :
    Calls Tryz.prog 27 #[v] w fun e w' => e = .returned (.string ⟨(pr (-1) (.mk 5 0 t [])).toArray⟩) ∧ Below w.heap.size w w' := by
  rw [tx_str]
  have htl := PLen.tx_len ht
  have hts : t.size ≤ 1000000000 := by rw [← ByteArray.size_data, ← Array.length_toList]; omega
  rw [in_iff] at h
  obtain ⟨lv, rfl, ho, hi, hs, a, cap, rfl, hl, hcap, hlen, ha, hL⟩ := h
  simp only [List.length_nil] at hl hlen ⊢
  obtain ⟨W0, hW0⟩ : ∃ W0, w.alloc (.cells #[.int .i64 5, .int .i64 0, .string t, .slice a 0 cap] 24) = W0 := ⟨_, rfl⟩
  have b0 : Below w.heap.size w W0 := by rw [← hW0]; exact (Below.refl _ w).alloc (Nat.le_refl _) _
  have s0 : W0.heap.size = w.heap.size + 1 := by rw [← hW0]; simp
  have hx : W0.heap[w.heap.size]? = some (.cells #[.int .i64 5, .int .i64 0, .string t, .slice a 0 cap] 24 (0, 0)) := by rw [← hW0]; exact heap_alloc_new w _
  have HX : Hid (W0.heap[w.heap.size]? = some (.cells #[.int .i64 5, .int .i64 0, .string t, .slice a 0 cap] 24 (0, 0)) ∧ W0.heap.size = w.heap.size + 1 ∧ Below w.heap.size w W0) := ⟨hx, s0, b0⟩
  obtain ⟨y0, y1, y2, y3⟩ := four_box hx
  have cL := level_c 5 W0
  rw [show rl 5 = 14 by decide] at cL
  clear hL
  clear hx b0 s0
  go_enter Tryz.func27, Tryz.ntmps27
  go_wp2_with fail
  clear hW0
  refine cL.mono ?_
  rintro e W1 ⟨rfl, b1⟩
  have hb1 : Below w.heap.size w W1 := HX.out.2.2.trans (b1.mono (by have := HX.out.2.1; omega))
  clear y0 y1 y2 y3
  obtain ⟨y0, y1, y2, y3⟩ := four_box ((b1.block w.heap.size (by have := HX.out.2.1; omega)).trans HX.out.1)
  have HB1 : Hid (Below w.heap.size w W1 ∧ Below W0.heap.size W0 W1) := ⟨hb1, b1⟩
  have c2 := QQu.quoted_c t hts W1
  clear b1 hb1 cL
  go_wp2_with fail
  refine c2.mono ?_
  rintro e W2 ⟨rfl, b2⟩
  have HB2 : Hid (Below w.heap.size w W2) := HB1.out.1.trans (b2.mono HB1.out.1.size)
  clear c2 b2
  go_wp2_with fail
  go_ret
  exact ⟨rfl, HB2.out⟩
set_option maxRecDepth 20000 in
set_option maxHeartbeats 3200000 in
theorem p6 {m : Nat} (hP : Pr m) (hU : Un m) {t : ByteArray} {w : World} {v : Value} (hlen0 : (pr (-1) (.mk 6 0 t [])).length ≤ 100000000000) (h : In false All w (m + 1) v (.mk 6 0 t [])) :
    Calls Tryz.prog 27 #[v] w fun e w' => e = .returned (.string ⟨(pr (-1) (.mk 6 0 t [])).toArray⟩) ∧ Below w.heap.size w w' := by
  rw [tx_var]
  rw [in_iff] at h
  obtain ⟨lv, rfl, ho, hi, hs, a, cap, rfl, hl, hcap, hlen, ha, hL⟩ := h
  simp only [List.length_nil] at hl hlen ⊢
  obtain ⟨W0, hW0⟩ : ∃ W0, w.alloc (.cells #[.int .i64 6, .int .i64 0, .string t, .slice a 0 cap] 24) = W0 := ⟨_, rfl⟩
  have b0 : Below w.heap.size w W0 := by rw [← hW0]; exact (Below.refl _ w).alloc (Nat.le_refl _) _
  have s0 : W0.heap.size = w.heap.size + 1 := by rw [← hW0]; simp
  have hx : W0.heap[w.heap.size]? = some (.cells #[.int .i64 6, .int .i64 0, .string t, .slice a 0 cap] 24 (0, 0)) := by rw [← hW0]; exact heap_alloc_new w _
  have HX : Hid (W0.heap[w.heap.size]? = some (.cells #[.int .i64 6, .int .i64 0, .string t, .slice a 0 cap] 24 (0, 0)) ∧ W0.heap.size = w.heap.size + 1 ∧ Below w.heap.size w W0) := ⟨hx, s0, b0⟩
  obtain ⟨y0, y1, y2, y3⟩ := four_box hx
  have cL := level_c 6 W0
  rw [show rl 6 = 14 by decide] at cL
  clear hL
  clear hx b0 s0
  go_enter Tryz.func27, Tryz.ntmps27
  go_wp2_with fail
  clear hW0
  refine cL.mono ?_
  rintro e W1 ⟨rfl, b1⟩
  have hb1 : Below w.heap.size w W1 := HX.out.2.2.trans (b1.mono (by have := HX.out.2.1; omega))
  clear y0 y1 y2 y3
  obtain ⟨y0, y1, y2, y3⟩ := four_box ((b1.block w.heap.size (by have := HX.out.2.1; omega)).trans HX.out.1)
  have HB1 : Hid (Below w.heap.size w W1 ∧ Below W0.heap.size W0 W1) := ⟨hb1, b1⟩
  clear b1 hb1 cL
  go_wp2_with fail
  go_ret
  exact ⟨by simp, HB1.out.1⟩
end Go.Proofs.YtofpdnhnlkocoaaGreatDoor.QPw
namespace Go.Proofs.YtofpdnhnlkocoaaGreatDoor.QPc
open Go.RowKit Go.Proofs.YtofpdnhnlkocoaaGreatDoor.UBase Go.Proofs.YtofpdnhnlkocoaaGreatDoor.EPure Go.Proofs.YtofpdnhnlkocoaaGreatDoor.PPl Go.Proofs.YtofpdnhnlkocoaaGreatDoor.PFit Go.Proofs.YtofpdnhnlkocoaaGreatDoor.PTx Go.Proofs.YtofpdnhnlkocoaaGreatDoor.ENd Go.Proofs.YtofpdnhnlkocoaaGreatDoor.ERg Go.Proofs.YtofpdnhnlkocoaaGreatDoor.QLv Go.Proofs.YtofpdnhnlkocoaaGreatDoor.EBk Go.Proofs.YtofpdnhnlkocoaaGreatDoor.QPd
open Go.Proofs.YtofpdnhnlkocoaaGreatDoor.XBase (In InL in_iff LAt Four elem_at four_below four_box)
open Go.Proofs.YtofpdnhnlkocoaaGreatDoor.Base (nx All heap_alloc_new below_cell)
open Go.Proofs.YtofpdnhnlkocoaaGreatDoor.PPr (pr gd gdL gdL_cons gd_range)
set_option linter.unusedVariables false
theorem call_cell : ∀ n : Nat, n < 8 → (#[.string ⟨#[108, 101, 110]⟩, .string ⟨#[115, 116, 114]⟩, .string ⟨#[105, 56]⟩, .string ⟨#[117, 56]⟩, .string ⟨#[105, 49, 54]⟩, .string ⟨#[117, 49, 54]⟩, .string ⟨#[105, 51, 50]⟩, .string ⟨#[117, 51, 50]⟩] : Array Value)[n]? = some (.string (cll.getD (n + 1) ByteArray.empty))
  | 0, _ => rfl
  | 1, _ => rfl
  | 2, _ => rfl
  | 3, _ => rfl
  | 4, _ => rfl
  | 5, _ => rfl
  | 6, _ => rfl
  | 7, _ => rfl
  | n + 8, h => absurd h (by omega)
theorem row_cell (W : World) (n : Nat) : (W.alloc (.cells #[.string ⟨#[108, 101, 110]⟩, .string ⟨#[115, 116, 114]⟩, .string ⟨#[105, 56]⟩, .string ⟨#[117, 56]⟩, .string ⟨#[105, 49, 54]⟩, .string ⟨#[117, 49, 54]⟩, .string ⟨#[105, 51, 50]⟩, .string ⟨#[117, 51, 50]⟩] 9)).cell? ⟨W.heap.size, n, none⟩ = (#[.string ⟨#[108, 101, 110]⟩, .string ⟨#[115, 116, 114]⟩, .string ⟨#[105, 56]⟩, .string ⟨#[117, 56]⟩, .string ⟨#[105, 49, 54]⟩, .string ⟨#[117, 49, 54]⟩, .string ⟨#[105, 51, 50]⟩, .string ⟨#[117, 51, 50]⟩] : Array Value)[n]? := by
  unfold World.cell?
  rw [heap_alloc_new]
  rfl
set_option maxRecDepth 20000 in
set_option maxHeartbeats 3200000 in
theorem p9 {m : Nat} (hP : Pr m) (hU : Un m) {a : Ex} {n : Nat} (hn8 : n < 8) (ga : gd a) (ra : rgL [a]) {w : World} {v : Value} (hlen0 : (pr (-1) (.mk 9 ((n : Int) + 1) ⟨#[]⟩ [a])).length ≤ 100000000000) (h : In false All w (m + 1) v (.mk 9 ((n : Int) + 1) ⟨#[]⟩ [a])) :
    Calls Tryz.prog 27 #[v] w fun e w' => e = .returned (.string ⟨(pr (-1) (.mk 9 ((n : Int) + 1) ⟨#[]⟩ [a])).toArray⟩) ∧ Below w.heap.size w w' := by
  rw [tx_call] at hlen0 ⊢
  simp only [List.length_append, List.length_cons, List.length_nil] at hlen0
  rw [show ((n : Int) + 1).toNat = n + 1 by omega] at hlen0 ⊢
  have hxl := PLen.cll_len (n + 1)
  obtain ⟨X, hX⟩ : ∃ X, cll.getD (n + 1) ByteArray.empty = X := ⟨_, rfl⟩
  have HXX : Hid (cll.getD (n + 1) ByteArray.empty = X) := hX
  rw [hX] at hxl hlen0 ⊢
  have hxs : X.size ≤ 8 := by rw [← ByteArray.size_data, ← Array.length_toList]; omega
  clear hX
  rw [in_iff] at h
  obtain ⟨lv, rfl, ho, hi, hs, a1, cap, rfl, hl, hcap, hlen, ha, hL⟩ := h
  obtain ⟨g0, q0, u0, E0, -, hu0, in0⟩ := elem_at hL (q := 0) (by simp)
  obtain ⟨g, q, hgq⟩ : ∃ g q, a1 = some ⟨g, q, none⟩ := ⟨g0, q0, E0⟩
  subst hgq
  obtain ⟨rfl, rfl⟩ : g = g0 ∧ q = q0 := by cases E0; exact ⟨rfl, rfl⟩
  obtain ⟨w00, w01, w02, w03, rfl, d00, d01, d02, d03⟩ := hu0
  have in0 : In false All w m (.agg #[w00, w01, w02, w03]) a := in0
  simp only [List.length_cons, List.length_nil, Nat.zero_add, Nat.zero_mul, Nat.one_mul, Nat.add_zero] at hl hlen d00 d01 d02 d03 ⊢
  obtain ⟨W0, hW0⟩ : ∃ W0, w.alloc (.cells #[.int .i64 9, .int .i64 ((n : Int) + 1), .string ⟨#[]⟩, .slice (some ⟨g, q, none⟩) 1 cap] 24) = W0 := ⟨_, rfl⟩
  have b0 : Below w.heap.size w W0 := by rw [← hW0]; exact (Below.refl _ w).alloc (Nat.le_refl _) _
  have s0 : W0.heap.size = w.heap.size + 1 := by rw [← hW0]; simp
  have hx : W0.heap[w.heap.size]? = some (.cells #[.int .i64 9, .int .i64 ((n : Int) + 1), .string ⟨#[]⟩, .slice (some ⟨g, q, none⟩) 1 cap] 24 (0, 0)) := by rw [← hW0]; exact heap_alloc_new w _
  have HX : Hid (W0.heap[w.heap.size]? = some (.cells #[.int .i64 9, .int .i64 ((n : Int) + 1), .string ⟨#[]⟩, .slice (some ⟨g, q, none⟩) 1 cap] 24 (0, 0)) ∧ W0.heap.size = w.heap.size + 1 ∧ Below w.heap.size w W0) := ⟨hx, s0, b0⟩
  obtain ⟨y0, y1, y2, y3⟩ := four_box hx
  have cL := level_c 9 W0
  rw [show rl 9 = 14 by decide] at cL
  obtain ⟨T0, hT0⟩ : ∃ T : ByteArray, ⟨(pr (-1) a).toArray⟩ = T := ⟨_, rfl⟩
  have z0 : T0.size ≤ 100000000000 := by rw [← hT0, mk_size]; omega
  have HK0 : Hid (∀ W, Below w.heap.size w W → Calls Tryz.prog 27 #[.agg #[w00, w01, w02, w03]] W fun e w' => e = .returned (.string T0) ∧ Below W.heap.size W w') := fun W hW => by rw [← hT0]; exact hP _ a W ga ra (by omega) (in0.below hW)
  have HT0 : Hid ((⟨(pr (-1) a).toArray⟩ : ByteArray) = T0) := hT0
  have HD : Hid (w.cell? ⟨g, q, none⟩ = some w00 ∧ w.cell? ⟨g, q + 1, none⟩ = some w01 ∧ w.cell? ⟨g, q + 2, none⟩ = some w02 ∧ w.cell? ⟨g, q + 3, none⟩ = some w03) := ⟨d00, d01, d02, d03⟩
  clear d00 d01 d02 d03 in0 E0 hT0 hL hP hU
  clear hx b0 s0
  have en : IntKind.i64.wrap ((n : Int) + 1 - 1) = n := by rw [IntKind.wrap_i64]; omega
  have en2 : IntKind.i64.wrap (n : Int) = n := by rw [IntKind.wrap_i64]; omega
  have hn9 : (n : Int) < 8 := by omega
  go_enter Tryz.func27, Tryz.ntmps27
  go_wp2_with fail
  clear hW0
  refine cL.mono ?_
  rintro e W1 ⟨rfl, b1⟩
  have hb1 : Below w.heap.size w W1 := HX.out.2.2.trans (b1.mono (by have := HX.out.2.1; omega))
  clear y0 y1 y2 y3
  obtain ⟨y0, y1, y2, y3⟩ := four_box ((b1.block w.heap.size (by have := HX.out.2.1; omega)).trans HX.out.1)
  have HB1 : Hid (Below w.heap.size w W1 ∧ Below W0.heap.size W0 W1) := ⟨hb1, b1⟩
  obtain ⟨d00, d01, d02, d03⟩ := (⟨below_cell HD.out.1 hb1, below_cell HD.out.2.1 hb1, below_cell HD.out.2.2.1 hb1, below_cell HD.out.2.2.2 hb1⟩ : W1.cell? ⟨g, q, none⟩ = some w00 ∧ W1.cell? ⟨g, q + 1, none⟩ = some w01 ∧ W1.cell? ⟨g, q + 2, none⟩ = some w02 ∧ W1.cell? ⟨g, q + 3, none⟩ = some w03)
  clear b1 hb1 cL
  go_wp2_with fail
  refine wp_region_held_drew (S := fun w' => w'.cell? ⟨w.heap.size, 1, none⟩ = some (.int .i64 ((n : Int) + 1)) ∧ w'.cell? ⟨w.heap.size, 3, none⟩ = some (.slice (some ⟨g, q, none⟩) 1 cap) ∧ w'.cell? ⟨g, q, none⟩ = some w00 ∧ w'.cell? ⟨g, q + 1, none⟩ = some w01 ∧ w'.cell? ⟨g, q + 2, none⟩ = some w02 ∧ w'.cell? ⟨g, q + 3, none⟩ = some w03) (by kernel_rfl) (by exact ⟨y1, y3, d00, d01, d02, d03⟩) (fun hHeld => ?_)
  refine wpAnyH_take (i := 1) (v := ?_) rfl (by kernel_rfl) (by kernel_rfl) (by kernel_rfl) (fun _ _ _ h => h) (Or.inl ⟨by rfl, ?_⟩) (by assumption) ?_
  rotate_left 1
  · intro w hSw; (try dsimp only at hSw); go_simp; first | done | with_reducible rfl | (rw [if_neg (by omega)])
  try simp only [Act.put, List.getElem_toArray, List.getElem_cons_zero, List.getElem_cons_succ, List.setIfInBounds_toArray, List.set_cons_zero, List.set_cons_succ]
  refine wpAnyH_take (i := 2) (v := ?_) rfl (by kernel_rfl) (by kernel_rfl) (by kernel_rfl) (fun _ _ _ h => h) (Or.inl ⟨by rfl, ?_⟩) (by assumption) ?_
  rotate_left 1
  · intro w hSw; (try dsimp only at hSw); go_simp; first | done | with_reducible rfl | (rw [if_neg (by omega)])
  try simp only [Act.put, List.getElem_toArray, List.getElem_cons_zero, List.getElem_cons_succ, List.setIfInBounds_toArray, List.set_cons_zero, List.set_cons_succ]
  refine wpAnyH_take (i := 3) (v := ?_) rfl (by kernel_rfl) (by kernel_rfl) (by kernel_rfl) (fun _ _ _ h => h) (Or.inl ⟨by rfl, ?_⟩) (by assumption) ?_
  rotate_left 1
  · intro w hSw; (try dsimp only at hSw); go_simp; first | done | with_reducible rfl | (rw [if_neg (by omega)])
  try simp only [Act.put, List.getElem_toArray, List.getElem_cons_zero, List.getElem_cons_succ, List.setIfInBounds_toArray, List.set_cons_zero, List.set_cons_succ]
  refine wpAnyH_take (i := 7) (v := ?_) rfl (by kernel_rfl) (by kernel_rfl) (by kernel_rfl) (fun _ _ _ h => h) (Or.inl ⟨by rfl, ?_⟩) (by assumption) ?_
  rotate_left 1
  · intro w hSw; (try dsimp only at hSw); go_simp; first | done | with_reducible rfl | (rw [if_neg (by omega)])
  try simp only [Act.put, List.getElem_toArray, List.getElem_cons_zero, List.getElem_cons_succ, List.setIfInBounds_toArray, List.set_cons_zero, List.set_cons_succ]
  refine wpAnyH_take (i := 8) (v := ?_) rfl (by kernel_rfl) (by kernel_rfl) (by kernel_rfl) (fun _ _ _ h => h) (Or.inl ⟨by rfl, ?_⟩) (by assumption) ?_
  rotate_left 1
  · intro w hSw; (try dsimp only at hSw); go_simp; first | done | with_reducible rfl | (rw [if_neg (by omega)])
  try simp only [Act.put, List.getElem_toArray, List.getElem_cons_zero, List.getElem_cons_succ, List.setIfInBounds_toArray, List.set_cons_zero, List.set_cons_succ]
  refine wpAnyH_take (i := 9) (v := ?_) rfl (by kernel_rfl) (by kernel_rfl) (by kernel_rfl) (fun _ _ _ h => h) (Or.inl ⟨by rfl, ?_⟩) (by assumption) ?_
  rotate_left 1
  · intro w hSw; (try dsimp only at hSw); go_simp; first | done | with_reducible rfl | (rw [if_neg (by omega)])
  try simp only [Act.put, List.getElem_toArray, List.getElem_cons_zero, List.getElem_cons_succ, List.setIfInBounds_toArray, List.set_cons_zero, List.set_cons_succ]
  refine wpAnyH_take (i := 10) (v := ?_) rfl (by kernel_rfl) (by kernel_rfl) (by kernel_rfl) (fun _ _ _ h => h) (Or.inl ⟨by rfl, ?_⟩) (by assumption) ?_
  rotate_left 1
  · intro w hSw; (try dsimp only at hSw); go_simp; first | done | with_reducible rfl | (rw [if_neg (by omega)])
  try simp only [Act.put, List.getElem_toArray, List.getElem_cons_zero, List.getElem_cons_succ, List.setIfInBounds_toArray, List.set_cons_zero, List.set_cons_succ]
  refine wpAnyH_ready (rs := [0, 11]) (by kernel_rfl) (by simp) ?_
  refine AllReadyH.cons rfl (fun K hK => ?_) (AllReadyH.cons rfl (fun K hK => ?_) AllReadyH.nil)
  · go_simp
    obtain ⟨W2, hW2⟩ : ∃ W2, (W1.alloc (.cells #[.string ⟨#[108, 101, 110]⟩, .string ⟨#[115, 116, 114]⟩, .string ⟨#[105, 56]⟩, .string ⟨#[117, 56]⟩, .string ⟨#[105, 49, 54]⟩, .string ⟨#[117, 49, 54]⟩, .string ⟨#[105, 51, 50]⟩, .string ⟨#[117, 51, 50]⟩] 9)).drew = W2 := ⟨_, rfl⟩
    have aW2 : Below W1.heap.size W1 W2 := by rw [← hW2]; exact (((Below.refl _ W1).alloc (Nat.le_refl _) _).drew)
    have HB2 : Hid (Below w.heap.size w W2 ∧ Below W0.heap.size W0 W2) := ⟨HB1.out.1.trans (aW2.mono HB1.out.1.size), HB1.out.2.trans (aW2.mono HB1.out.2.size)⟩
    have zx : W2.cell? ⟨W1.heap.size, n, none⟩ = some (.string X) := by rw [← hW2, ← HXX.out]; exact (row_cell W1 n).trans (call_cell n hn8)
    rw [hW2]
    clear y0 y1 y2 y3 d00 d01 d02 d03
    obtain ⟨y0, y1, y2, y3⟩ := four_box ((HB2.out.2.block w.heap.size (by have := HX.out.2.1; omega)).trans HX.out.1)
    obtain ⟨d00, d01, d02, d03⟩ := (⟨below_cell HD.out.1 HB2.out.1, below_cell HD.out.2.1 HB2.out.1, below_cell HD.out.2.2.1 HB2.out.1, below_cell HD.out.2.2.2 HB2.out.1⟩ : W2.cell? ⟨g, q, none⟩ = some w00 ∧ W2.cell? ⟨g, q + 1, none⟩ = some w01 ∧ W2.cell? ⟨g, q + 2, none⟩ = some w02 ∧ W2.cell? ⟨g, q + 3, none⟩ = some w03)
    clear hW2 aW2
    refine hK.out _ _ (by exact ⟨y1, y3, d00, d01, d02, d03⟩) (fun hHeld => ?_)
    clear hK K
    try simp only [Act.put, List.getElem_toArray, List.getElem_cons_zero, List.getElem_cons_succ, List.setIfInBounds_toArray, List.set_cons_zero, List.set_cons_succ]
    refine wpAnyH_take (i := 4) (v := ?_) rfl (by kernel_rfl) (by kernel_rfl) (by kernel_rfl) (fun _ _ _ h => h) (Or.inl ⟨by rfl, ?_⟩) (by assumption) ?_
    rotate_left 1
    · intro w hSw; (try dsimp only at hSw); go_simp; first | done | with_reducible rfl | (rw [if_neg (by omega)])
    try simp only [Act.put, List.getElem_toArray, List.getElem_cons_zero, List.getElem_cons_succ, List.setIfInBounds_toArray, List.set_cons_zero, List.set_cons_succ]
    refine wpAnyH_ready (rs := [5, 11]) (by kernel_rfl) (by simp) ?_
    refine AllReadyH.cons rfl (fun K hK => ?_) (AllReadyH.cons rfl (fun K hK => ?_) AllReadyH.nil)
    · go_simp
      refine hK.out _ _ (by exact ⟨y1, y3, d00, d01, d02, d03⟩) (fun hHeld => ?_)
      clear hK K
      try simp only [Act.put, List.getElem_toArray, List.getElem_cons_zero, List.getElem_cons_succ, List.setIfInBounds_toArray, List.set_cons_zero, List.set_cons_succ]
      refine wpAnyH_take (i := 6) (v := ?_) rfl (by kernel_rfl) (by kernel_rfl) (by kernel_rfl) (fun _ _ _ h => h) (Or.inl ⟨by rfl, ?_⟩) (by assumption) ?_
      rotate_left 1
      · intro w hSw; (try dsimp only at hSw); go_simp; first | done | with_reducible rfl | (rw [if_neg (by omega)])
      try simp only [Act.put, List.getElem_toArray, List.getElem_cons_zero, List.getElem_cons_succ, List.setIfInBounds_toArray, List.set_cons_zero, List.set_cons_succ]
      refine wpAnyH_ready (rs := [11]) (by kernel_rfl) (by simp) ?_
      refine AllReadyH.cons rfl (fun K hK => ?_) AllReadyH.nil
      go_simp
      go_at_call 27
      refine (HK0.out _ (by exact HB2.out.1)).mono ?_
      rintro e W3 ⟨rfl, b3⟩
      have HB3 : Hid (Below w.heap.size w W3 ∧ Below W0.heap.size W0 W3) := ⟨HB2.out.1.trans (b3.mono HB2.out.1.size), HB2.out.2.trans (b3.mono HB2.out.2.size)⟩
      clear y0 y1 y2 y3 d00 d01 d02 d03 b3
      obtain ⟨y0, y1, y2, y3⟩ := four_box ((HB3.out.2.block w.heap.size (by have := HX.out.2.1; omega)).trans HX.out.1)
      obtain ⟨d00, d01, d02, d03⟩ := (⟨below_cell HD.out.1 HB3.out.1, below_cell HD.out.2.1 HB3.out.1, below_cell HD.out.2.2.1 HB3.out.1, below_cell HD.out.2.2.2 HB3.out.1⟩ : W3.cell? ⟨g, q, none⟩ = some w00 ∧ W3.cell? ⟨g, q + 1, none⟩ = some w01 ∧ W3.cell? ⟨g, q + 2, none⟩ = some w02 ∧ W3.cell? ⟨g, q + 3, none⟩ = some w03)
      refine hK.out _ _ (by exact ⟨y1, y3, d00, d01, d02, d03⟩) (fun hHeld => ?_)
      clear hK K
      try simp only [Act.put, List.getElem_toArray, List.getElem_cons_zero, List.getElem_cons_succ, List.setIfInBounds_toArray, List.set_cons_zero, List.set_cons_succ]
      refine wpAnyH_take (i := 12) (v := ?_) rfl (by kernel_rfl) (by kernel_rfl) (by kernel_rfl) (fun _ _ _ h => h) (Or.inl ⟨by rfl, ?_⟩) (by assumption) ?_
      rotate_left 1
      · intro w hSw; (try dsimp only at hSw); go_simp; first | done | with_reducible rfl | (rw [if_neg (by omega)])
      try simp only [Act.put, List.getElem_toArray, List.getElem_cons_zero, List.getElem_cons_succ, List.setIfInBounds_toArray, List.set_cons_zero, List.set_cons_succ]
      refine wpAnyH_take (i := 13) (v := ?_) rfl (by kernel_rfl) (by kernel_rfl) (by kernel_rfl) (fun _ _ _ h => h) (Or.inl ⟨by rfl, ?_⟩) (by assumption) ?_
      rotate_left 1
      · intro w hSw; (try dsimp only at hSw); go_simp; first | done | with_reducible rfl | (rw [if_neg (by omega)])
      try simp only [Act.put, List.getElem_toArray, List.getElem_cons_zero, List.getElem_cons_succ, List.setIfInBounds_toArray, List.set_cons_zero, List.set_cons_succ]
      refine wpAnyH_take (i := 14) (v := ?_) rfl (by kernel_rfl) (by kernel_rfl) (by kernel_rfl) (fun _ _ _ h => h) (Or.inl ⟨by rfl, ?_⟩) (by assumption) ?_
      rotate_left 1
      · intro w hSw; (try dsimp only at hSw); go_simp; first | done | with_reducible rfl | (rw [if_neg (by omega)])
      try simp only [Act.put, List.getElem_toArray, List.getElem_cons_zero, List.getElem_cons_succ, List.setIfInBounds_toArray, List.set_cons_zero, List.set_cons_succ]
      refine wpAnyH_done (by kernel_rfl) ?_ _
      clear hHeld
      go_wp2_with fail
      go_ret
      refine ⟨?_, HB3.out.1⟩
      refine congrArg (fun t => Ending.returned (Value.string t)) (?_ : X ++ ⟨#[40]⟩ ++ T0 ++ ⟨#[41]⟩ = _)
      rw [← HT0.out]
      apply ByteArray.ext
      simp
    · go_simp
      go_at_call 27
      refine (HK0.out _ (by exact HB2.out.1)).mono ?_
      rintro e W3 ⟨rfl, b3⟩
      have HB3 : Hid (Below w.heap.size w W3 ∧ Below W0.heap.size W0 W3) := ⟨HB2.out.1.trans (b3.mono HB2.out.1.size), HB2.out.2.trans (b3.mono HB2.out.2.size)⟩
      have zx := below_cell zx b3
      clear y0 y1 y2 y3 d00 d01 d02 d03 b3
      obtain ⟨y0, y1, y2, y3⟩ := four_box ((HB3.out.2.block w.heap.size (by have := HX.out.2.1; omega)).trans HX.out.1)
      obtain ⟨d00, d01, d02, d03⟩ := (⟨below_cell HD.out.1 HB3.out.1, below_cell HD.out.2.1 HB3.out.1, below_cell HD.out.2.2.1 HB3.out.1, below_cell HD.out.2.2.2 HB3.out.1⟩ : W3.cell? ⟨g, q, none⟩ = some w00 ∧ W3.cell? ⟨g, q + 1, none⟩ = some w01 ∧ W3.cell? ⟨g, q + 2, none⟩ = some w02 ∧ W3.cell? ⟨g, q + 3, none⟩ = some w03)
      refine hK.out _ _ (by exact ⟨y1, y3, d00, d01, d02, d03⟩) (fun hHeld => ?_)
      clear hK K
      try simp only [Act.put, List.getElem_toArray, List.getElem_cons_zero, List.getElem_cons_succ, List.setIfInBounds_toArray, List.set_cons_zero, List.set_cons_succ]
      refine wpAnyH_ready (rs := [5]) (by kernel_rfl) (by simp) ?_
      refine AllReadyH.cons rfl (fun K hK => ?_) AllReadyH.nil
      go_simp
      refine hK.out _ _ (by exact ⟨y1, y3, d00, d01, d02, d03⟩) (fun hHeld => ?_)
      clear hK K
      try simp only [Act.put, List.getElem_toArray, List.getElem_cons_zero, List.getElem_cons_succ, List.setIfInBounds_toArray, List.set_cons_zero, List.set_cons_succ]
      refine wpAnyH_take (i := 6) (v := ?_) rfl (by kernel_rfl) (by kernel_rfl) (by kernel_rfl) (fun _ _ _ h => h) (Or.inl ⟨by rfl, ?_⟩) (by assumption) ?_
      rotate_left 1
      · intro w hSw; (try dsimp only at hSw); go_simp; first | done | with_reducible rfl | (rw [if_neg (by omega)])
      try simp only [Act.put, List.getElem_toArray, List.getElem_cons_zero, List.getElem_cons_succ, List.setIfInBounds_toArray, List.set_cons_zero, List.set_cons_succ]
      refine wpAnyH_take (i := 12) (v := ?_) rfl (by kernel_rfl) (by kernel_rfl) (by kernel_rfl) (fun _ _ _ h => h) (Or.inl ⟨by rfl, ?_⟩) (by assumption) ?_
      rotate_left 1
      · intro w hSw; (try dsimp only at hSw); go_simp; first | done | with_reducible rfl | (rw [if_neg (by omega)])
      try simp only [Act.put, List.getElem_toArray, List.getElem_cons_zero, List.getElem_cons_succ, List.setIfInBounds_toArray, List.set_cons_zero, List.set_cons_succ]
      refine wpAnyH_take (i := 13) (v := ?_) rfl (by kernel_rfl) (by kernel_rfl) (by kernel_rfl) (fun _ _ _ h => h) (Or.inl ⟨by rfl, ?_⟩) (by assumption) ?_
      rotate_left 1
      · intro w hSw; (try dsimp only at hSw); go_simp; first | done | with_reducible rfl | (rw [if_neg (by omega)])
      try simp only [Act.put, List.getElem_toArray, List.getElem_cons_zero, List.getElem_cons_succ, List.setIfInBounds_toArray, List.set_cons_zero, List.set_cons_succ]
      refine wpAnyH_take (i := 14) (v := ?_) rfl (by kernel_rfl) (by kernel_rfl) (by kernel_rfl) (fun _ _ _ h => h) (Or.inl ⟨by rfl, ?_⟩) (by assumption) ?_
      rotate_left 1
      · intro w hSw; (try dsimp only at hSw); go_simp; first | done | with_reducible rfl | (rw [if_neg (by omega)])
      try simp only [Act.put, List.getElem_toArray, List.getElem_cons_zero, List.getElem_cons_succ, List.setIfInBounds_toArray, List.set_cons_zero, List.set_cons_succ]
      refine wpAnyH_done (by kernel_rfl) ?_ _
      clear hHeld
      go_wp2_with fail
      go_ret
      refine ⟨?_, HB3.out.1⟩
      refine congrArg (fun t => Ending.returned (Value.string t)) (?_ : X ++ ⟨#[40]⟩ ++ T0 ++ ⟨#[41]⟩ = _)
      rw [← HT0.out]
      apply ByteArray.ext
      simp
  · go_simp
    go_at_call 27
    refine (HK0.out _ (by exact HB1.out.1.drew)).mono ?_
    rintro e W2 ⟨rfl, b2⟩
    have HB2 : Hid (Below w.heap.size w W2 ∧ Below W0.heap.size W0 W2) := ⟨HB1.out.1.drew.trans (b2.mono HB1.out.1.size), HB1.out.2.drew.trans (b2.mono HB1.out.2.size)⟩
    clear y0 y1 y2 y3 d00 d01 d02 d03 b2
    obtain ⟨y0, y1, y2, y3⟩ := four_box ((HB2.out.2.block w.heap.size (by have := HX.out.2.1; omega)).trans HX.out.1)
    obtain ⟨d00, d01, d02, d03⟩ := (⟨below_cell HD.out.1 HB2.out.1, below_cell HD.out.2.1 HB2.out.1, below_cell HD.out.2.2.1 HB2.out.1, below_cell HD.out.2.2.2 HB2.out.1⟩ : W2.cell? ⟨g, q, none⟩ = some w00 ∧ W2.cell? ⟨g, q + 1, none⟩ = some w01 ∧ W2.cell? ⟨g, q + 2, none⟩ = some w02 ∧ W2.cell? ⟨g, q + 3, none⟩ = some w03)
    refine hK.out _ _ (by exact ⟨y1, y3, d00, d01, d02, d03⟩) (fun hHeld => ?_)
    clear hK K
    try simp only [Act.put, List.getElem_toArray, List.getElem_cons_zero, List.getElem_cons_succ, List.setIfInBounds_toArray, List.set_cons_zero, List.set_cons_succ]
    refine wpAnyH_ready (rs := [0]) (by kernel_rfl) (by simp) ?_
    refine AllReadyH.cons rfl (fun K hK => ?_) AllReadyH.nil
    go_simp
    obtain ⟨W3, hW3⟩ : ∃ W3, (W2.alloc (.cells #[.string ⟨#[108, 101, 110]⟩, .string ⟨#[115, 116, 114]⟩, .string ⟨#[105, 56]⟩, .string ⟨#[117, 56]⟩, .string ⟨#[105, 49, 54]⟩, .string ⟨#[117, 49, 54]⟩, .string ⟨#[105, 51, 50]⟩, .string ⟨#[117, 51, 50]⟩] 9)) = W3 := ⟨_, rfl⟩
    have aW3 : Below W2.heap.size W2 W3 := by rw [← hW3]; exact (((Below.refl _ W2).alloc (Nat.le_refl _) _))
    have HB3 : Hid (Below w.heap.size w W3 ∧ Below W0.heap.size W0 W3) := ⟨HB2.out.1.trans (aW3.mono HB2.out.1.size), HB2.out.2.trans (aW3.mono HB2.out.2.size)⟩
    have zx : W3.cell? ⟨W2.heap.size, n, none⟩ = some (.string X) := by rw [← hW3, ← HXX.out]; exact (row_cell W2 n).trans (call_cell n hn8)
    rw [hW3]
    clear y0 y1 y2 y3 d00 d01 d02 d03
    obtain ⟨y0, y1, y2, y3⟩ := four_box ((HB3.out.2.block w.heap.size (by have := HX.out.2.1; omega)).trans HX.out.1)
    obtain ⟨d00, d01, d02, d03⟩ := (⟨below_cell HD.out.1 HB3.out.1, below_cell HD.out.2.1 HB3.out.1, below_cell HD.out.2.2.1 HB3.out.1, below_cell HD.out.2.2.2 HB3.out.1⟩ : W3.cell? ⟨g, q, none⟩ = some w00 ∧ W3.cell? ⟨g, q + 1, none⟩ = some w01 ∧ W3.cell? ⟨g, q + 2, none⟩ = some w02 ∧ W3.cell? ⟨g, q + 3, none⟩ = some w03)
    clear hW3 aW3
    refine hK.out _ _ (by exact ⟨y1, y3, d00, d01, d02, d03⟩) (fun hHeld => ?_)
    clear hK K
    try simp only [Act.put, List.getElem_toArray, List.getElem_cons_zero, List.getElem_cons_succ, List.setIfInBounds_toArray, List.set_cons_zero, List.set_cons_succ]
    refine wpAnyH_take (i := 4) (v := ?_) rfl (by kernel_rfl) (by kernel_rfl) (by kernel_rfl) (fun _ _ _ h => h) (Or.inl ⟨by rfl, ?_⟩) (by assumption) ?_
    rotate_left 1
    · intro w hSw; (try dsimp only at hSw); go_simp; first | done | with_reducible rfl | (rw [if_neg (by omega)])
    try simp only [Act.put, List.getElem_toArray, List.getElem_cons_zero, List.getElem_cons_succ, List.setIfInBounds_toArray, List.set_cons_zero, List.set_cons_succ]
    refine wpAnyH_ready (rs := [5]) (by kernel_rfl) (by simp) ?_
    refine AllReadyH.cons rfl (fun K hK => ?_) AllReadyH.nil
    go_simp
    refine hK.out _ _ (by exact ⟨y1, y3, d00, d01, d02, d03⟩) (fun hHeld => ?_)
    clear hK K
    try simp only [Act.put, List.getElem_toArray, List.getElem_cons_zero, List.getElem_cons_succ, List.setIfInBounds_toArray, List.set_cons_zero, List.set_cons_succ]
    refine wpAnyH_take (i := 6) (v := ?_) rfl (by kernel_rfl) (by kernel_rfl) (by kernel_rfl) (fun _ _ _ h => h) (Or.inl ⟨by rfl, ?_⟩) (by assumption) ?_
    rotate_left 1
    · intro w hSw; (try dsimp only at hSw); go_simp; first | done | with_reducible rfl | (rw [if_neg (by omega)])
    try simp only [Act.put, List.getElem_toArray, List.getElem_cons_zero, List.getElem_cons_succ, List.setIfInBounds_toArray, List.set_cons_zero, List.set_cons_succ]
    refine wpAnyH_take (i := 12) (v := ?_) rfl (by kernel_rfl) (by kernel_rfl) (by kernel_rfl) (fun _ _ _ h => h) (Or.inl ⟨by rfl, ?_⟩) (by assumption) ?_
    rotate_left 1
    · intro w hSw; (try dsimp only at hSw); go_simp; first | done | with_reducible rfl | (rw [if_neg (by omega)])
    try simp only [Act.put, List.getElem_toArray, List.getElem_cons_zero, List.getElem_cons_succ, List.setIfInBounds_toArray, List.set_cons_zero, List.set_cons_succ]
    refine wpAnyH_take (i := 13) (v := ?_) rfl (by kernel_rfl) (by kernel_rfl) (by kernel_rfl) (fun _ _ _ h => h) (Or.inl ⟨by rfl, ?_⟩) (by assumption) ?_
    rotate_left 1
    · intro w hSw; (try dsimp only at hSw); go_simp; first | done | with_reducible rfl | (rw [if_neg (by omega)])
    try simp only [Act.put, List.getElem_toArray, List.getElem_cons_zero, List.getElem_cons_succ, List.setIfInBounds_toArray, List.set_cons_zero, List.set_cons_succ]
    refine wpAnyH_take (i := 14) (v := ?_) rfl (by kernel_rfl) (by kernel_rfl) (by kernel_rfl) (fun _ _ _ h => h) (Or.inl ⟨by rfl, ?_⟩) (by assumption) ?_
    rotate_left 1
    · intro w hSw; (try dsimp only at hSw); go_simp; first | done | with_reducible rfl | (rw [if_neg (by omega)])
    try simp only [Act.put, List.getElem_toArray, List.getElem_cons_zero, List.getElem_cons_succ, List.setIfInBounds_toArray, List.set_cons_zero, List.set_cons_succ]
    refine wpAnyH_done (by kernel_rfl) ?_ _
    clear hHeld
    go_wp2_with fail
    go_ret
    refine ⟨?_, HB3.out.1⟩
    refine congrArg (fun t => Ending.returned (Value.string t)) (?_ : X ++ ⟨#[40]⟩ ++ T0 ++ ⟨#[41]⟩ = _)
    rw [← HT0.out]
    apply ByteArray.ext
    simp
end Go.Proofs.YtofpdnhnlkocoaaGreatDoor.QPc

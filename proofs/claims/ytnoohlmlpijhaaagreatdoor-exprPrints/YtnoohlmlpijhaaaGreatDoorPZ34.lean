import Derived.Deep.RegionHeld3
import Derived.Test.YtnoohlmlpijhaaaGreatDoorPZ24
import Derived.Test.YtnoohlmlpijhaaaGreatDoorPZ33
namespace Go.Proofs.YtnoohlmlpijhaaaGreatDoor.QPf
open Go.RowKit Go.Proofs.YtnoohlmlpijhaaaGreatDoor.UBase Go.Proofs.YtnoohlmlpijhaaaGreatDoor.EPure Go.Proofs.YtnoohlmlpijhaaaGreatDoor.PPl Go.Proofs.YtnoohlmlpijhaaaGreatDoor.PFit Go.Proofs.YtnoohlmlpijhaaaGreatDoor.PTx Go.Proofs.YtnoohlmlpijhaaaGreatDoor.ENd Go.Proofs.YtnoohlmlpijhaaaGreatDoor.ERg Go.Proofs.YtnoohlmlpijhaaaGreatDoor.QLv Go.Proofs.YtnoohlmlpijhaaaGreatDoor.EBk Go.Proofs.YtnoohlmlpijhaaaGreatDoor.QPd
open Go.Proofs.YtnoohlmlpijhaaaGreatDoor.XBase (In InL in_iff LAt Four elem_at four_below four_box)
open Go.Proofs.YtnoohlmlpijhaaaGreatDoor.Base (nx All heap_alloc_new below_cell)
open Go.Proofs.YtnoohlmlpijhaaaGreatDoor.PPr (pr gd gdL gdL_cons gd_range)
set_option linter.unusedVariables false
set_option maxRecDepth 20000 in
set_option maxHeartbeats 3200000 in
theorem p7 {m : Nat} (hP : Pr m) (hU : Un m) {a : Ex} {t : ByteArray} (ht : word t 95 = true) (ga : gd a) (ra : rgL [a]) {w : World} {v : Value} (hlen0 : (pr (-1) (.mk 7 0 t [a])).length ≤ 100000000000) (h : In false All w (m + 1) v (.mk 7 0 t [a])) :
    Calls Tryz.prog 23 #[v] w fun e w' => e = .returned (.string ⟨(pr (-1) (.mk 7 0 t [a])).toArray⟩) ∧ Below w.heap.size w w' := by
  have htl := PLen.word_len ht
  have hts : t.size ≤ 32 := by rw [← ByteArray.size_data, ← Array.length_toList]; omega
  rw [tx_field] at hlen0 ⊢
  simp only [List.length_append, List.length_cons] at hlen0
  rw [in_iff] at h
  obtain ⟨lv, rfl, ho, hi, hs, a1, cap, rfl, hl, hcap, hlen, ha, hL⟩ := h
  obtain ⟨g0, q0, u0, E0, -, hu0, in0⟩ := elem_at hL (q := 0) (by simp)
  obtain ⟨g, q, hgq⟩ : ∃ g q, a1 = some ⟨g, q, none⟩ := ⟨g0, q0, E0⟩
  subst hgq
  obtain ⟨rfl, rfl⟩ : g = g0 ∧ q = q0 := by cases E0; exact ⟨rfl, rfl⟩
  obtain ⟨w00, w01, w02, w03, rfl, d00, d01, d02, d03⟩ := hu0
  have in0 : In false All w m (.agg #[w00, w01, w02, w03]) a := in0
  simp only [List.length_cons, List.length_nil, Nat.zero_add, Nat.zero_mul, Nat.one_mul, Nat.add_zero] at hl hlen d00 d01 d02 d03 ⊢
  obtain ⟨W0, hW0⟩ : ∃ W0, w.alloc (.cells #[.int .i64 7, .int .i64 0, .string t, .slice (some ⟨g, q, none⟩) 1 cap] 24) = W0 := ⟨_, rfl⟩
  have b0 : Below w.heap.size w W0 := by rw [← hW0]; exact (Below.refl _ w).alloc (Nat.le_refl _) _
  have s0 : W0.heap.size = w.heap.size + 1 := by rw [← hW0]; simp
  have hx : W0.heap[w.heap.size]? = some (.cells #[.int .i64 7, .int .i64 0, .string t, .slice (some ⟨g, q, none⟩) 1 cap] 24 (0, 0)) := by rw [← hW0]; exact heap_alloc_new w _
  have HX : Hid (W0.heap[w.heap.size]? = some (.cells #[.int .i64 7, .int .i64 0, .string t, .slice (some ⟨g, q, none⟩) 1 cap] 24 (0, 0)) ∧ W0.heap.size = w.heap.size + 1 ∧ Below w.heap.size w W0) := ⟨hx, s0, b0⟩
  obtain ⟨y0, y1, y2, y3⟩ := four_box hx
  have cL := level_c 7 W0
  rw [show rl 7 = 13 by decide] at cL
  obtain ⟨T0, hT0⟩ : ∃ T : ByteArray, ⟨(pr (12) a).toArray⟩ = T := ⟨_, rfl⟩
  have z0 : T0.size ≤ 100000000000 := by rw [← hT0, mk_size]; omega
  have HK0 : Hid (∀ W, Below w.heap.size w W → Calls Tryz.prog 44 #[.agg #[w00, w01, w02, w03], .int .i64 (12 + 1)] W fun e w' => e = .returned (.string T0) ∧ Below W.heap.size W w') := fun W hW => by rw [← hT0]; exact hU _ a (12) W ga ra (by omega) (by omega) (by omega) (in0.below hW)
  have HT0 : Hid ((⟨(pr (12) a).toArray⟩ : ByteArray) = T0) := hT0
  have HD : Hid (w.cell? ⟨g, q, none⟩ = some w00 ∧ w.cell? ⟨g, q + 1, none⟩ = some w01 ∧ w.cell? ⟨g, q + 2, none⟩ = some w02 ∧ w.cell? ⟨g, q + 3, none⟩ = some w03) := ⟨d00, d01, d02, d03⟩
  clear d00 d01 d02 d03 in0 E0 hT0 hL hP hU
  clear hx b0 s0
  go_enter Tryz.func23, Tryz.ntmps23
  go_wp2_with fail
  clear hW0
  refine cL.mono ?_
  rintro e W1 ⟨rfl, b1⟩
  have hb1 : Below w.heap.size w W1 := HX.out.2.2.trans (b1.mono (by have := HX.out.2.1; omega))
  clear y0 y1 y2 y3
  obtain ⟨y0, y1, y2, y3⟩ := four_box ((b1.block w.heap.size (by have := HX.out.2.1; omega)).trans HX.out.1)
  have HB1 : Hid (Below w.heap.size w W1 ∧ Below W0.heap.size W0 W1) := ⟨hb1, b1⟩
  obtain ⟨d00, d01, d02, d03⟩ := (⟨below_cell HD.out.1 hb1, below_cell HD.out.2.1 hb1, below_cell HD.out.2.2.1 hb1, below_cell HD.out.2.2.2 hb1⟩ : W1.cell? ⟨g, q, none⟩ = some w00 ∧ W1.cell? ⟨g, q + 1, none⟩ = some w01 ∧ W1.cell? ⟨g, q + 2, none⟩ = some w02 ∧ W1.cell? ⟨g, q + 3, none⟩ = some w03)
  clear b1 hb1 cL
  go_wp2_with fail
  refine wp_region_held_drew (S := fun w' => w'.cell? ⟨w.heap.size, 2, none⟩ = some (.string t) ∧ w'.cell? ⟨w.heap.size, 3, none⟩ = some (.slice (some ⟨g, q, none⟩) 1 cap) ∧ w'.cell? ⟨g, q, none⟩ = some w00 ∧ w'.cell? ⟨g, q + 1, none⟩ = some w01 ∧ w'.cell? ⟨g, q + 2, none⟩ = some w02 ∧ w'.cell? ⟨g, q + 3, none⟩ = some w03) (by kernel_rfl) (by exact ⟨y2, y3, d00, d01, d02, d03⟩) (fun hHeld => ?_)
  refine wpAnyH_take (i := 0) (v := ?_) rfl (by kernel_rfl) (by kernel_rfl) (by kernel_rfl) (fun _ _ _ h => h) (Or.inl ⟨by rfl, ?_⟩) (by assumption) ?_
  rotate_left 1
  · intro w hSw; (try dsimp only at hSw); go_simp; first | done | with_reducible rfl | (rw [if_neg (by omega)])
  try simp only [Act.put, List.getElem_toArray, List.getElem_cons_zero, List.setIfInBounds_toArray, List.set_cons_zero, List.set_cons_succ]
  refine wpAnyH_take (i := 1) (v := ?_) rfl (by kernel_rfl) (by kernel_rfl) (by kernel_rfl) (fun _ _ _ h => h) (Or.inl ⟨by rfl, ?_⟩) (by assumption) ?_
  rotate_left 1
  · intro w hSw; (try dsimp only at hSw); go_simp; first | done | with_reducible rfl | (rw [if_neg (by omega)])
  try simp only [Act.put, List.getElem_toArray, List.getElem_cons_zero, List.getElem_cons_succ, List.setIfInBounds_toArray, List.set_cons_zero, List.set_cons_succ]
  refine wpAnyH_take (i := 2) (v := ?_) rfl (by kernel_rfl) (by kernel_rfl) (by kernel_rfl) (fun _ _ _ h => h) (Or.inl ⟨by rfl, ?_⟩) (by assumption) ?_
  rotate_left 1
  · intro w hSw; (try dsimp only at hSw); go_simp; first | done | with_reducible rfl | (rw [if_neg (by omega)])
  try simp only [Act.put, List.getElem_toArray, List.getElem_cons_zero, List.getElem_cons_succ, List.setIfInBounds_toArray, List.set_cons_zero, List.set_cons_succ]
  refine wpAnyH_take (i := 3) (v := ?_) rfl (by kernel_rfl) (by kernel_rfl) (by kernel_rfl) (fun _ _ _ h => h) (Or.inl ⟨by rfl, ?_⟩) (by assumption) ?_
  rotate_left 1
  · intro w hSw; (try dsimp only at hSw); go_simp; first | done | with_reducible rfl | (rw [if_neg (by omega)])
  try simp only [Act.put, List.getElem_toArray, List.getElem_cons_zero, List.getElem_cons_succ, List.setIfInBounds_toArray, List.set_cons_zero, List.set_cons_succ]
  refine wpAnyH_take (i := 6) (v := ?_) rfl (by kernel_rfl) (by kernel_rfl) (by kernel_rfl) (fun _ _ _ h => h) (Or.inl ⟨by rfl, ?_⟩) (by assumption) ?_
  rotate_left 1
  · intro w hSw; (try dsimp only at hSw); go_simp; first | done | with_reducible rfl | (rw [if_neg (by omega)])
  try simp only [Act.put, List.getElem_toArray, List.getElem_cons_zero, List.getElem_cons_succ, List.setIfInBounds_toArray, List.set_cons_zero, List.set_cons_succ]
  refine wpAnyH_take (i := 7) (v := ?_) rfl (by kernel_rfl) (by kernel_rfl) (by kernel_rfl) (fun _ _ _ h => h) (Or.inl ⟨by rfl, ?_⟩) (by assumption) ?_
  rotate_left 1
  · intro w hSw; (try dsimp only at hSw); go_simp; first | done | with_reducible rfl | (rw [if_neg (by omega)])
  try simp only [Act.put, List.getElem_toArray, List.getElem_cons_zero, List.getElem_cons_succ, List.setIfInBounds_toArray, List.set_cons_zero, List.set_cons_succ]
  refine wpAnyH_ready (rs := [4]) (by kernel_rfl) (by simp) ?_
  refine AllReadyH.cons rfl (fun K hK => ?_) AllReadyH.nil
  go_simp
  go_at_call 44
  refine (HK0.out _ (by exact HB1.out.1.drew)).mono ?_
  rintro e W2 ⟨rfl, b2⟩
  have HB2 : Hid (Below w.heap.size w W2 ∧ Below W0.heap.size W0 W2) := ⟨HB1.out.1.drew.trans (b2.mono HB1.out.1.size), HB1.out.2.drew.trans (b2.mono HB1.out.2.size)⟩
  clear y0 y1 y2 y3 d00 d01 d02 d03 b2
  obtain ⟨y0, y1, y2, y3⟩ := four_box ((HB2.out.2.block w.heap.size (by have := HX.out.2.1; omega)).trans HX.out.1)
  obtain ⟨d00, d01, d02, d03⟩ := (⟨below_cell HD.out.1 HB2.out.1, below_cell HD.out.2.1 HB2.out.1, below_cell HD.out.2.2.1 HB2.out.1, below_cell HD.out.2.2.2 HB2.out.1⟩ : W2.cell? ⟨g, q, none⟩ = some w00 ∧ W2.cell? ⟨g, q + 1, none⟩ = some w01 ∧ W2.cell? ⟨g, q + 2, none⟩ = some w02 ∧ W2.cell? ⟨g, q + 3, none⟩ = some w03)
  refine hK.out _ _ (by exact ⟨y2, y3, d00, d01, d02, d03⟩) (fun hHeld => ?_)
  clear hK K
  try simp only [Act.put, List.getElem_toArray, List.getElem_cons_zero, List.getElem_cons_succ, List.setIfInBounds_toArray, List.set_cons_zero, List.set_cons_succ]
  refine wpAnyH_take (i := 5) (v := ?_) rfl (by kernel_rfl) (by kernel_rfl) (by kernel_rfl) (fun _ _ _ h => h) (Or.inl ⟨by rfl, ?_⟩) (by assumption) ?_
  rotate_left 1
  · intro w hSw; (try dsimp only at hSw); go_simp; first | done | with_reducible rfl | (rw [if_neg (by omega)])
  try simp only [Act.put, List.getElem_toArray, List.getElem_cons_zero, List.getElem_cons_succ, List.setIfInBounds_toArray, List.set_cons_zero, List.set_cons_succ]
  refine wpAnyH_take (i := 8) (v := ?_) rfl (by kernel_rfl) (by kernel_rfl) (by kernel_rfl) (fun _ _ _ h => h) (Or.inl ⟨by rfl, ?_⟩) (by assumption) ?_
  rotate_left 1
  · intro w hSw; (try dsimp only at hSw); go_simp; first | done | with_reducible rfl | (rw [if_neg (by omega)])
  try simp only [Act.put, List.getElem_toArray, List.getElem_cons_zero, List.getElem_cons_succ, List.setIfInBounds_toArray, List.set_cons_zero, List.set_cons_succ]
  refine wpAnyH_take (i := 9) (v := ?_) rfl (by kernel_rfl) (by kernel_rfl) (by kernel_rfl) (fun _ _ _ h => h) (Or.inl ⟨by rfl, ?_⟩) (by assumption) ?_
  rotate_left 1
  · intro w hSw; (try dsimp only at hSw); go_simp; first | done | with_reducible rfl | (rw [if_neg (by omega)])
  try simp only [Act.put, List.getElem_toArray, List.getElem_cons_zero, List.getElem_cons_succ, List.setIfInBounds_toArray, List.set_cons_zero, List.set_cons_succ]
  refine wpAnyH_done (by kernel_rfl) ?_ _
  clear hHeld
  go_wp2_with fail
  go_ret
  refine ⟨?_, HB2.out.1⟩
  refine congrArg (fun t => Ending.returned (Value.string t)) (?_ : T0 ++ ⟨#[46]⟩ ++ t = _)
  rw [← HT0.out]
  apply ByteArray.ext
  simp
set_option maxRecDepth 20000 in
set_option maxHeartbeats 3200000 in
theorem p8 {m : Nat} (hP : Pr m) (hU : Un m) {a b : Ex} (ga : gd a) (ra : rgL [a]) (gb : gd b) (rb : rgL [b]) {w : World} {v : Value} (hlen0 : (pr (-1) (nd 8 [a, b])).length ≤ 100000000000) (h : In false All w (m + 1) v (nd 8 [a, b])) :
    Calls Tryz.prog 23 #[v] w fun e w' => e = .returned (.string ⟨(pr (-1) (nd 8 [a, b])).toArray⟩) ∧ Below w.heap.size w w' := by
  rw [tx_index] at hlen0 ⊢
  simp only [List.length_append, List.length_cons, List.length_nil] at hlen0
  unfold nd at h
  rw [in_iff] at h
  obtain ⟨lv, rfl, ho, hi, hs, a1, cap, rfl, hl, hcap, hlen, ha, hL⟩ := h
  obtain ⟨g0, q0, u0, E0, -, hu0, in0⟩ := elem_at hL (q := 0) (by simp)
  obtain ⟨g, q, hgq⟩ : ∃ g q, a1 = some ⟨g, q, none⟩ := ⟨g0, q0, E0⟩
  subst hgq
  obtain ⟨rfl, rfl⟩ : g = g0 ∧ q = q0 := by cases E0; exact ⟨rfl, rfl⟩
  obtain ⟨w00, w01, w02, w03, rfl, d00, d01, d02, d03⟩ := hu0
  have in0 : In false All w m (.agg #[w00, w01, w02, w03]) a := in0
  obtain ⟨g1, q1, u1, E1, -, hu1, in1⟩ := elem_at hL (q := 1) (by simp)
  obtain ⟨rfl, rfl⟩ : g = g1 ∧ q = q1 := by cases E1; exact ⟨rfl, rfl⟩
  obtain ⟨w10, w11, w12, w13, rfl, d10, d11, d12, d13⟩ := hu1
  have in1 : In false All w m (.agg #[w10, w11, w12, w13]) b := in1
  simp only [List.length_cons, List.length_nil, Nat.zero_add, Nat.reduceAdd, Nat.zero_mul, Nat.one_mul, Nat.reduceMul, Nat.add_zero] at hl hlen d00 d01 d02 d03 d10 d11 d12 d13 ⊢
  obtain ⟨W0, hW0⟩ : ∃ W0, w.alloc (.cells #[.int .i64 8, .int .i64 0, .string ⟨#[]⟩, .slice (some ⟨g, q, none⟩) 2 cap] 24) = W0 := ⟨_, rfl⟩
  have b0 : Below w.heap.size w W0 := by rw [← hW0]; exact (Below.refl _ w).alloc (Nat.le_refl _) _
  have s0 : W0.heap.size = w.heap.size + 1 := by rw [← hW0]; simp
  have hx : W0.heap[w.heap.size]? = some (.cells #[.int .i64 8, .int .i64 0, .string ⟨#[]⟩, .slice (some ⟨g, q, none⟩) 2 cap] 24 (0, 0)) := by rw [← hW0]; exact heap_alloc_new w _
  have HX : Hid (W0.heap[w.heap.size]? = some (.cells #[.int .i64 8, .int .i64 0, .string ⟨#[]⟩, .slice (some ⟨g, q, none⟩) 2 cap] 24 (0, 0)) ∧ W0.heap.size = w.heap.size + 1 ∧ Below w.heap.size w W0) := ⟨hx, s0, b0⟩
  obtain ⟨y0, y1, y2, y3⟩ := four_box hx
  have cL := level_c 8 W0
  rw [show rl 8 = 13 by decide] at cL
  obtain ⟨T0, hT0⟩ : ∃ T : ByteArray, ⟨(pr (12) a).toArray⟩ = T := ⟨_, rfl⟩
  have z0 : T0.size ≤ 100000000000 := by rw [← hT0, mk_size]; omega
  have HK0 : Hid (∀ W, Below w.heap.size w W → Calls Tryz.prog 44 #[.agg #[w00, w01, w02, w03], .int .i64 (12 + 1)] W fun e w' => e = .returned (.string T0) ∧ Below W.heap.size W w') := fun W hW => by rw [← hT0]; exact hU _ a (12) W ga ra (by omega) (by omega) (by omega) (in0.below hW)
  have HT0 : Hid ((⟨(pr (12) a).toArray⟩ : ByteArray) = T0) := hT0
  obtain ⟨T1, hT1⟩ : ∃ T : ByteArray, ⟨(pr (-1) b).toArray⟩ = T := ⟨_, rfl⟩
  have z1 : T1.size ≤ 100000000000 := by rw [← hT1, mk_size]; omega
  have HK1 : Hid (∀ W, Below w.heap.size w W → Calls Tryz.prog 23 #[.agg #[w10, w11, w12, w13]] W fun e w' => e = .returned (.string T1) ∧ Below W.heap.size W w') := fun W hW => by rw [← hT1]; exact hP _ b W gb rb (by omega) (in1.below hW)
  have HT1 : Hid ((⟨(pr (-1) b).toArray⟩ : ByteArray) = T1) := hT1
  have HD : Hid (w.cell? ⟨g, q, none⟩ = some w00 ∧ w.cell? ⟨g, q + 1, none⟩ = some w01 ∧ w.cell? ⟨g, q + 2, none⟩ = some w02 ∧ w.cell? ⟨g, q + 3, none⟩ = some w03 ∧ w.cell? ⟨g, q + 4, none⟩ = some w10 ∧ w.cell? ⟨g, q + 5, none⟩ = some w11 ∧ w.cell? ⟨g, q + 6, none⟩ = some w12 ∧ w.cell? ⟨g, q + 7, none⟩ = some w13) := ⟨d00, d01, d02, d03, d10, d11, d12, d13⟩
  clear d00 d01 d02 d03 in0 E0 hT0 d10 d11 d12 d13 in1 E1 hT1 hL hP hU
  clear hx b0 s0
  go_enter Tryz.func23, Tryz.ntmps23
  go_wp2_with fail
  clear hW0
  refine cL.mono ?_
  rintro e W1 ⟨rfl, b1⟩
  have hb1 : Below w.heap.size w W1 := HX.out.2.2.trans (b1.mono (by have := HX.out.2.1; omega))
  clear y0 y1 y2 y3
  obtain ⟨y0, y1, y2, y3⟩ := four_box ((b1.block w.heap.size (by have := HX.out.2.1; omega)).trans HX.out.1)
  have HB1 : Hid (Below w.heap.size w W1 ∧ Below W0.heap.size W0 W1) := ⟨hb1, b1⟩
  obtain ⟨d00, d01, d02, d03, d10, d11, d12, d13⟩ := (⟨below_cell HD.out.1 hb1, below_cell HD.out.2.1 hb1, below_cell HD.out.2.2.1 hb1, below_cell HD.out.2.2.2.1 hb1, below_cell HD.out.2.2.2.2.1 hb1, below_cell HD.out.2.2.2.2.2.1 hb1, below_cell HD.out.2.2.2.2.2.2.1 hb1, below_cell HD.out.2.2.2.2.2.2.2 hb1⟩ : W1.cell? ⟨g, q, none⟩ = some w00 ∧ W1.cell? ⟨g, q + 1, none⟩ = some w01 ∧ W1.cell? ⟨g, q + 2, none⟩ = some w02 ∧ W1.cell? ⟨g, q + 3, none⟩ = some w03 ∧ W1.cell? ⟨g, q + 4, none⟩ = some w10 ∧ W1.cell? ⟨g, q + 5, none⟩ = some w11 ∧ W1.cell? ⟨g, q + 6, none⟩ = some w12 ∧ W1.cell? ⟨g, q + 7, none⟩ = some w13)
  clear b1 hb1 cL
  go_wp2_with fail
  refine wp_region_held_drew (S := fun w' => w'.cell? ⟨w.heap.size, 3, none⟩ = some (.slice (some ⟨g, q, none⟩) 2 cap) ∧ w'.cell? ⟨g, q, none⟩ = some w00 ∧ w'.cell? ⟨g, q + 1, none⟩ = some w01 ∧ w'.cell? ⟨g, q + 2, none⟩ = some w02 ∧ w'.cell? ⟨g, q + 3, none⟩ = some w03 ∧ w'.cell? ⟨g, q + 4, none⟩ = some w10 ∧ w'.cell? ⟨g, q + 5, none⟩ = some w11 ∧ w'.cell? ⟨g, q + 6, none⟩ = some w12 ∧ w'.cell? ⟨g, q + 7, none⟩ = some w13) (by kernel_rfl) (by exact ⟨y3, d00, d01, d02, d03, d10, d11, d12, d13⟩) (fun hHeld => ?_)
  refine wpAnyH_take (i := 0) (v := ?_) rfl (by kernel_rfl) (by kernel_rfl) (by kernel_rfl) (fun _ _ _ h => h) (Or.inl ⟨by rfl, ?_⟩) (by assumption) ?_
  rotate_left 1
  · intro w hSw; (try dsimp only at hSw); go_simp; first | done | with_reducible rfl | (rw [if_neg (by omega)])
  try simp only [Act.put, List.getElem_toArray, List.getElem_cons_zero, List.setIfInBounds_toArray, List.set_cons_zero, List.set_cons_succ]
  refine wpAnyH_take (i := 1) (v := ?_) rfl (by kernel_rfl) (by kernel_rfl) (by kernel_rfl) (fun _ _ _ h => h) (Or.inl ⟨by rfl, ?_⟩) (by assumption) ?_
  rotate_left 1
  · intro w hSw; (try dsimp only at hSw); go_simp; first | done | with_reducible rfl | (rw [if_neg (by omega)])
  try simp only [Act.put, List.getElem_toArray, List.getElem_cons_zero, List.getElem_cons_succ, List.setIfInBounds_toArray, List.set_cons_zero, List.set_cons_succ]
  refine wpAnyH_take (i := 2) (v := ?_) rfl (by kernel_rfl) (by kernel_rfl) (by kernel_rfl) (fun _ _ _ h => h) (Or.inl ⟨by rfl, ?_⟩) (by assumption) ?_
  rotate_left 1
  · intro w hSw; (try dsimp only at hSw); go_simp; first | done | with_reducible rfl | (rw [if_neg (by omega)])
  try simp only [Act.put, List.getElem_toArray, List.getElem_cons_zero, List.getElem_cons_succ, List.setIfInBounds_toArray, List.set_cons_zero, List.set_cons_succ]
  refine wpAnyH_take (i := 3) (v := ?_) rfl (by kernel_rfl) (by kernel_rfl) (by kernel_rfl) (fun _ _ _ h => h) (Or.inl ⟨by rfl, ?_⟩) (by assumption) ?_
  rotate_left 1
  · intro w hSw; (try dsimp only at hSw); go_simp; first | done | with_reducible rfl | (rw [if_neg (by omega)])
  try simp only [Act.put, List.getElem_toArray, List.getElem_cons_zero, List.getElem_cons_succ, List.setIfInBounds_toArray, List.set_cons_zero, List.set_cons_succ]
  refine wpAnyH_take (i := 6) (v := ?_) rfl (by kernel_rfl) (by kernel_rfl) (by kernel_rfl) (fun _ _ _ h => h) (Or.inl ⟨by rfl, ?_⟩) (by assumption) ?_
  rotate_left 1
  · intro w hSw; (try dsimp only at hSw); go_simp; first | done | with_reducible rfl | (rw [if_neg (by omega)])
  try simp only [Act.put, List.getElem_toArray, List.getElem_cons_zero, List.getElem_cons_succ, List.setIfInBounds_toArray, List.set_cons_zero, List.set_cons_succ]
  refine wpAnyH_take (i := 7) (v := ?_) rfl (by kernel_rfl) (by kernel_rfl) (by kernel_rfl) (fun _ _ _ h => h) (Or.inl ⟨by rfl, ?_⟩) (by assumption) ?_
  rotate_left 1
  · intro w hSw; (try dsimp only at hSw); go_simp; first | done | with_reducible rfl | (rw [if_neg (by omega)])
  try simp only [Act.put, List.getElem_toArray, List.getElem_cons_zero, List.getElem_cons_succ, List.setIfInBounds_toArray, List.set_cons_zero, List.set_cons_succ]
  refine wpAnyH_take (i := 8) (v := ?_) rfl (by kernel_rfl) (by kernel_rfl) (by kernel_rfl) (fun _ _ _ h => h) (Or.inl ⟨by rfl, ?_⟩) (by assumption) ?_
  rotate_left 1
  · intro w hSw; (try dsimp only at hSw); go_simp; first | done | with_reducible rfl | (rw [if_neg (by omega)])
  try simp only [Act.put, List.getElem_toArray, List.getElem_cons_zero, List.getElem_cons_succ, List.setIfInBounds_toArray, List.set_cons_zero, List.set_cons_succ]
  refine wpAnyH_take (i := 9) (v := ?_) rfl (by kernel_rfl) (by kernel_rfl) (by kernel_rfl) (fun _ _ _ h => h) (Or.inl ⟨by rfl, ?_⟩) (by assumption) ?_
  rotate_left 1
  · intro w hSw; (try dsimp only at hSw); go_simp; first | done | with_reducible rfl | (rw [if_neg (by omega)])
  try simp only [Act.put, List.getElem_toArray, List.getElem_cons_zero, List.getElem_cons_succ, List.setIfInBounds_toArray, List.set_cons_zero, List.set_cons_succ]
  refine wpAnyH_ready (rs := [4]) (by kernel_rfl) (by simp) ?_
  refine AllReadyH.cons rfl (fun K hK => ?_) AllReadyH.nil
  go_simp
  go_at_call 44
  refine (HK0.out _ (by exact HB1.out.1.drew)).mono ?_
  rintro e W2 ⟨rfl, b2⟩
  have HB2 : Hid (Below w.heap.size w W2 ∧ Below W0.heap.size W0 W2) := ⟨HB1.out.1.drew.trans (b2.mono HB1.out.1.size), HB1.out.2.drew.trans (b2.mono HB1.out.2.size)⟩
  clear y0 y1 y2 y3 d00 d01 d02 d03 d10 d11 d12 d13 b2
  obtain ⟨y0, y1, y2, y3⟩ := four_box ((HB2.out.2.block w.heap.size (by have := HX.out.2.1; omega)).trans HX.out.1)
  obtain ⟨d00, d01, d02, d03, d10, d11, d12, d13⟩ := (⟨below_cell HD.out.1 HB2.out.1, below_cell HD.out.2.1 HB2.out.1, below_cell HD.out.2.2.1 HB2.out.1, below_cell HD.out.2.2.2.1 HB2.out.1, below_cell HD.out.2.2.2.2.1 HB2.out.1, below_cell HD.out.2.2.2.2.2.1 HB2.out.1, below_cell HD.out.2.2.2.2.2.2.1 HB2.out.1, below_cell HD.out.2.2.2.2.2.2.2 HB2.out.1⟩ : W2.cell? ⟨g, q, none⟩ = some w00 ∧ W2.cell? ⟨g, q + 1, none⟩ = some w01 ∧ W2.cell? ⟨g, q + 2, none⟩ = some w02 ∧ W2.cell? ⟨g, q + 3, none⟩ = some w03 ∧ W2.cell? ⟨g, q + 4, none⟩ = some w10 ∧ W2.cell? ⟨g, q + 5, none⟩ = some w11 ∧ W2.cell? ⟨g, q + 6, none⟩ = some w12 ∧ W2.cell? ⟨g, q + 7, none⟩ = some w13)
  refine hK.out _ _ (by exact ⟨y3, d00, d01, d02, d03, d10, d11, d12, d13⟩) (fun hHeld => ?_)
  clear hK K
  try simp only [Act.put, List.getElem_toArray, List.getElem_cons_zero, List.getElem_cons_succ, List.setIfInBounds_toArray, List.set_cons_zero, List.set_cons_succ]
  refine wpAnyH_take (i := 5) (v := ?_) rfl (by kernel_rfl) (by kernel_rfl) (by kernel_rfl) (fun _ _ _ h => h) (Or.inl ⟨by rfl, ?_⟩) (by assumption) ?_
  rotate_left 1
  · intro w hSw; (try dsimp only at hSw); go_simp; first | done | with_reducible rfl | (rw [if_neg (by omega)])
  try simp only [Act.put, List.getElem_toArray, List.getElem_cons_zero, List.getElem_cons_succ, List.setIfInBounds_toArray, List.set_cons_zero, List.set_cons_succ]
  refine wpAnyH_ready (rs := [10]) (by kernel_rfl) (by simp) ?_
  refine AllReadyH.cons rfl (fun K hK => ?_) AllReadyH.nil
  go_simp
  go_at_call 23
  refine (HK1.out _ (by exact HB2.out.1)).mono ?_
  rintro e W3 ⟨rfl, b3⟩
  have HB3 : Hid (Below w.heap.size w W3 ∧ Below W0.heap.size W0 W3) := ⟨HB2.out.1.trans (b3.mono HB2.out.1.size), HB2.out.2.trans (b3.mono HB2.out.2.size)⟩
  clear y0 y1 y2 y3 d00 d01 d02 d03 d10 d11 d12 d13 b3
  obtain ⟨y0, y1, y2, y3⟩ := four_box ((HB3.out.2.block w.heap.size (by have := HX.out.2.1; omega)).trans HX.out.1)
  obtain ⟨d00, d01, d02, d03, d10, d11, d12, d13⟩ := (⟨below_cell HD.out.1 HB3.out.1, below_cell HD.out.2.1 HB3.out.1, below_cell HD.out.2.2.1 HB3.out.1, below_cell HD.out.2.2.2.1 HB3.out.1, below_cell HD.out.2.2.2.2.1 HB3.out.1, below_cell HD.out.2.2.2.2.2.1 HB3.out.1, below_cell HD.out.2.2.2.2.2.2.1 HB3.out.1, below_cell HD.out.2.2.2.2.2.2.2 HB3.out.1⟩ : W3.cell? ⟨g, q, none⟩ = some w00 ∧ W3.cell? ⟨g, q + 1, none⟩ = some w01 ∧ W3.cell? ⟨g, q + 2, none⟩ = some w02 ∧ W3.cell? ⟨g, q + 3, none⟩ = some w03 ∧ W3.cell? ⟨g, q + 4, none⟩ = some w10 ∧ W3.cell? ⟨g, q + 5, none⟩ = some w11 ∧ W3.cell? ⟨g, q + 6, none⟩ = some w12 ∧ W3.cell? ⟨g, q + 7, none⟩ = some w13)
  refine hK.out _ _ (by exact ⟨y3, d00, d01, d02, d03, d10, d11, d12, d13⟩) (fun hHeld => ?_)
  clear hK K
  try simp only [Act.put, List.getElem_toArray, List.getElem_cons_zero, List.getElem_cons_succ, List.setIfInBounds_toArray, List.set_cons_zero, List.set_cons_succ]
  refine wpAnyH_take (i := 11) (v := ?_) rfl (by kernel_rfl) (by kernel_rfl) (by kernel_rfl) (fun _ _ _ h => h) (Or.inl ⟨by rfl, ?_⟩) (by assumption) ?_
  rotate_left 1
  · intro w hSw; (try dsimp only at hSw); go_simp; first | done | with_reducible rfl | (rw [if_neg (by omega)])
  try simp only [Act.put, List.getElem_toArray, List.getElem_cons_zero, List.getElem_cons_succ, List.setIfInBounds_toArray, List.set_cons_zero, List.set_cons_succ]
  refine wpAnyH_take (i := 12) (v := ?_) rfl (by kernel_rfl) (by kernel_rfl) (by kernel_rfl) (fun _ _ _ h => h) (Or.inl ⟨by rfl, ?_⟩) (by assumption) ?_
  rotate_left 1
  · intro w hSw; (try dsimp only at hSw); go_simp; first | done | with_reducible rfl | (rw [if_neg (by omega)])
  try simp only [Act.put, List.getElem_toArray, List.getElem_cons_zero, List.getElem_cons_succ, List.setIfInBounds_toArray, List.set_cons_zero, List.set_cons_succ]
  refine wpAnyH_take (i := 13) (v := ?_) rfl (by kernel_rfl) (by kernel_rfl) (by kernel_rfl) (fun _ _ _ h => h) (Or.inl ⟨by rfl, ?_⟩) (by assumption) ?_
  rotate_left 1
  · intro w hSw; (try dsimp only at hSw); go_simp; first | done | with_reducible rfl | (rw [if_neg (by omega)])
  try simp only [Act.put, List.getElem_toArray, List.getElem_cons_zero, List.getElem_cons_succ, List.setIfInBounds_toArray, List.set_cons_zero, List.set_cons_succ]
  refine wpAnyH_done (by kernel_rfl) ?_ _
  clear hHeld
  go_wp2_with fail
  go_ret
  refine ⟨?_, HB3.out.1⟩
  refine congrArg (fun t => Ending.returned (Value.string t)) (?_ : T0 ++ ⟨#[91]⟩ ++ T1 ++ ⟨#[93]⟩ = _)
  rw [← HT0.out, ← HT1.out]
  apply ByteArray.ext
  simp
set_option maxRecDepth 20000 in
set_option maxHeartbeats 3200000 in
theorem p31 {m : Nat} (hP : Pr m) (hU : Un m) {a b c : Ex} (ga : gd a) (ra : rgL [a]) (gb : gd b) (rb : rgL [b]) (gc : gd c) (rc : rgL [c]) {w : World} {v : Value} (hlen0 : (pr (-1) (nd 31 [a, b, c])).length ≤ 100000000000) (h : In false All w (m + 1) v (nd 31 [a, b, c])) :
    Calls Tryz.prog 23 #[v] w fun e w' => e = .returned (.string ⟨(pr (-1) (nd 31 [a, b, c])).toArray⟩) ∧ Below w.heap.size w w' := by
  rw [tx_if] at hlen0 ⊢
  simp only [List.length_append, List.length_cons, List.length_nil] at hlen0
  unfold nd at h
  rw [in_iff] at h
  obtain ⟨lv, rfl, ho, hi, hs, a1, cap, rfl, hl, hcap, hlen, ha, hL⟩ := h
  obtain ⟨g0, q0, u0, E0, -, hu0, in0⟩ := elem_at hL (q := 0) (by simp)
  obtain ⟨g, q, hgq⟩ : ∃ g q, a1 = some ⟨g, q, none⟩ := ⟨g0, q0, E0⟩
  subst hgq
  obtain ⟨rfl, rfl⟩ : g = g0 ∧ q = q0 := by cases E0; exact ⟨rfl, rfl⟩
  obtain ⟨w00, w01, w02, w03, rfl, d00, d01, d02, d03⟩ := hu0
  have in0 : In false All w m (.agg #[w00, w01, w02, w03]) a := in0
  obtain ⟨g1, q1, u1, E1, -, hu1, in1⟩ := elem_at hL (q := 1) (by simp)
  obtain ⟨rfl, rfl⟩ : g = g1 ∧ q = q1 := by cases E1; exact ⟨rfl, rfl⟩
  obtain ⟨w10, w11, w12, w13, rfl, d10, d11, d12, d13⟩ := hu1
  have in1 : In false All w m (.agg #[w10, w11, w12, w13]) b := in1
  obtain ⟨g2, q2, u2, E2, -, hu2, in2⟩ := elem_at hL (q := 2) (by simp)
  obtain ⟨rfl, rfl⟩ : g = g2 ∧ q = q2 := by cases E2; exact ⟨rfl, rfl⟩
  obtain ⟨w20, w21, w22, w23, rfl, d20, d21, d22, d23⟩ := hu2
  have in2 : In false All w m (.agg #[w20, w21, w22, w23]) c := in2
  simp only [List.length_cons, List.length_nil, Nat.zero_add, Nat.reduceAdd, Nat.zero_mul, Nat.one_mul, Nat.reduceMul, Nat.add_zero] at hl hlen d00 d01 d02 d03 d10 d11 d12 d13 d20 d21 d22 d23 ⊢
  obtain ⟨W0, hW0⟩ : ∃ W0, w.alloc (.cells #[.int .i64 31, .int .i64 0, .string ⟨#[]⟩, .slice (some ⟨g, q, none⟩) 3 cap] 24) = W0 := ⟨_, rfl⟩
  have b0 : Below w.heap.size w W0 := by rw [← hW0]; exact (Below.refl _ w).alloc (Nat.le_refl _) _
  have s0 : W0.heap.size = w.heap.size + 1 := by rw [← hW0]; simp
  have hx : W0.heap[w.heap.size]? = some (.cells #[.int .i64 31, .int .i64 0, .string ⟨#[]⟩, .slice (some ⟨g, q, none⟩) 3 cap] 24 (0, 0)) := by rw [← hW0]; exact heap_alloc_new w _
  have HX : Hid (W0.heap[w.heap.size]? = some (.cells #[.int .i64 31, .int .i64 0, .string ⟨#[]⟩, .slice (some ⟨g, q, none⟩) 3 cap] 24 (0, 0)) ∧ W0.heap.size = w.heap.size + 1 ∧ Below w.heap.size w W0) := ⟨hx, s0, b0⟩
  obtain ⟨y0, y1, y2, y3⟩ := four_box hx
  have cL := level_c 31 W0
  rw [show rl 31 = 0 by decide] at cL
  obtain ⟨T0, hT0⟩ : ∃ T : ByteArray, ⟨(pr (0) a).toArray⟩ = T := ⟨_, rfl⟩
  have z0 : T0.size ≤ 100000000000 := by rw [← hT0, mk_size]; omega
  have HK0 : Hid (∀ W, Below w.heap.size w W → Calls Tryz.prog 44 #[.agg #[w00, w01, w02, w03], .int .i64 (0 + 1)] W fun e w' => e = .returned (.string T0) ∧ Below W.heap.size W w') := fun W hW => by rw [← hT0]; exact hU _ a (0) W ga ra (by omega) (by omega) (by omega) (in0.below hW)
  have HT0 : Hid ((⟨(pr (0) a).toArray⟩ : ByteArray) = T0) := hT0
  obtain ⟨T1, hT1⟩ : ∃ T : ByteArray, ⟨(pr (-1) b).toArray⟩ = T := ⟨_, rfl⟩
  have z1 : T1.size ≤ 100000000000 := by rw [← hT1, mk_size]; omega
  have HK1 : Hid (∀ W, Below w.heap.size w W → Calls Tryz.prog 23 #[.agg #[w10, w11, w12, w13]] W fun e w' => e = .returned (.string T1) ∧ Below W.heap.size W w') := fun W hW => by rw [← hT1]; exact hP _ b W gb rb (by omega) (in1.below hW)
  have HT1 : Hid ((⟨(pr (-1) b).toArray⟩ : ByteArray) = T1) := hT1
  obtain ⟨T2, hT2⟩ : ∃ T : ByteArray, ⟨(pr (-1) c).toArray⟩ = T := ⟨_, rfl⟩
  have z2 : T2.size ≤ 100000000000 := by rw [← hT2, mk_size]; omega
  have HK2 : Hid (∀ W, Below w.heap.size w W → Calls Tryz.prog 23 #[.agg #[w20, w21, w22, w23]] W fun e w' => e = .returned (.string T2) ∧ Below W.heap.size W w') := fun W hW => by rw [← hT2]; exact hP _ c W gc rc (by omega) (in2.below hW)
  have HT2 : Hid ((⟨(pr (-1) c).toArray⟩ : ByteArray) = T2) := hT2
  have HD : Hid (w.cell? ⟨g, q, none⟩ = some w00 ∧ w.cell? ⟨g, q + 1, none⟩ = some w01 ∧ w.cell? ⟨g, q + 2, none⟩ = some w02 ∧ w.cell? ⟨g, q + 3, none⟩ = some w03 ∧ w.cell? ⟨g, q + 4, none⟩ = some w10 ∧ w.cell? ⟨g, q + 5, none⟩ = some w11 ∧ w.cell? ⟨g, q + 6, none⟩ = some w12 ∧ w.cell? ⟨g, q + 7, none⟩ = some w13 ∧ w.cell? ⟨g, q + 8, none⟩ = some w20 ∧ w.cell? ⟨g, q + 9, none⟩ = some w21 ∧ w.cell? ⟨g, q + 10, none⟩ = some w22 ∧ w.cell? ⟨g, q + 11, none⟩ = some w23) := ⟨d00, d01, d02, d03, d10, d11, d12, d13, d20, d21, d22, d23⟩
  clear d00 d01 d02 d03 in0 E0 hT0 d10 d11 d12 d13 in1 E1 hT1 d20 d21 d22 d23 in2 E2 hT2 hL hP hU
  clear hx b0 s0
  go_enter Tryz.func23, Tryz.ntmps23
  go_wp2_with fail
  clear hW0
  refine cL.mono ?_
  rintro e W1 ⟨rfl, b1⟩
  have hb1 : Below w.heap.size w W1 := HX.out.2.2.trans (b1.mono (by have := HX.out.2.1; omega))
  clear y0 y1 y2 y3
  obtain ⟨y0, y1, y2, y3⟩ := four_box ((b1.block w.heap.size (by have := HX.out.2.1; omega)).trans HX.out.1)
  have HB1 : Hid (Below w.heap.size w W1 ∧ Below W0.heap.size W0 W1) := ⟨hb1, b1⟩
  obtain ⟨d00, d01, d02, d03, d10, d11, d12, d13, d20, d21, d22, d23⟩ := (⟨below_cell HD.out.1 hb1, below_cell HD.out.2.1 hb1, below_cell HD.out.2.2.1 hb1, below_cell HD.out.2.2.2.1 hb1, below_cell HD.out.2.2.2.2.1 hb1, below_cell HD.out.2.2.2.2.2.1 hb1, below_cell HD.out.2.2.2.2.2.2.1 hb1, below_cell HD.out.2.2.2.2.2.2.2.1 hb1, below_cell HD.out.2.2.2.2.2.2.2.2.1 hb1, below_cell HD.out.2.2.2.2.2.2.2.2.2.1 hb1, below_cell HD.out.2.2.2.2.2.2.2.2.2.2.1 hb1, below_cell HD.out.2.2.2.2.2.2.2.2.2.2.2 hb1⟩ : W1.cell? ⟨g, q, none⟩ = some w00 ∧ W1.cell? ⟨g, q + 1, none⟩ = some w01 ∧ W1.cell? ⟨g, q + 2, none⟩ = some w02 ∧ W1.cell? ⟨g, q + 3, none⟩ = some w03 ∧ W1.cell? ⟨g, q + 4, none⟩ = some w10 ∧ W1.cell? ⟨g, q + 5, none⟩ = some w11 ∧ W1.cell? ⟨g, q + 6, none⟩ = some w12 ∧ W1.cell? ⟨g, q + 7, none⟩ = some w13 ∧ W1.cell? ⟨g, q + 8, none⟩ = some w20 ∧ W1.cell? ⟨g, q + 9, none⟩ = some w21 ∧ W1.cell? ⟨g, q + 10, none⟩ = some w22 ∧ W1.cell? ⟨g, q + 11, none⟩ = some w23)
  clear b1 hb1 cL
  go_wp2_with fail
  refine wp_region_held_drew (S := fun w' => w'.cell? ⟨w.heap.size, 3, none⟩ = some (.slice (some ⟨g, q, none⟩) 3 cap) ∧ w'.cell? ⟨g, q, none⟩ = some w00 ∧ w'.cell? ⟨g, q + 1, none⟩ = some w01 ∧ w'.cell? ⟨g, q + 2, none⟩ = some w02 ∧ w'.cell? ⟨g, q + 3, none⟩ = some w03 ∧ w'.cell? ⟨g, q + 4, none⟩ = some w10 ∧ w'.cell? ⟨g, q + 5, none⟩ = some w11 ∧ w'.cell? ⟨g, q + 6, none⟩ = some w12 ∧ w'.cell? ⟨g, q + 7, none⟩ = some w13 ∧ w'.cell? ⟨g, q + 8, none⟩ = some w20 ∧ w'.cell? ⟨g, q + 9, none⟩ = some w21 ∧ w'.cell? ⟨g, q + 10, none⟩ = some w22 ∧ w'.cell? ⟨g, q + 11, none⟩ = some w23) (by kernel_rfl) (by exact ⟨y3, d00, d01, d02, d03, d10, d11, d12, d13, d20, d21, d22, d23⟩) (fun hHeld => ?_)
  refine wpAnyH_take (i := 0) (v := ?_) rfl (by kernel_rfl) (by kernel_rfl) (by kernel_rfl) (fun _ _ _ h => h) (Or.inl ⟨by rfl, ?_⟩) (by assumption) ?_
  rotate_left 1
  · intro w hSw; (try dsimp only at hSw); go_simp; first | done | with_reducible rfl | (rw [if_neg (by omega)])
  try simp only [Act.put, List.getElem_toArray, List.getElem_cons_zero, List.setIfInBounds_toArray, List.set_cons_zero, List.set_cons_succ]
  refine wpAnyH_take (i := 1) (v := ?_) rfl (by kernel_rfl) (by kernel_rfl) (by kernel_rfl) (fun _ _ _ h => h) (Or.inl ⟨by rfl, ?_⟩) (by assumption) ?_
  rotate_left 1
  · intro w hSw; (try dsimp only at hSw); go_simp; first | done | with_reducible rfl | (rw [if_neg (by omega)])
  try simp only [Act.put, List.getElem_toArray, List.getElem_cons_zero, List.getElem_cons_succ, List.setIfInBounds_toArray, List.set_cons_zero, List.set_cons_succ]
  refine wpAnyH_take (i := 2) (v := ?_) rfl (by kernel_rfl) (by kernel_rfl) (by kernel_rfl) (fun _ _ _ h => h) (Or.inl ⟨by rfl, ?_⟩) (by assumption) ?_
  rotate_left 1
  · intro w hSw; (try dsimp only at hSw); go_simp; first | done | with_reducible rfl | (rw [if_neg (by omega)])
  try simp only [Act.put, List.getElem_toArray, List.getElem_cons_zero, List.getElem_cons_succ, List.setIfInBounds_toArray, List.set_cons_zero, List.set_cons_succ]
  refine wpAnyH_take (i := 3) (v := ?_) rfl (by kernel_rfl) (by kernel_rfl) (by kernel_rfl) (fun _ _ _ h => h) (Or.inl ⟨by rfl, ?_⟩) (by assumption) ?_
  rotate_left 1
  · intro w hSw; (try dsimp only at hSw); go_simp; first | done | with_reducible rfl | (rw [if_neg (by omega)])
  try simp only [Act.put, List.getElem_toArray, List.getElem_cons_zero, List.getElem_cons_succ, List.setIfInBounds_toArray, List.set_cons_zero, List.set_cons_succ]
  refine wpAnyH_take (i := 6) (v := ?_) rfl (by kernel_rfl) (by kernel_rfl) (by kernel_rfl) (fun _ _ _ h => h) (Or.inl ⟨by rfl, ?_⟩) (by assumption) ?_
  rotate_left 1
  · intro w hSw; (try dsimp only at hSw); go_simp; first | done | with_reducible rfl | (rw [if_neg (by omega)])
  try simp only [Act.put, List.getElem_toArray, List.getElem_cons_zero, List.getElem_cons_succ, List.setIfInBounds_toArray, List.set_cons_zero, List.set_cons_succ]
  refine wpAnyH_take (i := 7) (v := ?_) rfl (by kernel_rfl) (by kernel_rfl) (by kernel_rfl) (fun _ _ _ h => h) (Or.inl ⟨by rfl, ?_⟩) (by assumption) ?_
  rotate_left 1
  · intro w hSw; (try dsimp only at hSw); go_simp; first | done | with_reducible rfl | (rw [if_neg (by omega)])
  try simp only [Act.put, List.getElem_toArray, List.getElem_cons_zero, List.getElem_cons_succ, List.setIfInBounds_toArray, List.set_cons_zero, List.set_cons_succ]
  refine wpAnyH_take (i := 8) (v := ?_) rfl (by kernel_rfl) (by kernel_rfl) (by kernel_rfl) (fun _ _ _ h => h) (Or.inl ⟨by rfl, ?_⟩) (by assumption) ?_
  rotate_left 1
  · intro w hSw; (try dsimp only at hSw); go_simp; first | done | with_reducible rfl | (rw [if_neg (by omega)])
  try simp only [Act.put, List.getElem_toArray, List.getElem_cons_zero, List.getElem_cons_succ, List.setIfInBounds_toArray, List.set_cons_zero, List.set_cons_succ]
  refine wpAnyH_take (i := 9) (v := ?_) rfl (by kernel_rfl) (by kernel_rfl) (by kernel_rfl) (fun _ _ _ h => h) (Or.inl ⟨by rfl, ?_⟩) (by assumption) ?_
  rotate_left 1
  · intro w hSw; (try dsimp only at hSw); go_simp; first | done | with_reducible rfl | (rw [if_neg (by omega)])
  try simp only [Act.put, List.getElem_toArray, List.getElem_cons_zero, List.getElem_cons_succ, List.setIfInBounds_toArray, List.set_cons_zero, List.set_cons_succ]
  refine wpAnyH_take (i := 13) (v := ?_) rfl (by kernel_rfl) (by kernel_rfl) (by kernel_rfl) (fun _ _ _ h => h) (Or.inl ⟨by rfl, ?_⟩) (by assumption) ?_
  rotate_left 1
  · intro w hSw; (try dsimp only at hSw); go_simp; first | done | with_reducible rfl | (rw [if_neg (by omega)])
  try simp only [Act.put, List.getElem_toArray, List.getElem_cons_zero, List.getElem_cons_succ, List.setIfInBounds_toArray, List.set_cons_zero, List.set_cons_succ]
  refine wpAnyH_take (i := 14) (v := ?_) rfl (by kernel_rfl) (by kernel_rfl) (by kernel_rfl) (fun _ _ _ h => h) (Or.inl ⟨by rfl, ?_⟩) (by assumption) ?_
  rotate_left 1
  · intro w hSw; (try dsimp only at hSw); go_simp; first | done | with_reducible rfl | (rw [if_neg (by omega)])
  try simp only [Act.put, List.getElem_toArray, List.getElem_cons_zero, List.getElem_cons_succ, List.setIfInBounds_toArray, List.set_cons_zero, List.set_cons_succ]
  refine wpAnyH_take (i := 15) (v := ?_) rfl (by kernel_rfl) (by kernel_rfl) (by kernel_rfl) (fun _ _ _ h => h) (Or.inl ⟨by rfl, ?_⟩) (by assumption) ?_
  rotate_left 1
  · intro w hSw; (try dsimp only at hSw); go_simp; first | done | with_reducible rfl | (rw [if_neg (by omega)])
  try simp only [Act.put, List.getElem_toArray, List.getElem_cons_zero, List.getElem_cons_succ, List.setIfInBounds_toArray, List.set_cons_zero, List.set_cons_succ]
  refine wpAnyH_take (i := 16) (v := ?_) rfl (by kernel_rfl) (by kernel_rfl) (by kernel_rfl) (fun _ _ _ h => h) (Or.inl ⟨by rfl, ?_⟩) (by assumption) ?_
  rotate_left 1
  · intro w hSw; (try dsimp only at hSw); go_simp; first | done | with_reducible rfl | (rw [if_neg (by omega)])
  try simp only [Act.put, List.getElem_toArray, List.getElem_cons_zero, List.getElem_cons_succ, List.setIfInBounds_toArray, List.set_cons_zero, List.set_cons_succ]
  refine wpAnyH_ready (rs := [4]) (by kernel_rfl) (by simp) ?_
  refine AllReadyH.cons rfl (fun K hK => ?_) AllReadyH.nil
  go_simp
  go_at_call 44
  refine (HK0.out _ (by exact HB1.out.1.drew)).mono ?_
  rintro e W2 ⟨rfl, b2⟩
  have HB2 : Hid (Below w.heap.size w W2 ∧ Below W0.heap.size W0 W2) := ⟨HB1.out.1.drew.trans (b2.mono HB1.out.1.size), HB1.out.2.drew.trans (b2.mono HB1.out.2.size)⟩
  clear y0 y1 y2 y3 d00 d01 d02 d03 d10 d11 d12 d13 d20 d21 d22 d23 b2
  obtain ⟨y0, y1, y2, y3⟩ := four_box ((HB2.out.2.block w.heap.size (by have := HX.out.2.1; omega)).trans HX.out.1)
  obtain ⟨d00, d01, d02, d03, d10, d11, d12, d13, d20, d21, d22, d23⟩ := (⟨below_cell HD.out.1 HB2.out.1, below_cell HD.out.2.1 HB2.out.1, below_cell HD.out.2.2.1 HB2.out.1, below_cell HD.out.2.2.2.1 HB2.out.1, below_cell HD.out.2.2.2.2.1 HB2.out.1, below_cell HD.out.2.2.2.2.2.1 HB2.out.1, below_cell HD.out.2.2.2.2.2.2.1 HB2.out.1, below_cell HD.out.2.2.2.2.2.2.2.1 HB2.out.1, below_cell HD.out.2.2.2.2.2.2.2.2.1 HB2.out.1, below_cell HD.out.2.2.2.2.2.2.2.2.2.1 HB2.out.1, below_cell HD.out.2.2.2.2.2.2.2.2.2.2.1 HB2.out.1, below_cell HD.out.2.2.2.2.2.2.2.2.2.2.2 HB2.out.1⟩ : W2.cell? ⟨g, q, none⟩ = some w00 ∧ W2.cell? ⟨g, q + 1, none⟩ = some w01 ∧ W2.cell? ⟨g, q + 2, none⟩ = some w02 ∧ W2.cell? ⟨g, q + 3, none⟩ = some w03 ∧ W2.cell? ⟨g, q + 4, none⟩ = some w10 ∧ W2.cell? ⟨g, q + 5, none⟩ = some w11 ∧ W2.cell? ⟨g, q + 6, none⟩ = some w12 ∧ W2.cell? ⟨g, q + 7, none⟩ = some w13 ∧ W2.cell? ⟨g, q + 8, none⟩ = some w20 ∧ W2.cell? ⟨g, q + 9, none⟩ = some w21 ∧ W2.cell? ⟨g, q + 10, none⟩ = some w22 ∧ W2.cell? ⟨g, q + 11, none⟩ = some w23)
  refine hK.out _ _ (by exact ⟨y3, d00, d01, d02, d03, d10, d11, d12, d13, d20, d21, d22, d23⟩) (fun hHeld => ?_)
  clear hK K
  try simp only [Act.put, List.getElem_toArray, List.getElem_cons_zero, List.getElem_cons_succ, List.setIfInBounds_toArray, List.set_cons_zero, List.set_cons_succ]
  refine wpAnyH_take (i := 5) (v := ?_) rfl (by kernel_rfl) (by kernel_rfl) (by kernel_rfl) (fun _ _ _ h => h) (Or.inl ⟨by rfl, ?_⟩) (by assumption) ?_
  rotate_left 1
  · intro w hSw; (try dsimp only at hSw); go_simp; first | done | with_reducible rfl | (rw [if_neg (by omega)])
  try simp only [Act.put, List.getElem_toArray, List.getElem_cons_zero, List.getElem_cons_succ, List.setIfInBounds_toArray, List.set_cons_zero, List.set_cons_succ]
  refine wpAnyH_ready (rs := [10]) (by kernel_rfl) (by simp) ?_
  refine AllReadyH.cons rfl (fun K hK => ?_) AllReadyH.nil
  go_simp
  go_at_call 23
  refine (HK1.out _ (by exact HB2.out.1)).mono ?_
  rintro e W3 ⟨rfl, b3⟩
  have HB3 : Hid (Below w.heap.size w W3 ∧ Below W0.heap.size W0 W3) := ⟨HB2.out.1.trans (b3.mono HB2.out.1.size), HB2.out.2.trans (b3.mono HB2.out.2.size)⟩
  clear y0 y1 y2 y3 d00 d01 d02 d03 d10 d11 d12 d13 d20 d21 d22 d23 b3
  obtain ⟨y0, y1, y2, y3⟩ := four_box ((HB3.out.2.block w.heap.size (by have := HX.out.2.1; omega)).trans HX.out.1)
  obtain ⟨d00, d01, d02, d03, d10, d11, d12, d13, d20, d21, d22, d23⟩ := (⟨below_cell HD.out.1 HB3.out.1, below_cell HD.out.2.1 HB3.out.1, below_cell HD.out.2.2.1 HB3.out.1, below_cell HD.out.2.2.2.1 HB3.out.1, below_cell HD.out.2.2.2.2.1 HB3.out.1, below_cell HD.out.2.2.2.2.2.1 HB3.out.1, below_cell HD.out.2.2.2.2.2.2.1 HB3.out.1, below_cell HD.out.2.2.2.2.2.2.2.1 HB3.out.1, below_cell HD.out.2.2.2.2.2.2.2.2.1 HB3.out.1, below_cell HD.out.2.2.2.2.2.2.2.2.2.1 HB3.out.1, below_cell HD.out.2.2.2.2.2.2.2.2.2.2.1 HB3.out.1, below_cell HD.out.2.2.2.2.2.2.2.2.2.2.2 HB3.out.1⟩ : W3.cell? ⟨g, q, none⟩ = some w00 ∧ W3.cell? ⟨g, q + 1, none⟩ = some w01 ∧ W3.cell? ⟨g, q + 2, none⟩ = some w02 ∧ W3.cell? ⟨g, q + 3, none⟩ = some w03 ∧ W3.cell? ⟨g, q + 4, none⟩ = some w10 ∧ W3.cell? ⟨g, q + 5, none⟩ = some w11 ∧ W3.cell? ⟨g, q + 6, none⟩ = some w12 ∧ W3.cell? ⟨g, q + 7, none⟩ = some w13 ∧ W3.cell? ⟨g, q + 8, none⟩ = some w20 ∧ W3.cell? ⟨g, q + 9, none⟩ = some w21 ∧ W3.cell? ⟨g, q + 10, none⟩ = some w22 ∧ W3.cell? ⟨g, q + 11, none⟩ = some w23)
  refine hK.out _ _ (by exact ⟨y3, d00, d01, d02, d03, d10, d11, d12, d13, d20, d21, d22, d23⟩) (fun hHeld => ?_)
  clear hK K
  try simp only [Act.put, List.getElem_toArray, List.getElem_cons_zero, List.getElem_cons_succ, List.setIfInBounds_toArray, List.set_cons_zero, List.set_cons_succ]
  refine wpAnyH_take (i := 11) (v := ?_) rfl (by kernel_rfl) (by kernel_rfl) (by kernel_rfl) (fun _ _ _ h => h) (Or.inl ⟨by rfl, ?_⟩) (by assumption) ?_
  rotate_left 1
  · intro w hSw; (try dsimp only at hSw); go_simp; first | done | with_reducible rfl | (rw [if_neg (by omega)])
  try simp only [Act.put, List.getElem_toArray, List.getElem_cons_zero, List.getElem_cons_succ, List.setIfInBounds_toArray, List.set_cons_zero, List.set_cons_succ]
  refine wpAnyH_take (i := 12) (v := ?_) rfl (by kernel_rfl) (by kernel_rfl) (by kernel_rfl) (fun _ _ _ h => h) (Or.inl ⟨by rfl, ?_⟩) (by assumption) ?_
  rotate_left 1
  · intro w hSw; (try dsimp only at hSw); go_simp; first | done | with_reducible rfl | (rw [if_neg (by omega)])
  try simp only [Act.put, List.getElem_toArray, List.getElem_cons_zero, List.getElem_cons_succ, List.setIfInBounds_toArray, List.set_cons_zero, List.set_cons_succ]
  refine wpAnyH_ready (rs := [17]) (by kernel_rfl) (by simp) ?_
  refine AllReadyH.cons rfl (fun K hK => ?_) AllReadyH.nil
  go_simp
  go_at_call 23
  refine (HK2.out _ (by exact HB3.out.1)).mono ?_
  rintro e W4 ⟨rfl, b4⟩
  have HB4 : Hid (Below w.heap.size w W4 ∧ Below W0.heap.size W0 W4) := ⟨HB3.out.1.trans (b4.mono HB3.out.1.size), HB3.out.2.trans (b4.mono HB3.out.2.size)⟩
  clear y0 y1 y2 y3 d00 d01 d02 d03 d10 d11 d12 d13 d20 d21 d22 d23 b4
  obtain ⟨y0, y1, y2, y3⟩ := four_box ((HB4.out.2.block w.heap.size (by have := HX.out.2.1; omega)).trans HX.out.1)
  obtain ⟨d00, d01, d02, d03, d10, d11, d12, d13, d20, d21, d22, d23⟩ := (⟨below_cell HD.out.1 HB4.out.1, below_cell HD.out.2.1 HB4.out.1, below_cell HD.out.2.2.1 HB4.out.1, below_cell HD.out.2.2.2.1 HB4.out.1, below_cell HD.out.2.2.2.2.1 HB4.out.1, below_cell HD.out.2.2.2.2.2.1 HB4.out.1, below_cell HD.out.2.2.2.2.2.2.1 HB4.out.1, below_cell HD.out.2.2.2.2.2.2.2.1 HB4.out.1, below_cell HD.out.2.2.2.2.2.2.2.2.1 HB4.out.1, below_cell HD.out.2.2.2.2.2.2.2.2.2.1 HB4.out.1, below_cell HD.out.2.2.2.2.2.2.2.2.2.2.1 HB4.out.1, below_cell HD.out.2.2.2.2.2.2.2.2.2.2.2 HB4.out.1⟩ : W4.cell? ⟨g, q, none⟩ = some w00 ∧ W4.cell? ⟨g, q + 1, none⟩ = some w01 ∧ W4.cell? ⟨g, q + 2, none⟩ = some w02 ∧ W4.cell? ⟨g, q + 3, none⟩ = some w03 ∧ W4.cell? ⟨g, q + 4, none⟩ = some w10 ∧ W4.cell? ⟨g, q + 5, none⟩ = some w11 ∧ W4.cell? ⟨g, q + 6, none⟩ = some w12 ∧ W4.cell? ⟨g, q + 7, none⟩ = some w13 ∧ W4.cell? ⟨g, q + 8, none⟩ = some w20 ∧ W4.cell? ⟨g, q + 9, none⟩ = some w21 ∧ W4.cell? ⟨g, q + 10, none⟩ = some w22 ∧ W4.cell? ⟨g, q + 11, none⟩ = some w23)
  refine hK.out _ _ (by exact ⟨y3, d00, d01, d02, d03, d10, d11, d12, d13, d20, d21, d22, d23⟩) (fun hHeld => ?_)
  clear hK K
  try simp only [Act.put, List.getElem_toArray, List.getElem_cons_zero, List.getElem_cons_succ, List.setIfInBounds_toArray, List.set_cons_zero, List.set_cons_succ]
  refine wpAnyH_take (i := 18) (v := ?_) rfl (by kernel_rfl) (by kernel_rfl) (by kernel_rfl) (fun _ _ _ h => h) (Or.inl ⟨by rfl, ?_⟩) (by assumption) ?_
  rotate_left 1
  · intro w hSw; (try dsimp only at hSw); go_simp; first | done | with_reducible rfl | (rw [if_neg (by omega)])
  try simp only [Act.put, List.getElem_toArray, List.getElem_cons_zero, List.getElem_cons_succ, List.setIfInBounds_toArray, List.set_cons_zero, List.set_cons_succ]
  refine wpAnyH_take (i := 19) (v := ?_) rfl (by kernel_rfl) (by kernel_rfl) (by kernel_rfl) (fun _ _ _ h => h) (Or.inl ⟨by rfl, ?_⟩) (by assumption) ?_
  rotate_left 1
  · intro w hSw; (try dsimp only at hSw); go_simp; first | done | with_reducible rfl | (rw [if_neg (by omega)])
  try simp only [Act.put, List.getElem_toArray, List.getElem_cons_zero, List.getElem_cons_succ, List.setIfInBounds_toArray, List.set_cons_zero, List.set_cons_succ]
  refine wpAnyH_done (by kernel_rfl) ?_ _
  clear hHeld
  go_wp2_with fail
  go_ret
  refine ⟨?_, HB4.out.1⟩
  refine congrArg (fun t => Ending.returned (Value.string t)) (?_ : T0 ++ ⟨#[32, 63, 32]⟩ ++ T1 ++ ⟨#[32, 58, 32]⟩ ++ T2 = _)
  rw [← HT0.out, ← HT1.out, ← HT2.out]
  apply ByteArray.ext
  simp
end Go.Proofs.YtnoohlmlpijhaaaGreatDoor.QPf

import Derived.Deep.RegionHeld3
import Derived.Test.YtnoohlmlpijhaaaGreatDoorPZ24
import Derived.Test.YtnoohlmlpijhaaaGreatDoorPZ33
namespace Go.Proofs.YtnoohlmlpijhaaaGreatDoor.QPc
open Go.RowKit Go.Proofs.YtnoohlmlpijhaaaGreatDoor.UBase Go.Proofs.YtnoohlmlpijhaaaGreatDoor.EPure Go.Proofs.YtnoohlmlpijhaaaGreatDoor.PPl Go.Proofs.YtnoohlmlpijhaaaGreatDoor.PFit Go.Proofs.YtnoohlmlpijhaaaGreatDoor.PTx Go.Proofs.YtnoohlmlpijhaaaGreatDoor.ENd Go.Proofs.YtnoohlmlpijhaaaGreatDoor.ERg Go.Proofs.YtnoohlmlpijhaaaGreatDoor.QLv Go.Proofs.YtnoohlmlpijhaaaGreatDoor.EBk Go.Proofs.YtnoohlmlpijhaaaGreatDoor.QPd
open Go.Proofs.YtnoohlmlpijhaaaGreatDoor.XBase (In InL in_iff LAt Four elem_at four_below four_box)
open Go.Proofs.YtnoohlmlpijhaaaGreatDoor.Base (nx All heap_alloc_new below_cell)
open Go.Proofs.YtnoohlmlpijhaaaGreatDoor.PPr (pr gd gdL gdL_cons gd_range)
set_option linter.unusedVariables false
theorem call_cell : ∀ n : Nat, n < 8 → (#[.string ⟨#[108, 101, 110]⟩, .string ⟨#[115, 116, 114]⟩, .string ⟨#[105, 56]⟩, .string ⟨#[117, 56]⟩, .string ⟨#[105, 49, 54]⟩, .string ⟨#[117, 49, 54]⟩, .string ⟨#[105, 51, 50]⟩, .string ⟨#[117, 51, 50]⟩] : Array Value)[n]? = some (.string (cll.getD (n + 1) ByteArray.empty))
  | 0, _ => rfl
  | 1, _ => rfl
  | 2, _ => rfl
  | 3, _ => rfl
  | 4, _ => rfl
  | 5, _ => rfl
  | 6, _ => rfl
  | 7, _ => rfl
  | n + 8, h => absurd h (by omega)
theorem row_cell (W : World) (n : Nat) : (W.alloc (.cells #[.string ⟨#[108, 101, 110]⟩, .string ⟨#[115, 116, 114]⟩, .string ⟨#[105, 56]⟩, .string ⟨#[117, 56]⟩, .string ⟨#[105, 49, 54]⟩, .string ⟨#[117, 49, 54]⟩, .string ⟨#[105, 51, 50]⟩, .string ⟨#[117, 51, 50]⟩] 9)).cell? ⟨W.heap.size, n, none⟩ = (#[.string ⟨#[108, 101, 110]⟩, .string ⟨#[115, 116, 114]⟩, .string ⟨#[105, 56]⟩, .string ⟨#[117, 56]⟩, .string ⟨#[105, 49, 54]⟩, .string ⟨#[117, 49, 54]⟩, .string ⟨#[105, 51, 50]⟩, .string ⟨#[117, 51, 50]⟩] : Array Value)[n]? := by
  unfold World.cell?
  rw [heap_alloc_new]
  rfl
set_option maxRecDepth 20000 in
set_option maxHeartbeats 3200000 in
theorem p9 {m : Nat} (hP : Pr m) (hU : Un m) {a : Ex} {n : Nat} (hn8 : n < 8) (ga : gd a) (ra : rgL [a]) {w : World} {v : Value} (hlen0 : (pr (-1) (.mk 9 ((n : Int) + 1) ⟨#[]⟩ [a])).length ≤ 100000000000) (h : In false All w (m + 1) v (.mk 9 ((n : Int) + 1) ⟨#[]⟩ [a])) :
    Calls Tryz.prog 23 #[v] w fun e w' => e = .returned (.string ⟨(pr (-1) (.mk 9 ((n : Int) + 1) ⟨#[]⟩ [a])).toArray⟩) ∧ Below w.heap.size w w' := by
  rw [tx_call] at hlen0 ⊢
  simp only [List.length_append, List.length_cons, List.length_nil] at hlen0
  rw [show ((n : Int) + 1).toNat = n + 1 by omega] at hlen0 ⊢
  have hxl := PLen.cll_len (n + 1)
  obtain ⟨X, hX⟩ : ∃ X, cll.getD (n + 1) ByteArray.empty = X := ⟨_, rfl⟩
  have HXX : Hid (cll.getD (n + 1) ByteArray.empty = X) := hX
  rw [hX] at hxl hlen0 ⊢
  have hxs : X.size ≤ 8 := by rw [← ByteArray.size_data, ← Array.length_toList]; omega
  clear hX
  rw [in_iff] at h
  obtain ⟨lv, rfl, ho, hi, hs, a1, cap, rfl, hl, hcap, hlen, ha, hL⟩ := h
  obtain ⟨g0, q0, u0, E0, -, hu0, in0⟩ := elem_at hL (q := 0) (by simp)
  obtain ⟨g, q, hgq⟩ : ∃ g q, a1 = some ⟨g, q, none⟩ := ⟨g0, q0, E0⟩
  subst hgq
  obtain ⟨rfl, rfl⟩ : g = g0 ∧ q = q0 := by cases E0; exact ⟨rfl, rfl⟩
  obtain ⟨w00, w01, w02, w03, rfl, d00, d01, d02, d03⟩ := hu0
  have in0 : In false All w m (.agg #[w00, w01, w02, w03]) a := in0
  simp only [List.length_cons, List.length_nil, Nat.zero_add, Nat.zero_mul, Nat.one_mul, Nat.add_zero] at hl hlen d00 d01 d02 d03 ⊢
  obtain ⟨W0, hW0⟩ : ∃ W0, w.alloc (.cells #[.int .i64 9, .int .i64 ((n : Int) + 1), .string ⟨#[]⟩, .slice (some ⟨g, q, none⟩) 1 cap] 24) = W0 := ⟨_, rfl⟩
  have b0 : Below w.heap.size w W0 := by rw [← hW0]; exact (Below.refl _ w).alloc (Nat.le_refl _) _
  have s0 : W0.heap.size = w.heap.size + 1 := by rw [← hW0]; simp
  have hx : W0.heap[w.heap.size]? = some (.cells #[.int .i64 9, .int .i64 ((n : Int) + 1), .string ⟨#[]⟩, .slice (some ⟨g, q, none⟩) 1 cap] 24 (0, 0)) := by rw [← hW0]; exact heap_alloc_new w _
  have HX : Hid (W0.heap[w.heap.size]? = some (.cells #[.int .i64 9, .int .i64 ((n : Int) + 1), .string ⟨#[]⟩, .slice (some ⟨g, q, none⟩) 1 cap] 24 (0, 0)) ∧ W0.heap.size = w.heap.size + 1 ∧ Below w.heap.size w W0) := ⟨hx, s0, b0⟩
  obtain ⟨y0, y1, y2, y3⟩ := four_box hx
  have cL := level_c 9 W0
  rw [show rl 9 = 14 by decide] at cL
  obtain ⟨T0, hT0⟩ : ∃ T : ByteArray, ⟨(pr (-1) a).toArray⟩ = T := ⟨_, rfl⟩
  have z0 : T0.size ≤ 100000000000 := by rw [← hT0, mk_size]; omega
  have HK0 : Hid (∀ W, Below w.heap.size w W → Calls Tryz.prog 23 #[.agg #[w00, w01, w02, w03]] W fun e w' => e = .returned (.string T0) ∧ Below W.heap.size W w') := fun W hW => by rw [← hT0]; exact hP _ a W ga ra (by omega) (in0.below hW)
  have HT0 : Hid ((⟨(pr (-1) a).toArray⟩ : ByteArray) = T0) := hT0
  have HD : Hid (w.cell? ⟨g, q, none⟩ = some w00 ∧ w.cell? ⟨g, q + 1, none⟩ = some w01 ∧ w.cell? ⟨g, q + 2, none⟩ = some w02 ∧ w.cell? ⟨g, q + 3, none⟩ = some w03) := ⟨d00, d01, d02, d03⟩
  clear d00 d01 d02 d03 in0 E0 hT0 hL hP hU
  clear hx b0 s0
  have en : IntKind.i64.wrap ((n : Int) + 1 - 1) = n := by rw [IntKind.wrap_i64]; omega
  have en2 : IntKind.i64.wrap (n : Int) = n := by rw [IntKind.wrap_i64]; omega
  have hn9 : (n : Int) < 8 := by omega
  go_enter Tryz.func23, Tryz.ntmps23
  go_wp2_with fail
  clear hW0
  refine cL.mono ?_
  rintro e W1 ⟨rfl, b1⟩
  have hb1 : Below w.heap.size w W1 := HX.out.2.2.trans (b1.mono (by have := HX.out.2.1; omega))
  clear y0 y1 y2 y3
  obtain ⟨y0, y1, y2, y3⟩ := four_box ((b1.block w.heap.size (by have := HX.out.2.1; omega)).trans HX.out.1)
  have HB1 : Hid (Below w.heap.size w W1 ∧ Below W0.heap.size W0 W1) := ⟨hb1, b1⟩
  obtain ⟨d00, d01, d02, d03⟩ := (⟨below_cell HD.out.1 hb1, below_cell HD.out.2.1 hb1, below_cell HD.out.2.2.1 hb1, below_cell HD.out.2.2.2 hb1⟩ : W1.cell? ⟨g, q, none⟩ = some w00 ∧ W1.cell? ⟨g, q + 1, none⟩ = some w01 ∧ W1.cell? ⟨g, q + 2, none⟩ = some w02 ∧ W1.cell? ⟨g, q + 3, none⟩ = some w03)
  clear b1 hb1 cL
  go_wp2_with fail
  refine wp_region_held_drew (S := fun w' => w'.cell? ⟨w.heap.size, 1, none⟩ = some (.int .i64 ((n : Int) + 1)) ∧ w'.cell? ⟨w.heap.size, 3, none⟩ = some (.slice (some ⟨g, q, none⟩) 1 cap) ∧ w'.cell? ⟨g, q, none⟩ = some w00 ∧ w'.cell? ⟨g, q + 1, none⟩ = some w01 ∧ w'.cell? ⟨g, q + 2, none⟩ = some w02 ∧ w'.cell? ⟨g, q + 3, none⟩ = some w03) (by kernel_rfl) (by exact ⟨y1, y3, d00, d01, d02, d03⟩) (fun hHeld => ?_)
  refine wpAnyH_take (i := 1) (v := ?_) rfl (by kernel_rfl) (by kernel_rfl) (by kernel_rfl) (fun _ _ _ h => h) (Or.inl ⟨by rfl, ?_⟩) (by assumption) ?_
  rotate_left 1
  · intro w hSw; (try dsimp only at hSw); go_simp; first | done | with_reducible rfl | (rw [if_neg (by omega)])
  try simp only [Act.put, List.getElem_toArray, List.getElem_cons_zero, List.getElem_cons_succ, List.setIfInBounds_toArray, List.set_cons_zero, List.set_cons_succ]
  refine wpAnyH_take (i := 2) (v := ?_) rfl (by kernel_rfl) (by kernel_rfl) (by kernel_rfl) (fun _ _ _ h => h) (Or.inl ⟨by rfl, ?_⟩) (by assumption) ?_
  rotate_left 1
  · intro w hSw; (try dsimp only at hSw); go_simp; first | done | with_reducible rfl | (rw [if_neg (by omega)])
  try simp only [Act.put, List.getElem_toArray, List.getElem_cons_zero, List.getElem_cons_succ, List.setIfInBounds_toArray, List.set_cons_zero, List.set_cons_succ]
  refine wpAnyH_take (i := 3) (v := ?_) rfl (by kernel_rfl) (by kernel_rfl) (by kernel_rfl) (fun _ _ _ h => h) (Or.inl ⟨by rfl, ?_⟩) (by assumption) ?_
  rotate_left 1
  · intro w hSw; (try dsimp only at hSw); go_simp; first | done | with_reducible rfl | (rw [if_neg (by omega)])
  try simp only [Act.put, List.getElem_toArray, List.getElem_cons_zero, List.getElem_cons_succ, List.setIfInBounds_toArray, List.set_cons_zero, List.set_cons_succ]
  refine wpAnyH_take (i := 7) (v := ?_) rfl (by kernel_rfl) (by kernel_rfl) (by kernel_rfl) (fun _ _ _ h => h) (Or.inl ⟨by rfl, ?_⟩) (by assumption) ?_
  rotate_left 1
  · intro w hSw; (try dsimp only at hSw); go_simp; first | done | with_reducible rfl | (rw [if_neg (by omega)])
  try simp only [Act.put, List.getElem_toArray, List.getElem_cons_zero, List.getElem_cons_succ, List.setIfInBounds_toArray, List.set_cons_zero, List.set_cons_succ]
  refine wpAnyH_take (i := 8) (v := ?_) rfl (by kernel_rfl) (by kernel_rfl) (by kernel_rfl) (fun _ _ _ h => h) (Or.inl ⟨by rfl, ?_⟩) (by assumption) ?_
  rotate_left 1
  · intro w hSw; (try dsimp only at hSw); go_simp; first | done | with_reducible rfl | (rw [if_neg (by omega)])
  try simp only [Act.put, List.getElem_toArray, List.getElem_cons_zero, List.getElem_cons_succ, List.setIfInBounds_toArray, List.set_cons_zero, List.set_cons_succ]
  refine wpAnyH_take (i := 9) (v := ?_) rfl (by kernel_rfl) (by kernel_rfl) (by kernel_rfl) (fun _ _ _ h => h) (Or.inl ⟨by rfl, ?_⟩) (by assumption) ?_
  rotate_left 1
  · intro w hSw; (try dsimp only at hSw); go_simp; first | done | with_reducible rfl | (rw [if_neg (by omega)])
  try simp only [Act.put, List.getElem_toArray, List.getElem_cons_zero, List.getElem_cons_succ, List.setIfInBounds_toArray, List.set_cons_zero, List.set_cons_succ]
  refine wpAnyH_take (i := 10) (v := ?_) rfl (by kernel_rfl) (by kernel_rfl) (by kernel_rfl) (fun _ _ _ h => h) (Or.inl ⟨by rfl, ?_⟩) (by assumption) ?_
  rotate_left 1
  · intro w hSw; (try dsimp only at hSw); go_simp; first | done | with_reducible rfl | (rw [if_neg (by omega)])
  try simp only [Act.put, List.getElem_toArray, List.getElem_cons_zero, List.getElem_cons_succ, List.setIfInBounds_toArray, List.set_cons_zero, List.set_cons_succ]
  refine wpAnyH_ready (rs := [0, 11]) (by kernel_rfl) (by simp) ?_
  refine AllReadyH.cons rfl (fun K hK => ?_) (AllReadyH.cons rfl (fun K hK => ?_) AllReadyH.nil)
  · go_simp
    obtain ⟨W2, hW2⟩ : ∃ W2, (W1.alloc (.cells #[.string ⟨#[108, 101, 110]⟩, .string ⟨#[115, 116, 114]⟩, .string ⟨#[105, 56]⟩, .string ⟨#[117, 56]⟩, .string ⟨#[105, 49, 54]⟩, .string ⟨#[117, 49, 54]⟩, .string ⟨#[105, 51, 50]⟩, .string ⟨#[117, 51, 50]⟩] 9)).drew = W2 := ⟨_, rfl⟩
    have aW2 : Below W1.heap.size W1 W2 := by rw [← hW2]; exact (((Below.refl _ W1).alloc (Nat.le_refl _) _).drew)
    have HB2 : Hid (Below w.heap.size w W2 ∧ Below W0.heap.size W0 W2) := ⟨HB1.out.1.trans (aW2.mono HB1.out.1.size), HB1.out.2.trans (aW2.mono HB1.out.2.size)⟩
    have zx : W2.cell? ⟨W1.heap.size, n, none⟩ = some (.string X) := by rw [← hW2, ← HXX.out]; exact (row_cell W1 n).trans (call_cell n hn8)
    rw [hW2]
    clear y0 y1 y2 y3 d00 d01 d02 d03
    obtain ⟨y0, y1, y2, y3⟩ := four_box ((HB2.out.2.block w.heap.size (by have := HX.out.2.1; omega)).trans HX.out.1)
    obtain ⟨d00, d01, d02, d03⟩ := (⟨below_cell HD.out.1 HB2.out.1, below_cell HD.out.2.1 HB2.out.1, below_cell HD.out.2.2.1 HB2.out.1, below_cell HD.out.2.2.2 HB2.out.1⟩ : W2.cell? ⟨g, q, none⟩ = some w00 ∧ W2.cell? ⟨g, q + 1, none⟩ = some w01 ∧ W2.cell? ⟨g, q + 2, none⟩ = some w02 ∧ W2.cell? ⟨g, q + 3, none⟩ = some w03)
    clear hW2 aW2
    refine hK.out _ _ (by exact ⟨y1, y3, d00, d01, d02, d03⟩) (fun hHeld => ?_)
    clear hK K
    try simp only [Act.put, List.getElem_toArray, List.getElem_cons_zero, List.getElem_cons_succ, List.setIfInBounds_toArray, List.set_cons_zero, List.set_cons_succ]
    refine wpAnyH_take (i := 4) (v := ?_) rfl (by kernel_rfl) (by kernel_rfl) (by kernel_rfl) (fun _ _ _ h => h) (Or.inl ⟨by rfl, ?_⟩) (by assumption) ?_
    rotate_left 1
    · intro w hSw; (try dsimp only at hSw); go_simp; first | done | with_reducible rfl | (rw [if_neg (by omega)])
    try simp only [Act.put, List.getElem_toArray, List.getElem_cons_zero, List.getElem_cons_succ, List.setIfInBounds_toArray, List.set_cons_zero, List.set_cons_succ]
    refine wpAnyH_ready (rs := [5, 11]) (by kernel_rfl) (by simp) ?_
    refine AllReadyH.cons rfl (fun K hK => ?_) (AllReadyH.cons rfl (fun K hK => ?_) AllReadyH.nil)
    · go_simp
      refine hK.out _ _ (by exact ⟨y1, y3, d00, d01, d02, d03⟩) (fun hHeld => ?_)
      clear hK K
      try simp only [Act.put, List.getElem_toArray, List.getElem_cons_zero, List.getElem_cons_succ, List.setIfInBounds_toArray, List.set_cons_zero, List.set_cons_succ]
      refine wpAnyH_take (i := 6) (v := ?_) rfl (by kernel_rfl) (by kernel_rfl) (by kernel_rfl) (fun _ _ _ h => h) (Or.inl ⟨by rfl, ?_⟩) (by assumption) ?_
      rotate_left 1
      · intro w hSw; (try dsimp only at hSw); go_simp; first | done | with_reducible rfl | (rw [if_neg (by omega)])
      try simp only [Act.put, List.getElem_toArray, List.getElem_cons_zero, List.getElem_cons_succ, List.setIfInBounds_toArray, List.set_cons_zero, List.set_cons_succ]
      refine wpAnyH_ready (rs := [11]) (by kernel_rfl) (by simp) ?_
      refine AllReadyH.cons rfl (fun K hK => ?_) AllReadyH.nil
      go_simp
      go_at_call 23
      refine (HK0.out _ (by exact HB2.out.1)).mono ?_
      rintro e W3 ⟨rfl, b3⟩
      have HB3 : Hid (Below w.heap.size w W3 ∧ Below W0.heap.size W0 W3) := ⟨HB2.out.1.trans (b3.mono HB2.out.1.size), HB2.out.2.trans (b3.mono HB2.out.2.size)⟩
      clear y0 y1 y2 y3 d00 d01 d02 d03 b3
      obtain ⟨y0, y1, y2, y3⟩ := four_box ((HB3.out.2.block w.heap.size (by have := HX.out.2.1; omega)).trans HX.out.1)
      obtain ⟨d00, d01, d02, d03⟩ := (⟨below_cell HD.out.1 HB3.out.1, below_cell HD.out.2.1 HB3.out.1, below_cell HD.out.2.2.1 HB3.out.1, below_cell HD.out.2.2.2 HB3.out.1⟩ : W3.cell? ⟨g, q, none⟩ = some w00 ∧ W3.cell? ⟨g, q + 1, none⟩ = some w01 ∧ W3.cell? ⟨g, q + 2, none⟩ = some w02 ∧ W3.cell? ⟨g, q + 3, none⟩ = some w03)
      refine hK.out _ _ (by exact ⟨y1, y3, d00, d01, d02, d03⟩) (fun hHeld => ?_)
      clear hK K
      try simp only [Act.put, List.getElem_toArray, List.getElem_cons_zero, List.getElem_cons_succ, List.setIfInBounds_toArray, List.set_cons_zero, List.set_cons_succ]
      refine wpAnyH_take (i := 12) (v := ?_) rfl (by kernel_rfl) (by kernel_rfl) (by kernel_rfl) (fun _ _ _ h => h) (Or.inl ⟨by rfl, ?_⟩) (by assumption) ?_
      rotate_left 1
      · intro w hSw; (try dsimp only at hSw); go_simp; first | done | with_reducible rfl | (rw [if_neg (by omega)])
      try simp only [Act.put, List.getElem_toArray, List.getElem_cons_zero, List.getElem_cons_succ, List.setIfInBounds_toArray, List.set_cons_zero, List.set_cons_succ]
      refine wpAnyH_take (i := 13) (v := ?_) rfl (by kernel_rfl) (by kernel_rfl) (by kernel_rfl) (fun _ _ _ h => h) (Or.inl ⟨by rfl, ?_⟩) (by assumption) ?_
      rotate_left 1
      · intro w hSw; (try dsimp only at hSw); go_simp; first | done | with_reducible rfl | (rw [if_neg (by omega)])
      try simp only [Act.put, List.getElem_toArray, List.getElem_cons_zero, List.getElem_cons_succ, List.setIfInBounds_toArray, List.set_cons_zero, List.set_cons_succ]
      refine wpAnyH_take (i := 14) (v := ?_) rfl (by kernel_rfl) (by kernel_rfl) (by kernel_rfl) (fun _ _ _ h => h) (Or.inl ⟨by rfl, ?_⟩) (by assumption) ?_
      rotate_left 1
      · intro w hSw; (try dsimp only at hSw); go_simp; first | done | with_reducible rfl | (rw [if_neg (by omega)])
      try simp only [Act.put, List.getElem_toArray, List.getElem_cons_zero, List.getElem_cons_succ, List.setIfInBounds_toArray, List.set_cons_zero, List.set_cons_succ]
      refine wpAnyH_done (by kernel_rfl) ?_ _
      clear hHeld
      go_wp2_with fail
      go_ret
      refine ⟨?_, HB3.out.1⟩
      refine congrArg (fun t => Ending.returned (Value.string t)) (?_ : X ++ ⟨#[40]⟩ ++ T0 ++ ⟨#[41]⟩ = _)
      rw [← HT0.out]
      apply ByteArray.ext
      simp
    · go_simp
      go_at_call 23
      refine (HK0.out _ (by exact HB2.out.1)).mono ?_
      rintro e W3 ⟨rfl, b3⟩
      have HB3 : Hid (Below w.heap.size w W3 ∧ Below W0.heap.size W0 W3) := ⟨HB2.out.1.trans (b3.mono HB2.out.1.size), HB2.out.2.trans (b3.mono HB2.out.2.size)⟩
      have zx := below_cell zx b3
      clear y0 y1 y2 y3 d00 d01 d02 d03 b3
      obtain ⟨y0, y1, y2, y3⟩ := four_box ((HB3.out.2.block w.heap.size (by have := HX.out.2.1; omega)).trans HX.out.1)
      obtain ⟨d00, d01, d02, d03⟩ := (⟨below_cell HD.out.1 HB3.out.1, below_cell HD.out.2.1 HB3.out.1, below_cell HD.out.2.2.1 HB3.out.1, below_cell HD.out.2.2.2 HB3.out.1⟩ : W3.cell? ⟨g, q, none⟩ = some w00 ∧ W3.cell? ⟨g, q + 1, none⟩ = some w01 ∧ W3.cell? ⟨g, q + 2, none⟩ = some w02 ∧ W3.cell? ⟨g, q + 3, none⟩ = some w03)
      refine hK.out _ _ (by exact ⟨y1, y3, d00, d01, d02, d03⟩) (fun hHeld => ?_)
      clear hK K
      try simp only [Act.put, List.getElem_toArray, List.getElem_cons_zero, List.getElem_cons_succ, List.setIfInBounds_toArray, List.set_cons_zero, List.set_cons_succ]
      refine wpAnyH_ready (rs := [5]) (by kernel_rfl) (by simp) ?_
      refine AllReadyH.cons rfl (fun K hK => ?_) AllReadyH.nil
      go_simp
      refine hK.out _ _ (by exact ⟨y1, y3, d00, d01, d02, d03⟩) (fun hHeld => ?_)
      clear hK K
      try simp only [Act.put, List.getElem_toArray, List.getElem_cons_zero, List.getElem_cons_succ, List.setIfInBounds_toArray, List.set_cons_zero, List.set_cons_succ]
      refine wpAnyH_take (i := 6) (v := ?_) rfl (by kernel_rfl) (by kernel_rfl) (by kernel_rfl) (fun _ _ _ h => h) (Or.inl ⟨by rfl, ?_⟩) (by assumption) ?_
      rotate_left 1
      · intro w hSw; (try dsimp only at hSw); go_simp; first | done | with_reducible rfl | (rw [if_neg (by omega)])
      try simp only [Act.put, List.getElem_toArray, List.getElem_cons_zero, List.getElem_cons_succ, List.setIfInBounds_toArray, List.set_cons_zero, List.set_cons_succ]
      refine wpAnyH_take (i := 12) (v := ?_) rfl (by kernel_rfl) (by kernel_rfl) (by kernel_rfl) (fun _ _ _ h => h) (Or.inl ⟨by rfl, ?_⟩) (by assumption) ?_
      rotate_left 1
      · intro w hSw; (try dsimp only at hSw); go_simp; first | done | with_reducible rfl | (rw [if_neg (by omega)])
      try simp only [Act.put, List.getElem_toArray, List.getElem_cons_zero, List.getElem_cons_succ, List.setIfInBounds_toArray, List.set_cons_zero, List.set_cons_succ]
      refine wpAnyH_take (i := 13) (v := ?_) rfl (by kernel_rfl) (by kernel_rfl) (by kernel_rfl) (fun _ _ _ h => h) (Or.inl ⟨by rfl, ?_⟩) (by assumption) ?_
      rotate_left 1
      · intro w hSw; (try dsimp only at hSw); go_simp; first | done | with_reducible rfl | (rw [if_neg (by omega)])
      try simp only [Act.put, List.getElem_toArray, List.getElem_cons_zero, List.getElem_cons_succ, List.setIfInBounds_toArray, List.set_cons_zero, List.set_cons_succ]
      refine wpAnyH_take (i := 14) (v := ?_) rfl (by kernel_rfl) (by kernel_rfl) (by kernel_rfl) (fun _ _ _ h => h) (Or.inl ⟨by rfl, ?_⟩) (by assumption) ?_
      rotate_left 1
      · intro w hSw; (try dsimp only at hSw); go_simp; first | done | with_reducible rfl | (rw [if_neg (by omega)])
      try simp only [Act.put, List.getElem_toArray, List.getElem_cons_zero, List.getElem_cons_succ, List.setIfInBounds_toArray, List.set_cons_zero, List.set_cons_succ]
      refine wpAnyH_done (by kernel_rfl) ?_ _
      clear hHeld
      go_wp2_with fail
      go_ret
      refine ⟨?_, HB3.out.1⟩
      refine congrArg (fun t => Ending.returned (Value.string t)) (?_ : X ++ ⟨#[40]⟩ ++ T0 ++ ⟨#[41]⟩ = _)
      rw [← HT0.out]
      apply ByteArray.ext
      simp
  · go_simp
    go_at_call 23
    refine (HK0.out _ (by exact HB1.out.1.drew)).mono ?_
    rintro e W2 ⟨rfl, b2⟩
    have HB2 : Hid (Below w.heap.size w W2 ∧ Below W0.heap.size W0 W2) := ⟨HB1.out.1.drew.trans (b2.mono HB1.out.1.size), HB1.out.2.drew.trans (b2.mono HB1.out.2.size)⟩
    clear y0 y1 y2 y3 d00 d01 d02 d03 b2
    obtain ⟨y0, y1, y2, y3⟩ := four_box ((HB2.out.2.block w.heap.size (by have := HX.out.2.1; omega)).trans HX.out.1)
    obtain ⟨d00, d01, d02, d03⟩ := (⟨below_cell HD.out.1 HB2.out.1, below_cell HD.out.2.1 HB2.out.1, below_cell HD.out.2.2.1 HB2.out.1, below_cell HD.out.2.2.2 HB2.out.1⟩ : W2.cell? ⟨g, q, none⟩ = some w00 ∧ W2.cell? ⟨g, q + 1, none⟩ = some w01 ∧ W2.cell? ⟨g, q + 2, none⟩ = some w02 ∧ W2.cell? ⟨g, q + 3, none⟩ = some w03)
    refine hK.out _ _ (by exact ⟨y1, y3, d00, d01, d02, d03⟩) (fun hHeld => ?_)
    clear hK K
    try simp only [Act.put, List.getElem_toArray, List.getElem_cons_zero, List.getElem_cons_succ, List.setIfInBounds_toArray, List.set_cons_zero, List.set_cons_succ]
    refine wpAnyH_ready (rs := [0]) (by kernel_rfl) (by simp) ?_
    refine AllReadyH.cons rfl (fun K hK => ?_) AllReadyH.nil
    go_simp
    obtain ⟨W3, hW3⟩ : ∃ W3, (W2.alloc (.cells #[.string ⟨#[108, 101, 110]⟩, .string ⟨#[115, 116, 114]⟩, .string ⟨#[105, 56]⟩, .string ⟨#[117, 56]⟩, .string ⟨#[105, 49, 54]⟩, .string ⟨#[117, 49, 54]⟩, .string ⟨#[105, 51, 50]⟩, .string ⟨#[117, 51, 50]⟩] 9)) = W3 := ⟨_, rfl⟩
    have aW3 : Below W2.heap.size W2 W3 := by rw [← hW3]; exact (((Below.refl _ W2).alloc (Nat.le_refl _) _))
    have HB3 : Hid (Below w.heap.size w W3 ∧ Below W0.heap.size W0 W3) := ⟨HB2.out.1.trans (aW3.mono HB2.out.1.size), HB2.out.2.trans (aW3.mono HB2.out.2.size)⟩
    have zx : W3.cell? ⟨W2.heap.size, n, none⟩ = some (.string X) := by rw [← hW3, ← HXX.out]; exact (row_cell W2 n).trans (call_cell n hn8)
    rw [hW3]
    clear y0 y1 y2 y3 d00 d01 d02 d03
    obtain ⟨y0, y1, y2, y3⟩ := four_box ((HB3.out.2.block w.heap.size (by have := HX.out.2.1; omega)).trans HX.out.1)
    obtain ⟨d00, d01, d02, d03⟩ := (⟨below_cell HD.out.1 HB3.out.1, below_cell HD.out.2.1 HB3.out.1, below_cell HD.out.2.2.1 HB3.out.1, below_cell HD.out.2.2.2 HB3.out.1⟩ : W3.cell? ⟨g, q, none⟩ = some w00 ∧ W3.cell? ⟨g, q + 1, none⟩ = some w01 ∧ W3.cell? ⟨g, q + 2, none⟩ = some w02 ∧ W3.cell? ⟨g, q + 3, none⟩ = some w03)
    clear hW3 aW3
    refine hK.out _ _ (by exact ⟨y1, y3, d00, d01, d02, d03⟩) (fun hHeld => ?_)
    clear hK K
    try simp only [Act.put, List.getElem_toArray, List.getElem_cons_zero, List.getElem_cons_succ, List.setIfInBounds_toArray, List.set_cons_zero, List.set_cons_succ]
    refine wpAnyH_take (i := 4) (v := ?_) rfl (by kernel_rfl) (by kernel_rfl) (by kernel_rfl) (fun _ _ _ h => h) (Or.inl ⟨by rfl, ?_⟩) (by assumption) ?_
    rotate_left 1
    · intro w hSw; (try dsimp only at hSw); go_simp; first | done | with_reducible rfl | (rw [if_neg (by omega)])
    try simp only [Act.put, List.getElem_toArray, List.getElem_cons_zero, List.getElem_cons_succ, List.setIfInBounds_toArray, List.set_cons_zero, List.set_cons_succ]
    refine wpAnyH_ready (rs := [5]) (by kernel_rfl) (by simp) ?_
    refine AllReadyH.cons rfl (fun K hK => ?_) AllReadyH.nil
    go_simp
    refine hK.out _ _ (by exact ⟨y1, y3, d00, d01, d02, d03⟩) (fun hHeld => ?_)
    clear hK K
    try simp only [Act.put, List.getElem_toArray, List.getElem_cons_zero, List.getElem_cons_succ, List.setIfInBounds_toArray, List.set_cons_zero, List.set_cons_succ]
    refine wpAnyH_take (i := 6) (v := ?_) rfl (by kernel_rfl) (by kernel_rfl) (by kernel_rfl) (fun _ _ _ h => h) (Or.inl ⟨by rfl, ?_⟩) (by assumption) ?_
    rotate_left 1
    · intro w hSw; (try dsimp only at hSw); go_simp; first | done | with_reducible rfl | (rw [if_neg (by omega)])
    try simp only [Act.put, List.getElem_toArray, List.getElem_cons_zero, List.getElem_cons_succ, List.setIfInBounds_toArray, List.set_cons_zero, List.set_cons_succ]
    refine wpAnyH_take (i := 12) (v := ?_) rfl (by kernel_rfl) (by kernel_rfl) (by kernel_rfl) (fun _ _ _ h => h) (Or.inl ⟨by rfl, ?_⟩) (by assumption) ?_
    rotate_left 1
    · intro w hSw; (try dsimp only at hSw); go_simp; first | done | with_reducible rfl | (rw [if_neg (by omega)])
    try simp only [Act.put, List.getElem_toArray, List.getElem_cons_zero, List.getElem_cons_succ, List.setIfInBounds_toArray, List.set_cons_zero, List.set_cons_succ]
    refine wpAnyH_take (i := 13) (v := ?_) rfl (by kernel_rfl) (by kernel_rfl) (by kernel_rfl) (fun _ _ _ h => h) (Or.inl ⟨by rfl, ?_⟩) (by assumption) ?_
    rotate_left 1
    · intro w hSw; (try dsimp only at hSw); go_simp; first | done | with_reducible rfl | (rw [if_neg (by omega)])
    try simp only [Act.put, List.getElem_toArray, List.getElem_cons_zero, List.getElem_cons_succ, List.setIfInBounds_toArray, List.set_cons_zero, List.set_cons_succ]
    refine wpAnyH_take (i := 14) (v := ?_) rfl (by kernel_rfl) (by kernel_rfl) (by kernel_rfl) (fun _ _ _ h => h) (Or.inl ⟨by rfl, ?_⟩) (by assumption) ?_
    rotate_left 1
    · intro w hSw; (try dsimp only at hSw); go_simp; first | done | with_reducible rfl | (rw [if_neg (by omega)])
    try simp only [Act.put, List.getElem_toArray, List.getElem_cons_zero, List.getElem_cons_succ, List.setIfInBounds_toArray, List.set_cons_zero, List.set_cons_succ]
    refine wpAnyH_done (by kernel_rfl) ?_ _
    clear hHeld
    go_wp2_with fail
    go_ret
    refine ⟨?_, HB3.out.1⟩
    refine congrArg (fun t => Ending.returned (Value.string t)) (?_ : X ++ ⟨#[40]⟩ ++ T0 ++ ⟨#[41]⟩ = _)
    rw [← HT0.out]
    apply ByteArray.ext
    simp
end Go.Proofs.YtnoohlmlpijhaaaGreatDoor.QPc
namespace Go.Proofs.YtnoohlmlpijhaaaGreatDoor.QPo
open Go.RowKit Go.Proofs.YtnoohlmlpijhaaaGreatDoor.UBase Go.Proofs.YtnoohlmlpijhaaaGreatDoor.EPure Go.Proofs.YtnoohlmlpijhaaaGreatDoor.PPl Go.Proofs.YtnoohlmlpijhaaaGreatDoor.PFit Go.Proofs.YtnoohlmlpijhaaaGreatDoor.PTx Go.Proofs.YtnoohlmlpijhaaaGreatDoor.ENd Go.Proofs.YtnoohlmlpijhaaaGreatDoor.ERg Go.Proofs.YtnoohlmlpijhaaaGreatDoor.QLv Go.Proofs.YtnoohlmlpijhaaaGreatDoor.EBk Go.Proofs.YtnoohlmlpijhaaaGreatDoor.QPd
open Go.Proofs.YtnoohlmlpijhaaaGreatDoor.XBase (In InL in_iff LAt Four elem_at four_below four_box)
open Go.Proofs.YtnoohlmlpijhaaaGreatDoor.Base (nx All heap_alloc_new below_cell)
open Go.Proofs.YtnoohlmlpijhaaaGreatDoor.PPr (pr gd gdL gdL_cons gd_range)
set_option linter.unusedVariables false
theorem spot : ∀ o : Fin 31, 12 ≤ o.1 → ∃ k, k < 11 ∧ lvl (o.1 : Nat) = (k : Nat) ∧ ∃ p, p < nb k ∧ (∀ i, i < nb k → (tb k i = (o.1 : Nat) ↔ i = p)) ∧ ((lvs.getD k []).getD p ([], 0)).1 = sgo (o.1 : Nat) := by decide +kernel
theorem spot_of {o : Int} (h1 : 12 ≤ o) (h2 : o ≤ 30) : ∃ k, k < 11 ∧ lvl o = (k : Nat) ∧ ∃ p, p < nb k ∧ (∀ i, i < nb k → (tb k i = o ↔ i = p)) ∧ ((lvs.getD k []).getD p ([], 0)).1 = sgo o := by
  have := spot ⟨o.toNat, by omega⟩ (by simp; omega)
  simp only [show ((o.toNat : Nat) : Int) = o by omega] at this
  exact this
theorem rl_op {o : Int} (h1 : 12 ≤ o) (h2 : o ≤ 30) : rl o = lvl o + 1 := by unfold rl; rw [if_pos ⟨h1, h2⟩]
set_option maxRecDepth 20000 in
set_option maxHeartbeats 3200000 in
theorem pop {m : Nat} (hP : Pr m) (hU : Un m) {o : Int} (o1 : 12 ≤ o) (o2 : o ≤ 30) {a b : Ex} (ga : gd a) (ra : rgL [a]) (gb : gd b) (rb : rgL [b]) {w : World} {v : Value} (hlen0 : (pr (-1) (nd o [a, b])).length ≤ 100000000000) (h : In false All w (m + 1) v (nd o [a, b])) :
    Calls Tryz.prog 23 #[v] w fun e w' => e = .returned (.string ⟨(pr (-1) (nd o [a, b])).toArray⟩) ∧ Below w.heap.size w w' := by
  obtain ⟨k, hk11, hlv, p, hp, hpi, hsg⟩ := spot_of o1 o2
  rw [tx_op o1 o2] at hlen0 ⊢
  simp only [List.length_append, List.length_cons, List.length_nil] at hlen0
  have hnb := nb_le k hk11
  have hsl := PLen.sgo_len o
  rw [hlv] at hlen0 ⊢
  unfold nd at h
  rw [in_iff] at h
  obtain ⟨lv, rfl, ho, hi, hs, a1, cap, rfl, hl, hcap, hlen, ha, hL⟩ := h
  obtain ⟨g0, q0, u0, E0, -, hu0, in0⟩ := elem_at hL (q := 0) (by simp)
  obtain ⟨g, q, hgq⟩ : ∃ g q, a1 = some ⟨g, q, none⟩ := ⟨g0, q0, E0⟩
  subst hgq
  obtain ⟨rfl, rfl⟩ : g = g0 ∧ q = q0 := by cases E0; exact ⟨rfl, rfl⟩
  obtain ⟨w00, w01, w02, w03, rfl, d00, d01, d02, d03⟩ := hu0
  have in0 : In false All w m (.agg #[w00, w01, w02, w03]) a := in0
  obtain ⟨g1, q1, u1, E1, -, hu1, in1⟩ := elem_at hL (q := 1) (by simp)
  obtain ⟨rfl, rfl⟩ : g = g1 ∧ q = q1 := by cases E1; exact ⟨rfl, rfl⟩
  obtain ⟨w10, w11, w12, w13, rfl, d10, d11, d12, d13⟩ := hu1
  have in1 : In false All w m (.agg #[w10, w11, w12, w13]) b := in1
  simp only [List.length_cons, List.length_nil, Nat.zero_add, Nat.reduceAdd, Nat.zero_mul, Nat.one_mul, Nat.reduceMul, Nat.add_zero] at hl hlen d00 d01 d02 d03 d10 d11 d12 d13 ⊢
  obtain ⟨W0, hW0⟩ : ∃ W0, w.alloc (.cells #[.int .i64 o, .int .i64 0, .string ⟨#[]⟩, .slice (some ⟨g, q, none⟩) 2 cap] 24) = W0 := ⟨_, rfl⟩
  have b0 : Below w.heap.size w W0 := by rw [← hW0]; exact (Below.refl _ w).alloc (Nat.le_refl _) _
  have s0 : W0.heap.size = w.heap.size + 1 := by rw [← hW0]; simp
  have hx : W0.heap[w.heap.size]? = some (.cells #[.int .i64 o, .int .i64 0, .string ⟨#[]⟩, .slice (some ⟨g, q, none⟩) 2 cap] 24 (0, 0)) := by rw [← hW0]; exact heap_alloc_new w _
  have HX : Hid (W0.heap[w.heap.size]? = some (.cells #[.int .i64 o, .int .i64 0, .string ⟨#[]⟩, .slice (some ⟨g, q, none⟩) 2 cap] 24 (0, 0)) ∧ W0.heap.size = w.heap.size + 1 ∧ Below w.heap.size w W0) := ⟨hx, s0, b0⟩
  obtain ⟨y0, y1, y2, y3⟩ := four_box hx
  have cL := level_c o W0
  rw [rl_op o1 o2, hlv] at cL
  obtain ⟨T0, hT0⟩ : ∃ T : ByteArray, ⟨(pr ((k : Nat)) a).toArray⟩ = T := ⟨_, rfl⟩
  have z0 : T0.size ≤ 100000000000 := by rw [← hT0, mk_size]; omega
  have HK0 : Hid (∀ W, Below w.heap.size w W → Calls Tryz.prog 44 #[.agg #[w00, w01, w02, w03], .int .i64 ((k : Nat) + 1)] W fun e w' => e = .returned (.string T0) ∧ Below W.heap.size W w') := fun W hW => by rw [← hT0]; exact hU _ a ((k : Nat)) W ga ra (by omega) (by omega) (by omega) (in0.below hW)
  have HT0 : Hid ((⟨(pr ((k : Nat)) a).toArray⟩ : ByteArray) = T0) := hT0
  obtain ⟨T1, hT1⟩ : ∃ T : ByteArray, ⟨(pr (((k : Nat) : Int) + 1) b).toArray⟩ = T := ⟨_, rfl⟩
  have z1 : T1.size ≤ 100000000000 := by rw [← hT1, mk_size]; omega
  have HK1 : Hid (∀ W, Below w.heap.size w W → Calls Tryz.prog 44 #[.agg #[w10, w11, w12, w13], .int .i64 (((k : Nat) : Int) + 1 + 1)] W fun e w' => e = .returned (.string T1) ∧ Below W.heap.size W w') := fun W hW => by rw [← hT1]; exact hU _ b (((k : Nat) : Int) + 1) W gb rb (by omega) (by omega) (by omega) (in1.below hW)
  have HT1 : Hid ((⟨(pr (((k : Nat) : Int) + 1) b).toArray⟩ : ByteArray) = T1) := hT1
  have HD : Hid (w.cell? ⟨g, q, none⟩ = some w00 ∧ w.cell? ⟨g, q + 1, none⟩ = some w01 ∧ w.cell? ⟨g, q + 2, none⟩ = some w02 ∧ w.cell? ⟨g, q + 3, none⟩ = some w03 ∧ w.cell? ⟨g, q + 4, none⟩ = some w10 ∧ w.cell? ⟨g, q + 5, none⟩ = some w11 ∧ w.cell? ⟨g, q + 6, none⟩ = some w12 ∧ w.cell? ⟨g, q + 7, none⟩ = some w13) := ⟨d00, d01, d02, d03, d10, d11, d12, d13⟩
  clear d00 d01 d02 d03 in0 E0 hT0 d10 d11 d12 d13 in1 E1 hT1 hL hP hU
  clear hx b0 s0
  obtain ⟨M, hM⟩ : ∃ M : ByteArray, ⟨(sgo o).toArray⟩ = M := ⟨_, rfl⟩
  have hMs : M.size ≤ 2 := by rw [← hM, mk_size]; exact hsl
  have HM : Hid ((⟨(sgo o).toArray⟩ : ByteArray) = M) := hM
  have HS : Hid ((⟨((lvs.getD k []).getD p ([], 0)).1.toArray⟩ : ByteArray) = M) := by show _ = _; rw [hsg]; exact hM
  have HPI : Hid (∀ i, i < nb k → (tb k i = o ↔ i = p)) := hpi
  obtain ⟨n, hn⟩ : ∃ n, nb k = n := ⟨_, rfl⟩
  have HN : Hid (nb k = n) := hn
  rw [hn] at hp hnb
  have e1 : decide ((1 : Int) ≤ (k : Int) + 1) = true := by simp; omega
  have e2 : decide ((k : Int) + 1 ≤ 11) = true := by simp; omega
  have e3 : IntKind.i64.wrap ((k : Int) + 1 - 1) = k := by rw [IntKind.wrap_i64]; omega
  have e4 : IntKind.i64.wrap (k : Int) = k := by rw [IntKind.wrap_i64]; omega
  have e5 : (k : Int) < 11 := by omega
  have e6 : IntKind.i64.wrap ((k : Int) + 1 + 1) = (k : Int) + 1 + 1 := by rw [IntKind.wrap_i64]; omega
  clear hM hsg hpi hn hlv o1 o2
  go_enter Tryz.func23, Tryz.ntmps23
  go_wp2_with fail
  clear hW0
  refine cL.mono ?_
  rintro e W1 ⟨rfl, b1⟩
  have hb1 : Below w.heap.size w W1 := HX.out.2.2.trans (b1.mono (by have := HX.out.2.1; omega))
  clear y0 y1 y2 y3
  obtain ⟨y0, y1, y2, y3⟩ := four_box ((b1.block w.heap.size (by have := HX.out.2.1; omega)).trans HX.out.1)
  have HB1 : Hid (Below w.heap.size w W1 ∧ Below W0.heap.size W0 W1) := ⟨hb1, b1⟩
  clear b1 hb1 cL
  go_wp2_with fail
  go_loopw [4, 5] (fun mk iv wr => ∃ j : Nat, iv = .int .i64 j ∧ j ≤ n ∧ mk = .string (if p < j then M else ⟨#[]⟩) ∧ Below W0.heap.size W0 wr) (fun _ iv _ => n - (intOf iv).toNat)
  case atStart => exact ⟨0, rfl, by omega, by rw [if_neg (by omega)], HB1.out.2⟩
  case round =>
    obtain ⟨j, rfl, hj, rfl, hb⟩ := hrel
    clear HB1 y0 y1 y2 y3
    obtain ⟨mk, hmk⟩ : ∃ mk, (if p < j then M else (⟨#[]⟩ : ByteArray)) = mk := ⟨_, rfl⟩
    have HMK : Hid ((if p < j then M else (⟨#[]⟩ : ByteArray)) = mk) := hmk
    rw [hmk]
    have HBr : Hid (Below w.heap.size w wr ∧ Below W0.heap.size W0 wr) := ⟨HX.out.2.2.trans (hb.mono (by have := HX.out.2.1; omega)), hb⟩
    clear hb hmk
    go_wp2_with fail
    refine (ops_c _).mono ?_
    rintro e W2 ⟨b2, g2, rfl, hot⟩
    obtain ⟨bk, c1, -⟩ := hot k hk11
    rw [HN.out] at c1
    have HB2 : Hid (Below w.heap.size w W2 ∧ Below W0.heap.size W0 W2) := ⟨HBr.out.1.trans (b2.mono HBr.out.1.size), HBr.out.2.trans (b2.mono HBr.out.2.size)⟩
    obtain ⟨y0, y1, y2, y3⟩ := four_box ((HB2.out.2.block w.heap.size (by have := HX.out.2.1; omega)).trans HX.out.1)
    clear b2 hot HBr
    by_cases hjn : j < n
    · have d : decide ((j : Int) < (n : Int)) = true := by simp; omega
      have hjn' : (j : Int) < (n : Int) := by omega
      obtain ⟨tv, htv⟩ : ∃ tv, tb k j = tv := ⟨_, rfl⟩
      have HTV : Hid (tb k j = tv) := htv
      have hiff := HPI.out j (by rw [HN.out]; exact hjn)
      rw [htv] at hiff
      clear htv
      go_wp2_with fail
      clear c1
      refine wp_region_held_drew (S := fun w' => w'.cell? ⟨w.heap.size, 0, none⟩ = some (.int .i64 o)) (by kernel_rfl) (by exact y0) (fun hHeld => ?_)
      refine wpAnyH_take (i := 1) (v := ?_) rfl (by kernel_rfl) (by kernel_rfl) (by kernel_rfl) (fun _ _ _ h => h) (Or.inl ⟨by rfl, ?_⟩) (by assumption) ?_
      rotate_left 1
      · intro w hSw; (try dsimp only at hSw); go_simp; first | done | with_reducible rfl | (rw [if_neg (by omega)])
      try simp only [Act.put, List.getElem_toArray, List.getElem_cons_zero, List.getElem_cons_succ, List.setIfInBounds_toArray, List.set_cons_zero, List.set_cons_succ]
      refine wpAnyH_take (i := 2) (v := ?_) rfl (by kernel_rfl) (by kernel_rfl) (by kernel_rfl) (fun _ _ _ h => h) (Or.inl ⟨by rfl, ?_⟩) (by assumption) ?_
      rotate_left 1
      · intro w hSw; (try dsimp only at hSw); go_simp; first | done | with_reducible rfl | (rw [if_neg (by omega)])
      try simp only [Act.put, List.getElem_toArray, List.getElem_cons_zero, List.getElem_cons_succ, List.setIfInBounds_toArray, List.set_cons_zero, List.set_cons_succ]
      refine wpAnyH_take (i := 5) (v := ?_) rfl (by kernel_rfl) (by kernel_rfl) (by kernel_rfl) (fun _ _ _ h => h) (Or.inl ⟨by rfl, ?_⟩) (by assumption) ?_
      rotate_left 1
      · intro w hSw; (try dsimp only at hSw); go_simp; first | done | with_reducible rfl | (rw [if_neg (by omega)])
      try simp only [Act.put, List.getElem_toArray, List.getElem_cons_zero, List.getElem_cons_succ, List.setIfInBounds_toArray, List.set_cons_zero, List.set_cons_succ]
      refine wpAnyH_take (i := 8) (v := ?_) rfl (by kernel_rfl) (by kernel_rfl) (by kernel_rfl) (fun _ _ _ h => h) (Or.inl ⟨by rfl, ?_⟩) (by assumption) ?_
      rotate_left 1
      · intro w hSw; (try dsimp only at hSw); go_simp; first | done | with_reducible rfl | (rw [if_neg (by omega)])
      try simp only [Act.put, List.getElem_toArray, List.getElem_cons_zero, List.getElem_cons_succ, List.setIfInBounds_toArray, List.set_cons_zero, List.set_cons_succ]
      refine wpAnyH_take (i := 9) (v := ?_) rfl (by kernel_rfl) (by kernel_rfl) (by kernel_rfl) (fun _ _ _ h => h) (Or.inl ⟨by rfl, ?_⟩) (by assumption) ?_
      rotate_left 1
      · intro w hSw; (try dsimp only at hSw); go_simp; first | done | with_reducible rfl | (rw [if_neg (by omega)])
      try simp only [Act.put, List.getElem_toArray, List.getElem_cons_zero, List.getElem_cons_succ, List.setIfInBounds_toArray, List.set_cons_zero, List.set_cons_succ]
      refine wpAnyH_ready (rs := [0]) (by kernel_rfl) (by simp) ?_
      refine AllReadyH.cons rfl (fun K hK => ?_) AllReadyH.nil
      go_simp
      go_at_call 42
      refine (ops_c _).mono ?_
      rintro e W3 ⟨b3, g3, rfl, hot⟩
      obtain ⟨bk3, c1, c2⟩ := hot k hk11
      have c3 := c2 j (by rw [HN.out]; exact hjn)
      rw [HN.out] at c1
      rw [HTV.out] at c3
      have HB3 : Hid (Below w.heap.size w W3 ∧ Below W0.heap.size W0 W3) := ⟨HB2.out.1.drew.trans (b3.mono HB2.out.1.size), HB2.out.2.drew.trans (b3.mono HB2.out.2.size)⟩
      clear y0 y1 y2 y3 b3 hot c2
      obtain ⟨y0, y1, y2, y3⟩ := four_box ((HB3.out.2.block w.heap.size (by have := HX.out.2.1; omega)).trans HX.out.1)
      refine hK.out _ _ (by exact y0) (fun hHeld => ?_)
      clear hK K
      try simp only [Act.put, List.getElem_toArray, List.getElem_cons_zero, List.getElem_cons_succ, List.setIfInBounds_toArray, List.set_cons_zero, List.set_cons_succ]
      refine wpAnyH_take (i := 3) (v := ?_) rfl (by kernel_rfl) (by kernel_rfl) (by kernel_rfl) (fun _ _ _ h => h) (Or.inl ⟨by rfl, ?_⟩) (by assumption) ?_
      rotate_left 1
      · intro w hSw; (try dsimp only at hSw); go_simp; first | done | with_reducible rfl | (rw [if_neg (by omega)])
      try simp only [Act.put, List.getElem_toArray, List.getElem_cons_zero, List.getElem_cons_succ, List.setIfInBounds_toArray, List.set_cons_zero, List.set_cons_succ]
      refine wpAnyH_ready (rs := [4]) (by kernel_rfl) (by simp) ?_
      refine AllReadyH.cons rfl (fun K hK => ?_) AllReadyH.nil
      go_simp
      refine hK.out _ _ (by exact y0) (fun hHeld => ?_)
      clear hK K
      try simp only [Act.put, List.getElem_toArray, List.getElem_cons_zero, List.getElem_cons_succ, List.setIfInBounds_toArray, List.set_cons_zero, List.set_cons_succ]
      refine wpAnyH_take (i := 6) (v := ?_) rfl (by kernel_rfl) (by kernel_rfl) (by kernel_rfl) (fun _ _ _ h => h) (Or.inl ⟨by rfl, ?_⟩) (by assumption) ?_
      rotate_left 1
      · intro w hSw; (try dsimp only at hSw); go_simp; first | done | with_reducible rfl | (rw [if_neg (by omega)])
      try simp only [Act.put, List.getElem_toArray, List.getElem_cons_zero, List.getElem_cons_succ, List.setIfInBounds_toArray, List.set_cons_zero, List.set_cons_succ]
      refine wpAnyH_ready (rs := [7]) (by kernel_rfl) (by simp) ?_
      refine AllReadyH.cons rfl (fun K hK => ?_) AllReadyH.nil
      go_simp
      refine hK.out _ _ (by exact y0) (fun hHeld => ?_)
      clear hK K
      try simp only [Act.put, List.getElem_toArray, List.getElem_cons_zero, List.getElem_cons_succ, List.setIfInBounds_toArray, List.set_cons_zero, List.set_cons_succ]
      refine wpAnyH_take (i := 10) (v := ?_) rfl (by kernel_rfl) (by kernel_rfl) (by kernel_rfl) (fun _ _ _ h => h) (Or.inl ⟨by rfl, ?_⟩) (by assumption) ?_
      rotate_left 1
      · intro w hSw; (try dsimp only at hSw); go_simp; first | done | with_reducible rfl | (rw [if_neg (by omega)])
      try simp only [Act.put, List.getElem_toArray, List.getElem_cons_zero, List.getElem_cons_succ, List.setIfInBounds_toArray, List.set_cons_zero, List.set_cons_succ]
      refine wpAnyH_done (by kernel_rfl) ?_ _
      clear hHeld
      by_cases hjp : j = p
      · have eo : (tv == o) = true := by simp [hiff.2 hjp]
        clear hiff c1 c3 y0 y1 y2 y3
        go_wp2_with fail
        refine (ELv2.levels_c _).mono ?_
        rintro e W4 ⟨b4, g4, rfl, hlt⟩
        obtain ⟨bk4, l1, l2⟩ := hlt k hk11
        have hn' : (lvs.getD k []).length = n := HN.out
        have l3 := l2 j (by rw [hn']; exact hjn)
        rw [hn'] at l1
        rw [hjp, HS.out, ← hjp] at l3
        have HB4 : Hid (Below W0.heap.size W0 W4) := HB3.out.2.trans (b4.mono HB3.out.2.size)
        have HMK2 : Hid ((if p < j + 1 then M else (⟨#[]⟩ : ByteArray)) = M) := by show _ = _; rw [if_pos (by omega)]
        clear hlt l2 b4 hjp
        go_wp2_with fail
        go_roundw
        case rel => exact ⟨j + 1, by go_num, by omega, by rw [HMK2.out], HB4.out⟩
        case measure => simp only [intOf]; omega
      · have eo : (tv == o) = false := by simp only [beq_eq_false_iff_ne]; exact fun e => hjp (hiff.1 e)
        have HMK2 : Hid ((if p < j + 1 then M else (⟨#[]⟩ : ByteArray)) = mk) := by
          show _ = _
          rw [← HMK.out]
          by_cases h : p < j
          · rw [if_pos h, if_pos (by omega)]
          · rw [if_neg h, if_neg (by omega)]
        clear hiff c1 c3 y0 y1 y2 y3 hjp
        go_wp2_with fail
        go_roundw
        case rel => exact ⟨j + 1, by go_num, by omega, by rw [HMK2.out], HB3.out.2⟩
        case measure => simp only [intOf]; omega
    · have d : decide ((j : Int) < (n : Int)) = false := by simp; omega
      obtain rfl : M = mk := by have := HMK.out; rw [if_pos (by omega)] at this; exact this
      obtain ⟨d00, d01, d02, d03, d10, d11, d12, d13⟩ := (⟨below_cell HD.out.1 HB2.out.1, below_cell HD.out.2.1 HB2.out.1, below_cell HD.out.2.2.1 HB2.out.1, below_cell HD.out.2.2.2.1 HB2.out.1, below_cell HD.out.2.2.2.2.1 HB2.out.1, below_cell HD.out.2.2.2.2.2.1 HB2.out.1, below_cell HD.out.2.2.2.2.2.2.1 HB2.out.1, below_cell HD.out.2.2.2.2.2.2.2 HB2.out.1⟩ : W2.cell? ⟨g, q, none⟩ = some w00 ∧ W2.cell? ⟨g, q + 1, none⟩ = some w01 ∧ W2.cell? ⟨g, q + 2, none⟩ = some w02 ∧ W2.cell? ⟨g, q + 3, none⟩ = some w03 ∧ W2.cell? ⟨g, q + 4, none⟩ = some w10 ∧ W2.cell? ⟨g, q + 5, none⟩ = some w11 ∧ W2.cell? ⟨g, q + 6, none⟩ = some w12 ∧ W2.cell? ⟨g, q + 7, none⟩ = some w13)
      go_wp2_with fail
      clear c1
      refine wp_region_held_drew (S := fun w' => w'.cell? ⟨w.heap.size, 3, none⟩ = some (.slice (some ⟨g, q, none⟩) 2 cap) ∧ w'.cell? ⟨g, q, none⟩ = some w00 ∧ w'.cell? ⟨g, q + 1, none⟩ = some w01 ∧ w'.cell? ⟨g, q + 2, none⟩ = some w02 ∧ w'.cell? ⟨g, q + 3, none⟩ = some w03 ∧ w'.cell? ⟨g, q + 4, none⟩ = some w10 ∧ w'.cell? ⟨g, q + 5, none⟩ = some w11 ∧ w'.cell? ⟨g, q + 6, none⟩ = some w12 ∧ w'.cell? ⟨g, q + 7, none⟩ = some w13) (by kernel_rfl) (by exact ⟨y3, d00, d01, d02, d03, d10, d11, d12, d13⟩) (fun hHeld => ?_)
      refine wpAnyH_take (i := 0) (v := ?_) rfl (by kernel_rfl) (by kernel_rfl) (by kernel_rfl) (fun _ _ _ h => h) (Or.inl ⟨by rfl, ?_⟩) (by assumption) ?_
      rotate_left 1
      · intro w hSw; (try dsimp only at hSw); go_simp; first | done | with_reducible rfl | (rw [if_neg (by omega)])
      try simp only [Act.put, List.getElem_toArray, List.getElem_cons_zero, List.setIfInBounds_toArray, List.set_cons_zero, List.set_cons_succ]
      refine wpAnyH_take (i := 1) (v := ?_) rfl (by kernel_rfl) (by kernel_rfl) (by kernel_rfl) (fun _ _ _ h => h) (Or.inl ⟨by rfl, ?_⟩) (by assumption) ?_
      rotate_left 1
      · intro w hSw; (try dsimp only at hSw); go_simp; first | done | with_reducible rfl | (rw [if_neg (by omega)])
      try simp only [Act.put, List.getElem_toArray, List.getElem_cons_zero, List.getElem_cons_succ, List.setIfInBounds_toArray, List.set_cons_zero, List.set_cons_succ]
      refine wpAnyH_take (i := 2) (v := ?_) rfl (by kernel_rfl) (by kernel_rfl) (by kernel_rfl) (fun _ _ _ h => h) (Or.inl ⟨by rfl, ?_⟩) (by assumption) ?_
      rotate_left 1
      · intro w hSw; (try dsimp only at hSw); go_simp; first | done | with_reducible rfl | (rw [if_neg (by omega)])
      try simp only [Act.put, List.getElem_toArray, List.getElem_cons_zero, List.getElem_cons_succ, List.setIfInBounds_toArray, List.set_cons_zero, List.set_cons_succ]
      refine wpAnyH_take (i := 3) (v := ?_) rfl (by kernel_rfl) (by kernel_rfl) (by kernel_rfl) (fun _ _ _ h => h) (Or.inl ⟨by rfl, ?_⟩) (by assumption) ?_
      rotate_left 1
      · intro w hSw; (try dsimp only at hSw); go_simp; first | done | with_reducible rfl | (rw [if_neg (by omega)])
      try simp only [Act.put, List.getElem_toArray, List.getElem_cons_zero, List.getElem_cons_succ, List.setIfInBounds_toArray, List.set_cons_zero, List.set_cons_succ]
      refine wpAnyH_take (i := 4) (v := ?_) rfl (by kernel_rfl) (by kernel_rfl) (by kernel_rfl) (fun _ _ _ h => h) (Or.inl ⟨by rfl, ?_⟩) (by assumption) ?_
      rotate_left 1
      · intro w hSw; (try dsimp only at hSw); go_simp; first | done | with_reducible rfl | (rw [if_neg (by omega)])
      try simp only [Act.put, List.getElem_toArray, List.getElem_cons_zero, List.getElem_cons_succ, List.setIfInBounds_toArray, List.set_cons_zero, List.set_cons_succ]
      refine wpAnyH_take (i := 7) (v := ?_) rfl (by kernel_rfl) (by kernel_rfl) (by kernel_rfl) (fun _ _ _ h => h) (Or.inl ⟨by rfl, ?_⟩) (by assumption) ?_
      rotate_left 1
      · intro w hSw; (try dsimp only at hSw); go_simp; first | done | with_reducible rfl | (rw [if_neg (by omega)])
      try simp only [Act.put, List.getElem_toArray, List.getElem_cons_zero, List.getElem_cons_succ, List.setIfInBounds_toArray, List.set_cons_zero, List.set_cons_succ]
      refine wpAnyH_take (i := 10) (v := ?_) rfl (by kernel_rfl) (by kernel_rfl) (by kernel_rfl) (fun _ _ _ h => h) (Or.inl ⟨by rfl, ?_⟩) (by assumption) ?_
      rotate_left 1
      · intro w hSw; (try dsimp only at hSw); go_simp; first | done | with_reducible rfl | (rw [if_neg (by omega)])
      try simp only [Act.put, List.getElem_toArray, List.getElem_cons_zero, List.getElem_cons_succ, List.setIfInBounds_toArray, List.set_cons_zero, List.set_cons_succ]
      refine wpAnyH_take (i := 11) (v := ?_) rfl (by kernel_rfl) (by kernel_rfl) (by kernel_rfl) (fun _ _ _ h => h) (Or.inl ⟨by rfl, ?_⟩) (by assumption) ?_
      rotate_left 1
      · intro w hSw; (try dsimp only at hSw); go_simp; first | done | with_reducible rfl | (rw [if_neg (by omega)])
      try simp only [Act.put, List.getElem_toArray, List.getElem_cons_zero, List.getElem_cons_succ, List.setIfInBounds_toArray, List.set_cons_zero, List.set_cons_succ]
      refine wpAnyH_take (i := 12) (v := ?_) rfl (by kernel_rfl) (by kernel_rfl) (by kernel_rfl) (fun _ _ _ h => h) (Or.inl ⟨by rfl, ?_⟩) (by assumption) ?_
      rotate_left 1
      · intro w hSw; (try dsimp only at hSw); go_simp; first | done | with_reducible rfl | (rw [if_neg (by omega)])
      try simp only [Act.put, List.getElem_toArray, List.getElem_cons_zero, List.getElem_cons_succ, List.setIfInBounds_toArray, List.set_cons_zero, List.set_cons_succ]
      refine wpAnyH_take (i := 13) (v := ?_) rfl (by kernel_rfl) (by kernel_rfl) (by kernel_rfl) (fun _ _ _ h => h) (Or.inl ⟨by rfl, ?_⟩) (by assumption) ?_
      rotate_left 1
      · intro w hSw; (try dsimp only at hSw); go_simp; first | done | with_reducible rfl | (rw [if_neg (by omega)])
      try simp only [Act.put, List.getElem_toArray, List.getElem_cons_zero, List.getElem_cons_succ, List.setIfInBounds_toArray, List.set_cons_zero, List.set_cons_succ]
      refine wpAnyH_take (i := 14) (v := ?_) rfl (by kernel_rfl) (by kernel_rfl) (by kernel_rfl) (fun _ _ _ h => h) (Or.inl ⟨by rfl, ?_⟩) (by assumption) ?_
      rotate_left 1
      · intro w hSw; (try dsimp only at hSw); go_simp; first | done | with_reducible rfl | (rw [if_neg (by omega)])
      try simp only [Act.put, List.getElem_toArray, List.getElem_cons_zero, List.getElem_cons_succ, List.setIfInBounds_toArray, List.set_cons_zero, List.set_cons_succ]
      refine wpAnyH_take (i := 15) (v := ?_) rfl (by kernel_rfl) (by kernel_rfl) (by kernel_rfl) (fun _ _ _ h => h) (Or.inl ⟨by rfl, ?_⟩) (by assumption) ?_
      rotate_left 1
      · intro w hSw; (try dsimp only at hSw); go_simp; first | done | with_reducible rfl | (rw [if_neg (by omega)])
      try simp only [Act.put, List.getElem_toArray, List.getElem_cons_zero, List.getElem_cons_succ, List.setIfInBounds_toArray, List.set_cons_zero, List.set_cons_succ]
      refine wpAnyH_ready (rs := [5]) (by kernel_rfl) (by simp) ?_
      refine AllReadyH.cons rfl (fun K hK => ?_) AllReadyH.nil
      go_simp
      go_at_call 44
      refine (HK0.out _ (by exact HB2.out.1.drew)).mono ?_
      rintro e W3 ⟨rfl, b3⟩
      have HB3 : Hid (Below w.heap.size w W3 ∧ Below W0.heap.size W0 W3) := ⟨HB2.out.1.drew.trans (b3.mono HB2.out.1.size), HB2.out.2.drew.trans (b3.mono HB2.out.2.size)⟩
      clear y0 y1 y2 y3 d00 d01 d02 d03 d10 d11 d12 d13 b3
      obtain ⟨y0, y1, y2, y3⟩ := four_box ((HB3.out.2.block w.heap.size (by have := HX.out.2.1; omega)).trans HX.out.1)
      obtain ⟨d00, d01, d02, d03, d10, d11, d12, d13⟩ := (⟨below_cell HD.out.1 HB3.out.1, below_cell HD.out.2.1 HB3.out.1, below_cell HD.out.2.2.1 HB3.out.1, below_cell HD.out.2.2.2.1 HB3.out.1, below_cell HD.out.2.2.2.2.1 HB3.out.1, below_cell HD.out.2.2.2.2.2.1 HB3.out.1, below_cell HD.out.2.2.2.2.2.2.1 HB3.out.1, below_cell HD.out.2.2.2.2.2.2.2 HB3.out.1⟩ : W3.cell? ⟨g, q, none⟩ = some w00 ∧ W3.cell? ⟨g, q + 1, none⟩ = some w01 ∧ W3.cell? ⟨g, q + 2, none⟩ = some w02 ∧ W3.cell? ⟨g, q + 3, none⟩ = some w03 ∧ W3.cell? ⟨g, q + 4, none⟩ = some w10 ∧ W3.cell? ⟨g, q + 5, none⟩ = some w11 ∧ W3.cell? ⟨g, q + 6, none⟩ = some w12 ∧ W3.cell? ⟨g, q + 7, none⟩ = some w13)
      refine hK.out _ _ (by exact ⟨y3, d00, d01, d02, d03, d10, d11, d12, d13⟩) (fun hHeld => ?_)
      clear hK K
      try simp only [Act.put, List.getElem_toArray, List.getElem_cons_zero, List.getElem_cons_succ, List.setIfInBounds_toArray, List.set_cons_zero, List.set_cons_succ]
      refine wpAnyH_take (i := 6) (v := ?_) rfl (by kernel_rfl) (by kernel_rfl) (by kernel_rfl) (fun _ _ _ h => h) (Or.inl ⟨by rfl, ?_⟩) (by assumption) ?_
      rotate_left 1
      · intro w hSw; (try dsimp only at hSw); go_simp; first | done | with_reducible rfl | (rw [if_neg (by omega)])
      try simp only [Act.put, List.getElem_toArray, List.getElem_cons_zero, List.getElem_cons_succ, List.setIfInBounds_toArray, List.set_cons_zero, List.set_cons_succ]
      refine wpAnyH_take (i := 8) (v := ?_) rfl (by kernel_rfl) (by kernel_rfl) (by kernel_rfl) (fun _ _ _ h => h) (Or.inl ⟨by rfl, ?_⟩) (by assumption) ?_
      rotate_left 1
      · intro w hSw; (try dsimp only at hSw); go_simp; first | done | with_reducible rfl | (rw [if_neg (by omega)])
      try simp only [Act.put, List.getElem_toArray, List.getElem_cons_zero, List.getElem_cons_succ, List.setIfInBounds_toArray, List.set_cons_zero, List.set_cons_succ]
      refine wpAnyH_take (i := 9) (v := ?_) rfl (by kernel_rfl) (by kernel_rfl) (by kernel_rfl) (fun _ _ _ h => h) (Or.inl ⟨by rfl, ?_⟩) (by assumption) ?_
      rotate_left 1
      · intro w hSw; (try dsimp only at hSw); go_simp; first | done | with_reducible rfl | (rw [if_neg (by omega)])
      try simp only [Act.put, List.getElem_toArray, List.getElem_cons_zero, List.getElem_cons_succ, List.setIfInBounds_toArray, List.set_cons_zero, List.set_cons_succ]
      refine wpAnyH_ready (rs := [16]) (by kernel_rfl) (by simp) ?_
      refine AllReadyH.cons rfl (fun K hK => ?_) AllReadyH.nil
      go_simp
      go_at_call 44
      refine (HK1.out _ (by exact HB3.out.1)).mono ?_
      rintro e W4 ⟨rfl, b4⟩
      have HB4 : Hid (Below w.heap.size w W4 ∧ Below W0.heap.size W0 W4) := ⟨HB3.out.1.trans (b4.mono HB3.out.1.size), HB3.out.2.trans (b4.mono HB3.out.2.size)⟩
      clear y0 y1 y2 y3 d00 d01 d02 d03 d10 d11 d12 d13 b4
      obtain ⟨y0, y1, y2, y3⟩ := four_box ((HB4.out.2.block w.heap.size (by have := HX.out.2.1; omega)).trans HX.out.1)
      obtain ⟨d00, d01, d02, d03, d10, d11, d12, d13⟩ := (⟨below_cell HD.out.1 HB4.out.1, below_cell HD.out.2.1 HB4.out.1, below_cell HD.out.2.2.1 HB4.out.1, below_cell HD.out.2.2.2.1 HB4.out.1, below_cell HD.out.2.2.2.2.1 HB4.out.1, below_cell HD.out.2.2.2.2.2.1 HB4.out.1, below_cell HD.out.2.2.2.2.2.2.1 HB4.out.1, below_cell HD.out.2.2.2.2.2.2.2 HB4.out.1⟩ : W4.cell? ⟨g, q, none⟩ = some w00 ∧ W4.cell? ⟨g, q + 1, none⟩ = some w01 ∧ W4.cell? ⟨g, q + 2, none⟩ = some w02 ∧ W4.cell? ⟨g, q + 3, none⟩ = some w03 ∧ W4.cell? ⟨g, q + 4, none⟩ = some w10 ∧ W4.cell? ⟨g, q + 5, none⟩ = some w11 ∧ W4.cell? ⟨g, q + 6, none⟩ = some w12 ∧ W4.cell? ⟨g, q + 7, none⟩ = some w13)
      refine hK.out _ _ (by exact ⟨y3, d00, d01, d02, d03, d10, d11, d12, d13⟩) (fun hHeld => ?_)
      clear hK K
      try simp only [Act.put, List.getElem_toArray, List.getElem_cons_zero, List.getElem_cons_succ, List.setIfInBounds_toArray, List.set_cons_zero, List.set_cons_succ]
      refine wpAnyH_take (i := 17) (v := ?_) rfl (by kernel_rfl) (by kernel_rfl) (by kernel_rfl) (fun _ _ _ h => h) (Or.inl ⟨by rfl, ?_⟩) (by assumption) ?_
      rotate_left 1
      · intro w hSw; (try dsimp only at hSw); go_simp; first | done | with_reducible rfl | (rw [if_neg (by omega)])
      try simp only [Act.put, List.getElem_toArray, List.getElem_cons_zero, List.getElem_cons_succ, List.setIfInBounds_toArray, List.set_cons_zero, List.set_cons_succ]
      refine wpAnyH_take (i := 18) (v := ?_) rfl (by kernel_rfl) (by kernel_rfl) (by kernel_rfl) (fun _ _ _ h => h) (Or.inl ⟨by rfl, ?_⟩) (by assumption) ?_
      rotate_left 1
      · intro w hSw; (try dsimp only at hSw); go_simp; first | done | with_reducible rfl | (rw [if_neg (by omega)])
      try simp only [Act.put, List.getElem_toArray, List.getElem_cons_zero, List.getElem_cons_succ, List.setIfInBounds_toArray, List.set_cons_zero, List.set_cons_succ]
      refine wpAnyH_done (by kernel_rfl) ?_ _
      clear hHeld
      go_wp2_with fail
      go_ret
      refine ⟨?_, HB4.out.1⟩
      refine congrArg (fun t => Ending.returned (Value.string t)) (?_ : T0 ++ ⟨#[32]⟩ ++ M ++ ⟨#[32]⟩ ++ T1 = _)
      rw [← HT0.out, ← HT1.out, ← HM.out]
      apply ByteArray.ext
      simp
end Go.Proofs.YtnoohlmlpijhaaaGreatDoor.QPo

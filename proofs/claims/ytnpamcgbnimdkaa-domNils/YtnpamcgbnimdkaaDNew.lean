/- A new arena: contract of New. -/
import Derived.Test.YtnpamcgbnimdkaaDCell
namespace Go.Proofs.Ytnpamcgbnimdkaa.DNew
open Go.RowKit Go.Proofs.Ytnpamcgbnimdkaa.TBase Go.Proofs.Ytnpamcgbnimdkaa.DBase Go.Proofs.Ytnpamcgbnimdkaa.DJoin Go.Proofs.Ytnpamcgbnimdkaa.DNeed Go.Proofs.Ytnpamcgbnimdkaa.DKids Go.Proofs.Ytnpamcgbnimdkaa.DAsk Go.Proofs.Ytnpamcgbnimdkaa.DCell
set_option linter.unusedVariables false

/-- A cell that holds nothing. -/
def zN : Nd := ⟨false, ⟨#[]⟩, ⟨#[]⟩, .slice none 0 0, some 0, some 0, some 0, some 0, some 0⟩
theorem new_bad {r : Int} (h : r < 1 ∨ 8192 < r) (w : World) : Calls Try.prog 26 #[.int .i64 r] w fun e w' => e = .returned (.tuple #[.pointer none, .int .i64 800]) ∧ w' = w := by
  by_cases h1 : r < 1
  · have d1 : decide (r < 1) = true := decide_eq_true h1
    go_enter Try.func26, Try.ntmps26
    go_wp2_with fail
    refine bodyPost_ret (v := .tuple #[.pointer none, .int .i64 800]) (by simp [results, Try.results26, go_sem]) rfl ⟨rfl, rfl⟩
  · have d1 : decide (r < 1) = false := decide_eq_false h1
    have d2 : decide (8192 < r) = true := decide_eq_true (by omega)
    go_enter Try.func26, Try.ntmps26
    go_wp2_with fail
    refine bodyPost_ret (v := .tuple #[.pointer none, .int .i64 800]) (by simp [results, Try.results26, go_sem]) rfl ⟨rfl, rfl⟩
/-- The handles from one down to, but without, another. -/
def dn : Nat → Nat → List Int
  | _, 0 => []
  | k, m + 1 => (k : Int) :: dn (k - 1) m
theorem infoC : (Try.prog.info? 71).map (fun i => (i.zero, i.size, i.bytes)) = some (some (.agg #[.bool false, .string ⟨#[]⟩, .string ⟨#[]⟩, .slice none 0 0, .int .i64 0, .int .i64 0, .int .i64 0, .int .i64 0, .int .i64 0]), 9, 104) := by kernel_rfl
/-- The row of cells as it is made. -/
def mk0 (r : Nat) : Array Value := madeCells (Value.agg #[.bool false, .string ⟨#[]⟩, .string ⟨#[]⟩, .slice none 0 0, .int .i64 0, .int .i64 0, .int .i64 0, .int .i64 0, .int .i64 0]).cells (r * 9)
theorem mk0_size (r : Nat) : (mk0 r).size = r * 9 := size_madeCells _ _
theorem mk0_at (r h k : Nat) (hh : h < r) (hk : k < 9) : (mk0 r)[h * 9 + k]? = some (zN.put k) := by
  unfold mk0 madeCells
  have e : (h * 9 + k) % 9 = k := by omega
  have hlt : h * 9 + k < r * 9 := by omega
  rw [Array.getElem?_map, Array.getElem?_range]
  simp only [hlt, if_true, Option.map_some]
  rw [show (Value.agg #[.bool false, .string ⟨#[]⟩, .string ⟨#[]⟩, .slice none 0 0, .int .i64 0, .int .i64 0, .int .i64 0, .int .i64 0, .int .i64 0]).cells.size = 9 from rfl, e]
  match k, hk with
  | 0, _ | 1, _ | 2, _ | 3, _ | 4, _ | 5, _ | 6, _ | 7, _ | 8, _ => rfl
theorem make_cells {r : Nat} (h2 : r ≤ 8192) (w : World) : (Instr.makeSlice 35 (.int .i64 r) (.int .i64 r)).run Try.prog w = .ok (.slice (some ⟨w.heap.size, 0, none⟩) r r) (w.alloc (.cells (mk0 r) 71)) := by
  obtain ⟨i0, hi, hz0, hz1, hz2⟩ := info_parts infoC
  have := run_makeSlice (P := Try.prog) w 35 71 i0 _ Try.underlying35 hi hz0 .i64 .i64 r r (by omega) (by omega) (by rw [hz1, Int.toNat_natCast]; omega) (by rw [hz2]; omega) (by omega)
  rw [Int.toNat_natCast, hz1] at this
  exact this
theorem make_free {r : Nat} (h1 : 1 ≤ r) (h2 : r ≤ 8192) (w : World) : ∃ M : Array Value, M.size = r - 1 ∧ ∀ w : World, (Instr.makeSlice 37 (.int .i64 0) (.int .i64 ((r : Int) - 1))).run Try.prog w = .ok (.slice (some ⟨w.heap.size, 0, none⟩) 0 (r - 1)) (w.alloc (.cells M 3)) := by
  obtain ⟨i0, hi, hz0, hz1, hz2⟩ := info_parts infoI
  refine ⟨madeCells (Value.int .i64 0).cells ((r - 1) * 1), by rw [size_madeCells]; omega, fun w => ?_⟩
  have := run_makeSlice (P := Try.prog) w 37 3 i0 _ Try.underlying37 hi hz0 .i64 .i64 0 ((r : Int) - 1) (by omega) (by omega) (by rw [hz1]; omega) (by rw [hz2]; omega) (by omega)
  rw [hz1, show ((r : Int) - 1).toNat = r - 1 by omega] at this
  exact this
/-- The root. -/
def rootN : Nd := ⟨true, ⟨#[]⟩, ⟨#[]⟩, .slice none 0 0, none, none, none, none, none⟩
theorem dn_snoc : ∀ (m k : Nat), m < k → dn k (m + 1) = dn k m ++ [((k - m : Nat) : Int)]
  | 0, k, _ => by simp [dn]
  | m + 1, k, h => by
    rw [dn, dn_snoc m (k - 1) (by omega), dn, List.cons_append, show k - 1 - m = k - (m + 1) by omega]
theorem dn_len : ∀ (m k : Nat), (dn k m).length = m
  | 0, k => rfl
  | m + 1, k => by rw [dn, List.length_cons, dn_len m]
theorem Bx.free {w : World} {p gc n : Nat} {fv : Value} {q : Nat → Int} (h : Bx w p gc n fv q) (u : Value) : Bx (w.setCell ⟨p, 1, none⟩ u) p gc n u q := by
  unfold Bx at h ⊢
  rw [block_set h]
  rfl
theorem box_ne {w : World} {p gc n B : Nat} {fv v : Value} {q : Nat → Int} {L : List Int} (h : Bx w p gc n fv q) (ho : Oi w B v L) : v.ownBlock ≠ some p := by
  intro e
  rcases ho.2 with ⟨rfl, -⟩ | ⟨g, cap, cur, rfl, -, hg, -⟩
  · cases e
  · have : g = p := Option.some.inj e
    subst this
    unfold Bx at h
    rw [h] at hg
    simp at hg
theorem row_ne {w : World} {gc n B : Nat} {c : Nat → Nd} {v : Value} {L : List Int} (h : Cr w gc n c) (ho : Oi w B v L) : v.ownBlock ≠ some gc := by
  intro e
  obtain ⟨arr, h1, -⟩ := h
  rcases ho.2 with ⟨rfl, -⟩ | ⟨g, cap, cur, rfl, -, hg, -⟩
  · cases e
  · have : g = gc := Option.some.inj e
    subst this
    rw [h1] at hg
    simp at hg
set_option maxRecDepth 20000 in
set_option maxHeartbeats 1600000 in
theorem new_c {r : Nat} (h1 : 1 ≤ r) (h2 : r ≤ 8192) (w : World) : Calls Try.prog 26 #[.int .i64 r] w fun e w' => ∃ p gc fv, e = .returned (.tuple #[.pointer (some ⟨p, 0, none⟩), .int .i64 0]) ∧ Bx w' p gc r fv (fun _ => 0) ∧ Cr w' gc r (up (fun _ => zN) 0 rootN) ∧ Oi w' w.heap.size fv (dn (r - 1) (r - 1)) ∧ w.heap.size ≤ p ∧ w.heap.size ≤ gc ∧ Below w.heap.size w w' := by
  have d1 : decide ((r : Int) < 1) = false := decide_eq_false (by omega)
  have d2 : decide ((8192 : Int) < (r : Int)) = false := decide_eq_false (by omega)
  obtain ⟨M, hM, mk2⟩ := make_free h1 h2 w
  have mk1 := fun w => make_cells h2 w
  obtain ⟨Z, hZ⟩ : ∃ Z, mk0 r = Z := ⟨_, rfl⟩
  rw [hZ] at mk1
  go_enter Try.func26, Try.ntmps26
  go_wp2_with fail
  go_region
  · obtain ⟨W3, hW3⟩ : ∃ W3, (((w.alloc (.cells Z 71)).alloc (.cells M 3)).alloc (.cells #[.slice (some ⟨w.heap.size, 0, none⟩) r r, .slice (some ⟨(w.heap.size + 1), 0, none⟩) 0 (r - 1), .int .i64 0, .int .i64 0, .int .i64 0, .int .i64 0, .int .i64 0, .int .i64 0, .int .i64 0] 75)).drew = W3 := ⟨_, rfl⟩
    rw [hW3]
    have b3 : Below w.heap.size w W3 := by rw [← hW3]; exact ((((Below.refl _ w).alloc (Nat.le_refl _) _).alloc (by simp) _).alloc (by simp; omega) _).drew
    have x2 : W3.heap[w.heap.size + 1 + 1]? = some (.cells #[.slice (some ⟨w.heap.size, 0, none⟩) r r, .slice (some ⟨(w.heap.size + 1), 0, none⟩) 0 (r - 1), .int .i64 0, .int .i64 0, .int .i64 0, .int .i64 0, .int .i64 0, .int .i64 0, .int .i64 0] 75 (0, 0)) := by
      have h := heap_alloc_new ((w.alloc (.cells Z 71)).alloc (.cells M 3)) (.cells #[.slice (some ⟨w.heap.size, 0, none⟩) r r, .slice (some ⟨(w.heap.size + 1), 0, none⟩) 0 (r - 1), .int .i64 0, .int .i64 0, .int .i64 0, .int .i64 0, .int .i64 0, .int .i64 0, .int .i64 0] 75)
      rw [World.size_alloc, World.size_alloc] at h
      rw [← hW3]
      exact h
    have x1 : W3.heap[w.heap.size + 1]? = some (.cells M 3 (0, 0)) := by
      have h := heap_alloc_new (w.alloc (.cells Z 71)) (.cells M 3)
      rw [World.size_alloc] at h
      rw [← hW3]
      exact (Below.heap_alloc _ _ _ (by simp)).trans h
    have x0 : W3.heap[w.heap.size]? = some (.cells Z 71 (0, 0)) := by
      rw [← hW3]
      exact (Below.heap_alloc _ _ _ (by simp; omega)).trans ((Below.heap_alloc _ _ _ (by simp)).trans (heap_alloc_new w _))
    have s3 : W3.heap.size = w.heap.size + 3 := by rw [← hW3]; simp
    have hcr : Cr W3 w.heap.size r (fun _ => zN) := ⟨Z, x0, by rw [← hZ]; exact mk0_size r, fun h k hh hk => by rw [← hZ]; exact mk0_at r h k hh hk⟩
    have k0 : W3.cell? ⟨w.heap.size + 1 + 1, 0, none⟩ = some (.slice (some ⟨w.heap.size, 0, none⟩) r r) := by simp [World.cell?, x2]
    have cd := detached_nil (w := W3.drew) (g := ⟨#[]⟩) (s := ⟨#[]⟩) (a := none) (k := 0) (cap := 0)
    have HF : Hid (∀ w4, Below W3.drew.heap.size W3.drew w4 → w4.cell? ⟨w.heap.size + 1 + 1, 0, none⟩ = some (.slice (some ⟨w.heap.size, 0, none⟩) r r) ∧ Cr w4 w.heap.size r (fun _ => zN) ∧ w4.heap[w.heap.size + 1 + 1]? = W3.heap[w.heap.size + 1 + 1]? ∧ w4.heap[(w.heap.size + 1)]? = W3.heap[(w.heap.size + 1)]? ∧ Below w.heap.size w w4) := by
      intro w4 b4
      have e2 := b4.block (w.heap.size + 1 + 1) (by show _ < W3.heap.size; omega)
      exact ⟨by simp [World.cell?, e2.trans x2], hcr.keep (b4.block w.heap.size (by show _ < W3.heap.size; omega)), e2, b4.block (w.heap.size + 1) (by show _ < W3.heap.size; omega), b3.drew.trans (b4.mono (by show _ ≤ W3.heap.size; omega))⟩
    have HX : Hid (W3.heap[w.heap.size + 1 + 1]? = some (.cells #[.slice (some ⟨w.heap.size, 0, none⟩) r r, .slice (some ⟨(w.heap.size + 1), 0, none⟩) 0 (r - 1), .int .i64 0, .int .i64 0, .int .i64 0, .int .i64 0, .int .i64 0, .int .i64 0, .int .i64 0] 75 (0, 0))) := x2
    have HM : Hid (W3.heap[(w.heap.size + 1)]? = some (.cells M 3 (0, 0))) := x1
    have hr0 : 0 < r := h1
    have e1 : w.heap.size + 1 + 1 ≠ w.heap.size := by omega
    have e2 : w.heap.size ≠ w.heap.size + 1 + 1 := by omega
    have e3 : w.heap.size + 1 + 1 ≠ w.heap.size + 1 := by omega
    have e4 : w.heap.size + 1 ≠ w.heap.size + 1 + 1 := by omega
    clear hcr x0 x1 x2 hW3
    go_wp2_with fail
    go_region_held3 (fun w' => w'.cell? ⟨w.heap.size + 1 + 1, 0, none⟩ = some (.slice (some ⟨w.heap.size, 0, none⟩) r r)) (go_keep) (first | (go_at_call 63; refine cd.mono ?_; rintro e w4 ⟨rfl, b4⟩; obtain ⟨z0, hc4, z2, z3, z4⟩ := HF.out w4 b4; have n0 := hc4.at h1 (j := 0) (k := 0) (by omega); rw [Nat.zero_mul, Nat.zero_add] at n0; have f0 := hc4.frozen 0; have n1 := hc4.at h1 (j := 0) (k := 1) (by omega); rw [Nat.zero_mul, Nat.zero_add] at n1; have f1 := hc4.frozen 1; have n2 := hc4.at h1 (j := 0) (k := 2) (by omega); rw [Nat.zero_mul, Nat.zero_add] at n2; have f2 := hc4.frozen 2; have n3 := hc4.at h1 (j := 0) (k := 3) (by omega); rw [Nat.zero_mul, Nat.zero_add] at n3; have f3 := hc4.frozen 3; have n4 := hc4.at h1 (j := 0) (k := 4) (by omega); rw [Nat.zero_mul, Nat.zero_add] at n4; have f4 := hc4.frozen 4; have n5 := hc4.at h1 (j := 0) (k := 5) (by omega); rw [Nat.zero_mul, Nat.zero_add] at n5; have f5 := hc4.frozen 5; have n6 := hc4.at h1 (j := 0) (k := 6) (by omega); rw [Nat.zero_mul, Nat.zero_add] at n6; have f6 := hc4.frozen 6; have n7 := hc4.at h1 (j := 0) (k := 7) (by omega); rw [Nat.zero_mul, Nat.zero_add] at n7; have f7 := hc4.frozen 7; have n8 := hc4.at h1 (j := 0) (k := 8) (by omega); rw [Nat.zero_mul, Nat.zero_add] at n8; have f8 := hc4.frozen 8; have HC4 : Hid (Cr w4 w.heap.size r (fun _ => zN)) := hc4; clear hc4) | fail)
    rename_i hHeld
    clear hHeld
    obtain ⟨W5, hW5⟩ : ∃ W5, (((((((((w4.setCell ⟨w.heap.size, 0, none⟩ (.bool true)).setCell ⟨w.heap.size, 1, none⟩ (.string ⟨#[]⟩)).setCell ⟨w.heap.size, 2, none⟩ (.string ⟨#[]⟩)).setCell ⟨w.heap.size, 3, none⟩ (.slice none 0 0)).setCell ⟨w.heap.size, 4, none⟩ (.int .i64 (-1))).setCell ⟨w.heap.size, 5, none⟩ (.int .i64 (-1))).setCell ⟨w.heap.size, 6, none⟩ (.int .i64 (-1))).setCell ⟨w.heap.size, 7, none⟩ (.int .i64 (-1))).setCell ⟨w.heap.size, 8, none⟩ (.int .i64 (-1))) = W5 := ⟨_, rfl⟩
    rw [hW5]
    have hc5 : Cr W5 w.heap.size r (up (fun _ => zN) 0 rootN) := by rw [← hW5]; exact HC4.out.putAll h1 rootN
    have hg5 : w4.grownBy W5 (some w.heap.size) := by rw [← hW5]; exact grown_set (grown_set (grown_set (grown_set (grown_set (grown_set (grown_set (grown_set (grown_set (World.grownBy.refl _ _) _ _) _ _) _ _) _ _) _ _) _ _) _ _) _ _) _ _
    have l2 : w.heap.size + 1 + 1 < w4.heap.size := (Array.getElem?_eq_some_iff.1 (z2.trans HX.out)).1
    have lf : (w.heap.size + 1) < w4.heap.size := (Array.getElem?_eq_some_iff.1 (z3.trans HM.out)).1
    have hb5 : Bx W5 (w.heap.size + 1 + 1) w.heap.size r (.slice (some ⟨(w.heap.size + 1), 0, none⟩) 0 (r - 1)) (fun _ => 0) := ((hg5.block (w.heap.size + 1 + 1) l2 (by intro e; have := Option.some.inj e; omega)).trans z2).trans HX.out
    have hf5 : Oi W5 w.heap.size (.slice (some ⟨(w.heap.size + 1), 0, none⟩) 0 (r - 1)) (dn (r - 1) 0) := ⟨rfl, .inr ⟨(w.heap.size + 1), r - 1, M, rfl, by omega, ((hg5.block (w.heap.size + 1) lf (by intro e; have := Option.some.inj e; omega)).trans z3).trans HM.out, Nat.zero_le _, by unfold maxLen; omega, by omega, rfl⟩⟩
    have B5 : Below w.heap.size w W5 := z4.grown hg5 z4.size (fun k hk => by have := Option.some.inj hk; omega)
    have HB5 : Hid (Bx W5 (w.heap.size + 1 + 1) w.heap.size r (.slice (some ⟨(w.heap.size + 1), 0, none⟩) 0 (r - 1)) (fun _ => 0)) := hb5
    have HC5 : Hid (Cr W5 w.heap.size r (up (fun _ => zN) 0 rootN)) := hc5
    have HF5 : Hid (Oi W5 w.heap.size (.slice (some ⟨(w.heap.size + 1), 0, none⟩) 0 (r - 1)) (dn (r - 1) 0)) := hf5
    obtain ⟨i0, hi0, hz0, hz1, hz2⟩ := info_parts infoI
    clear hb5 hc5 hf5 hg5 hW5 z0 z2 z3 z4 n0 n1 n2 n3 n4 n5 n6 n7 n8 f0 f1 f2 f3 f4 f5 f6 f7 f8 cd k0 HF HX HM HC4 b3 b4
    have hr1 : Hid ((r : Int) - 1 = ((r - 1 : Nat) : Int)) := by show (r : Int) - 1 = ((r - 1 : Nat) : Int); omega
    have hbp : w.heap.size ≤ w.heap.size + 1 + 1 := by omega
    clear e1 e2 e3 e4 l2 lf s3 mk1 mk2 hZ hM
    generalize w.heap.size + 1 + 1 = bp at *
    go_wp2_with fail
    go_loopw [5] (fun t wr => ∃ (m : Nat) (v : Value), t = .int .i64 m ∧ m ≤ r - 1 ∧ Bx wr (bp) w.heap.size r v (fun _ => 0) ∧ Oi wr w.heap.size v (dn (r - 1) (r - 1 - m)) ∧ Cr wr w.heap.size r (up (fun _ => zN) 0 rootN) ∧ Below w.heap.size w wr) (fun t _ => (intOf t).toNat)
    case atStart => exact ⟨r - 1, _, by first | rfl | rw [hr1.out], Nat.le_refl _, HB5.out, by rw [Nat.sub_self]; exact HF5.out, HC5.out, B5⟩
    case round =>
      obtain ⟨m, v, rfl, hm, hbx, hoi, hcr, hbel⟩ := hrel
      have hsz := hbel.size
      have HDL : Hid ((dn (r - 1) (r - 1 - m)).length = r - 1 - m) := dn_len (r - 1 - m) (r - 1)
      have hpl := hbx.lt
      have hgl := hcr.lt
      by_cases hm0 : 0 < m
      · have hd : decide ((0 : Int) < (m : Int)) = true := decide_eq_true (by omega)
        have k0 := hbx.at0
        have k1 := hbx.at1
        obtain ⟨va, vc, rfl⟩ := hoi.shape
        have hrow1 := World.ownsRow.alloc hoi (.cells #[.int .i64 (m : Int)] 3)
        have nb := box_ne hbx hoi
        have nr := row_ne hcr hoi
        have HO : Hid (Oi wr w.heap.size (.slice va (dn (r - 1) (r - 1 - m)).length vc) (dn (r - 1) (r - 1 - m))) := hoi
        have HBX : Hid (Bx wr (bp) w.heap.size r (.slice va (dn (r - 1) (r - 1 - m)).length vc) (fun _ => 0)) := hbx
        have HCR : Hid (Cr wr w.heap.size r (up (fun _ => zN) 0 rootN)) := hcr
        have NB : Hid ((Value.slice va (dn (r - 1) (r - 1 - m)).length vc).ownBlock ≠ some (bp)) := nb
        have NR : Hid ((Value.slice va (dn (r - 1) (r - 1 - m)).length vc).ownBlock ≠ some w.heap.size) := nr
        clear hoi hbx hcr nb nr HB5 HC5 HF5
        have hlen : (dn (r - 1) (r - 1 - m)).length + 1 ≤ 8192 := by rw [HDL.out]; omega
        obtain ⟨N, hN⟩ : ∃ N, (dn (r - 1) (r - 1 - m)).length = N := ⟨_, rfl⟩
        rw [hN] at hlen hrow1 HO HBX NB NR k1
        have HN : Hid ((dn (r - 1) (r - 1 - m)).length = N) := hN
        clear hN HDL
        go_wp2_with (first
          | (at_builtin; refine wpList_append_own_at _ rfl _ _ 37 rfl w.heap.size 3 i0 (.int .i64 0) 1 8 Try.underlying37 hi0 hz0 hz1 hz2 rfl (by decide) _ _ _ rfl hrow1 ⟨wr.heap.size, 0, none⟩ 1 1 [.int .i64 (m : Int)] rfl rfl (cell_one_new _ _ _) (by simp [Value.oneCell']) (by unfold maxLen; omega) (by omega) (by simp; omega) ?_))
        intro v' w2 hown' hgrow _ hat
        have g1 : wr.grownBy w2 (Value.slice va N vc).ownBlock := ⟨hgrow.os, hgrow.tape, hgrow.output, Nat.le_trans (by simp) hgrow.size, fun k hk hne => (hgrow.block k (by simp; omega) hne).trans (Below.heap_alloc _ _ _ hk)⟩
        have ho2 : Oi w2 w.heap.size v' (dn (r - 1) (r - 1 - (m - 1))) := by
          have e : r - 1 - (m - 1) = r - 1 - m + 1 := by omega
          rw [e, dn_snoc _ _ (by omega), show r - 1 - (r - 1 - m) = m by omega]
          unfold Oi
          rw [List.map_append, List.length_append, HN.out]
          exact hown'
        have hb2 : Bx w2 (bp) w.heap.size r (.slice va N vc) (fun _ => 0) := HBX.out.keep (g1.block _ hpl (fun e => NB.out e.symm))
        have hc2 : Cr w2 w.heap.size r (up (fun _ => zN) 0 rootN) := HCR.out.keep (g1.block _ hgl (fun e => NR.out e.symm))
        have hbel2 : Below w.heap.size w w2 := hbel.grown g1 hsz (fun k hk => (World.ownsRow.lt HO.out k hk).1)
        have nb2 := box_ne hb2 ho2
        have nr2 := ne_of hb2 hc2
        obtain ⟨va2, vc2, rfl⟩ := ho2.shape
        have k2 := hb2.at1
        have f2 : w2.frozen? ⟨bp, 1, none⟩ = false := frozen_box hb2 1
        have REL : Hid (Bx (w2.setCell ⟨bp, 1, none⟩ (.slice va2 (dn (r - 1) (r - 1 - (m - 1))).length vc2)) (bp) w.heap.size r (.slice va2 (dn (r - 1) (r - 1 - (m - 1))).length vc2) (fun _ => 0) ∧ Oi (w2.setCell ⟨bp, 1, none⟩ (.slice va2 (dn (r - 1) (r - 1 - (m - 1))).length vc2)) w.heap.size (.slice va2 (dn (r - 1) (r - 1 - (m - 1))).length vc2) (dn (r - 1) (r - 1 - (m - 1))) ∧ Cr (w2.setCell ⟨bp, 1, none⟩ (.slice va2 (dn (r - 1) (r - 1 - (m - 1))).length vc2)) w.heap.size r (up (fun _ => zN) 0 rootN) ∧ Below w.heap.size w (w2.setCell ⟨bp, 1, none⟩ (.slice va2 (dn (r - 1) (r - 1 - (m - 1))).length vc2))) := by
          refine ⟨Bx.free hb2 _, ⟨ho2.1, ?_⟩, hc2.keep (Below.heap_setCell _ _ _ _ (fun e => nr2 e.symm)), hbel2.setCell (p := ⟨bp, 1, none⟩) (by show w.heap.size ≤ bp; exact hbp) _⟩
          rcases ho2.2 with h | ⟨g', cap', cur', q1, q2, q3, q4⟩
          · exact .inl h
          · refine .inr ⟨g', cap', cur', q1, q2, (Below.heap_setCell _ _ _ _ (fun e => nb2 ?_)).trans q3, q4⟩
            rw [q1, e]
            rfl
        have hmm : (m : Int) - 1 = ((m - 1 : Nat) : Int) := by omega
        clear hown' hgrow hat hrow1 ho2 hb2 hc2 nb2 nr2
        generalize (dn (r - 1) (r - 1 - (m - 1))).length = N2 at *
        go_wp2_with fail
        go_roundw
        case rel => exact ⟨m - 1, _, by first | rfl | rw [hmm] | go_num, by omega, REL.out.1, REL.out.2.1, REL.out.2.2.1, REL.out.2.2.2⟩
        case measure => simp only [intOf]; omega
      · obtain rfl : m = 0 := by omega
        have HF : Hid (∃ v, Bx wr (bp) w.heap.size r v (fun _ => 0) ∧ Oi wr w.heap.size v (dn (r - 1) (r - 1)) ∧ Cr wr w.heap.size r (up (fun _ => zN) 0 rootN)) := ⟨v, hbx, hoi, hcr⟩
        clear hoi hbx hcr HB5 HC5 HF5
        go_wp2_with fail
        obtain ⟨v, q1, q2, q3⟩ := HF.out
        refine bodyPost_ret (v := .tuple #[.pointer (some ⟨bp, 0, none⟩), .int .i64 0]) (by simp [results, Try.results26, go_sem]) rfl ⟨_, _, _, rfl, q1, q3, q2, by omega, by omega, hbel⟩
  · obtain ⟨W3, hW3⟩ : ∃ W3, (((w.alloc (.cells M 3)).alloc (.cells Z 71)).alloc (.cells #[.slice (some ⟨(w.heap.size + 1), 0, none⟩) r r, .slice (some ⟨w.heap.size, 0, none⟩) 0 (r - 1), .int .i64 0, .int .i64 0, .int .i64 0, .int .i64 0, .int .i64 0, .int .i64 0, .int .i64 0] 75)).drew = W3 := ⟨_, rfl⟩
    rw [hW3]
    have b3 : Below w.heap.size w W3 := by rw [← hW3]; exact ((((Below.refl _ w).alloc (Nat.le_refl _) _).alloc (by simp) _).alloc (by simp; omega) _).drew
    have x2 : W3.heap[w.heap.size + 1 + 1]? = some (.cells #[.slice (some ⟨(w.heap.size + 1), 0, none⟩) r r, .slice (some ⟨w.heap.size, 0, none⟩) 0 (r - 1), .int .i64 0, .int .i64 0, .int .i64 0, .int .i64 0, .int .i64 0, .int .i64 0, .int .i64 0] 75 (0, 0)) := by
      have h := heap_alloc_new ((w.alloc (.cells M 3)).alloc (.cells Z 71)) (.cells #[.slice (some ⟨(w.heap.size + 1), 0, none⟩) r r, .slice (some ⟨w.heap.size, 0, none⟩) 0 (r - 1), .int .i64 0, .int .i64 0, .int .i64 0, .int .i64 0, .int .i64 0, .int .i64 0, .int .i64 0] 75)
      rw [World.size_alloc, World.size_alloc] at h
      rw [← hW3]
      exact h
    have x1 : W3.heap[w.heap.size + 1]? = some (.cells Z 71 (0, 0)) := by
      have h := heap_alloc_new (w.alloc (.cells M 3)) (.cells Z 71)
      rw [World.size_alloc] at h
      rw [← hW3]
      exact (Below.heap_alloc _ _ _ (by simp)).trans h
    have x0 : W3.heap[w.heap.size]? = some (.cells M 3 (0, 0)) := by
      rw [← hW3]
      exact (Below.heap_alloc _ _ _ (by simp; omega)).trans ((Below.heap_alloc _ _ _ (by simp)).trans (heap_alloc_new w _))
    have s3 : W3.heap.size = w.heap.size + 3 := by rw [← hW3]; simp
    have hcr : Cr W3 (w.heap.size + 1) r (fun _ => zN) := ⟨Z, x1, by rw [← hZ]; exact mk0_size r, fun h k hh hk => by rw [← hZ]; exact mk0_at r h k hh hk⟩
    have k0 : W3.cell? ⟨w.heap.size + 1 + 1, 0, none⟩ = some (.slice (some ⟨(w.heap.size + 1), 0, none⟩) r r) := by simp [World.cell?, x2]
    have cd := detached_nil (w := W3.drew) (g := ⟨#[]⟩) (s := ⟨#[]⟩) (a := none) (k := 0) (cap := 0)
    have HF : Hid (∀ w4, Below W3.drew.heap.size W3.drew w4 → w4.cell? ⟨w.heap.size + 1 + 1, 0, none⟩ = some (.slice (some ⟨(w.heap.size + 1), 0, none⟩) r r) ∧ Cr w4 (w.heap.size + 1) r (fun _ => zN) ∧ w4.heap[w.heap.size + 1 + 1]? = W3.heap[w.heap.size + 1 + 1]? ∧ w4.heap[w.heap.size]? = W3.heap[w.heap.size]? ∧ Below w.heap.size w w4) := by
      intro w4 b4
      have e2 := b4.block (w.heap.size + 1 + 1) (by show _ < W3.heap.size; omega)
      exact ⟨by simp [World.cell?, e2.trans x2], hcr.keep (b4.block (w.heap.size + 1) (by show _ < W3.heap.size; omega)), e2, b4.block w.heap.size (by show _ < W3.heap.size; omega), b3.drew.trans (b4.mono (by show _ ≤ W3.heap.size; omega))⟩
    have HX : Hid (W3.heap[w.heap.size + 1 + 1]? = some (.cells #[.slice (some ⟨(w.heap.size + 1), 0, none⟩) r r, .slice (some ⟨w.heap.size, 0, none⟩) 0 (r - 1), .int .i64 0, .int .i64 0, .int .i64 0, .int .i64 0, .int .i64 0, .int .i64 0, .int .i64 0] 75 (0, 0))) := x2
    have HM : Hid (W3.heap[w.heap.size]? = some (.cells M 3 (0, 0))) := x0
    have hr0 : 0 < r := h1
    have e1 : w.heap.size + 1 + 1 ≠ w.heap.size := by omega
    have e2 : w.heap.size ≠ w.heap.size + 1 + 1 := by omega
    have e3 : w.heap.size + 1 + 1 ≠ w.heap.size + 1 := by omega
    have e4 : w.heap.size + 1 ≠ w.heap.size + 1 + 1 := by omega
    clear hcr x0 x1 x2 hW3
    go_wp2_with fail
    go_region_held3 (fun w' => w'.cell? ⟨w.heap.size + 1 + 1, 0, none⟩ = some (.slice (some ⟨(w.heap.size + 1), 0, none⟩) r r)) (go_keep) (first | (go_at_call 63; refine cd.mono ?_; rintro e w4 ⟨rfl, b4⟩; obtain ⟨z0, hc4, z2, z3, z4⟩ := HF.out w4 b4; have n0 := hc4.at h1 (j := 0) (k := 0) (by omega); rw [Nat.zero_mul, Nat.zero_add] at n0; have f0 := hc4.frozen 0; have n1 := hc4.at h1 (j := 0) (k := 1) (by omega); rw [Nat.zero_mul, Nat.zero_add] at n1; have f1 := hc4.frozen 1; have n2 := hc4.at h1 (j := 0) (k := 2) (by omega); rw [Nat.zero_mul, Nat.zero_add] at n2; have f2 := hc4.frozen 2; have n3 := hc4.at h1 (j := 0) (k := 3) (by omega); rw [Nat.zero_mul, Nat.zero_add] at n3; have f3 := hc4.frozen 3; have n4 := hc4.at h1 (j := 0) (k := 4) (by omega); rw [Nat.zero_mul, Nat.zero_add] at n4; have f4 := hc4.frozen 4; have n5 := hc4.at h1 (j := 0) (k := 5) (by omega); rw [Nat.zero_mul, Nat.zero_add] at n5; have f5 := hc4.frozen 5; have n6 := hc4.at h1 (j := 0) (k := 6) (by omega); rw [Nat.zero_mul, Nat.zero_add] at n6; have f6 := hc4.frozen 6; have n7 := hc4.at h1 (j := 0) (k := 7) (by omega); rw [Nat.zero_mul, Nat.zero_add] at n7; have f7 := hc4.frozen 7; have n8 := hc4.at h1 (j := 0) (k := 8) (by omega); rw [Nat.zero_mul, Nat.zero_add] at n8; have f8 := hc4.frozen 8; have HC4 : Hid (Cr w4 (w.heap.size + 1) r (fun _ => zN)) := hc4; clear hc4) | fail)
    rename_i hHeld
    clear hHeld
    obtain ⟨W5, hW5⟩ : ∃ W5, (((((((((w4.setCell ⟨(w.heap.size + 1), 0, none⟩ (.bool true)).setCell ⟨(w.heap.size + 1), 1, none⟩ (.string ⟨#[]⟩)).setCell ⟨(w.heap.size + 1), 2, none⟩ (.string ⟨#[]⟩)).setCell ⟨(w.heap.size + 1), 3, none⟩ (.slice none 0 0)).setCell ⟨(w.heap.size + 1), 4, none⟩ (.int .i64 (-1))).setCell ⟨(w.heap.size + 1), 5, none⟩ (.int .i64 (-1))).setCell ⟨(w.heap.size + 1), 6, none⟩ (.int .i64 (-1))).setCell ⟨(w.heap.size + 1), 7, none⟩ (.int .i64 (-1))).setCell ⟨(w.heap.size + 1), 8, none⟩ (.int .i64 (-1))) = W5 := ⟨_, rfl⟩
    rw [hW5]
    have hc5 : Cr W5 (w.heap.size + 1) r (up (fun _ => zN) 0 rootN) := by rw [← hW5]; exact HC4.out.putAll h1 rootN
    have hg5 : w4.grownBy W5 (some (w.heap.size + 1)) := by rw [← hW5]; exact grown_set (grown_set (grown_set (grown_set (grown_set (grown_set (grown_set (grown_set (grown_set (World.grownBy.refl _ _) _ _) _ _) _ _) _ _) _ _) _ _) _ _) _ _) _ _
    have l2 : w.heap.size + 1 + 1 < w4.heap.size := (Array.getElem?_eq_some_iff.1 (z2.trans HX.out)).1
    have lf : w.heap.size < w4.heap.size := (Array.getElem?_eq_some_iff.1 (z3.trans HM.out)).1
    have hb5 : Bx W5 (w.heap.size + 1 + 1) (w.heap.size + 1) r (.slice (some ⟨w.heap.size, 0, none⟩) 0 (r - 1)) (fun _ => 0) := ((hg5.block (w.heap.size + 1 + 1) l2 (by intro e; have := Option.some.inj e; omega)).trans z2).trans HX.out
    have hf5 : Oi W5 w.heap.size (.slice (some ⟨w.heap.size, 0, none⟩) 0 (r - 1)) (dn (r - 1) 0) := ⟨rfl, .inr ⟨w.heap.size, r - 1, M, rfl, by omega, ((hg5.block w.heap.size lf (by intro e; have := Option.some.inj e; omega)).trans z3).trans HM.out, Nat.zero_le _, by unfold maxLen; omega, by omega, rfl⟩⟩
    have B5 : Below w.heap.size w W5 := z4.grown hg5 z4.size (fun k hk => by have := Option.some.inj hk; omega)
    have HB5 : Hid (Bx W5 (w.heap.size + 1 + 1) (w.heap.size + 1) r (.slice (some ⟨w.heap.size, 0, none⟩) 0 (r - 1)) (fun _ => 0)) := hb5
    have HC5 : Hid (Cr W5 (w.heap.size + 1) r (up (fun _ => zN) 0 rootN)) := hc5
    have HF5 : Hid (Oi W5 w.heap.size (.slice (some ⟨w.heap.size, 0, none⟩) 0 (r - 1)) (dn (r - 1) 0)) := hf5
    obtain ⟨i0, hi0, hz0, hz1, hz2⟩ := info_parts infoI
    clear hb5 hc5 hf5 hg5 hW5 z0 z2 z3 z4 n0 n1 n2 n3 n4 n5 n6 n7 n8 f0 f1 f2 f3 f4 f5 f6 f7 f8 cd k0 HF HX HM HC4 b3 b4
    have hr1 : Hid ((r : Int) - 1 = ((r - 1 : Nat) : Int)) := by show (r : Int) - 1 = ((r - 1 : Nat) : Int); omega
    have hbp : w.heap.size ≤ w.heap.size + 1 + 1 := by omega
    clear e1 e2 e3 e4 l2 lf s3 mk1 mk2 hZ hM
    generalize w.heap.size + 1 + 1 = bp at *
    go_wp2_with fail
    go_loopw [5] (fun t wr => ∃ (m : Nat) (v : Value), t = .int .i64 m ∧ m ≤ r - 1 ∧ Bx wr (bp) (w.heap.size + 1) r v (fun _ => 0) ∧ Oi wr w.heap.size v (dn (r - 1) (r - 1 - m)) ∧ Cr wr (w.heap.size + 1) r (up (fun _ => zN) 0 rootN) ∧ Below w.heap.size w wr) (fun t _ => (intOf t).toNat)
    case atStart => exact ⟨r - 1, _, by first | rfl | rw [hr1.out], Nat.le_refl _, HB5.out, by rw [Nat.sub_self]; exact HF5.out, HC5.out, B5⟩
    case round =>
      obtain ⟨m, v, rfl, hm, hbx, hoi, hcr, hbel⟩ := hrel
      have hsz := hbel.size
      have HDL : Hid ((dn (r - 1) (r - 1 - m)).length = r - 1 - m) := dn_len (r - 1 - m) (r - 1)
      have hpl := hbx.lt
      have hgl := hcr.lt
      by_cases hm0 : 0 < m
      · have hd : decide ((0 : Int) < (m : Int)) = true := decide_eq_true (by omega)
        have k0 := hbx.at0
        have k1 := hbx.at1
        obtain ⟨va, vc, rfl⟩ := hoi.shape
        have hrow1 := World.ownsRow.alloc hoi (.cells #[.int .i64 (m : Int)] 3)
        have nb := box_ne hbx hoi
        have nr := row_ne hcr hoi
        have HO : Hid (Oi wr w.heap.size (.slice va (dn (r - 1) (r - 1 - m)).length vc) (dn (r - 1) (r - 1 - m))) := hoi
        have HBX : Hid (Bx wr (bp) (w.heap.size + 1) r (.slice va (dn (r - 1) (r - 1 - m)).length vc) (fun _ => 0)) := hbx
        have HCR : Hid (Cr wr (w.heap.size + 1) r (up (fun _ => zN) 0 rootN)) := hcr
        have NB : Hid ((Value.slice va (dn (r - 1) (r - 1 - m)).length vc).ownBlock ≠ some (bp)) := nb
        have NR : Hid ((Value.slice va (dn (r - 1) (r - 1 - m)).length vc).ownBlock ≠ some (w.heap.size + 1)) := nr
        clear hoi hbx hcr nb nr HB5 HC5 HF5
        have hlen : (dn (r - 1) (r - 1 - m)).length + 1 ≤ 8192 := by rw [HDL.out]; omega
        obtain ⟨N, hN⟩ : ∃ N, (dn (r - 1) (r - 1 - m)).length = N := ⟨_, rfl⟩
        rw [hN] at hlen hrow1 HO HBX NB NR k1
        have HN : Hid ((dn (r - 1) (r - 1 - m)).length = N) := hN
        clear hN HDL
        go_wp2_with (first
          | (at_builtin; refine wpList_append_own_at _ rfl _ _ 37 rfl w.heap.size 3 i0 (.int .i64 0) 1 8 Try.underlying37 hi0 hz0 hz1 hz2 rfl (by decide) _ _ _ rfl hrow1 ⟨wr.heap.size, 0, none⟩ 1 1 [.int .i64 (m : Int)] rfl rfl (cell_one_new _ _ _) (by simp [Value.oneCell']) (by unfold maxLen; omega) (by omega) (by simp; omega) ?_))
        intro v' w2 hown' hgrow _ hat
        have g1 : wr.grownBy w2 (Value.slice va N vc).ownBlock := ⟨hgrow.os, hgrow.tape, hgrow.output, Nat.le_trans (by simp) hgrow.size, fun k hk hne => (hgrow.block k (by simp; omega) hne).trans (Below.heap_alloc _ _ _ hk)⟩
        have ho2 : Oi w2 w.heap.size v' (dn (r - 1) (r - 1 - (m - 1))) := by
          have e : r - 1 - (m - 1) = r - 1 - m + 1 := by omega
          rw [e, dn_snoc _ _ (by omega), show r - 1 - (r - 1 - m) = m by omega]
          unfold Oi
          rw [List.map_append, List.length_append, HN.out]
          exact hown'
        have hb2 : Bx w2 (bp) (w.heap.size + 1) r (.slice va N vc) (fun _ => 0) := HBX.out.keep (g1.block _ hpl (fun e => NB.out e.symm))
        have hc2 : Cr w2 (w.heap.size + 1) r (up (fun _ => zN) 0 rootN) := HCR.out.keep (g1.block _ hgl (fun e => NR.out e.symm))
        have hbel2 : Below w.heap.size w w2 := hbel.grown g1 hsz (fun k hk => (World.ownsRow.lt HO.out k hk).1)
        have nb2 := box_ne hb2 ho2
        have nr2 := ne_of hb2 hc2
        obtain ⟨va2, vc2, rfl⟩ := ho2.shape
        have k2 := hb2.at1
        have f2 : w2.frozen? ⟨bp, 1, none⟩ = false := frozen_box hb2 1
        have REL : Hid (Bx (w2.setCell ⟨bp, 1, none⟩ (.slice va2 (dn (r - 1) (r - 1 - (m - 1))).length vc2)) (bp) (w.heap.size + 1) r (.slice va2 (dn (r - 1) (r - 1 - (m - 1))).length vc2) (fun _ => 0) ∧ Oi (w2.setCell ⟨bp, 1, none⟩ (.slice va2 (dn (r - 1) (r - 1 - (m - 1))).length vc2)) w.heap.size (.slice va2 (dn (r - 1) (r - 1 - (m - 1))).length vc2) (dn (r - 1) (r - 1 - (m - 1))) ∧ Cr (w2.setCell ⟨bp, 1, none⟩ (.slice va2 (dn (r - 1) (r - 1 - (m - 1))).length vc2)) (w.heap.size + 1) r (up (fun _ => zN) 0 rootN) ∧ Below w.heap.size w (w2.setCell ⟨bp, 1, none⟩ (.slice va2 (dn (r - 1) (r - 1 - (m - 1))).length vc2))) := by
          refine ⟨Bx.free hb2 _, ⟨ho2.1, ?_⟩, hc2.keep (Below.heap_setCell _ _ _ _ (fun e => nr2 e.symm)), hbel2.setCell (p := ⟨bp, 1, none⟩) (by show w.heap.size ≤ bp; exact hbp) _⟩
          rcases ho2.2 with h | ⟨g', cap', cur', q1, q2, q3, q4⟩
          · exact .inl h
          · refine .inr ⟨g', cap', cur', q1, q2, (Below.heap_setCell _ _ _ _ (fun e => nb2 ?_)).trans q3, q4⟩
            rw [q1, e]
            rfl
        have hmm : (m : Int) - 1 = ((m - 1 : Nat) : Int) := by omega
        clear hown' hgrow hat hrow1 ho2 hb2 hc2 nb2 nr2
        generalize (dn (r - 1) (r - 1 - (m - 1))).length = N2 at *
        go_wp2_with fail
        go_roundw
        case rel => exact ⟨m - 1, _, by first | rfl | rw [hmm] | go_num, by omega, REL.out.1, REL.out.2.1, REL.out.2.2.1, REL.out.2.2.2⟩
        case measure => simp only [intOf]; omega
      · obtain rfl : m = 0 := by omega
        have HF : Hid (∃ v, Bx wr (bp) (w.heap.size + 1) r v (fun _ => 0) ∧ Oi wr w.heap.size v (dn (r - 1) (r - 1)) ∧ Cr wr (w.heap.size + 1) r (up (fun _ => zN) 0 rootN)) := ⟨v, hbx, hoi, hcr⟩
        clear hoi hbx hcr HB5 HC5 HF5
        go_wp2_with fail
        obtain ⟨v, q1, q2, q3⟩ := HF.out
        refine bodyPost_ret (v := .tuple #[.pointer (some ⟨bp, 0, none⟩), .int .i64 0]) (by simp [results, Try.results26, go_sem]) rfl ⟨_, _, _, rfl, q1, q3, q2, by omega, by omega, hbel⟩
end Go.Proofs.Ytnpamcgbnimdkaa.DNew

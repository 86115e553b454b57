import Derived.Test.YtnoohlmlpijhaaaGreatDoorPZ20
import Derived.Test.YtnoohlmlpijhaaaGreatDoorPZ24
import Derived.Test.YtnoohlmlpijhaaaGreatDoorPZ27
import Derived.Test.YtnoohlmlpijhaaaGreatDoorPZ32
namespace Go.Proofs.YtnoohlmlpijhaaaGreatDoor.QQu
open Go.ChangeShapes Go.WideShapes Go.ChangeAt Go.RowKit Go.Proofs.YtnoohlmlpijhaaaGreatDoor.Base Go.Proofs.YtnoohlmlpijhaaaGreatDoor.UBase Go.Proofs.YtnoohlmlpijhaaaGreatDoor.ETx Go.Proofs.YtnoohlmlpijhaaaGreatDoor.PTx
set_option linter.unusedVariables false
theorem info5 : (Tryz.prog.info? 5).map (fun i => (i.zero, i.size, i.bytes)) = some (some (.int .u8 0), 1, 1) := by kernel_rfl
theorem info_parts {t : TypeId} {z : Value} {s b : Nat} (h : (Tryz.prog.info? t).map (fun i => (i.zero, i.size, i.bytes)) = some (some z, s, b)) : ∃ i, Tryz.prog.info? t = some i ∧ i.zero = some z ∧ i.size = s ∧ i.bytes = b := by
  cases hi : Tryz.prog.info? t with
  | none => rw [hi] at h; cases h
  | some i =>
    rw [hi] at h
    simp only [Option.map_some, Option.some.injEq, Prod.mk.injEq] at h
    exact ⟨i, rfl, h.1, h.2.1, h.2.2⟩
/-- The cells of a new block. -/
theorem new_cells (w : World) (cs : List Value) (t : TypeId) : ∀ j u, cs[j]? = some u → (w.alloc (.cells cs.toArray t)).cell? ((⟨w.heap.size, 0, none⟩ : Addr).add j) = some u := by
  intro j u hu
  rw [add_none, Nat.zero_add]
  have h := heap_alloc_new w (.cells cs.toArray t)
  have e : (w.alloc (.cells cs.toArray t)).cell? ⟨w.heap.size, j, none⟩ = cs.toArray[j]? := by
    unfold World.cell?
    rw [h]
    rfl
  rw [e]
  simpa using hu
theorem own_snoc {w' : World} {B : Nat} {v : Value} {L M : List UInt8} (h : w'.ownsRow B 5 1 v (L.length + M.length) (Lib.byteCells L ++ Lib.byteCells M)) : Own w' B v (L ++ M) := by
  unfold Own
  rw [Lib.byteCells_append, List.length_append]
  exact h
theorem fm_snoc (s : ByteArray) {k : Nat} (h : k < s.size) : (s.data.toList.take (k + 1)).flatMap qb = (s.data.toList.take k).flatMap qb ++ qb s[k] := by
  have hl : k < s.data.toList.length := by rw [Array.length_toList]; exact h
  rw [List.take_succ_eq_append_getElem hl, List.flatMap_append]
  simp [ByteArray.getElem_eq_getElem_data]
set_option maxRecDepth 20000 in
set_option maxHeartbeats 3200000 in
theorem quoted_c (s : ByteArray) (hs : s.size ≤ 1000000000) (w : World) : Calls Tryz.prog 46 #[.string s] w fun e w' => e = .returned (.string ⟨(qt s).toArray⟩) ∧ Below w.heap.size w w' := by
  obtain ⟨i0, hi, hz0, hz1, hz2⟩ := info_parts info5
  have o0 : Own (w.alloc (.cells #[.int .u8 39] 5)) w.heap.size (.slice (some ⟨w.heap.size, 0, none⟩) 1 1) [39] := by
    refine ⟨rfl, .inr ⟨w.heap.size, 1, #[.int .u8 39], rfl, Nat.le_refl _, heap_alloc_new w _, Nat.le_refl _, by simp [maxLen], rfl, rfl⟩⟩
  have b0 : Below w.heap.size w (w.alloc (.cells #[.int .u8 39] 5)) := (Below.refl _ w).alloc (Nat.le_refl _) _
  have O0 : Hid (Own (w.alloc (.cells #[.int .u8 39] 5)) w.heap.size (.slice (some ⟨w.heap.size, 0, none⟩) 1 1) [39] ∧ Below w.heap.size w (w.alloc (.cells #[.int .u8 39] 5))) := ⟨o0, b0⟩
  clear o0 b0
  go_enter Tryz.func46, Tryz.ntmps46
  go_wp2_with fail
  go_loopw [3, 4] (fun v iv wr => ∃ (k : Nat) (L : List UInt8), iv = .int .i64 k ∧ k ≤ s.size ∧ Own wr w.heap.size v L ∧ L = 39 :: (s.data.toList.take k).flatMap qb ∧ Below w.heap.size w wr) (fun _ iv _ => s.size - (intOf iv).toNat)
  case atStart => exact ⟨0, [39], rfl, by omega, O0.out.1, by simp, O0.out.2⟩
  case round =>
    clear O0
    obtain ⟨k, L, rfl, hk, hown, hL, hb⟩ := hrel
    have hsz := hb.size
    have hLn : L.length ≤ 1 + 2 * k := by
      rw [hL, List.length_cons]
      have := fm_len (s.data.toList.take k)
      rw [List.length_take] at this
      omega
    have HL : Hid (L = 39 :: (s.data.toList.take k).flatMap qb) := hL
    clear hL
    by_cases hlt : k < s.size
    · have d : decide ((k : Int) < (s.size : Int)) = true := by simp; omega
      obtain ⟨c, hc⟩ : ∃ c, s[k]'hlt = c := ⟨_, rfl⟩
      have HC : Hid (39 :: (s.data.toList.take (k + 1)).flatMap qb = L ++ qb c) := by
        show _ = _
        rw [fm_snoc s hlt, hc, HL.out]
        rfl
      have hcn : (s[k]'hlt).toNat = c.toNat := by rw [hc]
      have HB : Hid (Below w.heap.size w wr) := hb
      have HOW : Hid (Own wr w.heap.size u3 L) := hown
      by_cases h39 : c = 39
      · subst h39
        have hcn' : (s[k]'hlt).toNat = 39 := by rw [hc]; rfl
        clear hcn hc
        have HQ : Hid (qb 39 = [92, 39]) := rfl
        go_wp2_with (first | (at_builtin; refine wpList_append_own _ rfl _ _ 42 rfl w.heap.size 5 i0 (.int .u8 0) 1 1 Tryz.underlying42 hi hz0 hz1 hz2 rfl (by decide) _ _ _ rfl (World.ownsRow.alloc hown _) ⟨_, 0, none⟩ 2 2 [.int .u8 92, .int .u8 39] rfl rfl (new_cells wr [.int .u8 92, .int .u8 39] 5) (by intro u hu; simp at hu; rcases hu with rfl | rfl <;> rfl) (by unfold maxLen; omega) (by omega) (by simp; omega) ?_))
        intro v' w2 hown' hgrow _
        have hb3 := (HB.out.alloc hsz (.cells ([.int .u8 92, .int .u8 39] : List Value).toArray 5)).grown hgrow (by simp; omega) (fun k hk => (World.ownsRow.lt HOW.out k hk).1)
        have ho : Own w2 w.heap.size v' (L ++ [92, 39]) := own_snoc (M := [92, 39]) hown'
        have HO : Hid (Own w2 w.heap.size v' (L ++ qb 39) ∧ Below w.heap.size w w2) := ⟨by rw [HQ.out]; exact ho, hb3⟩
        clear hown' hgrow hown hb ho hb3
        go_wp2_with fail
        go_roundw
        case rel => exact ⟨k + 1, L ++ qb 39, by go_num, by omega, HO.out.1, HC.out.symm, HO.out.2⟩
        case measure => simp only [intOf]; omega
      by_cases h92 : c = 92
      · subst h92
        have hcn' : (s[k]'hlt).toNat = 92 := by rw [hc]; rfl
        clear hcn hc h39
        have HQ : Hid (qb 92 = [92, 92]) := rfl
        go_wp2_with (first | (at_builtin; refine wpList_append_own _ rfl _ _ 42 rfl w.heap.size 5 i0 (.int .u8 0) 1 1 Tryz.underlying42 hi hz0 hz1 hz2 rfl (by decide) _ _ _ rfl (World.ownsRow.alloc hown _) ⟨_, 0, none⟩ 2 2 [.int .u8 92, .int .u8 92] rfl rfl (new_cells wr [.int .u8 92, .int .u8 92] 5) (by intro u hu; simp at hu; rcases hu with rfl | rfl <;> rfl) (by unfold maxLen; omega) (by omega) (by simp; omega) ?_))
        intro v' w2 hown' hgrow _
        have hb3 := (HB.out.alloc hsz (.cells ([.int .u8 92, .int .u8 92] : List Value).toArray 5)).grown hgrow (by simp; omega) (fun k hk => (World.ownsRow.lt HOW.out k hk).1)
        have ho : Own w2 w.heap.size v' (L ++ [92, 92]) := own_snoc (M := [92, 92]) hown'
        have HO : Hid (Own w2 w.heap.size v' (L ++ qb 92) ∧ Below w.heap.size w w2) := ⟨by rw [HQ.out]; exact ho, hb3⟩
        clear hown' hgrow hown hb ho hb3
        go_wp2_with fail
        go_roundw
        case rel => exact ⟨k + 1, L ++ qb 92, by go_num, by omega, HO.out.1, HC.out.symm, HO.out.2⟩
        case measure => simp only [intOf]; omega
      by_cases h125 : c = 125
      · subst h125
        have hcn' : (s[k]'hlt).toNat = 125 := by rw [hc]; rfl
        clear hcn hc h39 h92
        have HQ : Hid (qb 125 = [92, 125]) := rfl
        go_wp2_with (first | (at_builtin; refine wpList_append_own _ rfl _ _ 42 rfl w.heap.size 5 i0 (.int .u8 0) 1 1 Tryz.underlying42 hi hz0 hz1 hz2 rfl (by decide) _ _ _ rfl (World.ownsRow.alloc hown _) ⟨_, 0, none⟩ 2 2 [.int .u8 92, .int .u8 125] rfl rfl (new_cells wr [.int .u8 92, .int .u8 125] 5) (by intro u hu; simp at hu; rcases hu with rfl | rfl <;> rfl) (by unfold maxLen; omega) (by omega) (by simp; omega) ?_))
        intro v' w2 hown' hgrow _
        have hb3 := (HB.out.alloc hsz (.cells ([.int .u8 92, .int .u8 125] : List Value).toArray 5)).grown hgrow (by simp; omega) (fun k hk => (World.ownsRow.lt HOW.out k hk).1)
        have ho : Own w2 w.heap.size v' (L ++ [92, 125]) := own_snoc (M := [92, 125]) hown'
        have HO : Hid (Own w2 w.heap.size v' (L ++ qb 125) ∧ Below w.heap.size w w2) := ⟨by rw [HQ.out]; exact ho, hb3⟩
        clear hown' hgrow hown hb ho hb3
        go_wp2_with fail
        go_roundw
        case rel => exact ⟨k + 1, L ++ qb 125, by go_num, by omega, HO.out.1, HC.out.symm, HO.out.2⟩
        case measure => simp only [intOf]; omega
      have n39 : ((c.toNat : Int) == 39) = false := by simp; intro e; exact h39 (UInt8.toNat_inj.1 (by show c.toNat = _; simp only [UInt8.reduceToNat]; omega))
      have n92 : ((c.toNat : Int) == 92) = false := by simp; intro e; exact h92 (UInt8.toNat_inj.1 (by show c.toNat = _; simp only [UInt8.reduceToNat]; omega))
      have n125 : ((c.toNat : Int) == 125) = false := by simp; intro e; exact h125 (UInt8.toNat_inj.1 (by show c.toNat = _; simp only [UInt8.reduceToNat]; omega))
      by_cases h10 : c = 10
      · subst h10
        have hcn' : (s[k]'hlt).toNat = 10 := by rw [hc]; rfl
        clear hcn hc h39 h92 h125 n39 n92 n125
        have HQ : Hid (qb 10 = [92, 110]) := rfl
        go_wp2_with (first | (at_builtin; refine wpList_append_own _ rfl _ _ 42 rfl w.heap.size 5 i0 (.int .u8 0) 1 1 Tryz.underlying42 hi hz0 hz1 hz2 rfl (by decide) _ _ _ rfl (World.ownsRow.alloc hown _) ⟨_, 0, none⟩ 2 2 [.int .u8 92, .int .u8 110] rfl rfl (new_cells wr [.int .u8 92, .int .u8 110] 5) (by intro u hu; simp at hu; rcases hu with rfl | rfl <;> rfl) (by unfold maxLen; omega) (by omega) (by simp; omega) ?_))
        intro v' w2 hown' hgrow _
        have hb3 := (HB.out.alloc hsz (.cells ([.int .u8 92, .int .u8 110] : List Value).toArray 5)).grown hgrow (by simp; omega) (fun k hk => (World.ownsRow.lt HOW.out k hk).1)
        have ho : Own w2 w.heap.size v' (L ++ [92, 110]) := own_snoc (M := [92, 110]) hown'
        have HO : Hid (Own w2 w.heap.size v' (L ++ qb 10) ∧ Below w.heap.size w w2) := ⟨by rw [HQ.out]; exact ho, hb3⟩
        clear hown' hgrow hown hb ho hb3
        go_wp2_with fail
        go_roundw
        case rel => exact ⟨k + 1, L ++ qb 10, by go_num, by omega, HO.out.1, HC.out.symm, HO.out.2⟩
        case measure => simp only [intOf]; omega
      have n10 : ((c.toNat : Int) == 10) = false := by simp; intro e; exact h10 (UInt8.toNat_inj.1 (by show c.toNat = _; simp only [UInt8.reduceToNat]; omega))
      have hqe : qb c = [c] := by unfold qb; rw [if_neg h39, if_neg h92, if_neg h125, if_neg h10]
      clear h39 h92 h125 h10
      have HQ : Hid (qb c = [c]) := hqe
      go_wp2_with (first | (at_builtin; refine wpList_append_own _ rfl _ _ 42 rfl w.heap.size 5 i0 (.int .u8 0) 1 1 Tryz.underlying42 hi hz0 hz1 hz2 rfl (by decide) _ _ _ rfl (World.ownsRow.alloc hown _) ⟨_, 0, none⟩ 1 1 [.int .u8 (c.toNat : Int)] rfl rfl (new_cells wr [.int .u8 (c.toNat : Int)] 5) (by intro u hu; simp at hu; rcases hu with rfl <;> rfl) (by unfold maxLen; omega) (by omega) (by simp; omega) ?_))
      intro v' w2 hown' hgrow _
      have hb3 := (HB.out.alloc hsz (.cells ([.int .u8 (c.toNat : Int)] : List Value).toArray 5)).grown hgrow (by simp; omega) (fun k hk => (World.ownsRow.lt HOW.out k hk).1)
      have ho : Own w2 w.heap.size v' (L ++ [c]) := own_snoc (M := [c]) hown'
      have HO : Hid (Own w2 w.heap.size v' (L ++ qb c) ∧ Below w.heap.size w w2) := ⟨by rw [HQ.out]; exact ho, hb3⟩
      clear hown' hgrow hown hb ho hb3
      go_wp2_with fail
      go_roundw
      case rel => exact ⟨k + 1, L ++ qb c, by go_num, by omega, HO.out.1, HC.out.symm, HO.out.2⟩
      case measure => simp only [intOf]; omega
    · have d : decide ((k : Int) < (s.size : Int)) = false := by simp; omega
      have HE : Hid (L ++ [39] = qt s) := by
        show _ = _
        rw [HL.out, List.take_of_length_le (by rw [Array.length_toList]; show s.size ≤ k; omega)]
        rfl
      have HB : Hid (Below w.heap.size w wr) := hb
      have HOW : Hid (Own wr w.heap.size u3 L) := hown
      go_wp2_with (first | (at_builtin; refine wpList_append_own _ rfl _ _ 42 rfl w.heap.size 5 i0 (.int .u8 0) 1 1 Tryz.underlying42 hi hz0 hz1 hz2 rfl (by decide) _ _ _ rfl (World.ownsRow.alloc hown _) ⟨_, 0, none⟩ 1 1 [.int .u8 39] rfl rfl (new_cells wr [.int .u8 39] 5) (by intro u hu; simp at hu; rcases hu with rfl <;> rfl) (by unfold maxLen; omega) (by omega) (by simp; omega) ?_))
      intro v' w2 hown' hgrow _
      have hb3 := (HB.out.alloc hsz (.cells ([.int .u8 39] : List Value).toArray 5)).grown hgrow (by simp; omega) (fun k hk => (World.ownsRow.lt HOW.out k hk).1)
      have ho : Own w2 w.heap.size v' (L ++ [39]) := own_snoc (M := [39]) hown'
      rw [HE.out] at ho
      have hconv := own_conv ho
      obtain ⟨a4, c4, rfl, -, -⟩ := ho.len
      have HB3 : Hid (Below w.heap.size w w2) := hb3
      clear hown' hgrow hown hb ho hb3
      go_wp2_with fail
      go_ret
      exact ⟨rfl, HB3.out⟩
end Go.Proofs.YtnoohlmlpijhaaaGreatDoor.QQu
namespace Go.Proofs.YtnoohlmlpijhaaaGreatDoor.ELv2
open Go.RowKit Go.Proofs.YtnoohlmlpijhaaaGreatDoor.Base Go.Proofs.YtnoohlmlpijhaaaGreatDoor.EPure
set_option linter.unusedVariables false
/-- The table of levels, in memory. -/
def Lt (w : World) (g : Nat) : Prop := ∀ k, k < 11 → ∃ b, w.cell? ⟨g, k, none⟩ = some (.slice (some ⟨b, 0, none⟩) (lvs.getD k []).length (lvs.getD k []).length) ∧ ∀ i, i < (lvs.getD k []).length → w.cell? ⟨b, i, none⟩ = some (.string ⟨((lvs.getD k []).getD i ([], 0)).1.toArray⟩)
/-- One block behind the other. -/
def allocs (w : World) : List Obj → World
  | [] => w
  | o :: L => allocs (w.alloc o) L
theorem allocs_below : ∀ (L : List Obj) (w : World) (B : Nat), B ≤ w.heap.size → Below B w (allocs w L)
  | [], w, B, h => Below.refl B w
  | o :: L, w, B, h => ((Below.refl B w).alloc h o).trans (allocs_below L (w.alloc o) B (by rw [World.size_alloc]; omega))
theorem allocs_at : ∀ (L : List Obj) (w : World) (j : Nat), j < L.length → (allocs w L).heap[w.heap.size + j]? = L[j]?
  | o :: L, w, 0, _ => by
    rw [allocs, Nat.add_zero, (allocs_below L (w.alloc o) (w.heap.size + 1) (by rw [World.size_alloc]; omega)).block w.heap.size (by omega), heap_alloc_new]
    rfl
  | o :: L, w, j + 1, h => by
    have := allocs_at L (w.alloc o) j (by simpa using h)
    rw [World.size_alloc] at this
    rw [allocs, show w.heap.size + (j + 1) = w.heap.size + 1 + j by omega, this]
    rfl
set_option maxRecDepth 20000 in
set_option maxHeartbeats 3200000 in
theorem levels_c (w : World) : Calls Tryz.prog 43 #[] w fun e w' => Below w.heap.size w w' ∧ ∃ g, e = .returned (.slice (some ⟨g, 0, none⟩) 11 11) ∧ Lt w' g := by
  go_enter Tryz.func43, Tryz.ntmps43
  go_wp2_with fail
  go_ret
  obtain ⟨L, hL⟩ : ∃ L : List Obj, L = [.cells #[.string ⟨#[124, 124]⟩] 9, .cells #[.string ⟨#[38, 38]⟩] 9, .cells #[.string ⟨#[61, 61]⟩, .string ⟨#[33, 61]⟩] 9, .cells #[.string ⟨#[60]⟩, .string ⟨#[60, 61]⟩, .string ⟨#[62]⟩, .string ⟨#[62, 61]⟩] 9, .cells #[.string ⟨#[124]⟩] 9, .cells #[.string ⟨#[94]⟩] 9, .cells #[.string ⟨#[38]⟩] 9, .cells #[.string ⟨#[60, 60]⟩, .string ⟨#[62, 62]⟩] 9, .cells #[.string ⟨#[126]⟩] 9, .cells #[.string ⟨#[43]⟩, .string ⟨#[45]⟩] 9, .cells #[.string ⟨#[42]⟩, .string ⟨#[47]⟩, .string ⟨#[37]⟩] 9, .cells #[.slice (some ⟨w.heap.size, 0, none⟩) 1 1, .slice (some ⟨w.heap.size + 1, 0, none⟩) 1 1, .slice (some ⟨w.heap.size + 1 + 1, 0, none⟩) 2 2, .slice (some ⟨w.heap.size + 1 + 1 + 1, 0, none⟩) 4 4, .slice (some ⟨w.heap.size + 1 + 1 + 1 + 1, 0, none⟩) 1 1, .slice (some ⟨w.heap.size + 1 + 1 + 1 + 1 + 1, 0, none⟩) 1 1, .slice (some ⟨w.heap.size + 1 + 1 + 1 + 1 + 1 + 1, 0, none⟩) 1 1, .slice (some ⟨w.heap.size + 1 + 1 + 1 + 1 + 1 + 1 + 1, 0, none⟩) 2 2, .slice (some ⟨w.heap.size + 1 + 1 + 1 + 1 + 1 + 1 + 1 + 1, 0, none⟩) 1 1, .slice (some ⟨w.heap.size + 1 + 1 + 1 + 1 + 1 + 1 + 1 + 1 + 1, 0, none⟩) 2 2, .slice (some ⟨w.heap.size + 1 + 1 + 1 + 1 + 1 + 1 + 1 + 1 + 1 + 1, 0, none⟩) 3 3] 35] := ⟨_, rfl⟩
  have hlen : L.length = 12 := by rw [hL]; rfl
  have hW : ∀ j, j < 12 → (allocs w L).heap[w.heap.size + j]? = L[j]? := fun j hj => allocs_at L w j (by omega)
  have hb := allocs_below L w w.heap.size (Nat.le_refl _)
  have key : Lt (allocs w L) (w.heap.size + 11) := by
    have h0 : (allocs w L).heap[w.heap.size + 0]? = some (.cells #[.string ⟨#[124, 124]⟩] 9 (0, 0)) := (hW 0 (by omega)).trans (by rw [hL]; rfl)
    have h1 : (allocs w L).heap[w.heap.size + 1]? = some (.cells #[.string ⟨#[38, 38]⟩] 9 (0, 0)) := (hW 1 (by omega)).trans (by rw [hL]; rfl)
    have h2 : (allocs w L).heap[w.heap.size + 2]? = some (.cells #[.string ⟨#[61, 61]⟩, .string ⟨#[33, 61]⟩] 9 (0, 0)) := (hW 2 (by omega)).trans (by rw [hL]; rfl)
    have h3 : (allocs w L).heap[w.heap.size + 3]? = some (.cells #[.string ⟨#[60]⟩, .string ⟨#[60, 61]⟩, .string ⟨#[62]⟩, .string ⟨#[62, 61]⟩] 9 (0, 0)) := (hW 3 (by omega)).trans (by rw [hL]; rfl)
    have h4 : (allocs w L).heap[w.heap.size + 4]? = some (.cells #[.string ⟨#[124]⟩] 9 (0, 0)) := (hW 4 (by omega)).trans (by rw [hL]; rfl)
    have h5 : (allocs w L).heap[w.heap.size + 5]? = some (.cells #[.string ⟨#[94]⟩] 9 (0, 0)) := (hW 5 (by omega)).trans (by rw [hL]; rfl)
    have h6 : (allocs w L).heap[w.heap.size + 6]? = some (.cells #[.string ⟨#[38]⟩] 9 (0, 0)) := (hW 6 (by omega)).trans (by rw [hL]; rfl)
    have h7 : (allocs w L).heap[w.heap.size + 7]? = some (.cells #[.string ⟨#[60, 60]⟩, .string ⟨#[62, 62]⟩] 9 (0, 0)) := (hW 7 (by omega)).trans (by rw [hL]; rfl)
    have h8 : (allocs w L).heap[w.heap.size + 8]? = some (.cells #[.string ⟨#[126]⟩] 9 (0, 0)) := (hW 8 (by omega)).trans (by rw [hL]; rfl)
    have h9 : (allocs w L).heap[w.heap.size + 9]? = some (.cells #[.string ⟨#[43]⟩, .string ⟨#[45]⟩] 9 (0, 0)) := (hW 9 (by omega)).trans (by rw [hL]; rfl)
    have h10 : (allocs w L).heap[w.heap.size + 10]? = some (.cells #[.string ⟨#[42]⟩, .string ⟨#[47]⟩, .string ⟨#[37]⟩] 9 (0, 0)) := (hW 10 (by omega)).trans (by rw [hL]; rfl)
    have h11 : (allocs w L).heap[w.heap.size + 11]? = some (.cells #[.slice (some ⟨w.heap.size, 0, none⟩) 1 1, .slice (some ⟨w.heap.size + 1, 0, none⟩) 1 1, .slice (some ⟨w.heap.size + 1 + 1, 0, none⟩) 2 2, .slice (some ⟨w.heap.size + 1 + 1 + 1, 0, none⟩) 4 4, .slice (some ⟨w.heap.size + 1 + 1 + 1 + 1, 0, none⟩) 1 1, .slice (some ⟨w.heap.size + 1 + 1 + 1 + 1 + 1, 0, none⟩) 1 1, .slice (some ⟨w.heap.size + 1 + 1 + 1 + 1 + 1 + 1, 0, none⟩) 1 1, .slice (some ⟨w.heap.size + 1 + 1 + 1 + 1 + 1 + 1 + 1, 0, none⟩) 2 2, .slice (some ⟨w.heap.size + 1 + 1 + 1 + 1 + 1 + 1 + 1 + 1, 0, none⟩) 1 1, .slice (some ⟨w.heap.size + 1 + 1 + 1 + 1 + 1 + 1 + 1 + 1 + 1, 0, none⟩) 2 2, .slice (some ⟨w.heap.size + 1 + 1 + 1 + 1 + 1 + 1 + 1 + 1 + 1 + 1, 0, none⟩) 3 3] 35 (0, 0)) := (hW 11 (by omega)).trans (by rw [hL]; rfl)
    clear hW hb hlen hL
    generalize allocs w L = W at *
    rw [Nat.add_zero] at h0
    intro k hk
    match k, hk with
    | 0, _ =>
      refine ⟨w.heap.size + 0, by simp [World.cell?, h11, lvs], fun i hi => ?_⟩
      match i, hi with
      | 0, _ => simp [World.cell?, h0, lvs]
      | i + 1, h => exact absurd h (by simp [lvs])
    | 1, _ =>
      refine ⟨w.heap.size + 1, by simp [World.cell?, h11, lvs], fun i hi => ?_⟩
      match i, hi with
      | 0, _ => simp [World.cell?, h1, lvs]
      | i + 1, h => exact absurd h (by simp [lvs])
    | 2, _ =>
      refine ⟨w.heap.size + 2, by simp [World.cell?, h11, lvs], fun i hi => ?_⟩
      match i, hi with
      | 0, _ => simp [World.cell?, h2, lvs]
      | 1, _ => simp [World.cell?, h2, lvs]
      | i + 2, h => exact absurd h (by simp [lvs])
    | 3, _ =>
      refine ⟨w.heap.size + 3, by simp [World.cell?, h11, lvs], fun i hi => ?_⟩
      match i, hi with
      | 0, _ => simp [World.cell?, h3, lvs]
      | 1, _ => simp [World.cell?, h3, lvs]
      | 2, _ => simp [World.cell?, h3, lvs]
      | 3, _ => simp [World.cell?, h3, lvs]
      | i + 4, h => exact absurd h (by simp [lvs])
    | 4, _ =>
      refine ⟨w.heap.size + 4, by simp [World.cell?, h11, lvs], fun i hi => ?_⟩
      match i, hi with
      | 0, _ => simp [World.cell?, h4, lvs]
      | i + 1, h => exact absurd h (by simp [lvs])
    | 5, _ =>
      refine ⟨w.heap.size + 5, by simp [World.cell?, h11, lvs], fun i hi => ?_⟩
      match i, hi with
      | 0, _ => simp [World.cell?, h5, lvs]
      | i + 1, h => exact absurd h (by simp [lvs])
    | 6, _ =>
      refine ⟨w.heap.size + 6, by simp [World.cell?, h11, lvs], fun i hi => ?_⟩
      match i, hi with
      | 0, _ => simp [World.cell?, h6, lvs]
      | i + 1, h => exact absurd h (by simp [lvs])
    | 7, _ =>
      refine ⟨w.heap.size + 7, by simp [World.cell?, h11, lvs], fun i hi => ?_⟩
      match i, hi with
      | 0, _ => simp [World.cell?, h7, lvs]
      | 1, _ => simp [World.cell?, h7, lvs]
      | i + 2, h => exact absurd h (by simp [lvs])
    | 8, _ =>
      refine ⟨w.heap.size + 8, by simp [World.cell?, h11, lvs], fun i hi => ?_⟩
      match i, hi with
      | 0, _ => simp [World.cell?, h8, lvs]
      | i + 1, h => exact absurd h (by simp [lvs])
    | 9, _ =>
      refine ⟨w.heap.size + 9, by simp [World.cell?, h11, lvs], fun i hi => ?_⟩
      match i, hi with
      | 0, _ => simp [World.cell?, h9, lvs]
      | 1, _ => simp [World.cell?, h9, lvs]
      | i + 2, h => exact absurd h (by simp [lvs])
    | 10, _ =>
      refine ⟨w.heap.size + 10, by simp [World.cell?, h11, lvs], fun i hi => ?_⟩
      match i, hi with
      | 0, _ => simp [World.cell?, h10, lvs]
      | 1, _ => simp [World.cell?, h10, lvs]
      | 2, _ => simp [World.cell?, h10, lvs]
      | i + 3, h => exact absurd h (by simp [lvs])
    | k + 11, h => exact absurd h (by omega)
  subst hL
  exact ⟨hb, _, rfl, key⟩
end Go.Proofs.YtnoohlmlpijhaaaGreatDoor.ELv2
namespace Go.Proofs.YtnoohlmlpijhaaaGreatDoor.QPd
open Go.RowKit Go.Proofs.YtnoohlmlpijhaaaGreatDoor.UBase Go.Proofs.YtnoohlmlpijhaaaGreatDoor.EPure Go.Proofs.YtnoohlmlpijhaaaGreatDoor.PPl Go.Proofs.YtnoohlmlpijhaaaGreatDoor.PFit Go.Proofs.YtnoohlmlpijhaaaGreatDoor.PTx Go.Proofs.YtnoohlmlpijhaaaGreatDoor.ENd Go.Proofs.YtnoohlmlpijhaaaGreatDoor.ERg Go.Proofs.YtnoohlmlpijhaaaGreatDoor.QLv Go.Proofs.YtnoohlmlpijhaaaGreatDoor.EBk
open Go.Proofs.YtnoohlmlpijhaaaGreatDoor.XBase (In InL in_iff LAt Four elem_at four_below four_box)
open Go.Proofs.YtnoohlmlpijhaaaGreatDoor.Base (nx All heap_alloc_new below_cell)
open Go.Proofs.YtnoohlmlpijhaaaGreatDoor.PPr (pr gd gdL gdL_cons gd_range)
set_option linter.unusedVariables false
/-- What printed and under answer, at trees nested less than m deep. -/
def Pr (m : Nat) : Prop := ∀ (v : Value) (x : Ex) (w : World), gd x → rgL [x] → (pr (-1) x).length ≤ 100000000000 → In false All w m v x →
    Calls Tryz.prog 23 #[v] w fun e w' => e = .returned (.string ⟨(pr (-1) x).toArray⟩) ∧ Below w.heap.size w w'
def Un (m : Nat) : Prop := ∀ (v : Value) (x : Ex) (z : Int) (w : World), gd x → rgL [x] → (pr z x).length ≤ 100000000000 → -1 ≤ z → z ≤ 12 → In false All w m v x →
    Calls Tryz.prog 44 #[v, .int .i64 (z + 1)] w fun e w' => e = .returned (.string ⟨(pr z x).toArray⟩) ∧ Below w.heap.size w w'
theorem mk_size (L : List UInt8) : (⟨L.toArray⟩ : ByteArray).size = L.length := by show L.toArray.size = _; simp
theorem rl_lvl : ∀ o : Fin 32, 1 ≤ o.1 → ∀ z : Fin 14, (decide (rl (o.1 : Nat) < (z.1 : Int)) = decide (lvl (o.1 : Nat) < (z.1 : Int) - 1)) := by decide
theorem rl_lt {o z : Int} (h1 : 1 ≤ o) (h2 : o ≤ 31) (h3 : -1 ≤ z) (h4 : z ≤ 12) : decide (rl o < z + 1) = decide (lvl o < z) := by
  have := rl_lvl ⟨o.toNat, by omega⟩ (by simp; omega) ⟨(z + 1).toNat, by omega⟩
  simp only [show ((o.toNat : Nat) : Int) = o by omega, show (((z + 1).toNat : Nat) : Int) = z + 1 by omega, show z + 1 - 1 = z by omega] at this
  exact this
set_option maxRecDepth 20000 in
set_option maxHeartbeats 1600000 in
theorem un_of {m : Nat} (hP : Pr m) : Un m := by
  intro v x z w hg hr hlen z1 z2 h
  have hrg := gd_range hg
  have hlt := rl_lt hrg.1 hrg.2 z1 z2
  have hl0 : (pr (-1) x).length ≤ 100000000000 := by
    by_cases hz : lvl x.o < z
    · rw [pr_par hz] at hlen; simp at hlen; omega
    · rw [pr_own hz] at hlen; exact hlen
  obtain ⟨m', lv, rfl, rfl, ho, hi, hs, hL⟩ := h.shape
  obtain ⟨a, cap, rfl, -⟩ := hL
  obtain ⟨W0, hW0⟩ : ∃ W0, w.alloc (.cells #[.int .i64 x.o, .int .i64 x.i, .string x.s, .slice a x.l.length cap] 24) = W0 := ⟨_, rfl⟩
  have b0 : Below w.heap.size w W0 := by rw [← hW0]; exact (Below.refl _ w).alloc (Nat.le_refl _) _
  have s0 : W0.heap.size = w.heap.size + 1 := by rw [← hW0]; simp
  have hx : W0.heap[w.heap.size]? = some (.cells #[.int .i64 x.o, .int .i64 x.i, .string x.s, .slice a x.l.length cap] 24 (0, 0)) := by rw [← hW0]; exact heap_alloc_new w _
  have HX : Hid (W0.heap[w.heap.size]? = some (.cells #[.int .i64 x.o, .int .i64 x.i, .string x.s, .slice a x.l.length cap] 24 (0, 0)) ∧ W0.heap.size = w.heap.size + 1 ∧ Below w.heap.size w W0) := ⟨hx, s0, b0⟩
  have HC : Hid (∀ W, Below w.heap.size w W → Calls Tryz.prog 23 #[.agg #[.int .i64 x.o, .int .i64 x.i, .string x.s, .slice a x.l.length cap]] W fun e w' => e = .returned (.string ⟨(pr (-1) x).toArray⟩) ∧ Below W.heap.size W w') := fun W hW => hP _ x W hg hr hl0 (h.below hW)
  obtain ⟨y0, y1, y2, y3⟩ := four_box hx
  have cL := level_c x.o W0
  obtain ⟨T, hT⟩ : ∃ T : ByteArray, ⟨(pr (-1) x).toArray⟩ = T := ⟨_, rfl⟩
  have hTs : T.size ≤ 100000000000 := by rw [← hT, mk_size]; exact hl0
  have HTT : Hid ((⟨(pr (-1) x).toArray⟩ : ByteArray) = T) := hT
  rw [hT] at HC
  obtain ⟨q, hq⟩ : ∃ q, rl x.o = q := ⟨_, rfl⟩
  rw [hq] at cL hlt
  clear hx b0 s0 hT hq h
  by_cases hz : lvl x.o < z
  · rw [pr_par hz]
    have d : decide (q < z + 1) = true := by rw [hlt]; simp; exact hz
    clear hlt
    go_enter Tryz.func44, Tryz.ntmps44
    go_wp2_with fail
    clear hW0
    refine cL.mono ?_
    rintro e W1 ⟨rfl, b1⟩
    have hb1 : Below w.heap.size w W1 := HX.out.2.2.trans (b1.mono (by have := HX.out.2.1; omega))
    clear y0 y1 y2 y3
    obtain ⟨y0, y1, y2, y3⟩ := four_box ((b1.block w.heap.size (by have := HX.out.2.1; omega)).trans HX.out.1)
    have c2 := HC.out W1 hb1
    have HB1 : Hid (Below w.heap.size w W1) := hb1
    clear b1 hb1 cL
    go_wp2_with fail
    refine c2.mono ?_
    rintro e W2 ⟨rfl, b2⟩
    have HB2 : Hid (Below w.heap.size w W2) := HB1.out.trans (b2.mono HB1.out.size)
    clear c2 b2
    go_wp2_with fail
    all_goals first | (exfalso; omega) | skip
    go_ret
    refine ⟨?_, HB2.out⟩
    have hE : (⟨#[40]⟩ : ByteArray) ++ T ++ ⟨#[41]⟩ = ⟨(40 :: (pr (-1) x ++ [41])).toArray⟩ := by
      rw [← HTT.out]
      apply ByteArray.ext
      simp
    rw [← hE]
    rfl
  · rw [pr_own hz, HTT.out]
    have d : decide (q < z + 1) = false := by rw [hlt]; simp; omega
    clear hlt
    go_enter Tryz.func44, Tryz.ntmps44
    go_wp2_with fail
    clear hW0
    refine cL.mono ?_
    rintro e W1 ⟨rfl, b1⟩
    have hb1 : Below w.heap.size w W1 := HX.out.2.2.trans (b1.mono (by have := HX.out.2.1; omega))
    clear y0 y1 y2 y3
    obtain ⟨y0, y1, y2, y3⟩ := four_box ((b1.block w.heap.size (by have := HX.out.2.1; omega)).trans HX.out.1)
    have c2 := HC.out W1 hb1
    have HB1 : Hid (Below w.heap.size w W1) := hb1
    clear b1 hb1 cL
    go_wp2_with fail
    refine c2.mono ?_
    rintro e W2 ⟨rfl, b2⟩
    have HB2 : Hid (Below w.heap.size w W2) := HB1.out.trans (b2.mono HB1.out.size)
    clear c2 b2
    go_wp2_with fail
    go_ret
    exact ⟨rfl, HB2.out⟩
end Go.Proofs.YtnoohlmlpijhaaaGreatDoor.QPd
namespace Go.Proofs.YtnoohlmlpijhaaaGreatDoor.QPs
open Go.RowKit Go.Proofs.YtnoohlmlpijhaaaGreatDoor.UBase Go.Proofs.YtnoohlmlpijhaaaGreatDoor.EPure Go.Proofs.YtnoohlmlpijhaaaGreatDoor.PPl Go.Proofs.YtnoohlmlpijhaaaGreatDoor.PFit Go.Proofs.YtnoohlmlpijhaaaGreatDoor.PTx Go.Proofs.YtnoohlmlpijhaaaGreatDoor.ENd Go.Proofs.YtnoohlmlpijhaaaGreatDoor.ERg Go.Proofs.YtnoohlmlpijhaaaGreatDoor.QLv Go.Proofs.YtnoohlmlpijhaaaGreatDoor.EBk Go.Proofs.YtnoohlmlpijhaaaGreatDoor.QPd
open Go.Proofs.YtnoohlmlpijhaaaGreatDoor.XBase (In InL in_iff LAt Four elem_at four_below four_box)
open Go.Proofs.YtnoohlmlpijhaaaGreatDoor.Base (nx All heap_alloc_new below_cell)
open Go.Proofs.YtnoohlmlpijhaaaGreatDoor.PPr (pr gd gdL gdL_cons gd_range)
set_option linter.unusedVariables false
set_option maxRecDepth 20000 in
set_option maxHeartbeats 3200000 in
theorem p10 {m : Nat} (hP : Pr m) (hU : Un m) {a : Ex} (ga : gd a) (ra : rgL [a]) {w : World} {v : Value} (hlen0 : (pr (-1) (nd 10 [a])).length ≤ 100000000000) (h : In false All w (m + 1) v (nd 10 [a])) :
    Calls Tryz.prog 23 #[v] w fun e w' => e = .returned (.string ⟨(pr (-1) (nd 10 [a])).toArray⟩) ∧ Below w.heap.size w w' := by
  rw [tx_sg (.inl rfl)] at hlen0 ⊢
  simp only [List.length_cons] at hlen0
  unfold nd at h
  rw [in_iff] at h
  obtain ⟨lv, rfl, ho, hi, hs, a1, cap, rfl, hl, hcap, hlen, ha, hL⟩ := h
  obtain ⟨g0, q0, u0, E0, -, hu0, in0⟩ := elem_at hL (q := 0) (by simp)
  obtain ⟨g, q, hgq⟩ : ∃ g q, a1 = some ⟨g, q, none⟩ := ⟨g0, q0, E0⟩
  subst hgq
  obtain ⟨rfl, rfl⟩ : g = g0 ∧ q = q0 := by cases E0; exact ⟨rfl, rfl⟩
  obtain ⟨w00, w01, w02, w03, rfl, d00, d01, d02, d03⟩ := hu0
  have in0 : In false All w m (.agg #[w00, w01, w02, w03]) a := in0
  simp only [List.length_cons, List.length_nil, Nat.zero_add, Nat.zero_mul, Nat.one_mul, Nat.add_zero] at hl hlen d00 d01 d02 d03 ⊢
  obtain ⟨W0, hW0⟩ : ∃ W0, w.alloc (.cells #[.int .i64 10, .int .i64 0, .string ⟨#[]⟩, .slice (some ⟨g, q, none⟩) 1 cap] 24) = W0 := ⟨_, rfl⟩
  have b0 : Below w.heap.size w W0 := by rw [← hW0]; exact (Below.refl _ w).alloc (Nat.le_refl _) _
  have s0 : W0.heap.size = w.heap.size + 1 := by rw [← hW0]; simp
  have hx : W0.heap[w.heap.size]? = some (.cells #[.int .i64 10, .int .i64 0, .string ⟨#[]⟩, .slice (some ⟨g, q, none⟩) 1 cap] 24 (0, 0)) := by rw [← hW0]; exact heap_alloc_new w _
  have HX : Hid (W0.heap[w.heap.size]? = some (.cells #[.int .i64 10, .int .i64 0, .string ⟨#[]⟩, .slice (some ⟨g, q, none⟩) 1 cap] 24 (0, 0)) ∧ W0.heap.size = w.heap.size + 1 ∧ Below w.heap.size w W0) := ⟨hx, s0, b0⟩
  obtain ⟨y0, y1, y2, y3⟩ := four_box hx
  have cL := level_c 10 W0
  rw [show rl 10 = 12 by decide] at cL
  obtain ⟨T0, hT0⟩ : ∃ T : ByteArray, ⟨(pr (11) a).toArray⟩ = T := ⟨_, rfl⟩
  have z0 : T0.size ≤ 100000000000 := by rw [← hT0, mk_size]; omega
  have HK0 : Hid (∀ W, Below w.heap.size w W → Calls Tryz.prog 44 #[.agg #[w00, w01, w02, w03], .int .i64 (11 + 1)] W fun e w' => e = .returned (.string T0) ∧ Below W.heap.size W w') := fun W hW => by rw [← hT0]; exact hU _ a (11) W ga ra (by omega) (by omega) (by omega) (in0.below hW)
  have HT0 : Hid ((⟨(pr (11) a).toArray⟩ : ByteArray) = T0) := hT0
  have HD : Hid (w.cell? ⟨g, q, none⟩ = some w00 ∧ w.cell? ⟨g, q + 1, none⟩ = some w01 ∧ w.cell? ⟨g, q + 2, none⟩ = some w02 ∧ w.cell? ⟨g, q + 3, none⟩ = some w03) := ⟨d00, d01, d02, d03⟩
  clear d00 d01 d02 d03 in0 E0 hT0 hL hP hU
  clear hx b0 s0
  go_enter Tryz.func23, Tryz.ntmps23
  go_wp2_with fail
  clear hW0
  refine cL.mono ?_
  rintro e W1 ⟨rfl, b1⟩
  have hb1 : Below w.heap.size w W1 := HX.out.2.2.trans (b1.mono (by have := HX.out.2.1; omega))
  clear y0 y1 y2 y3
  obtain ⟨y0, y1, y2, y3⟩ := four_box ((b1.block w.heap.size (by have := HX.out.2.1; omega)).trans HX.out.1)
  have HB1 : Hid (Below w.heap.size w W1 ∧ Below W0.heap.size W0 W1) := ⟨hb1, b1⟩
  obtain ⟨d00, d01, d02, d03⟩ := (⟨below_cell HD.out.1 hb1, below_cell HD.out.2.1 hb1, below_cell HD.out.2.2.1 hb1, below_cell HD.out.2.2.2 hb1⟩ : W1.cell? ⟨g, q, none⟩ = some w00 ∧ W1.cell? ⟨g, q + 1, none⟩ = some w01 ∧ W1.cell? ⟨g, q + 2, none⟩ = some w02 ∧ W1.cell? ⟨g, q + 3, none⟩ = some w03)
  have c2 := HK0.out W1 hb1
  clear b1 hb1 cL
  go_wp2_with fail
  refine c2.mono ?_
  rintro e W2 ⟨rfl, b2⟩
  have HB2 : Hid (Below w.heap.size w W2) := HB1.out.1.trans (b2.mono HB1.out.1.size)
  clear c2 b2
  go_wp2_with fail
  all_goals first | (exfalso; omega) | skip
  go_ret
  refine ⟨?_, HB2.out⟩
  refine congrArg (fun t => Ending.returned (Value.string t)) (?_ : (⟨#[45]⟩ : ByteArray) ++ T0 = _)
  rw [← HT0.out]
  apply ByteArray.ext
  simp
set_option maxRecDepth 20000 in
set_option maxHeartbeats 3200000 in
theorem p11 {m : Nat} (hP : Pr m) (hU : Un m) {a : Ex} (ga : gd a) (ra : rgL [a]) {w : World} {v : Value} (hlen0 : (pr (-1) (nd 11 [a])).length ≤ 100000000000) (h : In false All w (m + 1) v (nd 11 [a])) :
    Calls Tryz.prog 23 #[v] w fun e w' => e = .returned (.string ⟨(pr (-1) (nd 11 [a])).toArray⟩) ∧ Below w.heap.size w w' := by
  rw [tx_sg (.inr rfl)] at hlen0 ⊢
  simp only [List.length_cons] at hlen0
  unfold nd at h
  rw [in_iff] at h
  obtain ⟨lv, rfl, ho, hi, hs, a1, cap, rfl, hl, hcap, hlen, ha, hL⟩ := h
  obtain ⟨g0, q0, u0, E0, -, hu0, in0⟩ := elem_at hL (q := 0) (by simp)
  obtain ⟨g, q, hgq⟩ : ∃ g q, a1 = some ⟨g, q, none⟩ := ⟨g0, q0, E0⟩
  subst hgq
  obtain ⟨rfl, rfl⟩ : g = g0 ∧ q = q0 := by cases E0; exact ⟨rfl, rfl⟩
  obtain ⟨w00, w01, w02, w03, rfl, d00, d01, d02, d03⟩ := hu0
  have in0 : In false All w m (.agg #[w00, w01, w02, w03]) a := in0
  simp only [List.length_cons, List.length_nil, Nat.zero_add, Nat.zero_mul, Nat.one_mul, Nat.add_zero] at hl hlen d00 d01 d02 d03 ⊢
  obtain ⟨W0, hW0⟩ : ∃ W0, w.alloc (.cells #[.int .i64 11, .int .i64 0, .string ⟨#[]⟩, .slice (some ⟨g, q, none⟩) 1 cap] 24) = W0 := ⟨_, rfl⟩
  have b0 : Below w.heap.size w W0 := by rw [← hW0]; exact (Below.refl _ w).alloc (Nat.le_refl _) _
  have s0 : W0.heap.size = w.heap.size + 1 := by rw [← hW0]; simp
  have hx : W0.heap[w.heap.size]? = some (.cells #[.int .i64 11, .int .i64 0, .string ⟨#[]⟩, .slice (some ⟨g, q, none⟩) 1 cap] 24 (0, 0)) := by rw [← hW0]; exact heap_alloc_new w _
  have HX : Hid (W0.heap[w.heap.size]? = some (.cells #[.int .i64 11, .int .i64 0, .string ⟨#[]⟩, .slice (some ⟨g, q, none⟩) 1 cap] 24 (0, 0)) ∧ W0.heap.size = w.heap.size + 1 ∧ Below w.heap.size w W0) := ⟨hx, s0, b0⟩
  obtain ⟨y0, y1, y2, y3⟩ := four_box hx
  have cL := level_c 11 W0
  rw [show rl 11 = 12 by decide] at cL
  obtain ⟨T0, hT0⟩ : ∃ T : ByteArray, ⟨(pr (11) a).toArray⟩ = T := ⟨_, rfl⟩
  have z0 : T0.size ≤ 100000000000 := by rw [← hT0, mk_size]; omega
  have HK0 : Hid (∀ W, Below w.heap.size w W → Calls Tryz.prog 44 #[.agg #[w00, w01, w02, w03], .int .i64 (11 + 1)] W fun e w' => e = .returned (.string T0) ∧ Below W.heap.size W w') := fun W hW => by rw [← hT0]; exact hU _ a (11) W ga ra (by omega) (by omega) (by omega) (in0.below hW)
  have HT0 : Hid ((⟨(pr (11) a).toArray⟩ : ByteArray) = T0) := hT0
  have HD : Hid (w.cell? ⟨g, q, none⟩ = some w00 ∧ w.cell? ⟨g, q + 1, none⟩ = some w01 ∧ w.cell? ⟨g, q + 2, none⟩ = some w02 ∧ w.cell? ⟨g, q + 3, none⟩ = some w03) := ⟨d00, d01, d02, d03⟩
  clear d00 d01 d02 d03 in0 E0 hT0 hL hP hU
  clear hx b0 s0
  go_enter Tryz.func23, Tryz.ntmps23
  go_wp2_with fail
  clear hW0
  refine cL.mono ?_
  rintro e W1 ⟨rfl, b1⟩
  have hb1 : Below w.heap.size w W1 := HX.out.2.2.trans (b1.mono (by have := HX.out.2.1; omega))
  clear y0 y1 y2 y3
  obtain ⟨y0, y1, y2, y3⟩ := four_box ((b1.block w.heap.size (by have := HX.out.2.1; omega)).trans HX.out.1)
  have HB1 : Hid (Below w.heap.size w W1 ∧ Below W0.heap.size W0 W1) := ⟨hb1, b1⟩
  obtain ⟨d00, d01, d02, d03⟩ := (⟨below_cell HD.out.1 hb1, below_cell HD.out.2.1 hb1, below_cell HD.out.2.2.1 hb1, below_cell HD.out.2.2.2 hb1⟩ : W1.cell? ⟨g, q, none⟩ = some w00 ∧ W1.cell? ⟨g, q + 1, none⟩ = some w01 ∧ W1.cell? ⟨g, q + 2, none⟩ = some w02 ∧ W1.cell? ⟨g, q + 3, none⟩ = some w03)
  have c2 := HK0.out W1 hb1
  clear b1 hb1 cL
  go_wp2_with fail
  refine c2.mono ?_
  rintro e W2 ⟨rfl, b2⟩
  have HB2 : Hid (Below w.heap.size w W2) := HB1.out.1.trans (b2.mono HB1.out.1.size)
  clear c2 b2
  go_wp2_with fail
  all_goals first | (exfalso; omega) | skip
  go_ret
  refine ⟨?_, HB2.out⟩
  refine congrArg (fun t => Ending.returned (Value.string t)) (?_ : (⟨#[33]⟩ : ByteArray) ++ T0 = _)
  rw [← HT0.out]
  apply ByteArray.ext
  simp
end Go.Proofs.YtnoohlmlpijhaaaGreatDoor.QPs
namespace Go.Proofs.YtnoohlmlpijhaaaGreatDoor.QPw
open Go.RowKit Go.Proofs.YtnoohlmlpijhaaaGreatDoor.UBase Go.Proofs.YtnoohlmlpijhaaaGreatDoor.EPure Go.Proofs.YtnoohlmlpijhaaaGreatDoor.PPl Go.Proofs.YtnoohlmlpijhaaaGreatDoor.PFit Go.Proofs.YtnoohlmlpijhaaaGreatDoor.PTx Go.Proofs.YtnoohlmlpijhaaaGreatDoor.ENd Go.Proofs.YtnoohlmlpijhaaaGreatDoor.ERg Go.Proofs.YtnoohlmlpijhaaaGreatDoor.QLv Go.Proofs.YtnoohlmlpijhaaaGreatDoor.EBk Go.Proofs.YtnoohlmlpijhaaaGreatDoor.QPd
open Go.Proofs.YtnoohlmlpijhaaaGreatDoor.XBase (In InL in_iff LAt Four elem_at four_below four_box)
open Go.Proofs.YtnoohlmlpijhaaaGreatDoor.Base (nx All heap_alloc_new below_cell)
open Go.Proofs.YtnoohlmlpijhaaaGreatDoor.PPr (pr gd gdL gdL_cons gd_range)
set_option linter.unusedVariables false
set_option maxRecDepth 20000 in
set_option maxHeartbeats 3200000 in
theorem p1 {m : Nat} (hP : Pr m) (hU : Un m)  {w : World} {v : Value} (hlen0 : (pr (-1) (nd 1 [])).length ≤ 100000000000) (h : In false All w (m + 1) v (nd 1 [])) :
    Calls Tryz.prog 23 #[v] w fun e w' => e = .returned (.string ⟨(pr (-1) (nd 1 [])).toArray⟩) ∧ Below w.heap.size w w' := by
  rw [tx_word (by omega)]
  unfold nd at h
  rw [in_iff] at h
  obtain ⟨lv, rfl, ho, hi, hs, a, cap, rfl, hl, hcap, hlen, ha, hL⟩ := h
  simp only [List.length_nil] at hl hlen ⊢
  obtain ⟨W0, hW0⟩ : ∃ W0, w.alloc (.cells #[.int .i64 1, .int .i64 0, .string ⟨#[]⟩, .slice a 0 cap] 24) = W0 := ⟨_, rfl⟩
  have b0 : Below w.heap.size w W0 := by rw [← hW0]; exact (Below.refl _ w).alloc (Nat.le_refl _) _
  have s0 : W0.heap.size = w.heap.size + 1 := by rw [← hW0]; simp
  have hx : W0.heap[w.heap.size]? = some (.cells #[.int .i64 1, .int .i64 0, .string ⟨#[]⟩, .slice a 0 cap] 24 (0, 0)) := by rw [← hW0]; exact heap_alloc_new w _
  have HX : Hid (W0.heap[w.heap.size]? = some (.cells #[.int .i64 1, .int .i64 0, .string ⟨#[]⟩, .slice a 0 cap] 24 (0, 0)) ∧ W0.heap.size = w.heap.size + 1 ∧ Below w.heap.size w W0) := ⟨hx, s0, b0⟩
  obtain ⟨y0, y1, y2, y3⟩ := four_box hx
  have cL := level_c 1 W0
  rw [show rl 1 = 14 by decide] at cL
  clear hL
  clear hx b0 s0
  go_enter Tryz.func23, Tryz.ntmps23
  go_wp2_with fail
  clear hW0
  refine cL.mono ?_
  rintro e W1 ⟨rfl, b1⟩
  have hb1 : Below w.heap.size w W1 := HX.out.2.2.trans (b1.mono (by have := HX.out.2.1; omega))
  clear y0 y1 y2 y3
  obtain ⟨y0, y1, y2, y3⟩ := four_box ((b1.block w.heap.size (by have := HX.out.2.1; omega)).trans HX.out.1)
  have HB1 : Hid (Below w.heap.size w W1 ∧ Below W0.heap.size W0 W1) := ⟨hb1, b1⟩
  clear b1 hb1 cL
  go_wp2_with fail
  go_ret
  exact ⟨rfl, HB1.out.1⟩
set_option maxRecDepth 20000 in
set_option maxHeartbeats 3200000 in
theorem p2 {m : Nat} (hP : Pr m) (hU : Un m)  {w : World} {v : Value} (hlen0 : (pr (-1) (nd 2 [])).length ≤ 100000000000) (h : In false All w (m + 1) v (nd 2 [])) :
    Calls Tryz.prog 23 #[v] w fun e w' => e = .returned (.string ⟨(pr (-1) (nd 2 [])).toArray⟩) ∧ Below w.heap.size w w' := by
  rw [tx_word (by omega)]
  unfold nd at h
  rw [in_iff] at h
  obtain ⟨lv, rfl, ho, hi, hs, a, cap, rfl, hl, hcap, hlen, ha, hL⟩ := h
  simp only [List.length_nil] at hl hlen ⊢
  obtain ⟨W0, hW0⟩ : ∃ W0, w.alloc (.cells #[.int .i64 2, .int .i64 0, .string ⟨#[]⟩, .slice a 0 cap] 24) = W0 := ⟨_, rfl⟩
  have b0 : Below w.heap.size w W0 := by rw [← hW0]; exact (Below.refl _ w).alloc (Nat.le_refl _) _
  have s0 : W0.heap.size = w.heap.size + 1 := by rw [← hW0]; simp
  have hx : W0.heap[w.heap.size]? = some (.cells #[.int .i64 2, .int .i64 0, .string ⟨#[]⟩, .slice a 0 cap] 24 (0, 0)) := by rw [← hW0]; exact heap_alloc_new w _
  have HX : Hid (W0.heap[w.heap.size]? = some (.cells #[.int .i64 2, .int .i64 0, .string ⟨#[]⟩, .slice a 0 cap] 24 (0, 0)) ∧ W0.heap.size = w.heap.size + 1 ∧ Below w.heap.size w W0) := ⟨hx, s0, b0⟩
  obtain ⟨y0, y1, y2, y3⟩ := four_box hx
  have cL := level_c 2 W0
  rw [show rl 2 = 14 by decide] at cL
  clear hL
  clear hx b0 s0
  go_enter Tryz.func23, Tryz.ntmps23
  go_wp2_with fail
  clear hW0
  refine cL.mono ?_
  rintro e W1 ⟨rfl, b1⟩
  have hb1 : Below w.heap.size w W1 := HX.out.2.2.trans (b1.mono (by have := HX.out.2.1; omega))
  clear y0 y1 y2 y3
  obtain ⟨y0, y1, y2, y3⟩ := four_box ((b1.block w.heap.size (by have := HX.out.2.1; omega)).trans HX.out.1)
  have HB1 : Hid (Below w.heap.size w W1 ∧ Below W0.heap.size W0 W1) := ⟨hb1, b1⟩
  clear b1 hb1 cL
  go_wp2_with fail
  go_ret
  exact ⟨rfl, HB1.out.1⟩
set_option maxRecDepth 20000 in
set_option maxHeartbeats 3200000 in
theorem p3 {m : Nat} (hP : Pr m) (hU : Un m)  {w : World} {v : Value} (hlen0 : (pr (-1) (nd 3 [])).length ≤ 100000000000) (h : In false All w (m + 1) v (nd 3 [])) :
    Calls Tryz.prog 23 #[v] w fun e w' => e = .returned (.string ⟨(pr (-1) (nd 3 [])).toArray⟩) ∧ Below w.heap.size w w' := by
  rw [tx_word (by omega)]
  unfold nd at h
  rw [in_iff] at h
  obtain ⟨lv, rfl, ho, hi, hs, a, cap, rfl, hl, hcap, hlen, ha, hL⟩ := h
  simp only [List.length_nil] at hl hlen ⊢
  obtain ⟨W0, hW0⟩ : ∃ W0, w.alloc (.cells #[.int .i64 3, .int .i64 0, .string ⟨#[]⟩, .slice a 0 cap] 24) = W0 := ⟨_, rfl⟩
  have b0 : Below w.heap.size w W0 := by rw [← hW0]; exact (Below.refl _ w).alloc (Nat.le_refl _) _
  have s0 : W0.heap.size = w.heap.size + 1 := by rw [← hW0]; simp
  have hx : W0.heap[w.heap.size]? = some (.cells #[.int .i64 3, .int .i64 0, .string ⟨#[]⟩, .slice a 0 cap] 24 (0, 0)) := by rw [← hW0]; exact heap_alloc_new w _
  have HX : Hid (W0.heap[w.heap.size]? = some (.cells #[.int .i64 3, .int .i64 0, .string ⟨#[]⟩, .slice a 0 cap] 24 (0, 0)) ∧ W0.heap.size = w.heap.size + 1 ∧ Below w.heap.size w W0) := ⟨hx, s0, b0⟩
  obtain ⟨y0, y1, y2, y3⟩ := four_box hx
  have cL := level_c 3 W0
  rw [show rl 3 = 14 by decide] at cL
  clear hL
  clear hx b0 s0
  go_enter Tryz.func23, Tryz.ntmps23
  go_wp2_with fail
  clear hW0
  refine cL.mono ?_
  rintro e W1 ⟨rfl, b1⟩
  have hb1 : Below w.heap.size w W1 := HX.out.2.2.trans (b1.mono (by have := HX.out.2.1; omega))
  clear y0 y1 y2 y3
  obtain ⟨y0, y1, y2, y3⟩ := four_box ((b1.block w.heap.size (by have := HX.out.2.1; omega)).trans HX.out.1)
  have HB1 : Hid (Below w.heap.size w W1 ∧ Below W0.heap.size W0 W1) := ⟨hb1, b1⟩
  clear b1 hb1 cL
  go_wp2_with fail
  go_ret
  exact ⟨rfl, HB1.out.1⟩
set_option maxRecDepth 20000 in
set_option maxHeartbeats 3200000 in
theorem p4 {m : Nat} (hP : Pr m) (hU : Un m) {i : Int} (h0 : 0 ≤ i) {w : World} {v : Value} (hlen0 : (pr (-1) (.mk 4 i ⟨#[]⟩ [])).length ≤ 100000000000) (h : In false All w (m + 1) v (.mk 4 i ⟨#[]⟩ [])) :
    Calls Tryz.prog 23 #[v] w fun e w' => e = .returned (.string ⟨(pr (-1) (.mk 4 i ⟨#[]⟩ [])).toArray⟩) ∧ Below w.heap.size w w' := by
  rw [tx_int]
  rw [in_iff] at h
  obtain ⟨lv, rfl, ho, hi, hs, a, cap, rfl, hl, hcap, hlen, ha, hL⟩ := h
  simp only [List.length_nil] at hl hlen ⊢
  obtain ⟨W0, hW0⟩ : ∃ W0, w.alloc (.cells #[.int .i64 4, .int .i64 i, .string ⟨#[]⟩, .slice a 0 cap] 24) = W0 := ⟨_, rfl⟩
  have b0 : Below w.heap.size w W0 := by rw [← hW0]; exact (Below.refl _ w).alloc (Nat.le_refl _) _
  have s0 : W0.heap.size = w.heap.size + 1 := by rw [← hW0]; simp
  have hx : W0.heap[w.heap.size]? = some (.cells #[.int .i64 4, .int .i64 i, .string ⟨#[]⟩, .slice a 0 cap] 24 (0, 0)) := by rw [← hW0]; exact heap_alloc_new w _
  have HX : Hid (W0.heap[w.heap.size]? = some (.cells #[.int .i64 4, .int .i64 i, .string ⟨#[]⟩, .slice a 0 cap] 24 (0, 0)) ∧ W0.heap.size = w.heap.size + 1 ∧ Below w.heap.size w W0) := ⟨hx, s0, b0⟩
  obtain ⟨y0, y1, y2, y3⟩ := four_box hx
  have cL := level_c 4 W0
  rw [show rl 4 = 14 by decide] at cL
  clear hL
  clear hx b0 s0
  go_enter Tryz.func23, Tryz.ntmps23
  go_wp2_with fail
  clear hW0
  refine cL.mono ?_
  rintro e W1 ⟨rfl, b1⟩
  have hb1 : Below w.heap.size w W1 := HX.out.2.2.trans (b1.mono (by have := HX.out.2.1; omega))
  clear y0 y1 y2 y3
  obtain ⟨y0, y1, y2, y3⟩ := four_box ((b1.block w.heap.size (by have := HX.out.2.1; omega)).trans HX.out.1)
  have HB1 : Hid (Below w.heap.size w W1 ∧ Below W0.heap.size W0 W1) := ⟨hb1, b1⟩
  have c2 := Digits.rtext i hi.1 hi.2 W1
  clear b1 hb1 cL
  go_wp2_with fail
  refine c2.mono ?_
  rintro e W2 ⟨rfl, b2⟩
  have HB2 : Hid (Below w.heap.size w W2) := HB1.out.1.trans (b2.mono HB1.out.1.size)
  clear c2 b2
  go_wp2_with fail
  go_ret
  exact ⟨rfl, HB2.out⟩
set_option maxRecDepth 20000 in
set_option maxHeartbeats 3200000 in
theorem p5 {m : Nat} (hP : Pr m) (hU : Un m) {t : ByteArray} (ht : tx t = true) {w : World} {v : Value} (hlen0 : (pr (-1) (.mk 5 0 t [])).length ≤ 100000000000) (h : In false All w (m + 1) v (.mk 5 0 t [])) :
    Calls Tryz.prog 23 #[v] w fun e w' => e = .returned (.string ⟨(pr (-1) (.mk 5 0 t [])).toArray⟩) ∧ Below w.heap.size w w' := by
  rw [tx_str]
  have htl := PLen.tx_len ht
  have hts : t.size ≤ 1000000000 := by rw [← ByteArray.size_data, ← Array.length_toList]; omega
  rw [in_iff] at h
  obtain ⟨lv, rfl, ho, hi, hs, a, cap, rfl, hl, hcap, hlen, ha, hL⟩ := h
  simp only [List.length_nil] at hl hlen ⊢
  obtain ⟨W0, hW0⟩ : ∃ W0, w.alloc (.cells #[.int .i64 5, .int .i64 0, .string t, .slice a 0 cap] 24) = W0 := ⟨_, rfl⟩
  have b0 : Below w.heap.size w W0 := by rw [← hW0]; exact (Below.refl _ w).alloc (Nat.le_refl _) _
  have s0 : W0.heap.size = w.heap.size + 1 := by rw [← hW0]; simp
  have hx : W0.heap[w.heap.size]? = some (.cells #[.int .i64 5, .int .i64 0, .string t, .slice a 0 cap] 24 (0, 0)) := by rw [← hW0]; exact heap_alloc_new w _
  have HX : Hid (W0.heap[w.heap.size]? = some (.cells #[.int .i64 5, .int .i64 0, .string t, .slice a 0 cap] 24 (0, 0)) ∧ W0.heap.size = w.heap.size + 1 ∧ Below w.heap.size w W0) := ⟨hx, s0, b0⟩
  obtain ⟨y0, y1, y2, y3⟩ := four_box hx
  have cL := level_c 5 W0
  rw [show rl 5 = 14 by decide] at cL
  clear hL
  clear hx b0 s0
  go_enter Tryz.func23, Tryz.ntmps23
  go_wp2_with fail
  clear hW0
  refine cL.mono ?_
  rintro e W1 ⟨rfl, b1⟩
  have hb1 : Below w.heap.size w W1 := HX.out.2.2.trans (b1.mono (by have := HX.out.2.1; omega))
  clear y0 y1 y2 y3
  obtain ⟨y0, y1, y2, y3⟩ := four_box ((b1.block w.heap.size (by have := HX.out.2.1; omega)).trans HX.out.1)
  have HB1 : Hid (Below w.heap.size w W1 ∧ Below W0.heap.size W0 W1) := ⟨hb1, b1⟩
  have c2 := QQu.quoted_c t hts W1
  clear b1 hb1 cL
  go_wp2_with fail
  refine c2.mono ?_
  rintro e W2 ⟨rfl, b2⟩
  have HB2 : Hid (Below w.heap.size w W2) := HB1.out.1.trans (b2.mono HB1.out.1.size)
  clear c2 b2
  go_wp2_with fail
  go_ret
  exact ⟨rfl, HB2.out⟩
set_option maxRecDepth 20000 in
set_option maxHeartbeats 3200000 in
theorem p6 {m : Nat} (hP : Pr m) (hU : Un m) {t : ByteArray} {w : World} {v : Value} (hlen0 : (pr (-1) (.mk 6 0 t [])).length ≤ 100000000000) (h : In false All w (m + 1) v (.mk 6 0 t [])) :
    Calls Tryz.prog 23 #[v] w fun e w' => e = .returned (.string ⟨(pr (-1) (.mk 6 0 t [])).toArray⟩) ∧ Below w.heap.size w w' := by
  rw [tx_var]
  rw [in_iff] at h
  obtain ⟨lv, rfl, ho, hi, hs, a, cap, rfl, hl, hcap, hlen, ha, hL⟩ := h
  simp only [List.length_nil] at hl hlen ⊢
  obtain ⟨W0, hW0⟩ : ∃ W0, w.alloc (.cells #[.int .i64 6, .int .i64 0, .string t, .slice a 0 cap] 24) = W0 := ⟨_, rfl⟩
  have b0 : Below w.heap.size w W0 := by rw [← hW0]; exact (Below.refl _ w).alloc (Nat.le_refl _) _
  have s0 : W0.heap.size = w.heap.size + 1 := by rw [← hW0]; simp
  have hx : W0.heap[w.heap.size]? = some (.cells #[.int .i64 6, .int .i64 0, .string t, .slice a 0 cap] 24 (0, 0)) := by rw [← hW0]; exact heap_alloc_new w _
  have HX : Hid (W0.heap[w.heap.size]? = some (.cells #[.int .i64 6, .int .i64 0, .string t, .slice a 0 cap] 24 (0, 0)) ∧ W0.heap.size = w.heap.size + 1 ∧ Below w.heap.size w W0) := ⟨hx, s0, b0⟩
  obtain ⟨y0, y1, y2, y3⟩ := four_box hx
  have cL := level_c 6 W0
  rw [show rl 6 = 14 by decide] at cL
  clear hL
  clear hx b0 s0
  go_enter Tryz.func23, Tryz.ntmps23
  go_wp2_with fail
  clear hW0
  refine cL.mono ?_
  rintro e W1 ⟨rfl, b1⟩
  have hb1 : Below w.heap.size w W1 := HX.out.2.2.trans (b1.mono (by have := HX.out.2.1; omega))
  clear y0 y1 y2 y3
  obtain ⟨y0, y1, y2, y3⟩ := four_box ((b1.block w.heap.size (by have := HX.out.2.1; omega)).trans HX.out.1)
  have HB1 : Hid (Below w.heap.size w W1 ∧ Below W0.heap.size W0 W1) := ⟨hb1, b1⟩
  clear b1 hb1 cL
  go_wp2_with fail
  go_ret
  exact ⟨by simp, HB1.out.1⟩
end Go.Proofs.YtnoohlmlpijhaaaGreatDoor.QPw

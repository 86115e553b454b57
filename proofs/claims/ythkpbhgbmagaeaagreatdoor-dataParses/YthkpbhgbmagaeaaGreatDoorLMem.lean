/- The laws' helpers over bytes: contracts of LendBytes and KeptBytes. -/
import Derived.Test.YthkpbhgbmagaeaaGreatDoorP27
import Derived.Test.YthkpbhgbmagaeaaGreatDoorP33
import Derived.Laws.BytesArg
namespace Go.Proofs.YthkpbhgbmagaeaaGreatDoor.LMem
open Go.RowKit Go.Proofs.YthkpbhgbmagaeaaGreatDoor.Base Go.Proofs.YthkpbhgbmagaeaaGreatDoor.UBase Go.Proofs.YthkpbhgbmagaeaaGreatDoor.Spec Go.Proofs.YthkpbhgbmagaeaaGreatDoor.Byts Go.Proofs.YthkpbhgbmagaeaaGreatDoor.Rdr Go.Proofs.YthkpbhgbmagaeaaGreatDoor.FBy
set_option linter.unusedVariables false

theorem conv_byt {w : World} {R : Nat} {v : Value} {s : ByteArray} (h : Byt w R v s) : (convert 22 9 v).run Tryz.prog w = .ok (.string s) w := by
  obtain ⟨a, cap, rfl, hlc, hm, hnil, hcell⟩ := h
  have hsl : s.data.toList.length = s.size := by simp
  have hse : (⟨s.data.toList.toArray⟩ : ByteArray) = s := by simp
  cases a with
  | none =>
    obtain rfl := hnil rfl
    have h0 : s.data.toList = [] := List.eq_nil_of_length_eq_zero (by omega)
    have hs0 : s = ⟨#[]⟩ := by rw [← hse, h0]
    subst hs0
    exact run_convert_bytes_nil (P := Tryz.prog) w 22 5 Tryz.underlying22 Tryz.underlying5 _ _ 9 Tryz.underlying9
  | some x =>
    obtain ⟨g, o, sp⟩ := x
    have := run_convert_bytes_back (P := Tryz.prog) w 22 9 5 ⟨g, o, sp⟩ cap s.data.toList Tryz.underlying22 Tryz.underlying5 Tryz.underlying9 fun j hj => by
      have hj' : j < s.size := by omega
      rcases hcell with h0 | ⟨g', o', e, hg, hc⟩
      · omega
      · cases e
        rw [add_none, hc j hj', at_get _ _ hj']
        rfl
    rw [hsl, hse] at this
    exact this
theorem rd_byt {w : World} {R : Nat} {v : Value} {s : ByteArray} (h : Byt w R v s) : LBy.Rd w v s.data.toList := by
  refine ⟨?_, ?_⟩
  · obtain ⟨a, cap, rfl, -⟩ := h
    exact ⟨_, _, _, rfl⟩
  · have hse : (⟨s.data.toList.toArray⟩ : ByteArray) = s := by simp
    rw [hse]
    exact conv_byt h
theorem two_cells (w : World) (j : Nat) (u : Value) (hj : (Lib.byteCells [173, 77])[j]? = some u) : (w.alloc (.cells #[.int .u8 173, .int .u8 77] 5)).cell? ((⟨w.heap.size, 0, none⟩ : Addr).add j) = some u := by
  rw [add_none, Nat.zero_add, cell_of_row _ w.heap.size j #[.int .u8 173, .int .u8 77] 5 (0, 0) (heap_alloc_new w _)]
  match j, hj with
  | 0, hj => exact hj
  | 1, hj => exact hj
  | j + 2, hj => simp [Lib.byteCells] at hj
/-- What is lent: the bytes in a row of one's own, two marked places behind them. -/
def Lent (w : World) (B g cap : Nat) (s : ByteArray) : Prop := Byts.Own w B (.slice (some ⟨g, 0, none⟩) (s.size + 2) cap) (s.data.toList ++ [173, 77])
theorem Lent.keep {w w' : World} {B g cap : Nat} {s : ByteArray} (h : Lent w B g cap s) (hb : Below w.heap.size w w') : Lent w' B g cap s := own_keep h fun k _ hk _ => hb.block k hk
theorem Lent.cell {w : World} {B g cap : Nat} {s : ByteArray} (h : Lent w B g cap s) (j : Nat) (hj : j < s.size + 2) : w.cell? ⟨g, j, none⟩ = some (.int .u8 ((s.data.toList ++ [173, 77])[j]'(by simp; omega)).toNat) := by
  have hl : j < (s.data.toList ++ [173, 77]).length := by simp; omega
  have := World.ownsRow.cells (g := g) h rfl j (.int .u8 (((s.data.toList ++ [173, 77])[j]'hl).toNat : Int)) (by simp only [Lib.byteCells, List.getElem?_map]; rw [List.getElem?_eq_getElem hl]; rfl)
  rw [add_none, Nat.zero_add] at this
  exact this
theorem Lent.cap {w : World} {B g cap : Nat} {s : ByteArray} (h : Lent w B g cap s) : s.size + 2 ≤ cap ∧ cap ≤ maxLen ∧ g < w.heap.size ∧ B ≤ g := by
  obtain ⟨a, c, e, h1, h2⟩ := h.len
  have hg := World.ownsRow.lt h g rfl
  injection e with e1 e2 e3
  have hl : (s.data.toList ++ [173, 77]).length = s.size + 2 := by simp
  rw [hl] at h1
  exact ⟨by omega, by omega, hg.2, hg.1⟩
theorem Lent.byt {w : World} {B g cap : Nat} {s : ByteArray} (h : Lent w B g cap s) : Byt w w.heap.size (.slice (some ⟨g, 0, none⟩) s.size cap) s := by
  obtain ⟨h1, h2, h3, -⟩ := h.cap
  refine ⟨_, cap, rfl, by omega, h2, (fun h => by cases h), .inr ⟨g, 0, rfl, h3, fun j hj => ?_⟩⟩
  rw [Nat.zero_add, h.cell j (by omega), at_get _ _ hj, List.getElem_append_left (by simpa using hj)]
  rfl
set_option maxRecDepth 20000 in
theorem lendB_c {w : World} {v : Value} {s : ByteArray} (h : Byt w w.heap.size v s) (hl : s.size ≤ 140737488351232) :
    Calls Tryz.prog 4 #[v] w fun e w' => ∃ g cap, e = .returned (.slice (some ⟨g, 0, none⟩) s.size cap) ∧ Lent w' w.heap.size g cap s ∧ Below w.heap.size w w' := by
  obtain ⟨i0, hi, hz0, hz1, hz2⟩ := info_parts info5
  have cC := copyB_c h hl
  have hsl : s.data.toList.length = s.size := by simp
  have HSL : Hid (s.data.toList.length = s.size) := hsl
  obtain ⟨a, cap, rfl, hlc, hm, hnil, hcell⟩ := h
  clear hcell
  generalize hN : s.size = N at *
  go_enter Tryz.func4, Tryz.ntmps4
  go_wp2_with (first
    | (go_at_call 12; refine cC.mono ?_; rintro e w1 ⟨u, rfl, ho, hb⟩)
    | (at_builtin; refine wpList_append_own _ rfl _ _ 22 rfl w.heap.size 5 i0 (.int .u8 0) 1 1 Tryz.underlying22 hi hz0 hz1 hz2 rfl (by decide) _ _ _ rfl (World.ownsRow.alloc ho _) ⟨w1.heap.size, 0, none⟩ 2 2 (Lib.byteCells [173, 77]) rfl rfl (two_cells _) (bc_one _) (by unfold maxLen; omega) (by omega) (by have := hb.size; simp; omega) ?_))
  intro v' w2 hown' hgrow hnn
  have hb3 := (hb.alloc hb.size (.cells #[.int .u8 173, .int .u8 77] 5)).grown hgrow (by have := hb.size; simp; omega) (fun k hk => (World.ownsRow.lt ho k hk).1)
  have ho2 : Byts.Own w2 w.heap.size v' (s.data.toList ++ [173, 77]) := by
    unfold Byts.Own
    rw [Lib.byteCells_append, List.length_append, hsl]
    exact hown'
  rcases hown'.2 with ⟨h0, _⟩ | ⟨g, cap2, cur, rfl, _, _, hn2, hm2, _⟩
  · exact absurd h0 hnn
  have HO2 : Hid (Byts.Own w2 w.heap.size (.slice (some ⟨g, 0, none⟩) (N + 2) cap2) (s.data.toList ++ [173, 77])) := ho2
  clear hown' hgrow ho hb cC ho2 hsl
  go_wp2
  go_ret
  refine ⟨_, _, rfl, ?_, hb3⟩
  show Byts.Own _ _ _ _
  rw [hN]
  exact HO2.out
set_option maxRecDepth 20000 in
theorem keptB_c {w : World} {B g cap : Nat} {u : Value} {s : ByteArray} (h : Lent w B g cap s) (hu : Byt w w.heap.size u s) (hl : s.size ≤ 140737488351232) :
    Calls Tryz.prog 9 #[.slice (some ⟨g, 0, none⟩) s.size cap, u] w fun e w' => e = .returned (.bool true) ∧ w' = w := by
  have c9 := LBy.sameB_c (rd_byt h.byt) (rd_byt hu)
  rw [show (s.data.toList == s.data.toList) = true by simp] at c9
  obtain ⟨h1, h2, h3, -⟩ := h.cap
  have hsl : s.data.toList.length = s.size := by simp
  have c1 : w.cell? ⟨g, s.size, none⟩ = some (.int .u8 173) := by
    rw [h.cell s.size (by omega)]
    simp
  have c2 : w.cell? ⟨g, s.size + 1, none⟩ = some (.int .u8 77) := by
    rw [h.cell (s.size + 1) (by omega)]
    simp
  obtain ⟨a, cap2, rfl, hlc2, hm2, hnil2, hcell2⟩ := hu
  clear hcell2 h hsl
  generalize hN : s.size = N at *
  go_enter Tryz.func9, Tryz.ntmps9
  go_wp2_with (first | (go_at_call 19; refine c9.mono ?_; rintro e w' ⟨rfl, rfl⟩))
  go_ret
  exact ⟨rfl, rfl⟩
end Go.Proofs.YthkpbhgbmagaeaaGreatDoor.LMem

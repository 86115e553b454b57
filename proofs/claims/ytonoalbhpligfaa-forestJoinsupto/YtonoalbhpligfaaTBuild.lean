/- A builder written to, and what stays beside it: blocks that hold no bytes. -/
import Derived.Test.YtonoalbhpligfaaBuild
import Derived.Test.YtonoalbhpligfaaTMeas
namespace Go.Proofs.Ytonoalbhpligfaa.TBuild
open Go.RowKit Go.Proofs.Ytonoalbhpligfaa.TBase Go.Proofs.Ytonoalbhpligfaa.Build
set_option linter.unusedVariables false

/-- Blocks of other things than bytes stay, but for b. -/
def Ty (b : Nat) (w w' : World) : Prop := ∀ k cs t fz, k ≠ b → w.heap[k]? = some (.cells cs t fz) → t ≠ 5 → w'.heap[k]? = some (.cells cs t fz)
theorem Ty.refl (b : Nat) (w : World) : Ty b w w := fun _ _ _ _ _ h _ => h
theorem Ty.trans {b : Nat} {u v w : World} (h : Ty b u v) (k : Ty b v w) : Ty b u w := fun i cs t fz hi hu ht => k i cs t fz hi (h i cs t fz hi hu ht) ht
theorem Ty.of_below {b : Nat} {w w' : World} (h : Below w.heap.size w w') : Ty b w w' := fun k cs t fz _ hk _ => (h.block k (Array.getElem?_eq_some_iff.1 hk).1).trans hk
theorem check2_c (B b : Nat) (bs : List Value) (w : World) (h : Lib.IsBuilder 51 5 B b bs w) :
    Calls Try.prog 55 #[.pointer (some ⟨b, 0, none⟩)] w fun e w' => e = .returned (.tuple #[]) ∧ Lib.BuilderAt 51 5 B b (.pointer (some ⟨b, 0, none⟩)) bs w' ∧ Below B w w' ∧ Hid (Ty b w w') := by
  rcases h with h | h
  · refine (check_fresh b w h.cell0 h.shape h.frozen0).mono ?_
    rintro e w' ⟨rfl, rfl⟩
    exact ⟨rfl, h.used _, (Below.refl B w).setCell (p := ⟨b, 0, none⟩) h.1 _, fun k cs t fz hk hu _ => (Below.heap_setCell _ _ _ _ hk).trans hu⟩
  · refine (check_used b w h.cell0).mono ?_
    rintro e w' ⟨rfl, rfl⟩
    exact ⟨rfl, h, Below.refl B _, Ty.refl _ _⟩
set_option maxRecDepth 20000 in
theorem text2_c (B b : Nat) (bs : List Value) (x : ByteArray) (w : World) (h : Lib.IsBuilder 51 5 B b bs w) (hlen : bs.length + x.size ≤ 140737488355328) (hBw : B ≤ w.heap.size) :
    Calls Try.prog 41 #[.pointer (some ⟨b, 0, none⟩), .string x] w fun e w' => e = .returned (.tuple #[.int .i64 x.size, .nilIface]) ∧ Lib.IsBuilder 51 5 B b (bs ++ Lib.strCells x) w' ∧ Below B w w' ∧ Hid (Ty b w w') := by
  obtain ⟨i0, hi, hz0, hz1, hz2⟩ := info_parts info5
  go_enter Try.func41, Try.ntmps41
  go_wp2_with (first
    | (go_at_call 55; refine (check2_c B b bs _ h).mono ?_))
  rintro e w1 ⟨rfl, h1, hb1, hT1⟩
  obtain ⟨v, c1, hown, hlt, hB, hne, hbk⟩ := at_open h1
  have hs1 := hb1.size
  clear h1 h
  go_wp2_with (first
    | (at_builtin; refine Lib.wpList_append_own_string _ rfl _ _ 49 9 rfl B 5 i0 Try.underlying49 Try.underlying9 hi hz0 hz1 hz2 _ _ _ rfl hown x rfl (by unfold maxLen; omega) (by omega) (by omega) ?_))
  intro v' w2 hown' hgrow _
  have hb2 : w2.heap[b]? = some (.cells #[.pointer (some ⟨b, 0, none⟩), v] 51 (0, 0)) := by
    rw [hgrow.block b (by omega) (fun e => hne e.symm)]
    exact hbk
  have d1 : w2.cell? ⟨b, 1, none⟩ = some v := by rw [Lib.cell_of_heap hb2]; rfl
  have f1 : w2.frozen? ⟨b, 1, none⟩ = false := Lib.frozen_of_heap hb2 1
  have hnew : Lib.BuilderAt 51 5 B b (.pointer (some ⟨b, 0, none⟩)) (bs ++ Lib.strCells x) (w2.setCell ⟨b, 1, none⟩ v') := Lib.BuilderAt.put hB hb2 (by simpa [Lib.strCells_length] using hown') (by decide)
  have hbel := (hb1.grown hgrow (by omega) (fun k hk => (World.ownsRow.lt hown k hk).1)).setCell (p := ⟨b, 1, none⟩) hB v'
  have hT : Hid (Ty b w (w2.setCell ⟨b, 1, none⟩ v')) := by
    intro k cs t fz hk hu ht
    have hu1 := hT1 k cs t fz hk hu ht
    have hne2 := Lib.ownBlock_ne hown hu1 ht
    rw [Below.heap_setCell _ _ _ _ hk, hgrow.block k (Array.getElem?_eq_some_iff.1 hu1).1 (fun e => hne2 e.symm)]
    exact hu1
  obtain ⟨ao, n', cap, rfl⟩ : ∃ ao n' cap, v' = .slice ao n' cap := by
    rcases hown'.2 with ⟨hv, _⟩ | ⟨g, cap, cur, hv, _⟩
    · exact ⟨_, _, _, hv⟩
    · exact ⟨_, _, _, hv⟩
  clear hown' hgrow hown hb2 hbk hne
  go_wp2
  go_ret2
  exact ⟨rfl, Or.inr hnew, hbel, hT⟩
end Go.Proofs.Ytonoalbhpligfaa.TBuild

/- The ways through code in memory: the box, rows of instructions; contracts of height and lead. -/
import Derived.Test.YthjbknncbhkinaaGreatDoorCPu
import Derived.Laws.Tables
import Derived.Laws.Rows
namespace Go.Proofs.YthjbknncbhkinaaGreatDoor.CBx
open Go.RowKit Go.Proofs.YthjbknncbhkinaaGreatDoor.IPure Go.Proofs.YthjbknncbhkinaaGreatDoor.CPu
open Go.Proofs.YthjbknncbhkinaaGreatDoor.IBase (ro ro_len ro_get ro_set ro_congr heap_alloc_new add_none)
set_option linter.unusedVariables false

/-- Instructions that are read, in blocks below K. -/
def Cx (K : Nat) (w : World) (v : Value) (L : List Ins) : Prop :=
  ∃ a cap, v = .slice a L.length cap ∧ L.length ≤ cap ∧ cap ≤ 9223372036854775807 ∧ (a = none → cap = 0) ∧ (L = [] ∨ ∃ g o, a = some ⟨g, o, none⟩ ∧ g < K ∧ ∀ j (h : j < L.length), w.cell? ⟨g, o + j * 2, none⟩ = some (.int .i64 L[j].1) ∧ w.cell? ⟨g, o + j * 2 + 1, none⟩ = some (.int .i64 L[j].2))
theorem cell_keep {K : Nat} {w w' : World} {g o : Nat} {u : Value} (hg : g < K) (h : w.cell? ⟨g, o, none⟩ = some u) (hb : Below K w w') : w'.cell? ⟨g, o, none⟩ = some u :=
  (World.cell?_of_block (w := w) (hb.block g hg)).trans h
theorem Cx.below {K : Nat} {w w' : World} {v : Value} {L : List Ins} (h : Cx K w v L) (hb : Below K w w') : Cx K w' v L := by
  obtain ⟨a, cap, h1, h2, h3, h4, h5⟩ := h
  refine ⟨a, cap, h1, h2, h3, h4, ?_⟩
  rcases h5 with h5 | ⟨g, o, ha, hg, hc⟩
  · exact .inl h5
  · exact .inr ⟨g, o, ha, hg, fun j hj => ⟨cell_keep hg (hc j hj).1 hb, cell_keep hg (hc j hj).2 hb⟩⟩
theorem Cx.mono {K K' : Nat} {w : World} {v : Value} {L : List Ins} (h : Cx K w v L) (hk : K ≤ K') : Cx K' w v L := by
  obtain ⟨a, cap, h1, h2, h3, h4, h5⟩ := h
  refine ⟨a, cap, h1, h2, h3, h4, ?_⟩
  rcases h5 with h5 | ⟨g, o, ha, hg, hc⟩
  · exact .inl h5
  · exact .inr ⟨g, o, ha, by omega, hc⟩
/-- The cells of the ways. -/
def wyc (n t d : Int) (H : Nat → Int) : Array Value := (.int .i64 n :: .int .i64 t :: .int .i64 d :: (ro 8193 fun k => H k + 1).map (Value.int .i16)).toArray
def Wy (w : World) (B : Nat) (n t d : Int) (H : Nat → Int) : Prop := w.heap[B]? = some (.cells (wyc n t d H) 62 (0, 0))
theorem wyc_size (n t d : Int) (H : Nat → Int) : (wyc n t d H).size = 8196 := by simp [wyc, ro_len]
theorem wyc_at (n t d : Int) (H : Nat → Int) {k : Nat} (hk : k < 8193) : (wyc n t d H)[3 + k]? = some (.int .i16 (H k + 1)) := by
  have e : 3 + k = k + 1 + 1 + 1 := by omega
  simp [wyc, e, ro, hk]
theorem Wy.n {w : World} {B : Nat} {n t d : Int} {H : Nat → Int} (h : Wy w B n t d H) : w.cell? ⟨B, 0, none⟩ = some (.int .i64 n) := by
  unfold Wy at h
  simp [World.cell?, h, wyc]
theorem Wy.t {w : World} {B : Nat} {n t d : Int} {H : Nat → Int} (h : Wy w B n t d H) : w.cell? ⟨B, 1, none⟩ = some (.int .i64 t) := by
  unfold Wy at h
  simp [World.cell?, h, wyc]
theorem Wy.d {w : World} {B : Nat} {n t d : Int} {H : Nat → Int} (h : Wy w B n t d H) : w.cell? ⟨B, 2, none⟩ = some (.int .i64 d) := by
  unfold Wy at h
  simp [World.cell?, h, wyc]
theorem Wy.at {w : World} {B : Nat} {n t d : Int} {H : Nat → Int} (h : Wy w B n t d H) {k : Nat} (hk : k < 8193) : w.cell? ⟨B, 3 + k, none⟩ = some (.int .i16 (H k + 1)) := by
  have : w.cell? ⟨B, 3 + k, none⟩ = (wyc n t d H)[3 + k]? := by
    unfold Wy at h
    simp [World.cell?, h]
  rw [this, wyc_at n t d H hk]
theorem Wy.free {w : World} {B : Nat} {n t d : Int} {H : Nat → Int} (h : Wy w B n t d H) (j : Nat) : w.frozen? ⟨B, j, none⟩ = false := by
  unfold Wy at h
  simp [World.frozen?, h]
theorem Wy.lt {w : World} {B : Nat} {n t d : Int} {H : Nat → Int} (h : Wy w B n t d H) : B < w.heap.size := (Array.getElem?_eq_some_iff.1 h).1
theorem wyc_set (n t d : Int) (H : Nat → Int) (k : Nat) (x : Int) : (wyc n t d H).setIfInBounds (3 + k) (.int .i16 (x + 1)) = wyc n t d (upd H k x) := by
  have e : 3 + k = k + 1 + 1 + 1 := by omega
  have e2 : (ro 8193 fun j => upd H k x j + 1) = (ro 8193 fun j => H j + 1).set k (x + 1) := by
    rw [ro_set]
    congr 1
    funext j
    unfold upd
    split <;> rfl
  unfold wyc
  rw [e2, e, List.setIfInBounds_toArray]
  simp [List.map_set]
theorem Wy.set {w : World} {B : Nat} {n t d : Int} {H : Nat → Int} (h : Wy w B n t d H) (k : Nat) (x : Int) : Wy (w.setCell ⟨B, 3 + k, none⟩ (.int .i16 (x + 1))) B n t d (upd H k x) := by
  unfold Wy at h ⊢
  rw [← wyc_set]
  simp [World.setCell, Array.getElem?_modify, h]
theorem Wy.keep {K : Nat} {w w' : World} {B : Nat} {n t d : Int} {H : Nat → Int} (h : Wy w B n t d H) (hb : Below K w w') (hB : B < K) : Wy w' B n t d H := (hb.block B hB).trans h
theorem w16 {x : Int} (h1 : -1 ≤ x) (h2 : x ≤ 8193) : IntKind.i16.wrap (x + 1) = x + 1 := by
  simp [IntKind.wrap, IntKind.signed, IntKind.bits]
  omega
theorem w64 {x : Int} (h1 : -9223372036854775808 ≤ x) (h2 : x ≤ 9223372036854775807) : IntKind.i64.wrap x = x := by
  simp [IntKind.wrap, IntKind.signed, IntKind.bits]
  omega
end Go.Proofs.YthjbknncbhkinaaGreatDoor.CBx

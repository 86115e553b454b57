/- Keys: as values, and as what a map holds. -/
import Derived.Test.YtkjgbmoimobgaaaIBase
import Derived.Maps.OwnSet
import Derived.Maps.Views
import Derived.DeepKeys4
import Derived.Laws.StructEq
namespace Go.Proofs.Ytkjgbmoimobgaaa.IKey
open Go.RowKit Go.Maps Go.Proofs.Ytkjgbmoimobgaaa.IPure Go.Proofs.Ytkjgbmoimobgaaa.IBase
set_option linter.unusedVariables false

/-- A key: its kind, its integer, its text. -/
abbrev Ky := Int × Int × ByteArray
def kv (x : Ky) : Value := .agg #[.int .i64 x.1, .int .i64 x.2.1, .string x.2.2]
def Ok (x : Ky) : Prop := (Lit.int .i64 x.1).wf = true ∧ (Lit.int .i64 x.2.1).wf = true ∧ x.2.2.size ≤ 140737488351232
theorem laidOut : laidOutB Try.prog = true := by kernel_rfl
theorem rowK : (44 : TypeId) < Try.prog.types.size := of_decide_eq_true (by kernel_rfl)
theorem wideK : (match Try.prog.underlying 44 with | some (.array _ _) | some (.struct _) => true | _ => false) = true := by kernel_rfl
theorem keyed : Keyed Try.prog 44 := Keyed.of_law (deep_law_laid laidOut (m := 3) (by omega) rowK (by kernel_rfl) wideK)
theorem keyK : Try.prog.keyType 44 = true := by kernel_rfl
theorem cellsK : Try.prog.cellsOf 44 = 3 := by kernel_rfl
theorem cells3 : Try.prog.cellsOf 3 = 1 := by kernel_rfl
theorem cells9 : Try.prog.cellsOf 9 = 1 := by kernel_rfl
/-- What a map knows a key by. -/
def Kl (x : Ky) (l : Lit) : Prop := keyOf Try.prog 44 (kv x) = some l
theorem types_pos : ∃ m, Try.prog.types.size = m + 1 := ⟨_, (Nat.succ_pred_eq_of_pos (Nat.lt_of_le_of_lt (Nat.zero_le _) rowK)).symm⟩
theorem key_of {x : Ky} (h : Ok x) : ∃ l, Kl x l := by
  have hf : (kv x).formed Try.prog 44 = true := by
    simp [kv, Value.formed, Try.underlying44, cellsK]
  unfold Kl keyOf
  rw [Try.underlying44]
  simp only [keyK, hf, Bool.and_self, if_true]
  obtain ⟨m, hm⟩ := types_pos
  rw [hm]
  have h9 : x.2.2.size ≤ maxLen := by simp [maxLen]; have := h.2.2; omega
  simp [Program.keyLits, Try.underlying44, Try.underlying3, Try.underlying9, cellsK, cells3, cells9, kv, Value.cells, h.1, h.2.1, h9]
theorem kv_inj {x y : Ky} (h : kv x = kv y) : x = y := by
  obtain ⟨a, b, c⟩ := x
  obtain ⟨d, e, f⟩ := y
  simp [kv] at h
  obtain ⟨rfl, rfl, rfl⟩ := h
  rfl
theorem Kl.inj {x y : Ky} {l : Lit} (h1 : Kl x l) (h2 : Kl y l) : x = y := kv_inj (keyed.inj h1 h2)
theorem Kl.one {x : Ky} {l l' : Lit} (h1 : Kl x l) (h2 : Kl x l') : l = l' := by
  unfold Kl at h1 h2
  rw [h1] at h2
  cases h2
  rfl
theorem Kl.key {x : Ky} {l : Lit} (h : Kl x l) : WideAt.IsKeyLit l := keyed.key h
/-- The map of these keys to their places. -/
structure Mp {H : Type} (D : DataW H) (ks : List Ky) : Prop where
  tidy : Tidy D
  has : ∀ x l, Kl x l → (Maps.has D l = true ↔ x ∈ ks)
  at' : ks.Nodup → ∀ (j : Nat) x l, Kl x l → ks[j]? = some x → ∀ z, D.atKey l z = .lit (.int .i64 j)
  le : Maps.size D ≤ ks.length
  full : ks.Nodup ↔ Maps.size D = ks.length
theorem Mp.nil {H : Type} : Mp (.map [] : DataW H) [] := ⟨tidy_empty, fun x l _ => by simp [Maps.has], fun _ j x l _ h => by simp at h, by simp [Maps.size], by simp [Maps.size]⟩
theorem Mp.put {H : Type} {D : DataW H} {ks : List Ky} (h : Mp D ks) {x : Ky} {l : Lit} (hl : Kl x l) : Mp (D.put l (.lit (.int .i64 (ks.length : Nat)))) (ks ++ [x]) := by
  have hsz := size_put (k := l) h.tidy (.lit (.int .i64 (ks.length : Nat)))
  refine ⟨h.tidy.put hl.key _, ?_, ?_, ?_, ?_⟩
  · intro y m hm
    by_cases e : y = x
    · subst e
      rw [hm.one hl, has_put_same h.tidy.isMap hl.key]
      simp
    · rw [has_put_other (fun e2 => e (by subst e2; exact hm.inj hl)), h.has y m hm]
      simp [e]
  · intro hnd j y m hm hj z
    rw [List.nodup_append] at hnd
    rw [List.getElem?_append] at hj
    by_cases e : y = x
    · subst e
      rw [hm.one hl, atKey_put_same h.tidy.isMap hl.key]
      split at hj
      · have := List.mem_of_getElem? hj
        exact absurd rfl (hnd.2.2 y this y (by simp))
      · have := (List.getElem?_eq_some_iff.1 hj).1
        simp at this
        rw [show j = ks.length by omega]
    · rw [atKey_put_other (fun e2 => e (by subst e2; exact hm.inj hl))]
      split at hj
      · exact h.at' hnd.1 j y m hm hj z
      · have := List.mem_of_getElem? hj
        simp at this
        exact absurd this e
  · rw [hsz]
    have := h.le
    split <;> simp <;> omega
  · rw [hsz]
    have hh := h.has x l hl
    have := h.le
    by_cases hx : x ∈ ks
    · rw [if_pos (hh.2 hx)]
      constructor
      · intro hnd
        exact absurd rfl ((List.nodup_append.1 hnd).2.2 x hx x (by simp))
      · intro h
        simp at h
        omega
    · rw [if_neg (fun e => hx (hh.1 e))]
      constructor
      · intro hnd
        have := h.full.1 (List.nodup_append.1 hnd).1
        simp
        omega
      · intro h2
        simp at h2
        refine List.nodup_append.2 ⟨h.full.2 h2, by simp, fun a ha b hb e => ?_⟩
        simp at hb
        subst hb
        subst e
        exact hx ha
theorem make_map (n : Nat) (w : World) : (Instr.makeMap 46 (some (.int .i64 n))).run Try.prog w = .ok (.map (some w.heap.size)) (w.alloc (.map #[] 0)) := by
  simp [Instr.makeMap, go_sem]
end Go.Proofs.Ytkjgbmoimobgaaa.IKey

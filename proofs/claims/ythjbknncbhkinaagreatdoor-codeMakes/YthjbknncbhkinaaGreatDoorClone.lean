/- New memory for a value's lists: contracts of slices.Clone over texts and over values. -/
import Derived.Test.YthjbknncbhkinaaGreatDoorRow
import Derived.Lib.SliceRun
import Derived.LoopTactic
import Derived.LoopN
namespace Go.Proofs.YthjbknncbhkinaaGreatDoor.Clone
open Go.RowKit Go.Proofs.YthjbknncbhkinaaGreatDoor.Base
set_option linter.unusedVariables false

theorem cloneT_c (v : Value) (L : List ByteArray) (w : World) (h : Tx false All w v L) :
    Calls Tryz.prog 67 #[v] w fun e w' => ∃ u, e = .returned u ∧ OwnT w' w.heap.size u L ∧ Below w.heap.size w w' := by
  obtain ⟨i0, hi, hz0, hz1, hz2⟩ := info_parts info9
  obtain ⟨a, cap, rfl, hlc, hm, hlen, hsz, hnil, hN⟩ := h.out
  have ho : OwnT (w.alloc (.cells #[] 9)) w.heap.size (.slice (some ⟨w.heap.size, 0, none⟩) 0 0) [] := by
    refine ⟨rfl, .inr ⟨w.heap.size, 0, #[], rfl, Nat.le_refl _, heap_alloc_new w _, Nat.le_refl _, by simp [maxLen], rfl, rfl⟩⟩
  have q22 : ∀ (w : World) (a : Option Addr) (n c n' c' : Nat), (binOp .eql 28 (.slice a n c) (.slice none n' c')).run Tryz.prog w = .ok (.bool a.isNone) w := fun w a n c n' c' => Lib.run_eql_slice_nil w _ _ a n c n' c' Tryz.underlying28
  have hb : Below w.heap.size w (w.alloc (.cells #[] 9)) := (Below.refl _ w).alloc (Nat.le_refl _) _
  cases a with
  | none =>
    obtain rfl := hnil rfl
    obtain rfl : L = [] := List.eq_nil_of_length_eq_zero (by omega)
    go_enter Tryz.func67, Tryz.ntmps67
    go_wp2_with fail
    go_ret
    exact ⟨_, rfl, World.ownsRow_nil _ _ _ _, Below.refl _ _⟩
  | some x =>
    obtain ⟨g, o, sp⟩ := x
    have hnews : ∀ j u, (L.map Value.string)[j]? = some u → (w.alloc (.cells #[] 9)).cell? ((⟨g, o, sp⟩ : Addr).add j) = some u := by
      intro j u hj
      have hl : j < L.length := by
        have := (List.getElem?_eq_some_iff.1 hj).1
        simpa using this
      obtain ⟨g', o', e, -, hc⟩ := name_at hN hl
      cases e
      rw [add_none]
      have hj' : u = .string L[j] := by simpa [hl] using hj.symm
      rw [hj']
      exact below_cell hc hb
    clear hN h
    go_enter Tryz.func67, Tryz.ntmps67
    go_wp2_with (first
      | (at_builtin; refine wpList_append_own _ rfl _ _ 28 rfl w.heap.size 9 i0 (.string ⟨#[]⟩) 1 16 Tryz.underlying28 hi hz0 hz1 hz2 rfl (by decide) _ _ _ rfl ho ⟨g, o, sp⟩ L.length cap (L.map Value.string) rfl (by simp) hnews (one_texts L) (by unfold maxLen; simp; omega) (by simp; omega) (by simp) ?_))
    intro v' w2 hown' hgrow hnn
    have hb3 := hb.grown hgrow (by simp) (fun k hk => by cases hk; exact Nat.le_refl _)
    have ho2 : OwnT w2 w.heap.size v' L := by
      unfold OwnT
      simpa using hown'
    clear hown' hgrow ho hb hnews hnn
    go_wp2_with fail
    go_ret
    exact ⟨_, rfl, ho2, hb3⟩
/-- The elements of a list, as values. -/
theorem elems {S : Nat → Prop} {w : World} {m : Nat} {a : Option Addr} {cap : Nat} {l : List C} (hL : LAt false S w m a cap l) :
    ∃ os : List Value, os.length = l.length ∧ Sixes os ∧ (∀ j (h : j < os.length) (h' : j < l.length), In false S w m os[j] l[j]) ∧
      ∀ g o, a = some ⟨g, o, none⟩ → ∀ j (h : j < os.length), Six w g (o + j * 6) os[j] := by
  rcases hL with ⟨rfl, _⟩ | ⟨g, o, rfl, hS, hc, _⟩
  · exact ⟨[], rfl, fun u hu => (by cases hu), fun j h => by simp at h, fun g o _ j h => by simp at h⟩
  · have : ∀ j : Fin l.length, ∃ u, Six w g (o + j.1 * 6) u ∧ In false S w m u l[j.1] := fun j => hc j.1 j.2
    obtain ⟨f, hf⟩ := Classical.axiomOfChoice this
    refine ⟨List.ofFn f, by simp, ?_, ?_, ?_⟩
    · intro u hu
      obtain ⟨j, rfl⟩ := List.mem_ofFn.1 hu
      exact (hf j).2.six
    · intro j h h'
      have := (hf ⟨j, h'⟩).2
      simpa using this
    · rintro g' o' e j h
      cases e
      have h' : j < l.length := by simpa using h
      have := (hf ⟨j, h'⟩).1
      simpa using this
theorem flat_one {us : List Value} (h : Sixes us) : ∀ u ∈ flat us, u.oneCell' = true := by
  intro u hu
  obtain ⟨x, hx, hu⟩ := List.mem_flatMap.1 hu
  obtain ⟨v0, v1, v2, v3, v4, v5, rfl, h1⟩ := h x hx
  exact h1 u (by simpa [Value.cells] using hu)
theorem flat_cells {w : World} {g o : Nat} {us : List Value} (h : ∀ j (h : j < us.length), Six w g (o + j * 6) us[j]) (hs : Sixes us) : ∀ j u, (flat us)[j]? = some u → w.cell? ⟨g, o + j, none⟩ = some u := by
  intro j u hj
  have hlt : j < us.length * 6 := by rw [← flat_len hs]; exact (List.getElem?_eq_some_iff.1 hj).1
  have hq : j / 6 < us.length := by omega
  have hr : j % 6 < 6 := by omega
  have e : j / 6 * 6 + j % 6 = j := by omega
  have hg := flat_get hs (j / 6) hq (j % 6) hr
  rw [e, hj] at hg
  obtain ⟨v0, v1, v2, v3, v4, v5, e6, c0, c1, c2, c3, c4, c5⟩ := h (j / 6) hq
  rw [e6] at hg
  have hcase : j % 6 = 0 ∨ j % 6 = 1 ∨ j % 6 = 2 ∨ j % 6 = 3 ∨ j % 6 = 4 ∨ j % 6 = 5 := by omega
  rcases hcase with h6 | h6 | h6 | h6 | h6 | h6 <;> rw [h6] at hg e <;> simp only [Value.cells] at hg <;> simp at hg <;> subst hg
  · rw [show o + j = o + j / 6 * 6 by omega]; exact c0
  · rw [show o + j = o + j / 6 * 6 + 1 by omega]; exact c1
  · rw [show o + j = o + j / 6 * 6 + 2 by omega]; exact c2
  · rw [show o + j = o + j / 6 * 6 + 3 by omega]; exact c3
  · rw [show o + j = o + j / 6 * 6 + 4 by omega]; exact c4
  · rw [show o + j = o + j / 6 * 6 + 5 by omega]; exact c5
set_option maxRecDepth 20000 in
theorem cloneV_c {S : Nat → Prop} (m : Nat) (v : Value) (l : List C) (w : World) (h : InL false S w m v l) :
    Calls Tryz.prog 83 #[v] w fun e w' => ∃ u, e = .returned u ∧ ∃ os, OwnV w' w.heap.size u os ∧ os.length = l.length ∧ (∀ j (h : j < os.length) (h' : j < l.length), In false S w m os[j] l[j]) ∧ Below w.heap.size w w' := by
  obtain ⟨i0, hi, hz0, hz1, hz2⟩ := info_parts info25
  obtain ⟨a, cap, rfl, hlc, hm, hlen, hnil, hL⟩ := h.out
  obtain ⟨os, hos, hsix, hins, hcs⟩ := elems hL
  have ho : (w.alloc (.cells #[] 46)).ownsRow w.heap.size 46 6 (.slice (some ⟨w.heap.size, 0, none⟩) 0 0) 0 [] := by
    refine ⟨rfl, .inr ⟨w.heap.size, 0, #[], rfl, Nat.le_refl _, heap_alloc_new w _, Nat.le_refl _, by simp [maxLen], rfl, rfl⟩⟩
  have q23 : ∀ (w : World) (a : Option Addr) (n c n' c' : Nat), (binOp .eql 43 (.slice a n c) (.slice none n' c')).run Tryz.prog w = .ok (.bool a.isNone) w := fun w a n c n' c' => Lib.run_eql_slice_nil w _ _ a n c n' c' Tryz.underlying43
  have hb : Below w.heap.size w (w.alloc (.cells #[] 46)) := (Below.refl _ w).alloc (Nat.le_refl _) _
  have HH : Hid (os.length = l.length ∧ Sixes os ∧ ∀ j (h : j < os.length) (h' : j < l.length), In false S w m os[j] l[j]) := ⟨hos, hsix, hins⟩
  cases a with
  | none =>
    obtain rfl := hnil rfl
    obtain rfl : l = [] := List.eq_nil_of_length_eq_zero (by omega)
    obtain rfl : os = [] := List.eq_nil_of_length_eq_zero (by simpa using hos)
    clear hos hsix hins hcs hL
    go_enter Tryz.func83, Tryz.ntmps83
    go_wp2_with fail
    go_ret
    exact ⟨_, rfl, [], ⟨World.ownsRow_nil _ _ _ _, HH.out.2.1⟩, rfl, Below.refl _ _⟩
  | some x =>
    obtain ⟨g, o, sp⟩ := x
    have hnews : ∀ j u, (flat os)[j]? = some u → (w.alloc (.cells #[] 46)).cell? ((⟨g, o, sp⟩ : Addr).add j) = some u := by
      intro j u hj
      have hl : j < os.length * 6 := by rw [← flat_len hsix]; exact (List.getElem?_eq_some_iff.1 hj).1
      obtain ⟨g', o', u', e, -⟩ := elem_at hL (q := 0) (by omega)
      cases e
      rw [add_none]
      exact below_cell (flat_cells (hcs g o rfl) hsix j u hj) hb
    have hfl : (flat os).length = l.length * 6 := by rw [flat_len hsix, hos]
    have hf1 := flat_one hsix
    have Hfl : Hid ((flat os).length = l.length * 6) := hfl
    obtain ⟨F, hF⟩ : ∃ F, flat os = F := ⟨_, rfl⟩
    have HF : Hid (flat os = F) := hF
    rw [hF] at hnews hfl hf1
    clear hF hL h hos hsix hins hcs hfl Hfl
    have hfl : F.length = l.length * 6 := by rw [← HF.out, flat_len HH.out.2.1, HH.out.1]
    go_enter Tryz.func83, Tryz.ntmps83
    go_wp2_with (first
      | (at_builtin; refine wpList_append_own _ rfl _ _ 43 rfl w.heap.size 46 i0 (.agg #[.int .i64 0, .bool false, .int .i64 0, .string ⟨#[]⟩, .slice none 0 0, .slice none 0 0]) 6 88 Tryz.underlying43 hi hz0 hz1 hz2 rfl (by decide) _ _ _ rfl ho ⟨g, o, sp⟩ l.length cap F rfl hfl hnews hf1 (by unfold maxLen; simp; omega) (by simp; omega) (by simp) ?_))
    intro v' w2 hown' hgrow hnn
    have hb3 := hb.grown hgrow (by simp) (fun k hk => by cases hk; exact Nat.le_refl _)
    have ho2 : OwnV w2 w.heap.size v' os := by
      refine ⟨?_, HH.out.2.1⟩
      rw [HF.out, HH.out.1]
      simpa using hown'
    clear hown' hgrow ho hb hnews hnn hf1 hfl
    go_wp2_with fail
    go_ret
    exact ⟨_, rfl, os, ho2, HH.out.1, HH.out.2.2, hb3⟩
end Go.Proofs.YthjbknncbhkinaaGreatDoor.Clone

/- Rows of keys, and the map of their places: contract of placesOf. -/
import Derived.Test.YtkjgbmoimobgaaaIKey
namespace Go.Proofs.Ytkjgbmoimobgaaa.IKrow
open Go.RowKit Go.Maps Go.Proofs.Ytkjgbmoimobgaaa.IPure Go.Proofs.Ytkjgbmoimobgaaa.IBase Go.Proofs.Ytkjgbmoimobgaaa.IKey
set_option linter.unusedVariables false

/-- A key: three cells. -/
def Three (w : World) (g o : Nat) (x : Ky) : Prop := w.cell? ⟨g, o, none⟩ = some (.int .i64 x.1) ∧ w.cell? ⟨g, o + 1, none⟩ = some (.int .i64 x.2.1) ∧ w.cell? ⟨g, o + 2, none⟩ = some (.string x.2.2)
theorem Three.below {w w' : World} {g o : Nat} {x : Ky} (h : Three w g o x) (hb : Below w.heap.size w w') : Three w' g o x := ⟨below_cell h.1 hb, below_cell h.2.1 hb, below_cell h.2.2 hb⟩
/-- A row of keys that is read. -/
def Kx (w : World) (v : Value) (ks : List Ky) : Prop :=
  ∃ a cap, v = .slice a ks.length cap ∧ ks.length ≤ cap ∧ cap ≤ 9223372036854775807 ∧ (a = none → cap = 0) ∧ (ks = [] ∨ ∃ g o, a = some ⟨g, o, none⟩ ∧ ∀ j (h : j < ks.length), Three w g (o + j * 3) ks[j])
theorem Kx.below {w w' : World} {v : Value} {ks : List Ky} (h : Kx w v ks) (hb : Below w.heap.size w w') : Kx w' v ks := by
  obtain ⟨a, cap, h1, h2, h3, h4, h5⟩ := h
  refine ⟨a, cap, h1, h2, h3, h4, ?_⟩
  rcases h5 with h5 | ⟨g, o, ha, hc⟩
  · exact .inl h5
  · exact .inr ⟨g, o, ha, fun j hj => (hc j hj).below hb⟩
def OkL (ks : List Ky) : Prop := (∀ x ∈ ks, Ok x) ∧ ks.length ≤ 4398046511104
theorem wf_nat {n : Nat} (h : n ≤ 4398046511104) : (Lit.int .i64 (n : Int)).wf = true := by
  simp [Lit.wf, IntKind.min, IntKind.max, IntKind.signed, IntKind.bits]
  omega
set_option maxRecDepth 20000 in
set_option maxHeartbeats 800000 in
theorem places_c {w : World} {v : Value} {ks : List Ky} (hv : Kx w v ks) (hk : OkL ks) :
    Calls Try.prog 25 #[v] w fun e w' => e = .returned (.map (some w.heap.size)) ∧ (∃ D : DataW Unit, w'.ownsMap Try.prog 44 (plainElem Try.prog 3) w.heap.size ks.length D ∧ Mp D ks) ∧ Below w.heap.size w w' := by
  obtain ⟨a, cap, rfl, hl, hm, hnil, hL⟩ := hv
  obtain ⟨n, hnn⟩ : ∃ n, ks.length = n := ⟨_, rfl⟩
  obtain ⟨hok, hlen⟩ := hk
  rw [hnn] at hl hlen ⊢
  have hmk := make_map n
  have hm0 := World.ownsMap_made w Try.prog 44 (plainElem (H := Unit) Try.prog 3)
  have hb0 : Below w.heap.size w (w.alloc (.map #[] 0)) := (Below.refl _ w).alloc (Nat.le_refl _) _
  have hs0 : (w.alloc (.map #[] 0)).heap.size = w.heap.size + 1 := by simp
  go_enter Try.func25, Try.ntmps25
  go_wp2_with fail
  generalize w.alloc (.map #[] 0) = w0 at *
  go_loopw [11] (fun i wr => ∃ q : Nat, i = .int .i64 q ∧ q ≤ n ∧ (∃ D : DataW Unit, wr.ownsMap Try.prog 44 (plainElem Try.prog 3) w.heap.size q D ∧ Mp D (ks.take q)) ∧ Below w.heap.size w wr ∧ w.heap.size + 1 ≤ wr.heap.size) (fun i _ => n - (intOf i).toNat)
  case atStart => exact ⟨0, rfl, by omega, ⟨_, hm0, by rw [List.take_zero]; exact Mp.nil⟩, hb0, by omega⟩
  case round =>
    obtain ⟨q, rfl, hq, ⟨D, hown, hD⟩, hb, hsz⟩ := hrel
    by_cases hlt : q < n
    · rcases hL with rfl | ⟨g, o, rfl, hc⟩
      · simp at hnn; omega
      · have h3 := (hc q (by omega)).below hb
        have hx := hok ks[q] (List.getElem_mem _)
        have hput : Mp (D.put (key_of hx).choose (.lit (.int .i64 ((ks.take q).length : Nat)))) (ks.take q ++ [ks[q]]) := hD.put (key_of hx).choose_spec
        have hkey := (key_of hx).choose_spec
        rw [List.length_take, show min q ks.length = q by omega, ← List.take_succ_eq_append_getElem] at hput
        generalize (key_of hx).choose = l at *
        have HM : Hid (Mp (D.put l (.lit (.int .i64 (q : Nat)))) (ks.take (q + 1))) := hput
        generalize ks[q] = x at *
        obtain ⟨x0, x1, x2⟩ := x
        obtain ⟨d0, d1, d2⟩ := h3
        have hkey' : keyOf Try.prog 44 (.agg #[.int .i64 x0, .int .i64 x1, .string x2]) = some l := hkey
        have hwf := wf_nat (n := q) (by omega)
        clear hc hok hput hkey hx hD
        go_wp2_with (first
          | (at_mapUpdate; refine wpList_mapUpdate_own _ rfl _ _ _ 46 rfl 44 3 keyed Try.underlying46 (plainElem Try.prog 3) w.heap.size q D rfl (hown.alloc _) (by simp [maxLen]; omega) _ _ l rfl rfl hkey' (.lit (.int .i64 (q : Nat))) [] (plainElem_int Try.underlying3 hwf) ?_; intro w2 hown2 hg2))
        go_roundw
        case rel => exact ⟨q + 1, by go_num, by omega, ⟨_, hown2, HM.out⟩, (hb.alloc hb.size _).grown hg2 (by simp; omega) (fun k e => by cases e; exact Nat.le_refl _), by have := hg2.size; simp at this; omega⟩
        case measure => simp only [intOf]; omega
    · obtain rfl : q = n := by omega
      have hnlt : decide ((q : Int) < (q : Int)) = false := by simp
      rw [← hnn, List.take_length] at hD
      have HD : Hid (Mp D ks) := hD
      have HO : Hid (wr.ownsMap Try.prog 44 (plainElem Try.prog 3) w.heap.size q D) := hown
      clear hL hok hD hown
      go_wp2_with fail
      go_ret
      exact ⟨rfl, ⟨D, HO.out, HD.out⟩, hb⟩
end Go.Proofs.Ytkjgbmoimobgaaa.IKrow

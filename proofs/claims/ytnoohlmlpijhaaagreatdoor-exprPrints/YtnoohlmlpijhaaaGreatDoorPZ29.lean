import Derived.Test.YtnoohlmlpijhaaaGreatDoorPZ04
namespace Go.Proofs.YtnoohlmlpijhaaaGreatDoor.XSh
open Go.RowKit Go.Proofs.YtnoohlmlpijhaaaGreatDoor.EPure Go.Proofs.YtnoohlmlpijhaaaGreatDoor.XBase
open Go.Proofs.YtnoohlmlpijhaaaGreatDoor.Base (All heap_alloc_new)
set_option linter.unusedVariables false
def Dp (m : Nat) : Prop := ∀ (v : Value) (x : Ex) (left : Nat) (w : World), left ≤ 4096 → In false All w m v x →
    Calls Tryz.prog 17 #[v, .int .i64 left] w fun e w' => (∃ b, e = .returned (.bool b)) ∧ Below w.heap.size w w'
set_option maxRecDepth 20000 in
set_option maxHeartbeats 1600000 in
theorem dp_of (m : Nat) (ih : Dp m) : Dp (m + 1) := by
  intro v x left w hleft h
  obtain ⟨o, i, s, l⟩ := x
  rw [in_iff] at h
  obtain ⟨lv, rfl, ho, hi, hs, a, cap, rfl, hl, hcap, hlen, ha, hL⟩ := h
  have H : Hid (Dp m) := ih
  obtain ⟨W0, hW0⟩ : ∃ W0, w.alloc (.cells #[.int .i64 o, .int .i64 i, .string s, .slice a l.length cap] 24) = W0 := ⟨_, rfl⟩
  have b0 : Below w.heap.size w W0 := by rw [← hW0]; exact (Below.refl _ w).alloc (Nat.le_refl _) _
  have s0 : W0.heap.size = w.heap.size + 1 := by rw [← hW0]; simp
  have hx : W0.heap[w.heap.size]? = some (.cells #[.int .i64 o, .int .i64 i, .string s, .slice a l.length cap] 24 (0, 0)) := by rw [← hW0]; exact heap_alloc_new w _
  have HX : Hid (W0.heap[w.heap.size]? = some (.cells #[.int .i64 o, .int .i64 i, .string s, .slice a l.length cap] 24 (0, 0)) ∧ W0.heap.size = w.heap.size + 1 ∧ Below w.heap.size w W0) := ⟨hx, s0, b0⟩
  clear ih hx s0 b0
  by_cases h0 : left = 0
  · subst h0
    clear hL
    go_enter Tryz.func17, Tryz.ntmps17
    go_wp2_with fail
    go_ret
    exact ⟨⟨_, rfl⟩, HX.out.2.2⟩
  · have h0' : ((left : Int) == 0) = false := by simp; omega
    go_enter Tryz.func17, Tryz.ntmps17
    go_wp2_with fail
    clear hW0
    go_loopw [5] (fun i' wr => ∃ q : Nat, q ≤ l.length ∧ i' = .int .i64 q ∧ Below W0.heap.size W0 wr) (fun i' _ => l.length - (intOf i').toNat)
    case atStart => exact ⟨0, by omega, rfl, Below.refl _ _⟩
    case round =>
      obtain ⟨q, hq, rfl, hb⟩ := hrel
      have hbx := (hb.block w.heap.size (by have := HX.out.2.1; omega)).trans HX.out.1
      obtain ⟨y0, y1, y2, y3⟩ := four_box hbx
      have hbw : Below w.heap.size w wr := HX.out.2.2.trans (hb.mono (by have := HX.out.2.1; omega))
      have HB : Hid (Below W0.heap.size W0 wr ∧ Below w.heap.size w wr) := ⟨hb, hbw⟩
      clear hbx
      by_cases hlt : q < l.length
      · obtain ⟨g, o', u, rfl, -, hu, hin⟩ := elem_at hL hlt
        have hu := four_below hu hbw
        have c1 := H.out u l[q] (left - 1) wr (by omega) (hin.below hbw)
        obtain ⟨v0, v1, v2, v3, rfl, d0, d1, d2, d3⟩ := hu
        have en : ((left - 1 : Nat) : Int) = (left : Int) - 1 := by omega
        rw [en] at c1
        clear hb hbw hL hin en
        go_wp2_with fail
        refine c1.mono ?_
        rintro e W1 ⟨⟨b, rfl⟩, b1⟩
        have HB1 : Hid (Below W0.heap.size W0 W1) := HB.out.1.trans (b1.mono HB.out.1.size)
        clear c1 b1 y0 y1 y2 y3 d0 d1 d2 d3
        cases b with
        | true =>
          go_wp2_with fail
          go_roundw
          case rel => exact ⟨q + 1, by omega, by go_num, HB1.out⟩
          case measure => simp only [intOf]; omega
        | false =>
          go_wp2_with fail
          go_ret
          exact ⟨⟨_, rfl⟩, HX.out.2.2.trans (HB1.out.mono (by have := HX.out.2.1; omega))⟩
      · have d : decide ((q : Int) < (l.length : Int)) = false := by simp; omega
        clear hL hb hbw
        go_wp2_with fail
        go_ret
        exact ⟨⟨_, rfl⟩, HB.out.2⟩
theorem dp : ∀ m, Dp m
  | 0 => by intro v x left w _ h; rw [In] at h; exact h.elim
  | m + 1 => dp_of m (dp m)
set_option maxRecDepth 20000 in
theorem shallow_c {m : Nat} {v : Value} {x : Ex} {w : World} (h : In false All w m v x) :
    Calls Tryz.prog 5 #[v] w fun e w' => (∃ b, e = .returned (.bool b)) ∧ Below w.heap.size w w' := by
  obtain ⟨m', lv, rfl, rfl, ho, hi, hs, hL⟩ := h.shape
  obtain ⟨a, cap, rfl, -⟩ := hL
  obtain ⟨W0, hW0⟩ : ∃ W0, w.alloc (.cells #[.int .i64 x.o, .int .i64 x.i, .string x.s, .slice a x.l.length cap] 24) = W0 := ⟨_, rfl⟩
  have b0 : Below w.heap.size w W0 := by rw [← hW0]; exact (Below.refl _ w).alloc (Nat.le_refl _) _
  have c1 := dp (m' + 1) _ x 4096 W0 (by omega) (h.below b0)
  have hx : W0.heap[w.heap.size]? = some (.cells #[.int .i64 x.o, .int .i64 x.i, .string x.s, .slice a x.l.length cap] 24 (0, 0)) := by rw [← hW0]; exact heap_alloc_new w _
  obtain ⟨y0, y1, y2, y3⟩ := four_box hx
  have HB : Hid (Below w.heap.size w W0) := b0
  clear b0 h hx
  go_enter Tryz.func5, Tryz.ntmps5
  go_wp2_with fail
  refine c1.mono ?_
  rintro e W1 ⟨⟨b, rfl⟩, b1⟩
  have HB1 : Hid (Below w.heap.size w W1) := HB.out.trans (b1.mono HB.out.size)
  clear c1 b1
  go_wp2_with fail
  go_ret
  exact ⟨⟨_, rfl⟩, HB1.out⟩
end Go.Proofs.YtnoohlmlpijhaaaGreatDoor.XSh

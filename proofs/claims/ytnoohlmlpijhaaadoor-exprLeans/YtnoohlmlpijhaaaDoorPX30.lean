import Derived.Test.YtnoohlmlpijhaaaDoorPX04
namespace Go.Proofs.YtnoohlmlpijhaaaDoor.ENst
open Go.Proofs.YtnoohlmlpijhaaaDoor.EPure
set_option linter.unusedVariables false
def wrp (q : Nat) (x : List UInt8) : List UInt8 := if q = 0 then [40] ++ x ++ [41] else if q = 1 then [45] ++ x else if q = 2 then [98, 91] ++ x ++ [93] else [99, 32, 63, 32, 98, 32, 58, 32] ++ x
/-- The text of kind q, wrapped k times. -/
def nst (q : Nat) : Nat → List UInt8
  | 0 => [97]
  | k + 1 => wrp q (nst q k)
def okk (k : Nat) (t : List UInt8) : Bool := match prs ⟨t.toArray⟩ with
  | .ok _ => decide (k < 32)
  | .error (c, a) => decide (32 ≤ k) && (c == 1001 && (decide (0 < a) && decide (a < t.length)))
def run (q b n : Nat) : Bool := (List.range n).all fun d => okk (b + d) (nst q (b + d))
theorem of_run {q b n k : Nat} (h : run q b n = true) (h1 : b ≤ k) (h2 : k < b + n) : okk k (nst q k) = true := by
  have := List.all_eq_true.1 h (k - b) (List.mem_range.2 (by omega))
  rwa [show b + (k - b) = k by omega] at this
theorem nst_len (q : Nat) : ∀ k, (nst q k).length ≤ 8 * k + 1
  | 0 => by simp [nst]
  | k + 1 => by
    have := nst_len q k
    rw [nst, wrp]
    split
    · simp; omega
    split
    · simp; omega
    split
    · simp; omega
    · simp; omega
end Go.Proofs.YtnoohlmlpijhaaaDoor.ENst
namespace Go.Proofs.YtnoohlmlpijhaaaDoor.ENsA
open Go.Proofs.YtnoohlmlpijhaaaDoor.EPure Go.Proofs.YtnoohlmlpijhaaaDoor.ENst
theorem r0_0 : run 0 0 8 = true := by decide +kernel
theorem r0_8 : run 0 8 8 = true := by decide +kernel
theorem r0_16 : run 0 16 8 = true := by decide +kernel
theorem r0_24 : run 0 24 8 = true := by decide +kernel
theorem r0_32 : run 0 32 8 = true := by decide +kernel
theorem r0_40 : run 0 40 8 = true := by decide +kernel
theorem r0_48 : run 0 48 8 = true := by decide +kernel
theorem r0_56 : run 0 56 8 = true := by decide +kernel
theorem r1_0 : run 1 0 8 = true := by decide +kernel
theorem r1_8 : run 1 8 8 = true := by decide +kernel
theorem r1_16 : run 1 16 8 = true := by decide +kernel
theorem r1_24 : run 1 24 8 = true := by decide +kernel
theorem r1_32 : run 1 32 8 = true := by decide +kernel
theorem r1_40 : run 1 40 8 = true := by decide +kernel
theorem r1_48 : run 1 48 8 = true := by decide +kernel
theorem r1_56 : run 1 56 8 = true := by decide +kernel
end Go.Proofs.YtnoohlmlpijhaaaDoor.ENsA
namespace Go.Proofs.YtnoohlmlpijhaaaDoor.ENsB
open Go.Proofs.YtnoohlmlpijhaaaDoor.EPure Go.Proofs.YtnoohlmlpijhaaaDoor.ENst
theorem r2_0 : run 2 0 8 = true := by decide +kernel
theorem r2_8 : run 2 8 8 = true := by decide +kernel
theorem r2_16 : run 2 16 8 = true := by decide +kernel
theorem r2_24 : run 2 24 8 = true := by decide +kernel
theorem r2_32 : run 2 32 8 = true := by decide +kernel
theorem r2_40 : run 2 40 8 = true := by decide +kernel
theorem r2_48 : run 2 48 8 = true := by decide +kernel
theorem r2_56 : run 2 56 8 = true := by decide +kernel
end Go.Proofs.YtnoohlmlpijhaaaDoor.ENsB
namespace Go.Proofs.YtnoohlmlpijhaaaDoor.ENsC
open Go.Proofs.YtnoohlmlpijhaaaDoor.EPure Go.Proofs.YtnoohlmlpijhaaaDoor.ENst
theorem r3_0 : run 3 0 4 = true := by decide +kernel
theorem r3_4 : run 3 4 4 = true := by decide +kernel
theorem r3_8 : run 3 8 4 = true := by decide +kernel
theorem r3_12 : run 3 12 4 = true := by decide +kernel
theorem r3_16 : run 3 16 4 = true := by decide +kernel
theorem r3_20 : run 3 20 4 = true := by decide +kernel
theorem r3_24 : run 3 24 4 = true := by decide +kernel
theorem r3_28 : run 3 28 4 = true := by decide +kernel
end Go.Proofs.YtnoohlmlpijhaaaDoor.ENsC
namespace Go.Proofs.YtnoohlmlpijhaaaDoor.ENsD
open Go.Proofs.YtnoohlmlpijhaaaDoor.EPure Go.Proofs.YtnoohlmlpijhaaaDoor.ENst
theorem r3_32 : run 3 32 4 = true := by decide +kernel
theorem r3_36 : run 3 36 4 = true := by decide +kernel
theorem r3_40 : run 3 40 4 = true := by decide +kernel
theorem r3_44 : run 3 44 4 = true := by decide +kernel
theorem r3_48 : run 3 48 4 = true := by decide +kernel
theorem r3_52 : run 3 52 4 = true := by decide +kernel
theorem r3_56 : run 3 56 4 = true := by decide +kernel
theorem r3_60 : run 3 60 4 = true := by decide +kernel
end Go.Proofs.YtnoohlmlpijhaaaDoor.ENsD
namespace Go.Proofs.YtnoohlmlpijhaaaDoor.ENsE
open Go.Proofs.YtnoohlmlpijhaaaDoor.EPure Go.Proofs.YtnoohlmlpijhaaaDoor.ENst
theorem all {q k : Nat} (hq : q < 4) (hk : k < 64) : okk k (nst q k) = true := by
  match q, hq with
  | 0, _ =>
    rcases Nat.lt_or_ge k 8 with h8 | h8
    · exact of_run ENsA.r0_0 (by omega) (by omega)
    rcases Nat.lt_or_ge k 16 with h16 | h16
    · exact of_run ENsA.r0_8 (by omega) (by omega)
    rcases Nat.lt_or_ge k 24 with h24 | h24
    · exact of_run ENsA.r0_16 (by omega) (by omega)
    rcases Nat.lt_or_ge k 32 with h32 | h32
    · exact of_run ENsA.r0_24 (by omega) (by omega)
    rcases Nat.lt_or_ge k 40 with h40 | h40
    · exact of_run ENsA.r0_32 (by omega) (by omega)
    rcases Nat.lt_or_ge k 48 with h48 | h48
    · exact of_run ENsA.r0_40 (by omega) (by omega)
    rcases Nat.lt_or_ge k 56 with h56 | h56
    · exact of_run ENsA.r0_48 (by omega) (by omega)
    exact of_run ENsA.r0_56 (by omega) (by omega)
  | 1, _ =>
    rcases Nat.lt_or_ge k 8 with h8 | h8
    · exact of_run ENsA.r1_0 (by omega) (by omega)
    rcases Nat.lt_or_ge k 16 with h16 | h16
    · exact of_run ENsA.r1_8 (by omega) (by omega)
    rcases Nat.lt_or_ge k 24 with h24 | h24
    · exact of_run ENsA.r1_16 (by omega) (by omega)
    rcases Nat.lt_or_ge k 32 with h32 | h32
    · exact of_run ENsA.r1_24 (by omega) (by omega)
    rcases Nat.lt_or_ge k 40 with h40 | h40
    · exact of_run ENsA.r1_32 (by omega) (by omega)
    rcases Nat.lt_or_ge k 48 with h48 | h48
    · exact of_run ENsA.r1_40 (by omega) (by omega)
    rcases Nat.lt_or_ge k 56 with h56 | h56
    · exact of_run ENsA.r1_48 (by omega) (by omega)
    exact of_run ENsA.r1_56 (by omega) (by omega)
  | 2, _ =>
    rcases Nat.lt_or_ge k 8 with h8 | h8
    · exact of_run ENsB.r2_0 (by omega) (by omega)
    rcases Nat.lt_or_ge k 16 with h16 | h16
    · exact of_run ENsB.r2_8 (by omega) (by omega)
    rcases Nat.lt_or_ge k 24 with h24 | h24
    · exact of_run ENsB.r2_16 (by omega) (by omega)
    rcases Nat.lt_or_ge k 32 with h32 | h32
    · exact of_run ENsB.r2_24 (by omega) (by omega)
    rcases Nat.lt_or_ge k 40 with h40 | h40
    · exact of_run ENsB.r2_32 (by omega) (by omega)
    rcases Nat.lt_or_ge k 48 with h48 | h48
    · exact of_run ENsB.r2_40 (by omega) (by omega)
    rcases Nat.lt_or_ge k 56 with h56 | h56
    · exact of_run ENsB.r2_48 (by omega) (by omega)
    exact of_run ENsB.r2_56 (by omega) (by omega)
  | 3, _ =>
    rcases Nat.lt_or_ge k 4 with h4 | h4
    · exact of_run ENsC.r3_0 (by omega) (by omega)
    rcases Nat.lt_or_ge k 8 with h8 | h8
    · exact of_run ENsC.r3_4 (by omega) (by omega)
    rcases Nat.lt_or_ge k 12 with h12 | h12
    · exact of_run ENsC.r3_8 (by omega) (by omega)
    rcases Nat.lt_or_ge k 16 with h16 | h16
    · exact of_run ENsC.r3_12 (by omega) (by omega)
    rcases Nat.lt_or_ge k 20 with h20 | h20
    · exact of_run ENsC.r3_16 (by omega) (by omega)
    rcases Nat.lt_or_ge k 24 with h24 | h24
    · exact of_run ENsC.r3_20 (by omega) (by omega)
    rcases Nat.lt_or_ge k 28 with h28 | h28
    · exact of_run ENsC.r3_24 (by omega) (by omega)
    rcases Nat.lt_or_ge k 32 with h32 | h32
    · exact of_run ENsC.r3_28 (by omega) (by omega)
    rcases Nat.lt_or_ge k 36 with h36 | h36
    · exact of_run ENsD.r3_32 (by omega) (by omega)
    rcases Nat.lt_or_ge k 40 with h40 | h40
    · exact of_run ENsD.r3_36 (by omega) (by omega)
    rcases Nat.lt_or_ge k 44 with h44 | h44
    · exact of_run ENsD.r3_40 (by omega) (by omega)
    rcases Nat.lt_or_ge k 48 with h48 | h48
    · exact of_run ENsD.r3_44 (by omega) (by omega)
    rcases Nat.lt_or_ge k 52 with h52 | h52
    · exact of_run ENsD.r3_48 (by omega) (by omega)
    rcases Nat.lt_or_ge k 56 with h56 | h56
    · exact of_run ENsD.r3_52 (by omega) (by omega)
    rcases Nat.lt_or_ge k 60 with h60 | h60
    · exact of_run ENsD.r3_56 (by omega) (by omega)
    exact of_run ENsD.r3_60 (by omega) (by omega)
  | q + 4, h => exact absurd h (by omega)
end Go.Proofs.YtnoohlmlpijhaaaDoor.ENsE
namespace Go.Proofs.YtnoohlmlpijhaaaDoor.XSh
open Go.RowKit Go.Proofs.YtnoohlmlpijhaaaDoor.EPure Go.Proofs.YtnoohlmlpijhaaaDoor.XBase
open Go.Proofs.YtnoohlmlpijhaaaDoor.Base (All heap_alloc_new)
set_option linter.unusedVariables false
def Dp (m : Nat) : Prop := ∀ (v : Value) (x : Ex) (left : Nat) (w : World), left ≤ 4096 → In false All w m v x →
    Calls Tryd.prog 14 #[v, .int .i64 left] w fun e w' => (∃ b, e = .returned (.bool b)) ∧ Below w.heap.size w w'
set_option maxRecDepth 20000 in
set_option maxHeartbeats 1600000 in
theorem dp_of (m : Nat) (ih : Dp m) : Dp (m + 1) := by
  intro v x left w hleft h
  obtain ⟨o, i, s, l⟩ := x
  rw [in_iff] at h
  obtain ⟨lv, rfl, ho, hi, hs, a, cap, rfl, hl, hcap, hlen, ha, hL⟩ := h
  have H : Hid (Dp m) := ih
  obtain ⟨W0, hW0⟩ : ∃ W0, w.alloc (.cells #[.int .i64 o, .int .i64 i, .string s, .slice a l.length cap] 24) = W0 := ⟨_, rfl⟩
  have b0 : Below w.heap.size w W0 := by rw [← hW0]; exact (Below.refl _ w).alloc (Nat.le_refl _) _
  have s0 : W0.heap.size = w.heap.size + 1 := by rw [← hW0]; simp
  have hx : W0.heap[w.heap.size]? = some (.cells #[.int .i64 o, .int .i64 i, .string s, .slice a l.length cap] 24 (0, 0)) := by rw [← hW0]; exact heap_alloc_new w _
  have HX : Hid (W0.heap[w.heap.size]? = some (.cells #[.int .i64 o, .int .i64 i, .string s, .slice a l.length cap] 24 (0, 0)) ∧ W0.heap.size = w.heap.size + 1 ∧ Below w.heap.size w W0) := ⟨hx, s0, b0⟩
  clear ih hx s0 b0
  by_cases h0 : left = 0
  · subst h0
    clear hL
    go_enter Tryd.func14, Tryd.ntmps14
    go_wp2_with fail
    go_ret
    exact ⟨⟨_, rfl⟩, HX.out.2.2⟩
  · have h0' : ((left : Int) == 0) = false := by simp; omega
    go_enter Tryd.func14, Tryd.ntmps14
    go_wp2_with fail
    clear hW0
    go_loopw [5] (fun i' wr => ∃ q : Nat, q ≤ l.length ∧ i' = .int .i64 q ∧ Below W0.heap.size W0 wr) (fun i' _ => l.length - (intOf i').toNat)
    case atStart => exact ⟨0, by omega, rfl, Below.refl _ _⟩
    case round =>
      obtain ⟨q, hq, rfl, hb⟩ := hrel
      have hbx := (hb.block w.heap.size (by have := HX.out.2.1; omega)).trans HX.out.1
      obtain ⟨y0, y1, y2, y3⟩ := four_box hbx
      have hbw : Below w.heap.size w wr := HX.out.2.2.trans (hb.mono (by have := HX.out.2.1; omega))
      have HB : Hid (Below W0.heap.size W0 wr ∧ Below w.heap.size w wr) := ⟨hb, hbw⟩
      clear hbx
      by_cases hlt : q < l.length
      · obtain ⟨g, o', u, rfl, -, hu, hin⟩ := elem_at hL hlt
        have hu := four_below hu hbw
        have c1 := H.out u l[q] (left - 1) wr (by omega) (hin.below hbw)
        obtain ⟨v0, v1, v2, v3, rfl, d0, d1, d2, d3⟩ := hu
        have en : ((left - 1 : Nat) : Int) = (left : Int) - 1 := by omega
        rw [en] at c1
        clear hb hbw hL hin en
        go_wp2_with fail
        refine c1.mono ?_
        rintro e W1 ⟨⟨b, rfl⟩, b1⟩
        have HB1 : Hid (Below W0.heap.size W0 W1) := HB.out.1.trans (b1.mono HB.out.1.size)
        clear c1 b1 y0 y1 y2 y3 d0 d1 d2 d3
        cases b with
        | true =>
          go_wp2_with fail
          go_roundw
          case rel => exact ⟨q + 1, by omega, by go_num, HB1.out⟩
          case measure => simp only [intOf]; omega
        | false =>
          go_wp2_with fail
          go_ret
          exact ⟨⟨_, rfl⟩, HX.out.2.2.trans (HB1.out.mono (by have := HX.out.2.1; omega))⟩
      · have d : decide ((q : Int) < (l.length : Int)) = false := by simp; omega
        clear hL hb hbw
        go_wp2_with fail
        go_ret
        exact ⟨⟨_, rfl⟩, HB.out.2⟩
theorem dp : ∀ m, Dp m
  | 0 => by intro v x left w _ h; rw [In] at h; exact h.elim
  | m + 1 => dp_of m (dp m)
set_option maxRecDepth 20000 in
theorem shallow_c {m : Nat} {v : Value} {x : Ex} {w : World} (h : In false All w m v x) :
    Calls Tryd.prog 8 #[v] w fun e w' => (∃ b, e = .returned (.bool b)) ∧ Below w.heap.size w w' := by
  obtain ⟨m', lv, rfl, rfl, ho, hi, hs, hL⟩ := h.shape
  obtain ⟨a, cap, rfl, -⟩ := hL
  obtain ⟨W0, hW0⟩ : ∃ W0, w.alloc (.cells #[.int .i64 x.o, .int .i64 x.i, .string x.s, .slice a x.l.length cap] 24) = W0 := ⟨_, rfl⟩
  have b0 : Below w.heap.size w W0 := by rw [← hW0]; exact (Below.refl _ w).alloc (Nat.le_refl _) _
  have c1 := dp (m' + 1) _ x 4096 W0 (by omega) (h.below b0)
  have hx : W0.heap[w.heap.size]? = some (.cells #[.int .i64 x.o, .int .i64 x.i, .string x.s, .slice a x.l.length cap] 24 (0, 0)) := by rw [← hW0]; exact heap_alloc_new w _
  obtain ⟨y0, y1, y2, y3⟩ := four_box hx
  have HB : Hid (Below w.heap.size w W0) := b0
  clear b0 h hx
  go_enter Tryd.func8, Tryd.ntmps8
  go_wp2_with fail
  refine c1.mono ?_
  rintro e W1 ⟨⟨b, rfl⟩, b1⟩
  have HB1 : Hid (Below w.heap.size w W1) := HB.out.trans (b1.mono HB.out.size)
  clear c1 b1
  go_wp2_with fail
  go_ret
  exact ⟨⟨_, rfl⟩, HB1.out⟩
end Go.Proofs.YtnoohlmlpijhaaaDoor.XSh

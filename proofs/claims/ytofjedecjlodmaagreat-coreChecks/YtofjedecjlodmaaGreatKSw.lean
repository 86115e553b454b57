/- How deep cores are nested: exprs, cores and ShallowCores answer yes or no (stencillaw0). -/
import Derived.Test.YtofjedecjlodmaaGreatXBase
import Derived.Test.YtofjedecjlodmaaGreatKBase
import Derived.Deep.RegionHeld3
namespace Go.Proofs.YtofjedecjlodmaaGreat.XSh
open Go.RowKit Go.Proofs.YtofjedecjlodmaaGreat.EPure Go.Proofs.YtofjedecjlodmaaGreat.XBase
open Go.Proofs.YtofjedecjlodmaaGreat.Base (All heap_alloc_new)
set_option linter.unusedVariables false

def Dp (m : Nat) : Prop := ∀ (v : Value) (x : Ex) (left : Nat) (w : World), left ≤ 4096 → In false All w m v x →
    Calls Tryz.prog 53 #[v, .int .i64 left] w fun e w' => (∃ b, e = .returned (.bool b)) ∧ Below w.heap.size w w'
set_option maxRecDepth 20000 in
set_option maxHeartbeats 1600000 in
theorem dp_of (m : Nat) (ih : Dp m) : Dp (m + 1) := by
  intro v x left w hleft h
  obtain ⟨o, i, s, l⟩ := x
  rw [in_iff] at h
  obtain ⟨lv, rfl, ho, hi, hs, a, cap, rfl, hl, hcap, hlen, ha, hL⟩ := h
  have H : Hid (Dp m) := ih
  obtain ⟨W0, hW0⟩ : ∃ W0, w.alloc (.cells #[.int .i64 o, .int .i64 i, .string s, .slice a l.length cap] 58) = W0 := ⟨_, rfl⟩
  have b0 : Below w.heap.size w W0 := by rw [← hW0]; exact (Below.refl _ w).alloc (Nat.le_refl _) _
  have s0 : W0.heap.size = w.heap.size + 1 := by rw [← hW0]; simp
  have hx : W0.heap[w.heap.size]? = some (.cells #[.int .i64 o, .int .i64 i, .string s, .slice a l.length cap] 58 (0, 0)) := by rw [← hW0]; exact heap_alloc_new w _
  have HX : Hid (W0.heap[w.heap.size]? = some (.cells #[.int .i64 o, .int .i64 i, .string s, .slice a l.length cap] 58 (0, 0)) ∧ W0.heap.size = w.heap.size + 1 ∧ Below w.heap.size w W0) := ⟨hx, s0, b0⟩
  clear ih hx s0 b0
  by_cases h0 : left = 0
  · subst h0
    clear hL
    go_enter Tryz.func53, Tryz.ntmps53
    go_wp2_with fail
    go_ret
    exact ⟨⟨_, rfl⟩, HX.out.2.2⟩
  · have h0' : ((left : Int) == 0) = false := by simp; omega
    go_enter Tryz.func53, Tryz.ntmps53
    go_wp2_with fail
    clear hW0
    go_loopw [5] (fun i' wr => ∃ q : Nat, q ≤ l.length ∧ i' = .int .i64 q ∧ Below W0.heap.size W0 wr) (fun i' _ => l.length - (intOf i').toNat)
    case atStart => exact ⟨0, by omega, rfl, Below.refl _ _⟩
    case round =>
      obtain ⟨q, hq, rfl, hb⟩ := hrel
      have hbx := (hb.block w.heap.size (by have := HX.out.2.1; omega)).trans HX.out.1
      obtain ⟨y0, y1, y2, y3⟩ := four_box hbx
      have hbw : Below w.heap.size w wr := HX.out.2.2.trans (hb.mono (by have := HX.out.2.1; omega))
      have HB : Hid (Below W0.heap.size W0 wr ∧ Below w.heap.size w wr) := ⟨hb, hbw⟩
      clear hbx
      by_cases hlt : q < l.length
      · obtain ⟨g, o', u, rfl, -, hu, hin⟩ := elem_at hL hlt
        have hu := four_below hu hbw
        have c1 := H.out u l[q] (left - 1) wr (by omega) (hin.below hbw)
        obtain ⟨v0, v1, v2, v3, rfl, d0, d1, d2, d3⟩ := hu
        have en : ((left - 1 : Nat) : Int) = (left : Int) - 1 := by omega
        rw [en] at c1
        clear hb hbw hL hin en
        go_wp2_with fail
        refine c1.mono ?_
        rintro e W1 ⟨⟨b, rfl⟩, b1⟩
        have HB1 : Hid (Below W0.heap.size W0 W1) := HB.out.1.trans (b1.mono HB.out.1.size)
        clear c1 b1 y0 y1 y2 y3 d0 d1 d2 d3
        cases b with
        | true =>
          go_wp2_with fail
          go_roundw
          case rel => exact ⟨q + 1, by omega, by go_num, HB1.out⟩
          case measure => simp only [intOf]; omega
        | false =>
          go_wp2_with fail
          go_ret
          exact ⟨⟨_, rfl⟩, HX.out.2.2.trans (HB1.out.mono (by have := HX.out.2.1; omega))⟩
      · have d : decide ((q : Int) < (l.length : Int)) = false := by simp; omega
        clear hL hb hbw
        go_wp2_with fail
        go_ret
        exact ⟨⟨_, rfl⟩, HB.out.2⟩
theorem dp : ∀ m, Dp m
  | 0 => by intro v x left w _ h; rw [In] at h; exact h.elim
  | m + 1 => dp_of m (dp m)
end Go.Proofs.YtofjedecjlodmaaGreat.XSh

namespace Go.Proofs.YtofjedecjlodmaaGreat.KSw
open Go.RowKit Go.Proofs.YtofjedecjlodmaaGreat.Base Go.Proofs.YtofjedecjlodmaaGreat.EPure Go.Proofs.YtofjedecjlodmaaGreat.KBase
set_option linter.unusedVariables false

set_option maxRecDepth 20000 in
set_option maxHeartbeats 3200000 in
theorem exprs_c {w : World} {fv pv xv : Value} {f : List Fld} {p : List Pt} {x : List Ex} (hF : RF false (fun _ => True) w fv f) (hP : RP false (fun _ => True) w pv p) (hX : RX false (fun _ => True) w xv x) :
    Calls Tryz.prog 33 #[fv, pv, xv] w fun e w' => (∃ b, e = .returned (.bool b)) ∧ Below w.heap.size w w' := by
  obtain ⟨a1, c1, rfl, hc1, hm1, hl1, -, hLF⟩ := hF
  obtain ⟨a2, c2, rfl, hc2, hm2, hl2, -, hLP⟩ := hP
  obtain ⟨mx, a3, c3, rfl, hc3, hm3, hl3, -, hLX⟩ := hX
  have HF : Hid (RwAt 8 Fd8 rmF false (fun _ => True) w (InF false (fun _ => True) w) a1 c1 f) := hLF
  have HP : Hid (RwAt 6 Pt6 rmP false (fun _ => True) w (InP false (fun _ => True) w) a2 c2 p) := hLP
  have HX : Hid (XBase.LAt false (fun _ => True) w mx a3 c3 x) := hLX
  clear hLF hLP hLX
  go_enter Tryz.func33, Tryz.ntmps33
  go_wp2_with fail
  go_loopw [7] (fun i wr => ∃ q : Nat, q ≤ f.length ∧ i = .int .i64 q ∧ Below w.heap.size w wr) (fun i _ => f.length - (intOf i).toNat)
  case atStart => exact ⟨0, by omega, rfl, Below.refl _ _⟩
  case round =>
    obtain ⟨q, hq, rfl, hb⟩ := hrel
    have HB : Hid (Below w.heap.size w wr) := hb
    by_cases hlt : q < f.length
    · have d0 : decide ((q : Int) < (f.length : Int)) = true := by simp; omega
      obtain ⟨g, o, u, ha, -, hu, hi⟩ := RwAt.elem HF.out hlt
      subst ha
      obtain ⟨v0, v1, v2, e0, e1, e2, e3, v7, rfl, -, -, -, k0, k1, k2, k3, -⟩ := hu
      obtain ⟨-, -, -, -, -, -, -, me, hie⟩ := hi.kinds
      have k0 := below_cell k0 hb
      have k1 := below_cell k1 hb
      have k2 := below_cell k2 hb
      have k3 := below_cell k3 hb
      have cE := XSh.dp _ _ _ 4096 wr (by omega) ((hie.weak (S' := All) (fun _ _ => trivial) false (fun h => h) _ (Nat.le_refl _)).below hb)
      clear hb
      go_wp2_with fail
      refine cE.mono ?_
      rintro e W1 ⟨⟨b, rfl⟩, b1⟩
      have HB1 : Hid (Below w.heap.size w W1) := nx HB.out b1
      clear cE b1 k0 k1 k2 k3 hie
      cases b with
      | true =>
        go_wp2_with fail
        go_roundw
        case rel => exact ⟨q + 1, by omega, by go_num, HB1.out⟩
        case measure => simp only [intOf]; omega
      | false =>
        go_wp2_with fail
        go_ret
        exact ⟨⟨_, rfl⟩, HB1.out⟩
    · have dn1 : decide ((q : Int) < (f.length : Int)) = false := by simp; omega
      have dm1 : decide (q < f.length) = false := by simp; omega
      clear hb
      go_wp2_with fail
      obtain ⟨Wa, hWa⟩ : ∃ Wa, Wa = wr := ⟨_, rfl⟩
      subst hWa
      go_loopw [8] (fun i wr => ∃ q : Nat, q ≤ p.length ∧ i = .int .i64 q ∧ Below w.heap.size w wr) (fun i _ => p.length - (intOf i).toNat)
      case atStart => exact ⟨0, by omega, rfl, HB.out⟩
      case round =>
        clear HB
        obtain ⟨q, hq, rfl, hb⟩ := hrel
        have HB : Hid (Below w.heap.size w wr) := hb
        by_cases hlt : q < p.length
        · have d0 : decide ((q : Int) < (p.length : Int)) = true := by simp; omega
          obtain ⟨g, o, u, ha, -, hu, hi⟩ := RwAt.elem HP.out hlt
          subst ha
          obtain ⟨v0, v1, e0, e1, e2, e3, rfl, -, -, k0, k1, k2, k3⟩ := hu
          obtain ⟨-, -, -, me, hie⟩ := hi.kinds
          have k0 := below_cell k0 hb
          have k1 := below_cell k1 hb
          have k2 := below_cell k2 hb
          have k3 := below_cell k3 hb
          have cE := XSh.dp _ _ _ 4096 wr (by omega) ((hie.weak (S' := All) (fun _ _ => trivial) false (fun h => h) _ (Nat.le_refl _)).below hb)
          clear hb
          go_wp2_with fail
          refine cE.mono ?_
          rintro e W1 ⟨⟨b, rfl⟩, b1⟩
          have HB1 : Hid (Below w.heap.size w W1) := nx HB.out b1
          clear cE b1 k0 k1 k2 k3 hie
          cases b with
          | true =>
            go_wp2_with fail
            go_roundw
            case rel => exact ⟨q + 1, by omega, by go_num, HB1.out⟩
            case measure => simp only [intOf]; omega
          | false =>
            go_wp2_with fail
            go_ret
            exact ⟨⟨_, rfl⟩, HB1.out⟩
        · have dn2 : decide ((q : Int) < (p.length : Int)) = false := by simp; omega
          have dm2 : decide (q < p.length) = false := by simp; omega
          clear hb
          go_wp2_with fail
          obtain ⟨Wa, hWa⟩ : ∃ Wa, Wa = wr := ⟨_, rfl⟩
          subst hWa
          go_loopw [9] (fun i wr => ∃ q : Nat, q ≤ x.length ∧ i = .int .i64 q ∧ Below w.heap.size w wr) (fun i _ => x.length - (intOf i).toNat)
          case atStart => exact ⟨0, by omega, rfl, HB.out⟩
          case round =>
            clear HB
            obtain ⟨q, hq, rfl, hb⟩ := hrel
            have HB : Hid (Below w.heap.size w wr) := hb
            by_cases hlt : q < x.length
            · have d0 : decide ((q : Int) < (x.length : Int)) = true := by simp; omega
              obtain ⟨g, o, u, ha, -, hu, hie⟩ := XBase.elem_at HX.out hlt
              subst ha
              obtain ⟨e0, e1, e2, e3, rfl, k0, k1, k2, k3⟩ := hu
              have k0 := below_cell k0 hb
              have k1 := below_cell k1 hb
              have k2 := below_cell k2 hb
              have k3 := below_cell k3 hb
              have cE := XSh.dp _ _ _ 4096 wr (by omega) ((hie.weak (S' := All) (fun _ _ => trivial) false (fun h => h) _ (Nat.le_refl _)).below hb)
              clear hb
              go_wp2_with fail
              refine cE.mono ?_
              rintro e W1 ⟨⟨b, rfl⟩, b1⟩
              have HB1 : Hid (Below w.heap.size w W1) := nx HB.out b1
              clear cE b1 k0 k1 k2 k3 hie
              cases b with
              | true =>
                go_wp2_with fail
                go_roundw
                case rel => exact ⟨q + 1, by omega, by go_num, HB1.out⟩
                case measure => simp only [intOf]; omega
              | false =>
                go_wp2_with fail
                go_ret
                exact ⟨⟨_, rfl⟩, HB1.out⟩
            · have dn3 : decide ((q : Int) < (x.length : Int)) = false := by simp; omega
              have dm3 : decide (q < x.length) = false := by simp; omega
              clear hb
              go_wp2_with fail
              go_ret
              exact ⟨⟨_, rfl⟩, HB.out⟩
end Go.Proofs.YtofjedecjlodmaaGreat.KSw

/- Operations by themselves (package verify): fits. -/
import Derived.Test.YtgknjjaemjkloaaBFz
namespace Go.Proofs.Ytgknjjaemjkloaa.BFe
open Go.RowKit Go.Proofs.Ytgknjjaemjkloaa.BPl Go.Proofs.Ytgknjjaemjkloaa.YRr Go.Proofs.Ytgknjjaemjkloaa.YRs Go.Proofs.Ytgknjjaemjkloaa.BBx Go.Proofs.Ytgknjjaemjkloaa.BIx Go.Proofs.Ytgknjjaemjkloaa.BSm Go.Proofs.Ytgknjjaemjkloaa.BOp Go.Proofs.Ytgknjjaemjkloaa.BSn Go.Proofs.Ytgknjjaemjkloaa.BSt Go.Proofs.Ytgknjjaemjkloaa.BFz
open Go.Proofs.Ytgknjjaemjkloaa.YPl (Oq Bk Pg)
open Go.Proofs.Ytgknjjaemjkloaa.TBase (T Keep)
open Go.Proofs.Ytgknjjaemjkloaa.CBx (w64)
set_option linter.unusedVariables false

set_option maxRecDepth 20000 in
set_option maxHeartbeats 3200000 in
theorem f4 {R : Nat → Prop} {w : World} {B P : Nat} {S : Sh} {hv : Value} {A : Ar} {nb : Nat} {ov : Value} {lt : Int} {uv : Value} {cl : Int} (h : Pw R w P S hv) (hR : ∀ g, R g → g < w.heap.size) (hB : Bw w B P A nb ov lt uv cl) (o : Oq) {lv : Value} (hl : RrS 1 LyI R w lv o.l) (hk : o.k = 4) :
    Calls Try.prog 101 #[.pointer (some ⟨B, 0, none⟩), opv o lv] w fun e w' => e = .returned (.bool (fits S o)) ∧ Below w.heap.size w w' := by
  have HL : Hid (RrS 1 LyI R w lv o.l) := hl
  obtain ⟨a, cap, rfl, -⟩ := hl
  obtain ⟨W, hW, hb, hs, hx⟩ := box5 w (.int .i64 o.k) (.int .i64 o.a) (.int .i64 o.b) (.int .i64 o.c) (.slice a o.l.length cap) 46
  have HB : Hid (Below w.heap.size w W) := hb
  have c0 := cell_of hx 0 _ rfl
  have c1 := cell_of hx 1 _ rfl
  have c2 := cell_of hx 2 _ rfl
  have c3 := cell_of hx 3 _ rfl
  have c4 := cell_of hx 4 _ rfl
  have f1 := frozen_of hx 1
  have f2 := frozen_of hx 2
  have f3 := frozen_of hx 3
  have f4 := frozen_of hx 4
  have b0 := cell_of (hB.keep hb) 0 _ rfl
  have cG := fun W' (hb' : Below w.heap.size w W') (m : Nat) => isTag_c ((h.keep (fun b hr hl => hb'.block b hl)).drewN m) o.a
  have cV := isValue_c (h.keep (fun b hr hl => hb.block b hl)) (hB.keep hb) o a cap
  unfold fits
  rw [if_neg (by omega)]
  rw [if_pos (.inl hk)]
  have HX : Hid (W.heap[w.heap.size]? = some (.cells #[.int .i64 o.k, .int .i64 o.a, .int .i64 o.b, .int .i64 o.c, .slice a o.l.length cap] 46 (0, 0))) := hx
  have HW : Hid (Bw W B P A nb ov lt uv cl) := hB.keep hb
  clear hx hB h hR hb HL
  obtain ⟨k, x, y, z, l⟩ := o
  dsimp only at *
  unfold zr
  generalize isV S ⟨k, x, y, z, l⟩ = u at *
  generalize isTg S x = t at *
  subst hk
  cases hu : u
  case false =>
    go_enter Try.func101, Try.ntmps101
    go_wp2_with fail
    refine cV.mono ?_
    rintro e W1 ⟨rfl, b1⟩
    have HB1 : Hid (Below w.heap.size w W1) := HB.out.trans (b1.mono HB.out.size)
    have hx1 := (b1.block w.heap.size (by omega)).trans HX.out
    have k1 := cell_of hx1 1 _ rfl
    have k2 := cell_of hx1 2 _ rfl
    have k3 := cell_of hx1 3 _ rfl
    have k4 := cell_of hx1 4 _ rfl
    have g1 := frozen_of hx1 1
    have g2 := frozen_of hx1 2
    have g3 := frozen_of hx1 3
    have g4 := frozen_of hx1 4
    have kb := cell_of (HW.out.keep b1) 0 _ rfl
    clear hx1 b1 cV c0 c1 c2 c3 c4 f1 f2 f3 f4 b0
    go_wp2_with fail
    go_quiet (first | (go_at_call 134; exact Calls.quiet_of_same (cG _ (by first | exact HB.out | exact HB1.out | ((repeat (first | exact HB1.out | exact HB.out | apply IBase.below_drewN | refine Below.setCell ?_ (by exact Nat.le_refl _) _)); done)) _)))
    go_wp2_with fail
    go_ret
    refine ⟨rfl, ?_⟩
    repeat first | exact HB1.out | exact HB.out | apply IBase.below_drewN | refine Below.setCell ?_ (by exact Nat.le_refl _) _
  cases ht : t
  case false =>
    go_enter Try.func101, Try.ntmps101
    go_wp2_with fail
    refine cV.mono ?_
    rintro e W1 ⟨rfl, b1⟩
    have HB1 : Hid (Below w.heap.size w W1) := HB.out.trans (b1.mono HB.out.size)
    have hx1 := (b1.block w.heap.size (by omega)).trans HX.out
    have k1 := cell_of hx1 1 _ rfl
    have k2 := cell_of hx1 2 _ rfl
    have k3 := cell_of hx1 3 _ rfl
    have k4 := cell_of hx1 4 _ rfl
    have g1 := frozen_of hx1 1
    have g2 := frozen_of hx1 2
    have g3 := frozen_of hx1 3
    have g4 := frozen_of hx1 4
    have kb := cell_of (HW.out.keep b1) 0 _ rfl
    clear hx1 b1 cV c0 c1 c2 c3 c4 f1 f2 f3 f4 b0
    go_wp2_with fail
    go_quiet (first | (go_at_call 134; exact Calls.quiet_of_same (cG _ (by first | exact HB.out | exact HB1.out | ((repeat (first | exact HB1.out | exact HB.out | apply IBase.below_drewN | refine Below.setCell ?_ (by exact Nat.le_refl _) _)); done)) _)))
    go_wp2_with fail
    go_ret
    refine ⟨rfl, ?_⟩
    repeat first | exact HB1.out | exact HB.out | apply IBase.below_drewN | refine Below.setCell ?_ (by exact Nat.le_refl _) _
  cases hz0 : (z == 0)
  case false =>
    go_enter Try.func101, Try.ntmps101
    go_wp2_with fail
    refine cV.mono ?_
    rintro e W1 ⟨rfl, b1⟩
    have HB1 : Hid (Below w.heap.size w W1) := HB.out.trans (b1.mono HB.out.size)
    have hx1 := (b1.block w.heap.size (by omega)).trans HX.out
    have k1 := cell_of hx1 1 _ rfl
    have k2 := cell_of hx1 2 _ rfl
    have k3 := cell_of hx1 3 _ rfl
    have k4 := cell_of hx1 4 _ rfl
    have g1 := frozen_of hx1 1
    have g2 := frozen_of hx1 2
    have g3 := frozen_of hx1 3
    have g4 := frozen_of hx1 4
    have kb := cell_of (HW.out.keep b1) 0 _ rfl
    clear hx1 b1 cV c0 c1 c2 c3 c4 f1 f2 f3 f4 b0
    go_wp2_with fail
    go_quiet (first | (go_at_call 134; exact Calls.quiet_of_same (cG _ (by first | exact HB.out | exact HB1.out | ((repeat (first | exact HB1.out | exact HB.out | apply IBase.below_drewN | refine Below.setCell ?_ (by exact Nat.le_refl _) _)); done)) _)))
    go_wp2_with fail
    go_ret
    refine ⟨rfl, ?_⟩
    repeat first | exact HB1.out | exact HB.out | apply IBase.below_drewN | refine Below.setCell ?_ (by exact Nat.le_refl _) _
  cases hl0 : ((l.length : Int) == 0)
  case false =>
    go_enter Try.func101, Try.ntmps101
    go_wp2_with fail
    refine cV.mono ?_
    rintro e W1 ⟨rfl, b1⟩
    have HB1 : Hid (Below w.heap.size w W1) := HB.out.trans (b1.mono HB.out.size)
    have hx1 := (b1.block w.heap.size (by omega)).trans HX.out
    have k1 := cell_of hx1 1 _ rfl
    have k2 := cell_of hx1 2 _ rfl
    have k3 := cell_of hx1 3 _ rfl
    have k4 := cell_of hx1 4 _ rfl
    have g1 := frozen_of hx1 1
    have g2 := frozen_of hx1 2
    have g3 := frozen_of hx1 3
    have g4 := frozen_of hx1 4
    have kb := cell_of (HW.out.keep b1) 0 _ rfl
    clear hx1 b1 cV c0 c1 c2 c3 c4 f1 f2 f3 f4 b0
    go_wp2_with fail
    go_quiet (first | (go_at_call 134; exact Calls.quiet_of_same (cG _ (by first | exact HB.out | exact HB1.out | ((repeat (first | exact HB1.out | exact HB.out | apply IBase.below_drewN | refine Below.setCell ?_ (by exact Nat.le_refl _) _)); done)) _)))
    go_wp2_with fail
    go_ret
    refine ⟨rfl, ?_⟩
    repeat first | exact HB1.out | exact HB.out | apply IBase.below_drewN | refine Below.setCell ?_ (by exact Nat.le_refl _) _
  go_enter Try.func101, Try.ntmps101
  go_wp2_with fail
  refine cV.mono ?_
  rintro e W1 ⟨rfl, b1⟩
  have HB1 : Hid (Below w.heap.size w W1) := HB.out.trans (b1.mono HB.out.size)
  have hx1 := (b1.block w.heap.size (by omega)).trans HX.out
  have k1 := cell_of hx1 1 _ rfl
  have k2 := cell_of hx1 2 _ rfl
  have k3 := cell_of hx1 3 _ rfl
  have k4 := cell_of hx1 4 _ rfl
  have g1 := frozen_of hx1 1
  have g2 := frozen_of hx1 2
  have g3 := frozen_of hx1 3
  have g4 := frozen_of hx1 4
  have kb := cell_of (HW.out.keep b1) 0 _ rfl
  clear hx1 b1 cV c0 c1 c2 c3 c4 f1 f2 f3 f4 b0
  go_wp2_with fail
  go_quiet (first | (go_at_call 134; exact Calls.quiet_of_same (cG _ (by first | exact HB.out | exact HB1.out | ((repeat (first | exact HB1.out | exact HB.out | apply IBase.below_drewN | refine Below.setCell ?_ (by exact Nat.le_refl _) _)); done)) _)))
  go_wp2_with fail
  go_ret
  refine ⟨rfl, ?_⟩
  repeat first | exact HB1.out | exact HB.out | apply IBase.below_drewN | refine Below.setCell ?_ (by exact Nat.le_refl _) _
set_option maxRecDepth 20000 in
set_option maxHeartbeats 3200000 in
theorem f5 {R : Nat → Prop} {w : World} {B P : Nat} {S : Sh} {hv : Value} {A : Ar} {nb : Nat} {ov : Value} {lt : Int} {uv : Value} {cl : Int} (h : Pw R w P S hv) (hR : ∀ g, R g → g < w.heap.size) (hB : Bw w B P A nb ov lt uv cl) (o : Oq) {lv : Value} (hl : RrS 1 LyI R w lv o.l) (hk : o.k = 5) :
    Calls Try.prog 101 #[.pointer (some ⟨B, 0, none⟩), opv o lv] w fun e w' => e = .returned (.bool (fits S o)) ∧ Below w.heap.size w w' := by
  have HL : Hid (RrS 1 LyI R w lv o.l) := hl
  obtain ⟨a, cap, rfl, -⟩ := hl
  obtain ⟨W, hW, hb, hs, hx⟩ := box5 w (.int .i64 o.k) (.int .i64 o.a) (.int .i64 o.b) (.int .i64 o.c) (.slice a o.l.length cap) 46
  have HB : Hid (Below w.heap.size w W) := hb
  have c0 := cell_of hx 0 _ rfl
  have c1 := cell_of hx 1 _ rfl
  have c2 := cell_of hx 2 _ rfl
  have c3 := cell_of hx 3 _ rfl
  have c4 := cell_of hx 4 _ rfl
  have f1 := frozen_of hx 1
  have f2 := frozen_of hx 2
  have f3 := frozen_of hx 3
  have f4 := frozen_of hx 4
  have b0 := cell_of (hB.keep hb) 0 _ rfl
  have cG := fun W' (hb' : Below w.heap.size w W') (m : Nat) => isTag_c ((h.keep (fun b hr hl => hb'.block b hl)).drewN m) o.a
  have cV := isValue_c (h.keep (fun b hr hl => hb.block b hl)) (hB.keep hb) o a cap
  unfold fits
  rw [if_neg (by omega)]
  rw [if_pos (.inr hk)]
  have HX : Hid (W.heap[w.heap.size]? = some (.cells #[.int .i64 o.k, .int .i64 o.a, .int .i64 o.b, .int .i64 o.c, .slice a o.l.length cap] 46 (0, 0))) := hx
  have HW : Hid (Bw W B P A nb ov lt uv cl) := hB.keep hb
  clear hx hB h hR hb HL
  obtain ⟨k, x, y, z, l⟩ := o
  dsimp only at *
  unfold zr
  generalize isV S ⟨k, x, y, z, l⟩ = u at *
  generalize isTg S x = t at *
  subst hk
  cases hu : u
  case false =>
    go_enter Try.func101, Try.ntmps101
    go_wp2_with fail
    refine cV.mono ?_
    rintro e W1 ⟨rfl, b1⟩
    have HB1 : Hid (Below w.heap.size w W1) := HB.out.trans (b1.mono HB.out.size)
    have hx1 := (b1.block w.heap.size (by omega)).trans HX.out
    have k1 := cell_of hx1 1 _ rfl
    have k2 := cell_of hx1 2 _ rfl
    have k3 := cell_of hx1 3 _ rfl
    have k4 := cell_of hx1 4 _ rfl
    have g1 := frozen_of hx1 1
    have g2 := frozen_of hx1 2
    have g3 := frozen_of hx1 3
    have g4 := frozen_of hx1 4
    have kb := cell_of (HW.out.keep b1) 0 _ rfl
    clear hx1 b1 cV c0 c1 c2 c3 c4 f1 f2 f3 f4 b0
    go_wp2_with fail
    go_quiet (first | (go_at_call 134; exact Calls.quiet_of_same (cG _ (by first | exact HB.out | exact HB1.out | ((repeat (first | exact HB1.out | exact HB.out | apply IBase.below_drewN | refine Below.setCell ?_ (by exact Nat.le_refl _) _)); done)) _)))
    go_wp2_with fail
    go_ret
    refine ⟨rfl, ?_⟩
    repeat first | exact HB1.out | exact HB.out | apply IBase.below_drewN | refine Below.setCell ?_ (by exact Nat.le_refl _) _
  cases ht : t
  case false =>
    go_enter Try.func101, Try.ntmps101
    go_wp2_with fail
    refine cV.mono ?_
    rintro e W1 ⟨rfl, b1⟩
    have HB1 : Hid (Below w.heap.size w W1) := HB.out.trans (b1.mono HB.out.size)
    have hx1 := (b1.block w.heap.size (by omega)).trans HX.out
    have k1 := cell_of hx1 1 _ rfl
    have k2 := cell_of hx1 2 _ rfl
    have k3 := cell_of hx1 3 _ rfl
    have k4 := cell_of hx1 4 _ rfl
    have g1 := frozen_of hx1 1
    have g2 := frozen_of hx1 2
    have g3 := frozen_of hx1 3
    have g4 := frozen_of hx1 4
    have kb := cell_of (HW.out.keep b1) 0 _ rfl
    clear hx1 b1 cV c0 c1 c2 c3 c4 f1 f2 f3 f4 b0
    go_wp2_with fail
    go_quiet (first | (go_at_call 134; exact Calls.quiet_of_same (cG _ (by first | exact HB.out | exact HB1.out | ((repeat (first | exact HB1.out | exact HB.out | apply IBase.below_drewN | refine Below.setCell ?_ (by exact Nat.le_refl _) _)); done)) _)))
    go_wp2_with fail
    go_ret
    refine ⟨rfl, ?_⟩
    repeat first | exact HB1.out | exact HB.out | apply IBase.below_drewN | refine Below.setCell ?_ (by exact Nat.le_refl _) _
  cases hz0 : (z == 0)
  case false =>
    go_enter Try.func101, Try.ntmps101
    go_wp2_with fail
    refine cV.mono ?_
    rintro e W1 ⟨rfl, b1⟩
    have HB1 : Hid (Below w.heap.size w W1) := HB.out.trans (b1.mono HB.out.size)
    have hx1 := (b1.block w.heap.size (by omega)).trans HX.out
    have k1 := cell_of hx1 1 _ rfl
    have k2 := cell_of hx1 2 _ rfl
    have k3 := cell_of hx1 3 _ rfl
    have k4 := cell_of hx1 4 _ rfl
    have g1 := frozen_of hx1 1
    have g2 := frozen_of hx1 2
    have g3 := frozen_of hx1 3
    have g4 := frozen_of hx1 4
    have kb := cell_of (HW.out.keep b1) 0 _ rfl
    clear hx1 b1 cV c0 c1 c2 c3 c4 f1 f2 f3 f4 b0
    go_wp2_with fail
    go_quiet (first | (go_at_call 134; exact Calls.quiet_of_same (cG _ (by first | exact HB.out | exact HB1.out | ((repeat (first | exact HB1.out | exact HB.out | apply IBase.below_drewN | refine Below.setCell ?_ (by exact Nat.le_refl _) _)); done)) _)))
    go_wp2_with fail
    go_ret
    refine ⟨rfl, ?_⟩
    repeat first | exact HB1.out | exact HB.out | apply IBase.below_drewN | refine Below.setCell ?_ (by exact Nat.le_refl _) _
  cases hl0 : ((l.length : Int) == 0)
  case false =>
    go_enter Try.func101, Try.ntmps101
    go_wp2_with fail
    refine cV.mono ?_
    rintro e W1 ⟨rfl, b1⟩
    have HB1 : Hid (Below w.heap.size w W1) := HB.out.trans (b1.mono HB.out.size)
    have hx1 := (b1.block w.heap.size (by omega)).trans HX.out
    have k1 := cell_of hx1 1 _ rfl
    have k2 := cell_of hx1 2 _ rfl
    have k3 := cell_of hx1 3 _ rfl
    have k4 := cell_of hx1 4 _ rfl
    have g1 := frozen_of hx1 1
    have g2 := frozen_of hx1 2
    have g3 := frozen_of hx1 3
    have g4 := frozen_of hx1 4
    have kb := cell_of (HW.out.keep b1) 0 _ rfl
    clear hx1 b1 cV c0 c1 c2 c3 c4 f1 f2 f3 f4 b0
    go_wp2_with fail
    go_quiet (first | (go_at_call 134; exact Calls.quiet_of_same (cG _ (by first | exact HB.out | exact HB1.out | ((repeat (first | exact HB1.out | exact HB.out | apply IBase.below_drewN | refine Below.setCell ?_ (by exact Nat.le_refl _) _)); done)) _)))
    go_wp2_with fail
    go_ret
    refine ⟨rfl, ?_⟩
    repeat first | exact HB1.out | exact HB.out | apply IBase.below_drewN | refine Below.setCell ?_ (by exact Nat.le_refl _) _
  go_enter Try.func101, Try.ntmps101
  go_wp2_with fail
  refine cV.mono ?_
  rintro e W1 ⟨rfl, b1⟩
  have HB1 : Hid (Below w.heap.size w W1) := HB.out.trans (b1.mono HB.out.size)
  have hx1 := (b1.block w.heap.size (by omega)).trans HX.out
  have k1 := cell_of hx1 1 _ rfl
  have k2 := cell_of hx1 2 _ rfl
  have k3 := cell_of hx1 3 _ rfl
  have k4 := cell_of hx1 4 _ rfl
  have g1 := frozen_of hx1 1
  have g2 := frozen_of hx1 2
  have g3 := frozen_of hx1 3
  have g4 := frozen_of hx1 4
  have kb := cell_of (HW.out.keep b1) 0 _ rfl
  clear hx1 b1 cV c0 c1 c2 c3 c4 f1 f2 f3 f4 b0
  go_wp2_with fail
  go_quiet (first | (go_at_call 134; exact Calls.quiet_of_same (cG _ (by first | exact HB.out | exact HB1.out | ((repeat (first | exact HB1.out | exact HB.out | apply IBase.below_drewN | refine Below.setCell ?_ (by exact Nat.le_refl _) _)); done)) _)))
  go_wp2_with fail
  go_ret
  refine ⟨rfl, ?_⟩
  repeat first | exact HB1.out | exact HB.out | apply IBase.below_drewN | refine Below.setCell ?_ (by exact Nat.le_refl _) _
end Go.Proofs.Ytgknjjaemjkloaa.BFe

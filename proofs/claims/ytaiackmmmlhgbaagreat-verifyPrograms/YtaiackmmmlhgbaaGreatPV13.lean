import Derived.Test.YtaiackmmmlhgbaaGreatPV11
import Derived.Test.YtaiackmmmlhgbaaGreatPV12
open Go.Proofs.Tryz
set_option linter.unusedVariables false
set_option maxRecDepth 20000
set_option maxHeartbeats 3200000
namespace Go.Proofs.YtaiackmmmlhgbaaGreat.BFe
open Go.RowKit BPl YRr YRs BBx BSm BFz
open YPl (Oq Bk Pg)
open TBase (T Keep)
open CBx (w64)
theorem f4 {R : Nat -> Prop} {w : World} {B P : Nat} {S : Sh} {hv : Value} {A : Ar} {nb : Nat} {ov : Value} {lt : Int} {uv : Value} {cl : Int} (h : Pw R w P S hv) (hR : ∀ g, R g -> g < w.heap.size) (hB : Bw w B P A nb ov lt uv cl) (o : Oq) {lv : Value} (hl : RrS 1 LyI R w lv o.l) (hk : o.k = 4) :
  Calls prog 141 #[.pointer (some ⟨B, 0, none⟩), opv o lv] w fun e w' => e = .returned (.bool (fits S o)) /\ Below w.heap.size w w' := by
 have HL : Hid (RrS 1 LyI R w lv o.l) := hl
 obtain ⟨a, cap, rfl, -⟩ := hl
 obtain ⟨W, hW, hb, hs, hx⟩ := box5 w (.int .i64 o.k) (.int .i64 o.a) (.int .i64 o.b) (.int .i64 o.c) (.slice a o.l.length cap) 127
 have HB : Hid (Below w.heap.size w W) := hb
 have c0 := cell_of hx 0 _ rfl
 have c1 := cell_of hx 1 _ rfl
 have c2 := cell_of hx 2 _ rfl
 have c3 := cell_of hx 3 _ rfl
 have c4 := cell_of hx 4 _ rfl
 have f1 := frozen_of hx 1
 have f2 := frozen_of hx 2
 have f3 := frozen_of hx 3
 have f4 := frozen_of hx 4
 have b0 := cell_of (hB.keep hb) 0 _ rfl
 have cG := fun W' (hb' : Below w.heap.size w W') (m : Nat) => isTag_c ((h.keep (fun b hr hl => hb'.block b hl)).drewN m) o.a
 have cV := isValue_c (h.keep (fun b hr hl => hb.block b hl)) (hB.keep hb) o a cap
 unfold fits
 rw [if_neg (by omega)]
 rw [if_pos (.inl hk)]
 have HX : Hid (W.heap[w.heap.size]? = some (.cells #[.int .i64 o.k, .int .i64 o.a, .int .i64 o.b, .int .i64 o.c, .slice a o.l.length cap] 127 (0, 0))) := hx
 have HW : Hid (Bw W B P A nb ov lt uv cl) := hB.keep hb
 clear hx hB h hR hb HL
 obtain ⟨k, x, y, z, l⟩ := o
 dsimp only at *
 unfold zr
 generalize isV S ⟨k, x, y, z, l⟩ = u at *
 generalize isTg S x = t at *
 subst hk
 cases hu : u
 case false =>
  go_enter func141, ntmps141
  go_wp2_with fail
  refine cV.mono ?_
  rintro e W1 ⟨rfl, b1⟩
  have HB1 : Hid (Below w.heap.size w W1) := HB.out.trans (b1.mono HB.out.size)
  have hx1 := (b1.block w.heap.size (by omega)).trans HX.out
  have k1 := cell_of hx1 1 _ rfl
  have k2 := cell_of hx1 2 _ rfl
  have k3 := cell_of hx1 3 _ rfl
  have k4 := cell_of hx1 4 _ rfl
  have g1 := frozen_of hx1 1
  have g2 := frozen_of hx1 2
  have g3 := frozen_of hx1 3
  have g4 := frozen_of hx1 4
  have kb := cell_of (HW.out.keep b1) 0 _ rfl
  clear hx1 b1 cV c0 c1 c2 c3 c4 f1 f2 f3 f4 b0
  go_wp2_with fail
  go_quiet (first | (go_at_call 189; exact Calls.quiet_of_same (cG _ (by first | exact HB.out | exact HB1.out | ((repeat (first | exact HB1.out | exact HB.out | apply IBase.below_drewN | refine Below.setCell ?_ (by exact Nat.le_refl _) _)); done)) _)))
  go_wp2_with fail
  go_ret
  refine ⟨rfl, ?_⟩
  repeat first | exact HB1.out | exact HB.out | apply IBase.below_drewN | refine Below.setCell ?_ (by exact Nat.le_refl _) _
 cases ht : t
 case false =>
  go_enter func141, ntmps141
  go_wp2_with fail
  refine cV.mono ?_
  rintro e W1 ⟨rfl, b1⟩
  have HB1 : Hid (Below w.heap.size w W1) := HB.out.trans (b1.mono HB.out.size)
  have hx1 := (b1.block w.heap.size (by omega)).trans HX.out
  have k1 := cell_of hx1 1 _ rfl
  have k2 := cell_of hx1 2 _ rfl
  have k3 := cell_of hx1 3 _ rfl
  have k4 := cell_of hx1 4 _ rfl
  have g1 := frozen_of hx1 1
  have g2 := frozen_of hx1 2
  have g3 := frozen_of hx1 3
  have g4 := frozen_of hx1 4
  have kb := cell_of (HW.out.keep b1) 0 _ rfl
  clear hx1 b1 cV c0 c1 c2 c3 c4 f1 f2 f3 f4 b0
  go_wp2_with fail
  go_quiet (first | (go_at_call 189; exact Calls.quiet_of_same (cG _ (by first | exact HB.out | exact HB1.out | ((repeat (first | exact HB1.out | exact HB.out | apply IBase.below_drewN | refine Below.setCell ?_ (by exact Nat.le_refl _) _)); done)) _)))
  go_wp2_with fail
  go_ret
  refine ⟨rfl, ?_⟩
  repeat first | exact HB1.out | exact HB.out | apply IBase.below_drewN | refine Below.setCell ?_ (by exact Nat.le_refl _) _
 cases hz0 : (z == 0)
 case false =>
  go_enter func141, ntmps141
  go_wp2_with fail
  refine cV.mono ?_
  rintro e W1 ⟨rfl, b1⟩
  have HB1 : Hid (Below w.heap.size w W1) := HB.out.trans (b1.mono HB.out.size)
  have hx1 := (b1.block w.heap.size (by omega)).trans HX.out
  have k1 := cell_of hx1 1 _ rfl
  have k2 := cell_of hx1 2 _ rfl
  have k3 := cell_of hx1 3 _ rfl
  have k4 := cell_of hx1 4 _ rfl
  have g1 := frozen_of hx1 1
  have g2 := frozen_of hx1 2
  have g3 := frozen_of hx1 3
  have g4 := frozen_of hx1 4
  have kb := cell_of (HW.out.keep b1) 0 _ rfl
  clear hx1 b1 cV c0 c1 c2 c3 c4 f1 f2 f3 f4 b0
  go_wp2_with fail
  go_quiet (first | (go_at_call 189; exact Calls.quiet_of_same (cG _ (by first | exact HB.out | exact HB1.out | ((repeat (first | exact HB1.out | exact HB.out | apply IBase.below_drewN | refine Below.setCell ?_ (by exact Nat.le_refl _) _)); done)) _)))
  go_wp2_with fail
  go_ret
  refine ⟨rfl, ?_⟩
  repeat first | exact HB1.out | exact HB.out | apply IBase.below_drewN | refine Below.setCell ?_ (by exact Nat.le_refl _) _
 cases hl0 : ((l.length : Int) == 0)
 case false =>
  go_enter func141, ntmps141
  go_wp2_with fail
  refine cV.mono ?_
  rintro e W1 ⟨rfl, b1⟩
  have HB1 : Hid (Below w.heap.size w W1) := HB.out.trans (b1.mono HB.out.size)
  have hx1 := (b1.block w.heap.size (by omega)).trans HX.out
  have k1 := cell_of hx1 1 _ rfl
  have k2 := cell_of hx1 2 _ rfl
  have k3 := cell_of hx1 3 _ rfl
  have k4 := cell_of hx1 4 _ rfl
  have g1 := frozen_of hx1 1
  have g2 := frozen_of hx1 2
  have g3 := frozen_of hx1 3
  have g4 := frozen_of hx1 4
  have kb := cell_of (HW.out.keep b1) 0 _ rfl
  clear hx1 b1 cV c0 c1 c2 c3 c4 f1 f2 f3 f4 b0
  go_wp2_with fail
  go_quiet (first | (go_at_call 189; exact Calls.quiet_of_same (cG _ (by first | exact HB.out | exact HB1.out | ((repeat (first | exact HB1.out | exact HB.out | apply IBase.below_drewN | refine Below.setCell ?_ (by exact Nat.le_refl _) _)); done)) _)))
  go_wp2_with fail
  go_ret
  refine ⟨rfl, ?_⟩
  repeat first | exact HB1.out | exact HB.out | apply IBase.below_drewN | refine Below.setCell ?_ (by exact Nat.le_refl _) _
 go_enter func141, ntmps141
 go_wp2_with fail
 refine cV.mono ?_
 rintro e W1 ⟨rfl, b1⟩
 have HB1 : Hid (Below w.heap.size w W1) := HB.out.trans (b1.mono HB.out.size)
 have hx1 := (b1.block w.heap.size (by omega)).trans HX.out
 have k1 := cell_of hx1 1 _ rfl
 have k2 := cell_of hx1 2 _ rfl
 have k3 := cell_of hx1 3 _ rfl
 have k4 := cell_of hx1 4 _ rfl
 have g1 := frozen_of hx1 1
 have g2 := frozen_of hx1 2
 have g3 := frozen_of hx1 3
 have g4 := frozen_of hx1 4
 have kb := cell_of (HW.out.keep b1) 0 _ rfl
 clear hx1 b1 cV c0 c1 c2 c3 c4 f1 f2 f3 f4 b0
 go_wp2_with fail
 go_quiet (first | (go_at_call 189; exact Calls.quiet_of_same (cG _ (by first | exact HB.out | exact HB1.out | ((repeat (first | exact HB1.out | exact HB.out | apply IBase.below_drewN | refine Below.setCell ?_ (by exact Nat.le_refl _) _)); done)) _)))
 go_wp2_with fail
 go_ret
 refine ⟨rfl, ?_⟩
 repeat first | exact HB1.out | exact HB.out | apply IBase.below_drewN | refine Below.setCell ?_ (by exact Nat.le_refl _) _
theorem f5 {R : Nat -> Prop} {w : World} {B P : Nat} {S : Sh} {hv : Value} {A : Ar} {nb : Nat} {ov : Value} {lt : Int} {uv : Value} {cl : Int} (h : Pw R w P S hv) (hR : ∀ g, R g -> g < w.heap.size) (hB : Bw w B P A nb ov lt uv cl) (o : Oq) {lv : Value} (hl : RrS 1 LyI R w lv o.l) (hk : o.k = 5) :
  Calls prog 141 #[.pointer (some ⟨B, 0, none⟩), opv o lv] w fun e w' => e = .returned (.bool (fits S o)) /\ Below w.heap.size w w' := by
 have HL : Hid (RrS 1 LyI R w lv o.l) := hl
 obtain ⟨a, cap, rfl, -⟩ := hl
 obtain ⟨W, hW, hb, hs, hx⟩ := box5 w (.int .i64 o.k) (.int .i64 o.a) (.int .i64 o.b) (.int .i64 o.c) (.slice a o.l.length cap) 127
 have HB : Hid (Below w.heap.size w W) := hb
 have c0 := cell_of hx 0 _ rfl
 have c1 := cell_of hx 1 _ rfl
 have c2 := cell_of hx 2 _ rfl
 have c3 := cell_of hx 3 _ rfl
 have c4 := cell_of hx 4 _ rfl
 have f1 := frozen_of hx 1
 have f2 := frozen_of hx 2
 have f3 := frozen_of hx 3
 have f4 := frozen_of hx 4
 have b0 := cell_of (hB.keep hb) 0 _ rfl
 have cG := fun W' (hb' : Below w.heap.size w W') (m : Nat) => isTag_c ((h.keep (fun b hr hl => hb'.block b hl)).drewN m) o.a
 have cV := isValue_c (h.keep (fun b hr hl => hb.block b hl)) (hB.keep hb) o a cap
 unfold fits
 rw [if_neg (by omega)]
 rw [if_pos (.inr hk)]
 have HX : Hid (W.heap[w.heap.size]? = some (.cells #[.int .i64 o.k, .int .i64 o.a, .int .i64 o.b, .int .i64 o.c, .slice a o.l.length cap] 127 (0, 0))) := hx
 have HW : Hid (Bw W B P A nb ov lt uv cl) := hB.keep hb
 clear hx hB h hR hb HL
 obtain ⟨k, x, y, z, l⟩ := o
 dsimp only at *
 unfold zr
 generalize isV S ⟨k, x, y, z, l⟩ = u at *
 generalize isTg S x = t at *
 subst hk
 cases hu : u
 case false =>
  go_enter func141, ntmps141
  go_wp2_with fail
  refine cV.mono ?_
  rintro e W1 ⟨rfl, b1⟩
  have HB1 : Hid (Below w.heap.size w W1) := HB.out.trans (b1.mono HB.out.size)
  have hx1 := (b1.block w.heap.size (by omega)).trans HX.out
  have k1 := cell_of hx1 1 _ rfl
  have k2 := cell_of hx1 2 _ rfl
  have k3 := cell_of hx1 3 _ rfl
  have k4 := cell_of hx1 4 _ rfl
  have g1 := frozen_of hx1 1
  have g2 := frozen_of hx1 2
  have g3 := frozen_of hx1 3
  have g4 := frozen_of hx1 4
  have kb := cell_of (HW.out.keep b1) 0 _ rfl
  clear hx1 b1 cV c0 c1 c2 c3 c4 f1 f2 f3 f4 b0
  go_wp2_with fail
  go_quiet (first | (go_at_call 189; exact Calls.quiet_of_same (cG _ (by first | exact HB.out | exact HB1.out | ((repeat (first | exact HB1.out | exact HB.out | apply IBase.below_drewN | refine Below.setCell ?_ (by exact Nat.le_refl _) _)); done)) _)))
  go_wp2_with fail
  go_ret
  refine ⟨rfl, ?_⟩
  repeat first | exact HB1.out | exact HB.out | apply IBase.below_drewN | refine Below.setCell ?_ (by exact Nat.le_refl _) _
 cases ht : t
 case false =>
  go_enter func141, ntmps141
  go_wp2_with fail
  refine cV.mono ?_
  rintro e W1 ⟨rfl, b1⟩
  have HB1 : Hid (Below w.heap.size w W1) := HB.out.trans (b1.mono HB.out.size)
  have hx1 := (b1.block w.heap.size (by omega)).trans HX.out
  have k1 := cell_of hx1 1 _ rfl
  have k2 := cell_of hx1 2 _ rfl
  have k3 := cell_of hx1 3 _ rfl
  have k4 := cell_of hx1 4 _ rfl
  have g1 := frozen_of hx1 1
  have g2 := frozen_of hx1 2
  have g3 := frozen_of hx1 3
  have g4 := frozen_of hx1 4
  have kb := cell_of (HW.out.keep b1) 0 _ rfl
  clear hx1 b1 cV c0 c1 c2 c3 c4 f1 f2 f3 f4 b0
  go_wp2_with fail
  go_quiet (first | (go_at_call 189; exact Calls.quiet_of_same (cG _ (by first | exact HB.out | exact HB1.out | ((repeat (first | exact HB1.out | exact HB.out | apply IBase.below_drewN | refine Below.setCell ?_ (by exact Nat.le_refl _) _)); done)) _)))
  go_wp2_with fail
  go_ret
  refine ⟨rfl, ?_⟩
  repeat first | exact HB1.out | exact HB.out | apply IBase.below_drewN | refine Below.setCell ?_ (by exact Nat.le_refl _) _
 cases hz0 : (z == 0)
 case false =>
  go_enter func141, ntmps141
  go_wp2_with fail
  refine cV.mono ?_
  rintro e W1 ⟨rfl, b1⟩
  have HB1 : Hid (Below w.heap.size w W1) := HB.out.trans (b1.mono HB.out.size)
  have hx1 := (b1.block w.heap.size (by omega)).trans HX.out
  have k1 := cell_of hx1 1 _ rfl
  have k2 := cell_of hx1 2 _ rfl
  have k3 := cell_of hx1 3 _ rfl
  have k4 := cell_of hx1 4 _ rfl
  have g1 := frozen_of hx1 1
  have g2 := frozen_of hx1 2
  have g3 := frozen_of hx1 3
  have g4 := frozen_of hx1 4
  have kb := cell_of (HW.out.keep b1) 0 _ rfl
  clear hx1 b1 cV c0 c1 c2 c3 c4 f1 f2 f3 f4 b0
  go_wp2_with fail
  go_quiet (first | (go_at_call 189; exact Calls.quiet_of_same (cG _ (by first | exact HB.out | exact HB1.out | ((repeat (first | exact HB1.out | exact HB.out | apply IBase.below_drewN | refine Below.setCell ?_ (by exact Nat.le_refl _) _)); done)) _)))
  go_wp2_with fail
  go_ret
  refine ⟨rfl, ?_⟩
  repeat first | exact HB1.out | exact HB.out | apply IBase.below_drewN | refine Below.setCell ?_ (by exact Nat.le_refl _) _
 cases hl0 : ((l.length : Int) == 0)
 case false =>
  go_enter func141, ntmps141
  go_wp2_with fail
  refine cV.mono ?_
  rintro e W1 ⟨rfl, b1⟩
  have HB1 : Hid (Below w.heap.size w W1) := HB.out.trans (b1.mono HB.out.size)
  have hx1 := (b1.block w.heap.size (by omega)).trans HX.out
  have k1 := cell_of hx1 1 _ rfl
  have k2 := cell_of hx1 2 _ rfl
  have k3 := cell_of hx1 3 _ rfl
  have k4 := cell_of hx1 4 _ rfl
  have g1 := frozen_of hx1 1
  have g2 := frozen_of hx1 2
  have g3 := frozen_of hx1 3
  have g4 := frozen_of hx1 4
  have kb := cell_of (HW.out.keep b1) 0 _ rfl
  clear hx1 b1 cV c0 c1 c2 c3 c4 f1 f2 f3 f4 b0
  go_wp2_with fail
  go_quiet (first | (go_at_call 189; exact Calls.quiet_of_same (cG _ (by first | exact HB.out | exact HB1.out | ((repeat (first | exact HB1.out | exact HB.out | apply IBase.below_drewN | refine Below.setCell ?_ (by exact Nat.le_refl _) _)); done)) _)))
  go_wp2_with fail
  go_ret
  refine ⟨rfl, ?_⟩
  repeat first | exact HB1.out | exact HB.out | apply IBase.below_drewN | refine Below.setCell ?_ (by exact Nat.le_refl _) _
 go_enter func141, ntmps141
 go_wp2_with fail
 refine cV.mono ?_
 rintro e W1 ⟨rfl, b1⟩
 have HB1 : Hid (Below w.heap.size w W1) := HB.out.trans (b1.mono HB.out.size)
 have hx1 := (b1.block w.heap.size (by omega)).trans HX.out
 have k1 := cell_of hx1 1 _ rfl
 have k2 := cell_of hx1 2 _ rfl
 have k3 := cell_of hx1 3 _ rfl
 have k4 := cell_of hx1 4 _ rfl
 have g1 := frozen_of hx1 1
 have g2 := frozen_of hx1 2
 have g3 := frozen_of hx1 3
 have g4 := frozen_of hx1 4
 have kb := cell_of (HW.out.keep b1) 0 _ rfl
 clear hx1 b1 cV c0 c1 c2 c3 c4 f1 f2 f3 f4 b0
 go_wp2_with fail
 go_quiet (first | (go_at_call 189; exact Calls.quiet_of_same (cG _ (by first | exact HB.out | exact HB1.out | ((repeat (first | exact HB1.out | exact HB.out | apply IBase.below_drewN | refine Below.setCell ?_ (by exact Nat.le_refl _) _)); done)) _)))
 go_wp2_with fail
 go_ret
 refine ⟨rfl, ?_⟩
 repeat first | exact HB1.out | exact HB.out | apply IBase.below_drewN | refine Below.setCell ?_ (by exact Nat.le_refl _) _
end Go.Proofs.YtaiackmmmlhgbaaGreat.BFe
namespace Go.Proofs.YtaiackmmmlhgbaaGreat.BFf
open Go.RowKit BPl YRr YRs BBx BIx BSm BFz
open YPl (Oq Bk Pg)
open TBase (T Keep)
open CBx (w64)
theorem f10 {R : Nat -> Prop} {w : World} {B P : Nat} {S : Sh} {hv : Value} {A : Ar} {nb : Nat} {ov : Value} {lt : Int} {uv : Value} {cl : Int} (h : Pw R w P S hv) (hR : ∀ g, R g -> g < w.heap.size) (hB : Bw w B P A nb ov lt uv cl) (o : Oq) {lv : Value} (hl : RrS 1 LyI R w lv o.l) (hk : o.k = 10) :
  Calls prog 141 #[.pointer (some ⟨B, 0, none⟩), opv o lv] w fun e w' => e = .returned (.bool (fits S o)) /\ Below w.heap.size w w' := by
 have HL : Hid (RrS 1 LyI R w lv o.l) := hl
 obtain ⟨a, cap, rfl, -⟩ := hl
 obtain ⟨W, hW, hb, hs, hx⟩ := box5 w (.int .i64 o.k) (.int .i64 o.a) (.int .i64 o.b) (.int .i64 o.c) (.slice a o.l.length cap) 127
 have HB : Hid (Below w.heap.size w W) := hb
 have c0 := cell_of hx 0 _ rfl
 have c1 := cell_of hx 1 _ rfl
 have c2 := cell_of hx 2 _ rfl
 have c3 := cell_of hx 3 _ rfl
 have c4 := cell_of hx 4 _ rfl
 have f1 := frozen_of hx 1
 have f2 := frozen_of hx 2
 have f3 := frozen_of hx 3
 have f4 := frozen_of hx 4
 have b0 := cell_of (hB.keep hb) 0 _ rfl
 have cC := contains_no (HL.out.keep (fun _ h => h) fun g o x _ hg h => kI (keep_of hb) hg h : RrS 1 LyI R W _ o.l) (fun g hg => Nat.lt_of_lt_of_le (hR g hg) hb.size) (fun i => !isN i S.n.length) B fun W' x hx hb' => (isNoCode_c ((h.keep (keep_of hb)).keep (keep_of hb')) ((hB.keep hb).keep hb') x).mono fun e w' hh => ⟨hh.1, hh.2 ▸ Below.refl _ _⟩
 unfold fits
 rw [if_neg (by omega)]
 rw [if_neg (by omega)]
 rw [if_neg (by omega)]
 rw [if_neg (by omega)]
 rw [if_neg (by omega)]
 rw [if_neg (by omega)]
 rw [if_pos hk]
 have HX : Hid (W.heap[w.heap.size]? = some (.cells #[.int .i64 o.k, .int .i64 o.a, .int .i64 o.b, .int .i64 o.c, .slice a o.l.length cap] 127 (0, 0))) := hx
 clear hx hB h hR hb HL
 obtain ⟨k, x, y, z, l⟩ := o
 dsimp only at *
 unfold zr
 subst hk
 generalize (l.any fun i => !isN i S.n.length) = u at *
 generalize l.length = n at *
 cases hd : decide ((n : Int) <= 64)
 case false =>
  go_enter func141, ntmps141
  go_wp2_with fail
  go_ret
  refine ⟨rfl, ?_⟩
  repeat first | exact HB1.out | exact HB.out | apply IBase.below_drewN | refine Below.setCell ?_ (by exact Nat.le_refl _) _
 cases hu : u
 case true =>
  go_enter func141, ntmps141
  go_wp2_with fail
  refine cC.mono ?_
  rintro e W1 ⟨rfl, b1⟩
  have HB1 : Hid (Below w.heap.size w W1) := HB.out.trans (b1.mono HB.out.size)
  have hx1 := (b1.block w.heap.size (by omega)).trans HX.out
  have k1 := cell_of hx1 1 _ rfl
  have k2 := cell_of hx1 2 _ rfl
  have k3 := cell_of hx1 3 _ rfl
  have k4 := cell_of hx1 4 _ rfl
  have g1 := frozen_of hx1 1
  have g2 := frozen_of hx1 2
  have g3 := frozen_of hx1 3
  have g4 := frozen_of hx1 4
  clear hx1 b1 cC c0 c1 c2 c3 c4 f1 f2 f3 f4 b0
  go_wp2_with fail
  go_ret
  refine ⟨rfl, ?_⟩
  repeat first | exact HB1.out | exact HB.out | apply IBase.below_drewN | refine Below.setCell ?_ (by exact Nat.le_refl _) _
 cases hx0 : (x == 0)
 case false =>
  go_enter func141, ntmps141
  go_wp2_with fail
  refine cC.mono ?_
  rintro e W1 ⟨rfl, b1⟩
  have HB1 : Hid (Below w.heap.size w W1) := HB.out.trans (b1.mono HB.out.size)
  have hx1 := (b1.block w.heap.size (by omega)).trans HX.out
  have k1 := cell_of hx1 1 _ rfl
  have k2 := cell_of hx1 2 _ rfl
  have k3 := cell_of hx1 3 _ rfl
  have k4 := cell_of hx1 4 _ rfl
  have g1 := frozen_of hx1 1
  have g2 := frozen_of hx1 2
  have g3 := frozen_of hx1 3
  have g4 := frozen_of hx1 4
  clear hx1 b1 cC c0 c1 c2 c3 c4 f1 f2 f3 f4 b0
  go_wp2_with fail
  go_ret
  refine ⟨rfl, ?_⟩
  repeat first | exact HB1.out | exact HB.out | apply IBase.below_drewN | refine Below.setCell ?_ (by exact Nat.le_refl _) _
 cases hy0 : (y == 0)
 case false =>
  go_enter func141, ntmps141
  go_wp2_with fail
  refine cC.mono ?_
  rintro e W1 ⟨rfl, b1⟩
  have HB1 : Hid (Below w.heap.size w W1) := HB.out.trans (b1.mono HB.out.size)
  have hx1 := (b1.block w.heap.size (by omega)).trans HX.out
  have k1 := cell_of hx1 1 _ rfl
  have k2 := cell_of hx1 2 _ rfl
  have k3 := cell_of hx1 3 _ rfl
  have k4 := cell_of hx1 4 _ rfl
  have g1 := frozen_of hx1 1
  have g2 := frozen_of hx1 2
  have g3 := frozen_of hx1 3
  have g4 := frozen_of hx1 4
  clear hx1 b1 cC c0 c1 c2 c3 c4 f1 f2 f3 f4 b0
  go_wp2_with fail
  go_ret
  refine ⟨rfl, ?_⟩
  repeat first | exact HB1.out | exact HB.out | apply IBase.below_drewN | refine Below.setCell ?_ (by exact Nat.le_refl _) _
 go_enter func141, ntmps141
 go_wp2_with fail
 refine cC.mono ?_
 rintro e W1 ⟨rfl, b1⟩
 have HB1 : Hid (Below w.heap.size w W1) := HB.out.trans (b1.mono HB.out.size)
 have hx1 := (b1.block w.heap.size (by omega)).trans HX.out
 have k1 := cell_of hx1 1 _ rfl
 have k2 := cell_of hx1 2 _ rfl
 have k3 := cell_of hx1 3 _ rfl
 have k4 := cell_of hx1 4 _ rfl
 have g1 := frozen_of hx1 1
 have g2 := frozen_of hx1 2
 have g3 := frozen_of hx1 3
 have g4 := frozen_of hx1 4
 clear hx1 b1 cC c0 c1 c2 c3 c4 f1 f2 f3 f4 b0
 go_wp2_with fail
 go_ret
 refine ⟨rfl, ?_⟩
 repeat first | exact HB1.out | exact HB.out | apply IBase.below_drewN | refine Below.setCell ?_ (by exact Nat.le_refl _) _
theorem f0 {R : Nat -> Prop} {w : World} {B P : Nat} {S : Sh} {hv : Value} {A : Ar} {nb : Nat} {ov : Value} {lt : Int} {uv : Value} {cl : Int} (h : Pw R w P S hv) (hR : ∀ g, R g -> g < w.heap.size) (hB : Bw w B P A nb ov lt uv cl) (o : Oq) {lv : Value} (hl : RrS 1 LyI R w lv o.l) (hk : ¬(o.k = 1 \/ o.k = 2 \/ o.k = 3 \/ o.k = 4 \/ o.k = 5 \/ o.k = 6 \/ o.k = 7 \/ o.k = 8 \/ o.k = 9 \/ o.k = 10 \/ o.k = 11 \/ o.k = 12)) :
  Calls prog 141 #[.pointer (some ⟨B, 0, none⟩), opv o lv] w fun e w' => e = .returned (.bool (fits S o)) /\ Below w.heap.size w w' := by
 have HL : Hid (RrS 1 LyI R w lv o.l) := hl
 obtain ⟨a, cap, rfl, -⟩ := hl
 obtain ⟨W, hW, hb, hs, hx⟩ := box5 w (.int .i64 o.k) (.int .i64 o.a) (.int .i64 o.b) (.int .i64 o.c) (.slice a o.l.length cap) 127
 have HB : Hid (Below w.heap.size w W) := hb
 have c0 := cell_of hx 0 _ rfl
 have c1 := cell_of hx 1 _ rfl
 have c2 := cell_of hx 2 _ rfl
 have c3 := cell_of hx 3 _ rfl
 have c4 := cell_of hx 4 _ rfl
 have f1 := frozen_of hx 1
 have f2 := frozen_of hx 2
 have f3 := frozen_of hx 3
 have f4 := frozen_of hx 4
 have b0 := cell_of (hB.keep hb) 0 _ rfl
 unfold fits
 rw [if_neg (by omega)]
 rw [if_neg (by omega)]
 rw [if_neg (by omega)]
 rw [if_neg (by omega)]
 rw [if_neg (by omega)]
 rw [if_neg (by omega)]
 rw [if_neg (by omega)]
 rw [if_neg (by omega)]
 rw [if_neg (by omega)]
 rw [if_neg (by omega)]
 clear hx hB h hR hb HL
 obtain ⟨k, x, y, z, l⟩ := o
 dsimp only at *
 have d1 : (k == 1) = false := by simp; omega
 have d2 : (k == 2) = false := by simp; omega
 have d3 : (k == 3) = false := by simp; omega
 have d4 : (k == 4) = false := by simp; omega
 have d5 : (k == 5) = false := by simp; omega
 have d6 : (k == 6) = false := by simp; omega
 have d7 : (k == 7) = false := by simp; omega
 have d8 : (k == 8) = false := by simp; omega
 have d9 : (k == 9) = false := by simp; omega
 have d10 : (k == 10) = false := by simp; omega
 have d11 : (k == 11) = false := by simp; omega
 have d12 : (k == 12) = false := by simp; omega
 clear hk
 go_enter func141, ntmps141
 go_wp2_with fail
 go_ret
 refine ⟨rfl, ?_⟩
 repeat first | exact HB1.out | exact HB.out | apply IBase.below_drewN | refine Below.setCell ?_ (by exact Nat.le_refl _) _
end Go.Proofs.YtaiackmmmlhgbaaGreat.BFf
namespace Go.Proofs.YtaiackmmmlhgbaaGreat.BGd
open BPl BSt
open YPl (Oq Bk Pg)
def Ga (A : Ar) : Prop := 0 <= A.st /\ A.st <= 64 /\ 0 <= A.el /\ A.el <= 63 /\ 0 <= A.ls /\ A.ls <= 8
def Gh (H : List Ar) : Prop := ∀ A ∈ H, A.ow = true -> Ga A
def Gb (b : Bd) : Prop := Ga b.ar /\ 0 <= b.lt /\ (∀ x ∈ b.ou, 0 <= x) /\ b.lt + b.ou.sum <= b.ar.st /\ (b.ou.length : Int) <= b.ar.el
theorem sum_nn : ∀ l : List Int, (∀ x ∈ l, 0 <= x) -> 0 <= l.sum
 | [], _ => by simp
 | x :: r, h => by
  have h1 := sum_nn r fun y hy => h y (List.mem_cons_of_mem _ hy)
  have h2 := h x (List.mem_cons_self ..)
  rw [List.sum_cons]
  omega
theorem snoc {α : Type} : ∀ l : List α, l ≠ [] -> ∃ m x, l = m ++ [x]
 | l, h => ⟨l.dropLast, l.getLast h, (List.dropLast_concat_getLast h).symm⟩
theorem Gb.lt64 {b : Bd} (h : Gb b) : b.lt <= 64 := by
 obtain ⟨⟨h1, h2, -⟩, h3, h4, h5, h6⟩ := h
 have := sum_nn _ h4
 omega
section
variable {S : Sh} {nb : Nat} {ops : List Oq} {b : Bd} {H H' : List Ar} {p : Nat} {o : Oq}
theorem opf_ok (h : opf S nb ops b H p o = .ok H') : p ≠ 8192 /\ fits S o = true /\ reaches S b.ar.st o = true /\ stands S ops b p o = true /\ clm nb (ins b.ar o) (bks o) H = some H' /\ b.ar.st + grows o <= 64 /\ ¬ (o.k = 9 /\ b.ar.ls = 8) := by
 unfold opf at h
 by_cases h1 : p = 8192 \/ fits S o = false
 ·rw [if_pos h1] at h; cases h
 rw [if_neg h1] at h
 by_cases h2 : reaches S b.ar.st o = false
 ·rw [if_pos h2] at h; cases h
 rw [if_neg h2] at h
 by_cases h3 : stands S ops b p o = false
 ·rw [if_pos h3] at h; cases h
 rw [if_neg h3] at h
 cases h4 : clm nb (ins b.ar o) (bks o) H with
 | none => rw [h4] at h; cases h
 | some G =>
  rw [h4] at h
  dsimp only at h
  by_cases h5 : 64 < b.ar.st + grows o
  ·rw [if_pos h5] at h; cases h
  rw [if_neg h5] at h
  by_cases h6 : o.k = 9 /\ b.ar.ls = 8
  ·rw [if_pos h6] at h; cases h
  rw [if_neg h6] at h
  cases h
  exact ⟨fun e => h1 (.inl e), by simpa using fun e => h1 (.inr e), by simpa using h2, by simpa using h3, rfl, by omega, h6⟩
theorem grows_nn (o : Oq) : 0 <= grows o := by unfold grows; split <;> (try split) <;> (try split) <;> omega
theorem ins_ga (hA : Ga b.ar) (h1 : b.ar.st + grows o <= 64) (h2 : ¬ (o.k = 9 /\ b.ar.ls = 8)) : Ga (ins b.ar o) := by
 obtain ⟨a1, a2, a3, a4, a5, a6⟩ := hA
 have := grows_nn o
 refine ⟨?_, ?_, a3, a4, ?_, ?_⟩
 ·show 0 <= b.ar.st + grows o; omega
 ·exact h1
 ·show 0 <= (if o.k = 9 then b.ar.ls + 1 else b.ar.ls); split <;> omega
 ·show (if o.k = 9 then b.ar.ls + 1 else b.ar.ls) <= 8; split <;> omega
theorem clm_gh {A : Ar} (hA : Ga A) : ∀ (l : List Int) (H : List Ar), Gh H -> ∀ H', clm nb A l H = some H' -> Gh H' /\ H'.length = H.length
 | [], H, hH, H', h => by cases h; exact ⟨hH, rfl⟩
 | n :: r, H, hH, H', h => by
  unfold clm at h
  split at h
  ·cases h
  ·have := clm_gh hA r (H.set n.toNat A) (fun B hB hw => by
    rcases List.mem_or_eq_of_mem_set hB with h | h
    ·exact hH B h hw
    ·rw [h]; exact hA) H' h
   rw [List.length_set] at this
   exact this
theorem fits_drop (h : fits S o = true) (hk : o.k = 12) : 1 <= o.a := by
 unfold fits at h
 simp only [hk] at h
 simpa using zr_true h
theorem stands_close (h : stands S ops b p o = true) (hk : o.k = 6) : b.ou ≠ [] /\ b.lt = 0 := by
 unfold stands at h
 simp only [hk] at h
 have := band h
 refine ⟨fun e => ?_, by simpa using this.2⟩
 have h1 := this.1
 rw [e] at h1
 simp at h1
theorem stands_open (h : stands S ops b p o = true) (hk : o.k = 3) : b.ar.el + 1 <= 63 := by
 unfold stands at h
 simp only [hk] at h
 simpa using h
theorem stands_drop (h : stands S ops b p o = true) (hk : o.k = 12) : o.a <= b.lt := by
 unfold stands at h
 simp only [hk] at h
 simpa using h
theorem pass_3 (hk : o.k = 3) : pass b p o = ⟨{ b.ar with el := b.ar.el + 1 }, 0, b.ou ++ [b.lt], b.cl⟩ := by unfold pass; rw [if_pos hk]
theorem pass_6 (hk : o.k = 6) {l : List Int} {x : Int} (e : b.ou = l ++ [x]) : pass b p o = ⟨{ b.ar with el := b.ar.el - 1 }, x, l, if l.length = 0 /\ b.cl = 0 then p else b.cl⟩ := by
 unfold pass
 rw [if_neg (by omega), if_pos hk, e]
 simp
theorem pass_11 (hk : o.k = 11) : pass b p o = ⟨{ b.ar with st := b.ar.st + 1 }, b.lt + 1, b.ou, b.cl⟩ := by unfold pass; rw [if_neg (by omega), if_neg (by omega), if_pos hk]
theorem pass_12 (hk : o.k = 12) : pass b p o = ⟨{ b.ar with st := b.ar.st - o.a }, b.lt - o.a, b.ou, b.cl⟩ := by unfold pass; rw [if_neg (by omega), if_neg (by omega), if_neg (by omega), if_pos hk]
theorem pass_0 (h3 : o.k ≠ 3) (h6 : o.k ≠ 6) (h11 : o.k ≠ 11) (h12 : o.k ≠ 12) : pass b p o = b := by unfold pass; rw [if_neg h3, if_neg h6, if_neg h11, if_neg h12]
theorem gb_pass (h : opf S nb ops b H p o = .ok H') (hb : Gb b) : Gb (pass b p o) := by
 obtain ⟨h1, h2, h3, h4, h5, h6, h7⟩ := opf_ok h
 obtain ⟨⟨a1, a2, a3, a4, a5, a6⟩, b1, b2, b3, b4⟩ := hb
 have hs := sum_nn _ b2
 by_cases k3 : o.k = 3
 ·have := stands_open h4 k3
  rw [pass_3 k3]
  refine ⟨⟨a1, a2, by show 0 <= b.ar.el + 1; omega, this, a5, a6⟩, Int.le_refl 0, fun x hx => ?_, ?_, ?_⟩
  ·rcases List.mem_append.1 hx with hx | hx
   ·exact b2 x hx
   ·rw [List.mem_singleton.1 hx]; exact b1
  ·show 0 + (b.ou ++ [b.lt]).sum <= b.ar.st
   rw [List.sum_append]
   simp
   omega
  ·show ((b.ou ++ [b.lt]).length : Int) <= b.ar.el + 1
   rw [List.length_append]
   simp
   omega
 by_cases k6 : o.k = 6
 ·obtain ⟨h8, h9⟩ := stands_close h4 k6
  obtain ⟨l, x, e⟩ := snoc _ h8
  rw [pass_6 k6 e]
  rw [e] at b2 b3 b4 hs
  rw [List.sum_append] at b3
  rw [List.length_append] at b4
  simp at b3 b4
  have hx := b2 x (by simp)
  refine ⟨⟨a1, a2, by show 0 <= b.ar.el - 1; omega, by show b.ar.el - 1 <= 63; omega, a5, a6⟩, hx, fun y hy => b2 y (List.mem_append_left _ hy), ?_, ?_⟩
  ·show x + l.sum <= b.ar.st; omega
  ·show (l.length : Int) <= b.ar.el - 1; omega
 by_cases k11 : o.k = 11
 ·rw [pass_11 k11]
  have hg : grows o = 1 := by unfold grows; rw [if_neg (by omega), if_neg (by omega), if_pos k11]
  refine ⟨⟨by show 0 <= b.ar.st + 1; omega, by show b.ar.st + 1 <= 64; omega, a3, a4, a5, a6⟩, by show 0 <= b.lt + 1; omega, b2, by show b.lt + 1 + b.ou.sum <= b.ar.st + 1; omega, b4⟩
 by_cases k12 : o.k = 12
 ·rw [pass_12 k12]
  have hf := fits_drop h2 k12
  have hd := stands_drop h4 k12
  refine ⟨⟨by show 0 <= b.ar.st - o.a; omega, by show b.ar.st - o.a <= 64; omega, a3, a4, a5, a6⟩, by show 0 <= b.lt - o.a; omega, b2, by show b.lt - o.a + b.ou.sum <= b.ar.st - o.a; omega, b4⟩
 rw [pass_0 k3 k6 k11 k12]
 exact ⟨⟨a1, a2, a3, a4, a5, a6⟩, b1, b2, b3, b4⟩
theorem opf_gh (h : opf S nb ops b H p o = .ok H') (hb : Gb b) (hH : Gh H) : Gh H' /\ H'.length = H.length := by
 obtain ⟨h1, h2, h3, h4, h5, h6, h7⟩ := opf_ok h
 exact clm_gh (ins_ga hb.1 h6 h7) _ _ hH _ h5
theorem pass_ar : (pass b p o).ar.ow = b.ar.ow /\ (pass b p o).ar.lp = b.ar.lp /\ (pass b p o).ar.ls = b.ar.ls := by
 unfold pass
 split
 ·exact ⟨rfl, rfl, rfl⟩
 split
 ·exact ⟨rfl, rfl, rfl⟩
 split
 ·exact ⟨rfl, rfl, rfl⟩
 split
 ·exact ⟨rfl, rfl, rfl⟩
 exact ⟨rfl, rfl, rfl⟩
theorem gos_step {i : Nat} (hi : i < ops.length) : gos S nb ops i (ops.drop i) b H = match opf S nb ops b H i ops[i] with
  | .error c => .error ((i : Int), c)
  | .ok H' => gos S nb ops (i + 1) (ops.drop (i + 1)) (pass b i ops[i]) H' := by
 rw [List.drop_eq_getElem_cons hi, gos]
 cases opf S nb ops b H i ops[i] <;> rfl
theorem gos_end : gos S nb ops ops.length (ops.drop ops.length) b H = .ok (b, H) := by
 rw [List.drop_length, gos]
theorem opf_ne {c : Int} (h : opf S nb ops b H p o = .error c) : c ≠ 0 := by
 unfold opf at h
 split at h
 ·cases h; decide
 split at h
 ·cases h; decide
 split at h
 ·cases h; decide
 split at h
 ·cases h; decide
 split at h
 ·cases h; decide
 split at h
 ·cases h; decide
 ·cases h
end
theorem gos_ne {S : Sh} {nb : Nat} {ops : List Oq} {q : Int × Int} : ∀ (l : List Oq) (i : Nat) (b : Bd) (H : List Ar), gos S nb ops i l b H = .error q -> q.2 ≠ 0
 | [], i, b, H, h => by rw [gos] at h; cases h
 | o :: r, i, b, H, h => by
  rw [gos] at h
  cases e : opf S nb ops b H i o with
  | error c => rw [e] at h; cases h; exact opf_ne e
  | ok H' => rw [e] at h; exact gos_ne r _ _ _ h
theorem blf_ne {S : Sh} {nb : Nat} {k : Bk} {H : List Ar} {q : Int × Int} (h : blf S nb k H = .error q) : q.2 ≠ 0 := by
 unfold blf at h
 split at h
 ·cases h; decide
 split at h
 ·cases h; decide
 cases e : gos S nb k.o 0 k.o ⟨H.getD nb ar0, 0, [], 0⟩ H with
 | error q' => rw [e] at h; cases h; exact gos_ne _ _ _ _ e
 | ok y =>
  obtain ⟨b, H'⟩ := y
  rw [e] at h
  dsimp only at h
  split at h
  ·cases h; exact (by decide : (2204 : Int) ≠ 0)
  split at h
  ·cases h; decide
  split at h
  ·rename_i h1
   cases h
   exact h1
  ·cases h
end Go.Proofs.YtaiackmmmlhgbaaGreat.BGd

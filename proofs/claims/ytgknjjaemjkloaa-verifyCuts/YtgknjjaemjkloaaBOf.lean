/- An operation's fault (package verify): opFault. -/
import Derived.Test.YtgknjjaemjkloaaBFz
import Derived.Test.YtgknjjaemjkloaaBFa
import Derived.Test.YtgknjjaemjkloaaBFc
import Derived.Test.YtgknjjaemjkloaaBFd
import Derived.Test.YtgknjjaemjkloaaBFe
import Derived.Test.YtgknjjaemjkloaaBCl
import Derived.Deep.RegionHeld3
namespace Go.Proofs.Ytgknjjaemjkloaa.BFb
open Go.RowKit Go.Proofs.Ytgknjjaemjkloaa.BPl Go.Proofs.Ytgknjjaemjkloaa.YRr Go.Proofs.Ytgknjjaemjkloaa.YRs Go.Proofs.Ytgknjjaemjkloaa.BBx Go.Proofs.Ytgknjjaemjkloaa.BIx Go.Proofs.Ytgknjjaemjkloaa.BSm Go.Proofs.Ytgknjjaemjkloaa.BOp Go.Proofs.Ytgknjjaemjkloaa.BSn Go.Proofs.Ytgknjjaemjkloaa.BSt Go.Proofs.Ytgknjjaemjkloaa.BFz
open Go.Proofs.Ytgknjjaemjkloaa.YPl (Oq Bk Pg)
open Go.Proofs.Ytgknjjaemjkloaa.TBase (T Keep)
open Go.Proofs.Ytgknjjaemjkloaa.CBx (w64)
set_option linter.unusedVariables false

set_option maxRecDepth 20000 in
set_option maxHeartbeats 3200000 in
theorem f9 {R : Nat → Prop} {w : World} {B P : Nat} {S : Sh} {hv : Value} {A : Ar} {nb : Nat} {ov : Value} {lt : Int} {uv : Value} {cl : Int} (h : Pw R w P S hv) (hR : ∀ g, R g → g < w.heap.size) (hB : Bw w B P A nb ov lt uv cl) (o : Oq) {lv : Value} (hl : RrS 1 LyI R w lv o.l) (hk : o.k = 9) :
    Calls Try.prog 101 #[.pointer (some ⟨B, 0, none⟩), opv o lv] w fun e w' => e = .returned (.bool (fits S o)) ∧ Below w.heap.size w w' := by
  have HL : Hid (RrS 1 LyI R w lv o.l) := hl
  obtain ⟨a, cap, rfl, -⟩ := hl
  obtain ⟨W, hW, hb, hs, hx⟩ := box5 w (.int .i64 o.k) (.int .i64 o.a) (.int .i64 o.b) (.int .i64 o.c) (.slice a o.l.length cap) 46
  have HB : Hid (Below w.heap.size w W) := hb
  have c0 := cell_of hx 0 _ rfl
  have c1 := cell_of hx 1 _ rfl
  have c2 := cell_of hx 2 _ rfl
  have c3 := cell_of hx 3 _ rfl
  have c4 := cell_of hx 4 _ rfl
  have f1 := frozen_of hx 1
  have f2 := frozen_of hx 2
  have f3 := frozen_of hx 3
  have f4 := frozen_of hx 4
  have b0 := cell_of (hB.keep hb) 0 _ rfl
  have cC := fun W' (hb' : Below w.heap.size w W') (m : Nat) => isCode_c ((h.keep (fun b hr hl => hb'.block b hl)).drewN m) o.a
  have cD := fun W' (hb' : Below w.heap.size w W') (m : Nat) => isCode_c ((h.keep (fun b hr hl => hb'.block b hl)).drewN m) o.b
  unfold fits
  rw [if_neg (by omega)]
  rw [if_neg (by omega)]
  rw [if_neg (by omega)]
  rw [if_pos hk]
  clear hx hB h hR hb HL
  obtain ⟨k, x, y, z, l⟩ := o
  dsimp only at *
  unfold zr
  subst hk
  generalize isN x S.n.length = t at *
  generalize isN y S.n.length = u at *
  cases hu : u
  case false =>
    go_enter Try.func101, Try.ntmps101
    go_wp2_with fail
    go_quiet (first | (go_at_call 135; exact Calls.quiet_of_same (cD _ (by first | exact HB.out | exact HB1.out | ((repeat (first | exact HB1.out | exact HB.out | apply IBase.below_drewN | refine Below.setCell ?_ (by exact Nat.le_refl _) _)); done)) _)))
    go_wp2_with fail
    go_quiet (first | (go_at_call 135; exact Calls.quiet_of_same (cC _ (by first | exact HB.out | exact HB1.out | ((repeat (first | exact HB1.out | exact HB.out | apply IBase.below_drewN | refine Below.setCell ?_ (by exact Nat.le_refl _) _)); done)) _)))
    go_wp2_with fail
    go_ret
    refine ⟨rfl, ?_⟩
    repeat first | exact HB1.out | exact HB.out | apply IBase.below_drewN | refine Below.setCell ?_ (by exact Nat.le_refl _) _
  cases ht : t
  case false =>
    go_enter Try.func101, Try.ntmps101
    go_wp2_with fail
    go_quiet (first | (go_at_call 135; exact Calls.quiet_of_same (cD _ (by first | exact HB.out | exact HB1.out | ((repeat (first | exact HB1.out | exact HB.out | apply IBase.below_drewN | refine Below.setCell ?_ (by exact Nat.le_refl _) _)); done)) _)))
    go_wp2_with fail
    go_quiet (first | (go_at_call 135; exact Calls.quiet_of_same (cC _ (by first | exact HB.out | exact HB1.out | ((repeat (first | exact HB1.out | exact HB.out | apply IBase.below_drewN | refine Below.setCell ?_ (by exact Nat.le_refl _) _)); done)) _)))
    go_wp2_with fail
    go_ret
    refine ⟨rfl, ?_⟩
    repeat first | exact HB1.out | exact HB.out | apply IBase.below_drewN | refine Below.setCell ?_ (by exact Nat.le_refl _) _
  cases hl0 : ((l.length : Int) == 0)
  case false =>
    go_enter Try.func101, Try.ntmps101
    go_wp2_with fail
    go_quiet (first | (go_at_call 135; exact Calls.quiet_of_same (cD _ (by first | exact HB.out | exact HB1.out | ((repeat (first | exact HB1.out | exact HB.out | apply IBase.below_drewN | refine Below.setCell ?_ (by exact Nat.le_refl _) _)); done)) _)))
    go_wp2_with fail
    go_quiet (first | (go_at_call 135; exact Calls.quiet_of_same (cC _ (by first | exact HB.out | exact HB1.out | ((repeat (first | exact HB1.out | exact HB.out | apply IBase.below_drewN | refine Below.setCell ?_ (by exact Nat.le_refl _) _)); done)) _)))
    go_wp2_with fail
    go_ret
    refine ⟨rfl, ?_⟩
    repeat first | exact HB1.out | exact HB.out | apply IBase.below_drewN | refine Below.setCell ?_ (by exact Nat.le_refl _) _
  go_enter Try.func101, Try.ntmps101
  go_wp2_with fail
  go_quiet (first | (go_at_call 135; exact Calls.quiet_of_same (cD _ (by first | exact HB.out | exact HB1.out | ((repeat (first | exact HB1.out | exact HB.out | apply IBase.below_drewN | refine Below.setCell ?_ (by exact Nat.le_refl _) _)); done)) _)))
  go_wp2_with fail
  go_quiet (first | (go_at_call 135; exact Calls.quiet_of_same (cC _ (by first | exact HB.out | exact HB1.out | ((repeat (first | exact HB1.out | exact HB.out | apply IBase.below_drewN | refine Below.setCell ?_ (by exact Nat.le_refl _) _)); done)) _)))
  go_wp2_with fail
  go_ret
  refine ⟨rfl, ?_⟩
  repeat first | exact HB1.out | exact HB.out | apply IBase.below_drewN | refine Below.setCell ?_ (by exact Nat.le_refl _) _
set_option maxRecDepth 20000 in
set_option maxHeartbeats 3200000 in
theorem f8 {R : Nat → Prop} {w : World} {B P : Nat} {S : Sh} {hv : Value} {A : Ar} {nb : Nat} {ov : Value} {lt : Int} {uv : Value} {cl : Int} (h : Pw R w P S hv) (hR : ∀ g, R g → g < w.heap.size) (hB : Bw w B P A nb ov lt uv cl) (o : Oq) {lv : Value} (hl : RrS 1 LyI R w lv o.l) (hk : o.k = 8) :
    Calls Try.prog 101 #[.pointer (some ⟨B, 0, none⟩), opv o lv] w fun e w' => e = .returned (.bool (fits S o)) ∧ Below w.heap.size w w' := by
  have HL : Hid (RrS 1 LyI R w lv o.l) := hl
  obtain ⟨a, cap, rfl, -⟩ := hl
  obtain ⟨W, hW, hb, hs, hx⟩ := box5 w (.int .i64 o.k) (.int .i64 o.a) (.int .i64 o.b) (.int .i64 o.c) (.slice a o.l.length cap) 46
  have HB : Hid (Below w.heap.size w W) := hb
  have c0 := cell_of hx 0 _ rfl
  have c1 := cell_of hx 1 _ rfl
  have c2 := cell_of hx 2 _ rfl
  have c3 := cell_of hx 3 _ rfl
  have c4 := cell_of hx 4 _ rfl
  have f1 := frozen_of hx 1
  have f2 := frozen_of hx 2
  have f3 := frozen_of hx 3
  have f4 := frozen_of hx 4
  have b0 := cell_of (hB.keep hb) 0 _ rfl
  have cC := fun W' (hb' : Below w.heap.size w W') (m : Nat) => isCode_c ((h.keep (fun b hr hl => hb'.block b hl)).drewN m) o.a
  unfold fits
  rw [if_neg (by omega)]
  rw [if_neg (by omega)]
  rw [if_neg (by omega)]
  rw [if_neg (by omega)]
  rw [if_pos hk]
  clear hx hB h hR hb HL
  obtain ⟨k, x, y, z, l⟩ := o
  dsimp only at *
  unfold zr
  subst hk
  generalize isN x S.n.length = t at *
  cases ht : t
  case false =>
    go_enter Try.func101, Try.ntmps101
    go_wp2_with fail
    go_quiet (first | (go_at_call 135; exact Calls.quiet_of_same (cC _ (by first | exact HB.out | exact HB1.out | ((repeat (first | exact HB1.out | exact HB.out | apply IBase.below_drewN | refine Below.setCell ?_ (by exact Nat.le_refl _) _)); done)) _)))
    go_wp2_with fail
    go_ret
    refine ⟨rfl, ?_⟩
    repeat first | exact HB1.out | exact HB.out | apply IBase.below_drewN | refine Below.setCell ?_ (by exact Nat.le_refl _) _
  cases hl0 : ((l.length : Int) == 0)
  case false =>
    go_enter Try.func101, Try.ntmps101
    go_wp2_with fail
    go_quiet (first | (go_at_call 135; exact Calls.quiet_of_same (cC _ (by first | exact HB.out | exact HB1.out | ((repeat (first | exact HB1.out | exact HB.out | apply IBase.below_drewN | refine Below.setCell ?_ (by exact Nat.le_refl _) _)); done)) _)))
    go_wp2_with fail
    go_ret
    refine ⟨rfl, ?_⟩
    repeat first | exact HB1.out | exact HB.out | apply IBase.below_drewN | refine Below.setCell ?_ (by exact Nat.le_refl _) _
  go_enter Try.func101, Try.ntmps101
  go_wp2_with fail
  go_quiet (first | (go_at_call 135; exact Calls.quiet_of_same (cC _ (by first | exact HB.out | exact HB1.out | ((repeat (first | exact HB1.out | exact HB.out | apply IBase.below_drewN | refine Below.setCell ?_ (by exact Nat.le_refl _) _)); done)) _)))
  go_wp2_with fail
  go_ret
  refine ⟨rfl, ?_⟩
  repeat first | exact HB1.out | exact HB.out | apply IBase.below_drewN | refine Below.setCell ?_ (by exact Nat.le_refl _) _
end Go.Proofs.Ytgknjjaemjkloaa.BFb

namespace Go.Proofs.Ytgknjjaemjkloaa.BFf
open Go.RowKit Go.Proofs.Ytgknjjaemjkloaa.BPl Go.Proofs.Ytgknjjaemjkloaa.YRr Go.Proofs.Ytgknjjaemjkloaa.YRs Go.Proofs.Ytgknjjaemjkloaa.BBx Go.Proofs.Ytgknjjaemjkloaa.BIx Go.Proofs.Ytgknjjaemjkloaa.BSm Go.Proofs.Ytgknjjaemjkloaa.BOp Go.Proofs.Ytgknjjaemjkloaa.BSn Go.Proofs.Ytgknjjaemjkloaa.BSt Go.Proofs.Ytgknjjaemjkloaa.BFz
open Go.Proofs.Ytgknjjaemjkloaa.YPl (Oq Bk Pg)
open Go.Proofs.Ytgknjjaemjkloaa.TBase (T Keep)
open Go.Proofs.Ytgknjjaemjkloaa.CBx (w64)
set_option linter.unusedVariables false

set_option maxRecDepth 20000 in
set_option maxHeartbeats 3200000 in
theorem f10 {R : Nat → Prop} {w : World} {B P : Nat} {S : Sh} {hv : Value} {A : Ar} {nb : Nat} {ov : Value} {lt : Int} {uv : Value} {cl : Int} (h : Pw R w P S hv) (hR : ∀ g, R g → g < w.heap.size) (hB : Bw w B P A nb ov lt uv cl) (o : Oq) {lv : Value} (hl : RrS 1 LyI R w lv o.l) (hk : o.k = 10) :
    Calls Try.prog 101 #[.pointer (some ⟨B, 0, none⟩), opv o lv] w fun e w' => e = .returned (.bool (fits S o)) ∧ Below w.heap.size w w' := by
  have HL : Hid (RrS 1 LyI R w lv o.l) := hl
  obtain ⟨a, cap, rfl, -⟩ := hl
  obtain ⟨W, hW, hb, hs, hx⟩ := box5 w (.int .i64 o.k) (.int .i64 o.a) (.int .i64 o.b) (.int .i64 o.c) (.slice a o.l.length cap) 46
  have HB : Hid (Below w.heap.size w W) := hb
  have c0 := cell_of hx 0 _ rfl
  have c1 := cell_of hx 1 _ rfl
  have c2 := cell_of hx 2 _ rfl
  have c3 := cell_of hx 3 _ rfl
  have c4 := cell_of hx 4 _ rfl
  have f1 := frozen_of hx 1
  have f2 := frozen_of hx 2
  have f3 := frozen_of hx 3
  have f4 := frozen_of hx 4
  have b0 := cell_of (hB.keep hb) 0 _ rfl
  have cC := contains_no (HL.out.keep (fun _ h => h) fun g o x _ hg h => kI (keep_of hb) hg h : RrS 1 LyI R W _ o.l) (fun g hg => Nat.lt_of_lt_of_le (hR g hg) hb.size) (fun i => !isN i S.n.length) B fun W' x hx hb' => (isNoCode_c ((h.keep (keep_of hb)).keep (keep_of hb')) ((hB.keep hb).keep hb') x).mono fun e w' hh => ⟨hh.1, hh.2 ▸ Below.refl _ _⟩
  unfold fits
  rw [if_neg (by omega)]
  rw [if_neg (by omega)]
  rw [if_neg (by omega)]
  rw [if_neg (by omega)]
  rw [if_neg (by omega)]
  rw [if_neg (by omega)]
  rw [if_pos hk]
  have HX : Hid (W.heap[w.heap.size]? = some (.cells #[.int .i64 o.k, .int .i64 o.a, .int .i64 o.b, .int .i64 o.c, .slice a o.l.length cap] 46 (0, 0))) := hx
  clear hx hB h hR hb HL
  obtain ⟨k, x, y, z, l⟩ := o
  dsimp only at *
  unfold zr
  subst hk
  generalize (l.any fun i => !isN i S.n.length) = u at *
  generalize l.length = n at *
  cases hd : decide ((n : Int) ≤ 64)
  case false =>
    go_enter Try.func101, Try.ntmps101
    go_wp2_with fail
    go_ret
    refine ⟨rfl, ?_⟩
    repeat first | exact HB1.out | exact HB.out | apply IBase.below_drewN | refine Below.setCell ?_ (by exact Nat.le_refl _) _
  cases hu : u
  case true =>
    go_enter Try.func101, Try.ntmps101
    go_wp2_with fail
    refine cC.mono ?_
    rintro e W1 ⟨rfl, b1⟩
    have HB1 : Hid (Below w.heap.size w W1) := HB.out.trans (b1.mono HB.out.size)
    have hx1 := (b1.block w.heap.size (by omega)).trans HX.out
    have k1 := cell_of hx1 1 _ rfl
    have k2 := cell_of hx1 2 _ rfl
    have k3 := cell_of hx1 3 _ rfl
    have k4 := cell_of hx1 4 _ rfl
    have g1 := frozen_of hx1 1
    have g2 := frozen_of hx1 2
    have g3 := frozen_of hx1 3
    have g4 := frozen_of hx1 4
    clear hx1 b1 cC c0 c1 c2 c3 c4 f1 f2 f3 f4 b0
    go_wp2_with fail
    go_ret
    refine ⟨rfl, ?_⟩
    repeat first | exact HB1.out | exact HB.out | apply IBase.below_drewN | refine Below.setCell ?_ (by exact Nat.le_refl _) _
  cases hx0 : (x == 0)
  case false =>
    go_enter Try.func101, Try.ntmps101
    go_wp2_with fail
    refine cC.mono ?_
    rintro e W1 ⟨rfl, b1⟩
    have HB1 : Hid (Below w.heap.size w W1) := HB.out.trans (b1.mono HB.out.size)
    have hx1 := (b1.block w.heap.size (by omega)).trans HX.out
    have k1 := cell_of hx1 1 _ rfl
    have k2 := cell_of hx1 2 _ rfl
    have k3 := cell_of hx1 3 _ rfl
    have k4 := cell_of hx1 4 _ rfl
    have g1 := frozen_of hx1 1
    have g2 := frozen_of hx1 2
    have g3 := frozen_of hx1 3
    have g4 := frozen_of hx1 4
    clear hx1 b1 cC c0 c1 c2 c3 c4 f1 f2 f3 f4 b0
    go_wp2_with fail
    go_ret
    refine ⟨rfl, ?_⟩
    repeat first | exact HB1.out | exact HB.out | apply IBase.below_drewN | refine Below.setCell ?_ (by exact Nat.le_refl _) _
  cases hy0 : (y == 0)
  case false =>
    go_enter Try.func101, Try.ntmps101
    go_wp2_with fail
    refine cC.mono ?_
    rintro e W1 ⟨rfl, b1⟩
    have HB1 : Hid (Below w.heap.size w W1) := HB.out.trans (b1.mono HB.out.size)
    have hx1 := (b1.block w.heap.size (by omega)).trans HX.out
    have k1 := cell_of hx1 1 _ rfl
    have k2 := cell_of hx1 2 _ rfl
    have k3 := cell_of hx1 3 _ rfl
    have k4 := cell_of hx1 4 _ rfl
    have g1 := frozen_of hx1 1
    have g2 := frozen_of hx1 2
    have g3 := frozen_of hx1 3
    have g4 := frozen_of hx1 4
    clear hx1 b1 cC c0 c1 c2 c3 c4 f1 f2 f3 f4 b0
    go_wp2_with fail
    go_ret
    refine ⟨rfl, ?_⟩
    repeat first | exact HB1.out | exact HB.out | apply IBase.below_drewN | refine Below.setCell ?_ (by exact Nat.le_refl _) _
  go_enter Try.func101, Try.ntmps101
  go_wp2_with fail
  refine cC.mono ?_
  rintro e W1 ⟨rfl, b1⟩
  have HB1 : Hid (Below w.heap.size w W1) := HB.out.trans (b1.mono HB.out.size)
  have hx1 := (b1.block w.heap.size (by omega)).trans HX.out
  have k1 := cell_of hx1 1 _ rfl
  have k2 := cell_of hx1 2 _ rfl
  have k3 := cell_of hx1 3 _ rfl
  have k4 := cell_of hx1 4 _ rfl
  have g1 := frozen_of hx1 1
  have g2 := frozen_of hx1 2
  have g3 := frozen_of hx1 3
  have g4 := frozen_of hx1 4
  clear hx1 b1 cC c0 c1 c2 c3 c4 f1 f2 f3 f4 b0
  go_wp2_with fail
  go_ret
  refine ⟨rfl, ?_⟩
  repeat first | exact HB1.out | exact HB.out | apply IBase.below_drewN | refine Below.setCell ?_ (by exact Nat.le_refl _) _
set_option maxRecDepth 20000 in
set_option maxHeartbeats 3200000 in
theorem f0 {R : Nat → Prop} {w : World} {B P : Nat} {S : Sh} {hv : Value} {A : Ar} {nb : Nat} {ov : Value} {lt : Int} {uv : Value} {cl : Int} (h : Pw R w P S hv) (hR : ∀ g, R g → g < w.heap.size) (hB : Bw w B P A nb ov lt uv cl) (o : Oq) {lv : Value} (hl : RrS 1 LyI R w lv o.l) (hk : ¬(o.k = 1 ∨ o.k = 2 ∨ o.k = 3 ∨ o.k = 4 ∨ o.k = 5 ∨ o.k = 6 ∨ o.k = 7 ∨ o.k = 8 ∨ o.k = 9 ∨ o.k = 10 ∨ o.k = 11 ∨ o.k = 12)) :
    Calls Try.prog 101 #[.pointer (some ⟨B, 0, none⟩), opv o lv] w fun e w' => e = .returned (.bool (fits S o)) ∧ Below w.heap.size w w' := by
  have HL : Hid (RrS 1 LyI R w lv o.l) := hl
  obtain ⟨a, cap, rfl, -⟩ := hl
  obtain ⟨W, hW, hb, hs, hx⟩ := box5 w (.int .i64 o.k) (.int .i64 o.a) (.int .i64 o.b) (.int .i64 o.c) (.slice a o.l.length cap) 46
  have HB : Hid (Below w.heap.size w W) := hb
  have c0 := cell_of hx 0 _ rfl
  have c1 := cell_of hx 1 _ rfl
  have c2 := cell_of hx 2 _ rfl
  have c3 := cell_of hx 3 _ rfl
  have c4 := cell_of hx 4 _ rfl
  have f1 := frozen_of hx 1
  have f2 := frozen_of hx 2
  have f3 := frozen_of hx 3
  have f4 := frozen_of hx 4
  have b0 := cell_of (hB.keep hb) 0 _ rfl
  unfold fits
  rw [if_neg (by omega)]
  rw [if_neg (by omega)]
  rw [if_neg (by omega)]
  rw [if_neg (by omega)]
  rw [if_neg (by omega)]
  rw [if_neg (by omega)]
  rw [if_neg (by omega)]
  rw [if_neg (by omega)]
  rw [if_neg (by omega)]
  rw [if_neg (by omega)]
  clear hx hB h hR hb HL
  obtain ⟨k, x, y, z, l⟩ := o
  dsimp only at *
  have d1 : (k == 1) = false := by simp; omega
  have d2 : (k == 2) = false := by simp; omega
  have d3 : (k == 3) = false := by simp; omega
  have d4 : (k == 4) = false := by simp; omega
  have d5 : (k == 5) = false := by simp; omega
  have d6 : (k == 6) = false := by simp; omega
  have d7 : (k == 7) = false := by simp; omega
  have d8 : (k == 8) = false := by simp; omega
  have d9 : (k == 9) = false := by simp; omega
  have d10 : (k == 10) = false := by simp; omega
  have d11 : (k == 11) = false := by simp; omega
  have d12 : (k == 12) = false := by simp; omega
  clear hk
  go_enter Try.func101, Try.ntmps101
  go_wp2_with fail
  go_ret
  refine ⟨rfl, ?_⟩
  repeat first | exact HB1.out | exact HB.out | apply IBase.below_drewN | refine Below.setCell ?_ (by exact Nat.le_refl _) _
end Go.Proofs.Ytgknjjaemjkloaa.BFf

namespace Go.Proofs.Ytgknjjaemjkloaa.BOf
open Go.RowKit Go.Proofs.Ytgknjjaemjkloaa.BPl Go.Proofs.Ytgknjjaemjkloaa.YRr Go.Proofs.Ytgknjjaemjkloaa.YRs Go.Proofs.Ytgknjjaemjkloaa.BBx Go.Proofs.Ytgknjjaemjkloaa.BIx Go.Proofs.Ytgknjjaemjkloaa.BSm Go.Proofs.Ytgknjjaemjkloaa.BSt Go.Proofs.Ytgknjjaemjkloaa.BRe Go.Proofs.Ytgknjjaemjkloaa.BHm Go.Proofs.Ytgknjjaemjkloaa.BCl
open Go.Proofs.Ytgknjjaemjkloaa.YPl (Oq Bk Pg)
open Go.Proofs.Ytgknjjaemjkloaa.TBase (T Keep)
open Go.Proofs.Ytgknjjaemjkloaa.CBx (w64)
set_option linter.unusedVariables false

theorem fits_c {R : Nat → Prop} {w : World} {B P : Nat} {S : Sh} {hv : Value} {A : Ar} {nb : Nat} {ov : Value} {lt : Int} {uv : Value} {cl : Int} (h : Pw R w P S hv) (hR : ∀ g, R g → g < w.heap.size) (hB : Bw w B P A nb ov lt uv cl) (o : Oq) {lv : Value} (hl : RrS 1 LyI R w lv o.l) :
    Calls Try.prog 101 #[.pointer (some ⟨B, 0, none⟩), opv o lv] w fun e w' => e = .returned (.bool (fits S o)) ∧ Below w.heap.size w w' := by
  by_cases k1 : o.k = 1
  · exact BFa.f1 h hR hB o hl k1
  by_cases k2 : o.k = 2
  · exact BFc.f2 h hR hB o hl k2
  by_cases k3 : o.k = 3
  · exact BFa.f3 h hR hB o hl k3
  by_cases k4 : o.k = 4
  · exact BFe.f4 h hR hB o hl k4
  by_cases k5 : o.k = 5
  · exact BFe.f5 h hR hB o hl k5
  by_cases k6 : o.k = 6
  · exact BFd.f6 h hR hB o hl k6
  by_cases k7 : o.k = 7
  · exact BFd.f7 h hR hB o hl k7
  by_cases k8 : o.k = 8
  · exact BFb.f8 h hR hB o hl k8
  by_cases k9 : o.k = 9
  · exact BFb.f9 h hR hB o hl k9
  by_cases k10 : o.k = 10
  · exact BFf.f10 h hR hB o hl k10
  by_cases k11 : o.k = 11
  · exact BFc.f11 h hR hB o hl k11
  by_cases k12 : o.k = 12
  · exact BFd.f12 h hR hB o hl k12
  exact BFf.f0 h hR hB o hl (by omega)
/-- What opFault answers. -/
def OR (Q : Nat) (n : Nat) (X : Except Int (List Ar)) (w : World) (e : Ending) (w' : World) : Prop := Xb Q w w' ∧ match X with
  | .error c => e = .returned (.int .i64 c)
  | .ok H' => e = .returned (.int .i64 0) ∧ Hw w' Q H' ∧ H'.length = n
section
variable {S : Sh} {nb : Nat} {ops : List Oq} {b : Bd} {H : List Ar} {p : Nat} {o : Oq}
theorem opf_p (h : p = 8192) : opf S nb ops b H p o = .error 2203 := by unfold opf; rw [if_pos (.inl h)]
theorem opf_f (h : fits S o = false) : opf S nb ops b H p o = .error 2203 := by unfold opf; rw [if_pos (.inr h)]
theorem opf_r (h1 : ¬ p = 8192) (h2 : fits S o = true) (h : reaches S b.ar.st o = false) : opf S nb ops b H p o = .error 2201 := by unfold opf; rw [if_neg (by rw [h2]; simp [h1]), if_pos h]
theorem opf_s (h1 : ¬ p = 8192) (h2 : fits S o = true) (h3 : reaches S b.ar.st o = true) (h : stands S ops b p o = false) : opf S nb ops b H p o = .error 2204 := by unfold opf; rw [if_neg (by rw [h2]; simp [h1]), if_neg (by rw [h3]; decide), if_pos h]
theorem opf_c (h1 : ¬ p = 8192) (h2 : fits S o = true) (h3 : reaches S b.ar.st o = true) (h4 : stands S ops b p o = true) : opf S nb ops b H p o = match clm nb (ins b.ar o) (bks o) H with
    | none => .error 2205
    | some H' => if 64 < b.ar.st + grows o then .error 2208 else if o.k = 9 ∧ b.ar.ls = 8 then .error 2206 else .ok H' := by
  unfold opf
  rw [if_neg (by rw [h2]; simp [h1]), if_neg (by rw [h3]; decide), if_neg (by rw [h4]; decide)]
  cases clm nb (ins b.ar o) (bks o) H <;> rfl
end
set_option maxRecDepth 20000 in
set_option maxHeartbeats 3200000 in
theorem opFault_c {R : Nat → Prop} {w : World} {B P Q : Nat} {S : Sh} {hcap : Nat} {b : Bd} {nb : Nat} {ov : Value} {ua : Option Addr} {uc : Nat} {H : List Ar} {ops : List Oq} {p : Nat} (h : Pw R w P S (.slice (some ⟨Q, 0, none⟩) H.length hcap)) (hR : ∀ g, R g → g < w.heap.size) (hRQ : ∀ g, R g → g ≠ Q) (hB : Bw w B P b.ar nb ov b.lt (.slice ua b.ou.length uc) b.cl) (hBQ : B ≠ Q) (hH : Hw w Q H) (hc : H.length ≤ hcap) (hH4 : H.length ≤ 140737488351232) (hO : RrS 5 (LyOs R) R w ov ops) (hp : p < ops.length) (o : Oq) {lv : Value} (hl : RrS 1 LyI R w lv o.l)
    (hst : 0 ≤ b.ar.st ∧ b.ar.st ≤ 64) (hls : 0 ≤ b.ar.ls ∧ b.ar.ls ≤ 64) (he : 0 ≤ b.ar.el ∧ b.ar.el ≤ 64) (hob : i64 o.b) (hoc : i64 o.c) (ha : p ≠ 0 → ((ahd ops p).k = 4 ∨ (ahd ops p).k = 5) → isN (ahd ops p).a S.t.length = true) (hd : ∀ i, 0 ≤ dpa S i ∧ dpa S i ≤ 140737488351232) :
    Calls Try.prog 62 #[.pointer (some ⟨B, 0, none⟩), .int .i64 p, opv o lv] w fun e w' => OR Q H.length (opf S nb ops b H p o) w e w' := by
  have HL : Hid (RrS 1 LyI R w lv o.l) := hl
  obtain ⟨a, cap, rfl, -, -, ho4, -⟩ := hl
  obtain ⟨W, hW, b0, hs, hx⟩ := box5 w (.int .i64 o.k) (.int .i64 o.a) (.int .i64 o.b) (.int .i64 o.c) (.slice a o.l.length cap) 46
  have hQ : Q < w.heap.size := (Array.getElem?_eq_some_iff.1 hH).1
  have hBl := hB.lt
  have HX : Hid (W.heap[w.heap.size]? = some (.cells #[.int .i64 o.k, .int .i64 o.a, .int .i64 o.b, .int .i64 o.c, .slice a o.l.length cap] 46 (0, 0))) := hx
  -- what holds in every world to come, but for block Q
  have HP : Hid (∀ W', Below w.heap.size w W' → Pw R W' P S (.slice (some ⟨Q, 0, none⟩) H.length hcap) ∧ (∀ g, R g → g < W'.heap.size) ∧ Bw W' B P b.ar nb ov b.lt (.slice ua b.ou.length uc) b.cl ∧ Hw W' Q H ∧ RrS 5 (LyOs R) R W' ov ops ∧ RrS 1 LyI R W' (.slice a o.l.length cap) o.l) := fun W' hb => ⟨h.keep (keep_of hb), fun g hg => Nat.lt_of_lt_of_le (hR g hg) hb.size, hB.keep hb, (hb.block Q hQ).trans hH, hO.keep (fun _ h => h) fun g o x _ hg h => kO (keep_of hb) (fun _ h => h) hg h, HL.out.keep (fun _ h => h) fun g o x _ hg h => kI (keep_of hb) hg h⟩
  have HB0 : Hid (Below w.heap.size w W) := b0
  have HRQ : Hid (∀ g, R g → g ≠ Q) := hRQ
  have HA : Hid (p ≠ 0 → ((ahd ops p).k = 4 ∨ (ahd ops p).k = 5) → isN (ahd ops p).a S.t.length = true) := ha
  have HD : Hid (∀ i, 0 ≤ dpa S i ∧ dpa S i ≤ 140737488351232) := hd
  obtain ⟨X, hX⟩ : ∃ X, opf S nb ops b H p o = X := ⟨_, rfl⟩
  rw [hX]
  have HXX : Hid (opf S nb ops b H p o = X) := hX
  clear h hR hRQ hB hH hO ha hd hX
  have hp4 : ops.length ≤ 140737488351232 := by obtain ⟨-, -, -, -, ⟨_, _, _, _, _, h, _⟩, -⟩ := HP.out W b0; exact h
  have c0 := cell_of hx 0 _ rfl
  have c1 := cell_of hx 1 _ rfl
  have c2 := cell_of hx 2 _ rfl
  have c3 := cell_of hx 3 _ rfl
  have c4 := cell_of hx 4 _ rfl
  clear hx b0
  by_cases hp8 : p = 8192
  · have hX := HXX.out
    rw [opf_p hp8] at hX
    subst hX
    subst hp8
    go_enter Try.func62, Try.ntmps62
    go_wp2_with fail
    go_ret
    exact ⟨Xb.of HB0.out (by omega), rfl⟩
  have d8 : (((p : Nat) : Int) == 8192) = false := by simp; omega
  obtain ⟨p1, r1, w1, -, -, l1⟩ := HP.out W HB0.out
  have cF := fits_c p1 r1 w1 o l1
  clear p1 r1 w1 l1
  go_enter Try.func62, Try.ntmps62
  go_wp2_with fail
  refine cF.mono ?_
  rintro e W1 ⟨rfl, b1⟩
  have HB1 : Hid (Below w.heap.size w W1) := HB0.out.trans (b1.mono HB0.out.size)
  have HX1 : Hid (W1.heap[w.heap.size]? = some (.cells #[.int .i64 o.k, .int .i64 o.a, .int .i64 o.b, .int .i64 o.c, .slice a o.l.length cap] 46 (0, 0))) := (b1.block w.heap.size (by omega)).trans HX.out
  have hs1 : W.heap.size ≤ W1.heap.size := b1.size
  clear cF b1 c0 c1 c2 c3 c4 HX
  have c0 := cell_of HX1.out 0 _ rfl
  have c1 := cell_of HX1.out 1 _ rfl
  have c2 := cell_of HX1.out 2 _ rfl
  have c3 := cell_of HX1.out 3 _ rfl
  have c4 := cell_of HX1.out 4 _ rfl
  obtain ⟨F, hF⟩ : ∃ F, fits S o = F := ⟨_, rfl⟩
  rw [hF]
  have HF : Hid (fits S o = F) := hF
  clear hF
  cases F with
  | false =>
    have hX := HXX.out
    rw [opf_f HF.out] at hX
    subst hX
    go_wp2_with fail
    go_ret
    exact ⟨Xb.of HB1.out (by omega), rfl⟩
  | true =>
  obtain ⟨p1, r1, w1, -, -, l1⟩ := HP.out W1 HB1.out
  have cR := reaches_c p1 r1 w1 o l1 HF.out hst
  clear p1 r1 w1 l1
  go_wp2_with fail
  refine cR.mono ?_
  rintro e W2 ⟨rfl, b2⟩
  have HB2 : Hid (Below w.heap.size w W2) := HB1.out.trans (b2.mono HB1.out.size)
  have HX2 : Hid (W2.heap[w.heap.size]? = some (.cells #[.int .i64 o.k, .int .i64 o.a, .int .i64 o.b, .int .i64 o.c, .slice a o.l.length cap] 46 (0, 0))) := (b2.block w.heap.size (by omega)).trans HX1.out
  have hs2 : W1.heap.size ≤ W2.heap.size := b2.size
  clear cR b2 c0 c1 c2 c3 c4 HX1
  have c0 := cell_of HX2.out 0 _ rfl
  have c1 := cell_of HX2.out 1 _ rfl
  have c2 := cell_of HX2.out 2 _ rfl
  have c3 := cell_of HX2.out 3 _ rfl
  have c4 := cell_of HX2.out 4 _ rfl
  obtain ⟨F, hF⟩ : ∃ F, reaches S b.ar.st o = F := ⟨_, rfl⟩
  rw [hF]
  have HG : Hid (reaches S b.ar.st o = F) := hF
  clear hF
  cases F with
  | false =>
    have hX := HXX.out
    rw [opf_r hp8 HF.out HG.out] at hX
    subst hX
    go_wp2_with fail
    go_ret
    exact ⟨Xb.of HB2.out (by omega), rfl⟩
  | true =>
  obtain ⟨p1, r1, w1, -, o1, l1⟩ := HP.out W2 HB2.out
  have cS := stands_c p1 r1 w1 o1 hp o a cap HF.out HA.out HD.out he
  clear p1 r1 w1 l1 o1
  go_wp2_with fail
  refine cS.mono ?_
  rintro e W3 ⟨rfl, b3⟩
  have HB3 : Hid (Below w.heap.size w W3) := HB2.out.trans (b3.mono HB2.out.size)
  have HX3 : Hid (W3.heap[w.heap.size]? = some (.cells #[.int .i64 o.k, .int .i64 o.a, .int .i64 o.b, .int .i64 o.c, .slice a o.l.length cap] 46 (0, 0))) := (b3.block w.heap.size (by omega)).trans HX2.out
  have hs3 : W2.heap.size ≤ W3.heap.size := b3.size
  clear cS b3 c0 c1 c2 c3 c4 HX2
  have c0 := cell_of HX3.out 0 _ rfl
  have c1 := cell_of HX3.out 1 _ rfl
  have c2 := cell_of HX3.out 2 _ rfl
  have c3 := cell_of HX3.out 3 _ rfl
  have c4 := cell_of HX3.out 4 _ rfl
  obtain ⟨F, hF⟩ : ∃ F, stands S ops b p o = F := ⟨_, rfl⟩
  rw [hF]
  have HT : Hid (stands S ops b p o = F) := hF
  clear hF
  cases F with
  | false =>
    have hX := HXX.out
    rw [opf_s hp8 HF.out HG.out HT.out] at hX
    subst hX
    go_wp2_with fail
    go_ret
    exact ⟨Xb.of HB3.out (by omega), rfl⟩
  | true =>
  obtain ⟨p1, r1, w1, h1, -, -⟩ := HP.out W3 HB3.out
  have cC := claims_c p1 r1 HRQ.out w1 hBQ h1 hc hH4 o a cap hst hls ho4 hob hoc
  clear p1 r1 w1 h1
  have hX := HXX.out
  rw [opf_c hp8 HF.out HG.out HT.out] at hX
  have HY : Hid ((match clm nb (ins b.ar o) (bks o) H with
    | none => .error 2205
    | some H' => if 64 < b.ar.st + grows o then .error 2208 else if o.k = 9 ∧ b.ar.ls = 8 then .error 2206 else .ok H') = X) := hX
  clear hX HXX HF HG HT
  obtain ⟨Y, hY⟩ : ∃ Y, clm nb (ins b.ar o) (bks o) H = Y := ⟨_, rfl⟩
  rw [hY] at cC
  have HCY : Hid (clm nb (ins b.ar o) (bks o) H = Y) := hY
  clear hY
  go_wp2_with fail
  refine cC.mono ?_
  rintro e W4 ⟨rfl, ⟨H4, hH4', hn4, hor⟩, x4⟩
  have HX4 : Hid (W4.heap[w.heap.size]? = some (.cells #[.int .i64 o.k, .int .i64 o.a, .int .i64 o.b, .int .i64 o.c, .slice a o.l.length cap] 46 (0, 0))) := (x4.2 w.heap.size (by omega) (by omega)).trans HX3.out
  have HB4 : Hid (Xb Q w W4) := (Xb.of HB3.out (by omega)).trans x4
  have HBw : Hid (Bw W4 B P b.ar nb ov b.lt (.slice ua b.ou.length uc) b.cl) := (x4.2 B (by omega) hBQ).trans ((HP.out W3 HB3.out).2.2.1)
  have hs4 : W3.heap.size ≤ W4.heap.size := x4.1.size
  have HH4 : Hid (Hw W4 Q H4) := hH4'
  have HOR : Hid (Y = none ∨ Y = some H4) := hor
  clear cC x4 c0 c1 c2 c3 c4 HX3 hH4' hor
  cases Y with
  | none =>
    have hX := HY.out
    rw [HCY.out] at hX
    subst hX
    go_wp2_with fail
    go_ret
    exact ⟨HB4.out, rfl⟩
  | some H' =>
  obtain rfl : H' = H4 := by
    rcases HOR.out with h | h
    · cases h
    · cases h; rfl
  have hX := HY.out
  rw [HCY.out] at hX
  dsimp only at hX
  have HZ : Hid ((if 64 < b.ar.st + grows o then .error 2208 else if o.k = 9 ∧ b.ar.ls = 8 then .error 2206 else .ok H') = X) := hX
  clear hX HY HCY HOR
  have c0 := cell_of HX4.out 0 _ rfl
  have c1 := cell_of HX4.out 1 _ rfl
  have c2 := cell_of HX4.out 2 _ rfl
  have c3 := cell_of HX4.out 3 _ rfl
  have c4 := cell_of HX4.out 4 _ rfl
  have e3 := cell_of HBw.out 3 _ rfl
  have cG := fun W => grows_c o a cap W
  have hg : 0 ≤ grows o ∧ grows o ≤ 140737488351232 := by
    unfold grows
    split
    · omega
    split
    · omega
    split <;> omega
  have hw1 : IntKind.i64.wrap (b.ar.st + grows o) = b.ar.st + grows o := w64 (by omega) (by omega)
  generalize grows o = G at *
  have key : (decide (64 < b.ar.st + G) = true ∧ X = .error 2208) ∨ (decide (64 < b.ar.st + G) = false ∧ (o.k == 9) = true ∧ (b.ar.ls == 8) = true ∧ X = .error 2206) ∨ (decide (64 < b.ar.st + G) = false ∧ (o.k == 9) = true ∧ (b.ar.ls == 8) = false ∧ X = .ok H') ∨ (decide (64 < b.ar.st + G) = false ∧ (o.k == 9) = false ∧ X = .ok H') := by
    have hX := HZ.out
    by_cases h64 : 64 < b.ar.st + G
    · rw [if_pos h64] at hX
      exact .inl ⟨by simp [h64], hX.symm⟩
    rw [if_neg h64] at hX
    by_cases h9 : o.k = 9
    · by_cases h8 : b.ar.ls = 8
      · rw [if_pos ⟨h9, h8⟩] at hX
        exact .inr (.inl ⟨by simp; omega, by simp [h9], by simp [h8], hX.symm⟩)
      · rw [if_neg (fun hh => h8 hh.2)] at hX
        exact .inr (.inr (.inl ⟨by simp; omega, by simp [h9], by simp [h8], hX.symm⟩))
    · rw [if_neg (fun hh => h9 hh.1)] at hX
      exact .inr (.inr (.inr ⟨by simp; omega, by simp [h9], hX.symm⟩))
  clear HZ
  rcases key with ⟨dg, rfl⟩ | ⟨dg, d9, d88, rfl⟩ | ⟨dg, d9, d88, rfl⟩ | ⟨dg, d9, rfl⟩
  all_goals
    go_wp2_with fail
    go_region_held3 (fun w' => w'.cell? ⟨B, 3, none⟩ = some (.int .i64 b.ar.st) ∧ w'.cell? ⟨w.heap.size, 0, none⟩ = some (.int .i64 o.k) ∧ w'.cell? ⟨w.heap.size, 1, none⟩ = some (.int .i64 o.a) ∧ w'.cell? ⟨w.heap.size, 2, none⟩ = some (.int .i64 o.b) ∧ w'.cell? ⟨w.heap.size, 3, none⟩ = some (.int .i64 o.c) ∧ w'.cell? ⟨w.heap.size, 4, none⟩ = some (.slice a o.l.length cap)) (go_keep) (first | (go_at_call 105; refine (cG _).mono ?_; rintro e W5 ⟨rfl, b5⟩; have q5 : ∀ g, g < W4.heap.size → W5.heap[g]? = W4.heap[g]? := (fun g hg => b5.block g hg); have y3 := cell_of ((q5 B (by omega)).trans HBw.out) 3 _ rfl; have y5 := cell_of ((q5 B (by omega)).trans HBw.out) 5 _ rfl; have z0 := cell_of ((q5 w.heap.size (by omega)).trans HX4.out) 0 _ rfl; have z1 := cell_of ((q5 w.heap.size (by omega)).trans HX4.out) 1 _ rfl; have z2 := cell_of ((q5 w.heap.size (by omega)).trans HX4.out) 2 _ rfl; have z3 := cell_of ((q5 w.heap.size (by omega)).trans HX4.out) 3 _ rfl; have z4 := cell_of ((q5 w.heap.size (by omega)).trans HX4.out) 4 _ rfl; have HB5 : Hid (Xb Q w W5) := HB4.out.trans ⟨⟨b5.os, b5.tape, b5.output, b5.size, fun g hg => q5 g (by omega)⟩, fun g hg _ => q5 g hg⟩; have HH5 : Hid (Hw W5 Q H') := (q5 Q (by omega)).trans HH4.out; clear q5 b5) | fail)
    all_goals
      rename_i hHeld
      clear hHeld
      go_wp2_with fail
      go_ret
      first
        | exact ⟨HB5.out, rfl⟩
        | exact ⟨HB5.out, rfl, HH5.out, hn4⟩
end Go.Proofs.Ytgknjjaemjkloaa.BOf

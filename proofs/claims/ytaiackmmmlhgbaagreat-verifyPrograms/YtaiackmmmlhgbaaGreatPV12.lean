import Derived.Test.YtaiackmmmlhgbaaGreatPV11
open Go.Proofs.Tryz
set_option linter.unusedVariables false
set_option maxRecDepth 20000
set_option maxHeartbeats 3200000
namespace Go.Proofs.YtaiackmmmlhgbaaGreat.BFz
open Go.RowKit
open YPl (Oq Bk Pg)
open TBase (T Keep)
open CBx (w64)
theorem frozen_of {W : World} {B : Nat} {cs : Array Value} {t : TypeId} (h : W.heap[B]? = some (.cells cs t (0, 0))) (j : Nat) : W.frozen? ⟨B, j, none⟩ = false := by simp [World.frozen?, h]
end Go.Proofs.YtaiackmmmlhgbaaGreat.BFz
namespace Go.Proofs.YtaiackmmmlhgbaaGreat.BFa
open Go.RowKit BPl YRr YRs BBx BSm BFz
open YPl (Oq Bk Pg)
open TBase (T Keep)
open CBx (w64)
theorem f1 {R : Nat -> Prop} {w : World} {B P : Nat} {S : Sh} {hv : Value} {A : Ar} {nb : Nat} {ov : Value} {lt : Int} {uv : Value} {cl : Int} (h : Pw R w P S hv) (hR : ∀ g, R g -> g < w.heap.size) (hB : Bw w B P A nb ov lt uv cl) (o : Oq) {lv : Value} (hl : RrS 1 LyI R w lv o.l) (hk : o.k = 1) :
  Calls prog 141 #[.pointer (some ⟨B, 0, none⟩), opv o lv] w fun e w' => e = .returned (.bool (fits S o)) /\ Below w.heap.size w w' := by
 have HL : Hid (RrS 1 LyI R w lv o.l) := hl
 obtain ⟨a, cap, rfl, -⟩ := hl
 obtain ⟨W, hW, hb, hs, hx⟩ := box5 w (.int .i64 o.k) (.int .i64 o.a) (.int .i64 o.b) (.int .i64 o.c) (.slice a o.l.length cap) 127
 have HB : Hid (Below w.heap.size w W) := hb
 have c0 := cell_of hx 0 _ rfl
 have c1 := cell_of hx 1 _ rfl
 have c2 := cell_of hx 2 _ rfl
 have c3 := cell_of hx 3 _ rfl
 have c4 := cell_of hx 4 _ rfl
 have f1 := frozen_of hx 1
 have f2 := frozen_of hx 2
 have f3 := frozen_of hx 3
 have f4 := frozen_of hx 4
 have b0 := cell_of (hB.keep hb) 0 _ rfl
 have cT := fun W' (hb' : Below w.heap.size w W') (m : Nat) => isText_c ((h.keep (fun b hr hl => hb'.block b hl)).drewN m) o.a
 unfold fits
 rw [if_pos hk]
 clear hx hB h hR hb HL
 obtain ⟨k, x, y, z, l⟩ := o
 dsimp only at *
 unfold zr
 subst hk
 generalize isN x S.t.length = t at *
 cases ht : t
 case false =>
  go_enter func141, ntmps141
  go_wp2_with fail
  go_quiet (first | (go_at_call 187; exact Calls.quiet_of_same (cT _ (by first | exact HB.out | exact HB1.out | (repeat first | exact HB1.out | exact HB.out | apply IBase.below_drewN | refine Below.setCell ?_ (by exact Nat.le_refl _) _; done)) _)))
  go_wp2_with fail
  go_ret
  refine ⟨rfl, ?_⟩
  repeat first | exact HB1.out | exact HB.out | apply IBase.below_drewN | refine Below.setCell ?_ (by exact Nat.le_refl _) _
 cases hy0 : (y == 0)
 case false =>
  go_enter func141, ntmps141
  go_wp2_with fail
  go_quiet (first | (go_at_call 187; exact Calls.quiet_of_same (cT _ (by first | exact HB.out | exact HB1.out | (repeat first | exact HB1.out | exact HB.out | apply IBase.below_drewN | refine Below.setCell ?_ (by exact Nat.le_refl _) _; done)) _)))
  go_wp2_with fail
  go_ret
  refine ⟨rfl, ?_⟩
  repeat first | exact HB1.out | exact HB.out | apply IBase.below_drewN | refine Below.setCell ?_ (by exact Nat.le_refl _) _
 cases hz0 : (z == 0)
 case false =>
  go_enter func141, ntmps141
  go_wp2_with fail
  go_quiet (first | (go_at_call 187; exact Calls.quiet_of_same (cT _ (by first | exact HB.out | exact HB1.out | (repeat first | exact HB1.out | exact HB.out | apply IBase.below_drewN | refine Below.setCell ?_ (by exact Nat.le_refl _) _; done)) _)))
  go_wp2_with fail
  go_ret
  refine ⟨rfl, ?_⟩
  repeat first | exact HB1.out | exact HB.out | apply IBase.below_drewN | refine Below.setCell ?_ (by exact Nat.le_refl _) _
 cases hl0 : ((l.length : Int) == 0)
 case false =>
  go_enter func141, ntmps141
  go_wp2_with fail
  go_quiet (first | (go_at_call 187; exact Calls.quiet_of_same (cT _ (by first | exact HB.out | exact HB1.out | (repeat first | exact HB1.out | exact HB.out | apply IBase.below_drewN | refine Below.setCell ?_ (by exact Nat.le_refl _) _; done)) _)))
  go_wp2_with fail
  go_ret
  refine ⟨rfl, ?_⟩
  repeat first | exact HB1.out | exact HB.out | apply IBase.below_drewN | refine Below.setCell ?_ (by exact Nat.le_refl _) _
 go_enter func141, ntmps141
 go_wp2_with fail
 go_quiet (first | (go_at_call 187; exact Calls.quiet_of_same (cT _ (by first | exact HB.out | exact HB1.out | (repeat first | exact HB1.out | exact HB.out | apply IBase.below_drewN | refine Below.setCell ?_ (by exact Nat.le_refl _) _; done)) _)))
 go_wp2_with fail
 go_ret
 refine ⟨rfl, ?_⟩
 repeat first | exact HB1.out | exact HB.out | apply IBase.below_drewN | refine Below.setCell ?_ (by exact Nat.le_refl _) _
theorem f3 {R : Nat -> Prop} {w : World} {B P : Nat} {S : Sh} {hv : Value} {A : Ar} {nb : Nat} {ov : Value} {lt : Int} {uv : Value} {cl : Int} (h : Pw R w P S hv) (hR : ∀ g, R g -> g < w.heap.size) (hB : Bw w B P A nb ov lt uv cl) (o : Oq) {lv : Value} (hl : RrS 1 LyI R w lv o.l) (hk : o.k = 3) :
  Calls prog 141 #[.pointer (some ⟨B, 0, none⟩), opv o lv] w fun e w' => e = .returned (.bool (fits S o)) /\ Below w.heap.size w w' := by
 have HL : Hid (RrS 1 LyI R w lv o.l) := hl
 obtain ⟨a, cap, rfl, -⟩ := hl
 obtain ⟨W, hW, hb, hs, hx⟩ := box5 w (.int .i64 o.k) (.int .i64 o.a) (.int .i64 o.b) (.int .i64 o.c) (.slice a o.l.length cap) 127
 have HB : Hid (Below w.heap.size w W) := hb
 have c0 := cell_of hx 0 _ rfl
 have c1 := cell_of hx 1 _ rfl
 have c2 := cell_of hx 2 _ rfl
 have c3 := cell_of hx 3 _ rfl
 have c4 := cell_of hx 4 _ rfl
 have f1 := frozen_of hx 1
 have f2 := frozen_of hx 2
 have f3 := frozen_of hx 3
 have f4 := frozen_of hx 4
 have b0 := cell_of (hB.keep hb) 0 _ rfl
 have cG := fun W' (hb' : Below w.heap.size w W') (m : Nat) => isTag_c ((h.keep (fun b hr hl => hb'.block b hl)).drewN m) o.a
 unfold fits
 rw [if_neg (by omega)]
 rw [if_neg (by omega)]
 rw [if_pos hk]
 clear hx hB h hR hb HL
 obtain ⟨k, x, y, z, l⟩ := o
 dsimp only at *
 unfold zr
 subst hk
 generalize isTg S x = t at *
 cases ht : t
 case false =>
  go_enter func141, ntmps141
  go_wp2_with fail
  go_quiet (first | (go_at_call 189; exact Calls.quiet_of_same (cG _ (by first | exact HB.out | exact HB1.out | (repeat first | exact HB1.out | exact HB.out | apply IBase.below_drewN | refine Below.setCell ?_ (by exact Nat.le_refl _) _; done)) _)))
  go_wp2_with fail
  go_ret
  refine ⟨rfl, ?_⟩
  repeat first | exact HB1.out | exact HB.out | apply IBase.below_drewN | refine Below.setCell ?_ (by exact Nat.le_refl _) _
 cases hy0 : (y == 0)
 case false =>
  go_enter func141, ntmps141
  go_wp2_with fail
  go_quiet (first | (go_at_call 189; exact Calls.quiet_of_same (cG _ (by first | exact HB.out | exact HB1.out | (repeat first | exact HB1.out | exact HB.out | apply IBase.below_drewN | refine Below.setCell ?_ (by exact Nat.le_refl _) _; done)) _)))
  go_wp2_with fail
  go_ret
  refine ⟨rfl, ?_⟩
  repeat first | exact HB1.out | exact HB.out | apply IBase.below_drewN | refine Below.setCell ?_ (by exact Nat.le_refl _) _
 cases hz0 : (z == 0)
 case false =>
  go_enter func141, ntmps141
  go_wp2_with fail
  go_quiet (first | (go_at_call 189; exact Calls.quiet_of_same (cG _ (by first | exact HB.out | exact HB1.out | (repeat first | exact HB1.out | exact HB.out | apply IBase.below_drewN | refine Below.setCell ?_ (by exact Nat.le_refl _) _; done)) _)))
  go_wp2_with fail
  go_ret
  refine ⟨rfl, ?_⟩
  repeat first | exact HB1.out | exact HB.out | apply IBase.below_drewN | refine Below.setCell ?_ (by exact Nat.le_refl _) _
 cases hl0 : ((l.length : Int) == 0)
 case false =>
  go_enter func141, ntmps141
  go_wp2_with fail
  go_quiet (first | (go_at_call 189; exact Calls.quiet_of_same (cG _ (by first | exact HB.out | exact HB1.out | (repeat first | exact HB1.out | exact HB.out | apply IBase.below_drewN | refine Below.setCell ?_ (by exact Nat.le_refl _) _; done)) _)))
  go_wp2_with fail
  go_ret
  refine ⟨rfl, ?_⟩
  repeat first | exact HB1.out | exact HB.out | apply IBase.below_drewN | refine Below.setCell ?_ (by exact Nat.le_refl _) _
 go_enter func141, ntmps141
 go_wp2_with fail
 go_quiet (first | (go_at_call 189; exact Calls.quiet_of_same (cG _ (by first | exact HB.out | exact HB1.out | (repeat first | exact HB1.out | exact HB.out | apply IBase.below_drewN | refine Below.setCell ?_ (by exact Nat.le_refl _) _; done)) _)))
 go_wp2_with fail
 go_ret
 refine ⟨rfl, ?_⟩
 repeat first | exact HB1.out | exact HB.out | apply IBase.below_drewN | refine Below.setCell ?_ (by exact Nat.le_refl _) _
end Go.Proofs.YtaiackmmmlhgbaaGreat.BFa
namespace Go.Proofs.YtaiackmmmlhgbaaGreat.BFb
open Go.RowKit BPl YRr YRs BBx BSm BFz
open YPl (Oq Bk Pg)
open TBase (T Keep)
open CBx (w64)
theorem f9 {R : Nat -> Prop} {w : World} {B P : Nat} {S : Sh} {hv : Value} {A : Ar} {nb : Nat} {ov : Value} {lt : Int} {uv : Value} {cl : Int} (h : Pw R w P S hv) (hR : ∀ g, R g -> g < w.heap.size) (hB : Bw w B P A nb ov lt uv cl) (o : Oq) {lv : Value} (hl : RrS 1 LyI R w lv o.l) (hk : o.k = 9) :
  Calls prog 141 #[.pointer (some ⟨B, 0, none⟩), opv o lv] w fun e w' => e = .returned (.bool (fits S o)) /\ Below w.heap.size w w' := by
 have HL : Hid (RrS 1 LyI R w lv o.l) := hl
 obtain ⟨a, cap, rfl, -⟩ := hl
 obtain ⟨W, hW, hb, hs, hx⟩ := box5 w (.int .i64 o.k) (.int .i64 o.a) (.int .i64 o.b) (.int .i64 o.c) (.slice a o.l.length cap) 127
 have HB : Hid (Below w.heap.size w W) := hb
 have c0 := cell_of hx 0 _ rfl
 have c1 := cell_of hx 1 _ rfl
 have c2 := cell_of hx 2 _ rfl
 have c3 := cell_of hx 3 _ rfl
 have c4 := cell_of hx 4 _ rfl
 have f1 := frozen_of hx 1
 have f2 := frozen_of hx 2
 have f3 := frozen_of hx 3
 have f4 := frozen_of hx 4
 have b0 := cell_of (hB.keep hb) 0 _ rfl
 have cC := fun W' (hb' : Below w.heap.size w W') (m : Nat) => isCode_c ((h.keep (fun b hr hl => hb'.block b hl)).drewN m) o.a
 have cD := fun W' (hb' : Below w.heap.size w W') (m : Nat) => isCode_c ((h.keep (fun b hr hl => hb'.block b hl)).drewN m) o.b
 unfold fits
 rw [if_neg (by omega)]
 rw [if_neg (by omega)]
 rw [if_neg (by omega)]
 rw [if_pos hk]
 clear hx hB h hR hb HL
 obtain ⟨k, x, y, z, l⟩ := o
 dsimp only at *
 unfold zr
 subst hk
 generalize isN x S.n.length = t at *
 generalize isN y S.n.length = u at *
 cases hu : u
 case false =>
  go_enter func141, ntmps141
  go_wp2_with fail
  go_quiet (first | (go_at_call 190; exact Calls.quiet_of_same (cD _ (by first | exact HB.out | exact HB1.out | ((repeat (first | exact HB1.out | exact HB.out | apply IBase.below_drewN | refine Below.setCell ?_ (by exact Nat.le_refl _) _)); done)) _)))
  go_wp2_with fail
  go_quiet (first | (go_at_call 190; exact Calls.quiet_of_same (cC _ (by first | exact HB.out | exact HB1.out | ((repeat (first | exact HB1.out | exact HB.out | apply IBase.below_drewN | refine Below.setCell ?_ (by exact Nat.le_refl _) _)); done)) _)))
  go_wp2_with fail
  go_ret
  refine ⟨rfl, ?_⟩
  repeat first | exact HB1.out | exact HB.out | apply IBase.below_drewN | refine Below.setCell ?_ (by exact Nat.le_refl _) _
 cases ht : t
 case false =>
  go_enter func141, ntmps141
  go_wp2_with fail
  go_quiet (first | (go_at_call 190; exact Calls.quiet_of_same (cD _ (by first | exact HB.out | exact HB1.out | ((repeat (first | exact HB1.out | exact HB.out | apply IBase.below_drewN | refine Below.setCell ?_ (by exact Nat.le_refl _) _)); done)) _)))
  go_wp2_with fail
  go_quiet (first | (go_at_call 190; exact Calls.quiet_of_same (cC _ (by first | exact HB.out | exact HB1.out | ((repeat (first | exact HB1.out | exact HB.out | apply IBase.below_drewN | refine Below.setCell ?_ (by exact Nat.le_refl _) _)); done)) _)))
  go_wp2_with fail
  go_ret
  refine ⟨rfl, ?_⟩
  repeat first | exact HB1.out | exact HB.out | apply IBase.below_drewN | refine Below.setCell ?_ (by exact Nat.le_refl _) _
 cases hl0 : ((l.length : Int) == 0)
 case false =>
  go_enter func141, ntmps141
  go_wp2_with fail
  go_quiet (first | (go_at_call 190; exact Calls.quiet_of_same (cD _ (by first | exact HB.out | exact HB1.out | ((repeat (first | exact HB1.out | exact HB.out | apply IBase.below_drewN | refine Below.setCell ?_ (by exact Nat.le_refl _) _)); done)) _)))
  go_wp2_with fail
  go_quiet (first | (go_at_call 190; exact Calls.quiet_of_same (cC _ (by first | exact HB.out | exact HB1.out | ((repeat (first | exact HB1.out | exact HB.out | apply IBase.below_drewN | refine Below.setCell ?_ (by exact Nat.le_refl _) _)); done)) _)))
  go_wp2_with fail
  go_ret
  refine ⟨rfl, ?_⟩
  repeat first | exact HB1.out | exact HB.out | apply IBase.below_drewN | refine Below.setCell ?_ (by exact Nat.le_refl _) _
 go_enter func141, ntmps141
 go_wp2_with fail
 go_quiet (first | (go_at_call 190; exact Calls.quiet_of_same (cD _ (by first | exact HB.out | exact HB1.out | ((repeat (first | exact HB1.out | exact HB.out | apply IBase.below_drewN | refine Below.setCell ?_ (by exact Nat.le_refl _) _)); done)) _)))
 go_wp2_with fail
 go_quiet (first | (go_at_call 190; exact Calls.quiet_of_same (cC _ (by first | exact HB.out | exact HB1.out | ((repeat (first | exact HB1.out | exact HB.out | apply IBase.below_drewN | refine Below.setCell ?_ (by exact Nat.le_refl _) _)); done)) _)))
 go_wp2_with fail
 go_ret
 refine ⟨rfl, ?_⟩
 repeat first | exact HB1.out | exact HB.out | apply IBase.below_drewN | refine Below.setCell ?_ (by exact Nat.le_refl _) _
theorem f8 {R : Nat -> Prop} {w : World} {B P : Nat} {S : Sh} {hv : Value} {A : Ar} {nb : Nat} {ov : Value} {lt : Int} {uv : Value} {cl : Int} (h : Pw R w P S hv) (hR : ∀ g, R g -> g < w.heap.size) (hB : Bw w B P A nb ov lt uv cl) (o : Oq) {lv : Value} (hl : RrS 1 LyI R w lv o.l) (hk : o.k = 8) :
  Calls prog 141 #[.pointer (some ⟨B, 0, none⟩), opv o lv] w fun e w' => e = .returned (.bool (fits S o)) /\ Below w.heap.size w w' := by
 have HL : Hid (RrS 1 LyI R w lv o.l) := hl
 obtain ⟨a, cap, rfl, -⟩ := hl
 obtain ⟨W, hW, hb, hs, hx⟩ := box5 w (.int .i64 o.k) (.int .i64 o.a) (.int .i64 o.b) (.int .i64 o.c) (.slice a o.l.length cap) 127
 have HB : Hid (Below w.heap.size w W) := hb
 have c0 := cell_of hx 0 _ rfl
 have c1 := cell_of hx 1 _ rfl
 have c2 := cell_of hx 2 _ rfl
 have c3 := cell_of hx 3 _ rfl
 have c4 := cell_of hx 4 _ rfl
 have f1 := frozen_of hx 1
 have f2 := frozen_of hx 2
 have f3 := frozen_of hx 3
 have f4 := frozen_of hx 4
 have b0 := cell_of (hB.keep hb) 0 _ rfl
 have cC := fun W' (hb' : Below w.heap.size w W') (m : Nat) => isCode_c ((h.keep (fun b hr hl => hb'.block b hl)).drewN m) o.a
 unfold fits
 rw [if_neg (by omega)]
 rw [if_neg (by omega)]
 rw [if_neg (by omega)]
 rw [if_neg (by omega)]
 rw [if_pos hk]
 clear hx hB h hR hb HL
 obtain ⟨k, x, y, z, l⟩ := o
 dsimp only at *
 unfold zr
 subst hk
 generalize isN x S.n.length = t at *
 cases ht : t
 case false =>
  go_enter func141, ntmps141
  go_wp2_with fail
  go_quiet (first | (go_at_call 190; exact Calls.quiet_of_same (cC _ (by first | exact HB.out | exact HB1.out | ((repeat (first | exact HB1.out | exact HB.out | apply IBase.below_drewN | refine Below.setCell ?_ (by exact Nat.le_refl _) _)); done)) _)))
  go_wp2_with fail
  go_ret
  refine ⟨rfl, ?_⟩
  repeat first | exact HB1.out | exact HB.out | apply IBase.below_drewN | refine Below.setCell ?_ (by exact Nat.le_refl _) _
 cases hl0 : ((l.length : Int) == 0)
 case false =>
  go_enter func141, ntmps141
  go_wp2_with fail
  go_quiet (first | (go_at_call 190; exact Calls.quiet_of_same (cC _ (by first | exact HB.out | exact HB1.out | ((repeat (first | exact HB1.out | exact HB.out | apply IBase.below_drewN | refine Below.setCell ?_ (by exact Nat.le_refl _) _)); done)) _)))
  go_wp2_with fail
  go_ret
  refine ⟨rfl, ?_⟩
  repeat first | exact HB1.out | exact HB.out | apply IBase.below_drewN | refine Below.setCell ?_ (by exact Nat.le_refl _) _
 go_enter func141, ntmps141
 go_wp2_with fail
 go_quiet (first | (go_at_call 190; exact Calls.quiet_of_same (cC _ (by first | exact HB.out | exact HB1.out | ((repeat (first | exact HB1.out | exact HB.out | apply IBase.below_drewN | refine Below.setCell ?_ (by exact Nat.le_refl _) _)); done)) _)))
 go_wp2_with fail
 go_ret
 refine ⟨rfl, ?_⟩
 repeat first | exact HB1.out | exact HB.out | apply IBase.below_drewN | refine Below.setCell ?_ (by exact Nat.le_refl _) _
end Go.Proofs.YtaiackmmmlhgbaaGreat.BFb
namespace Go.Proofs.YtaiackmmmlhgbaaGreat.BFc
open Go.RowKit BPl YRr YRs BBx BSm BFz
open YPl (Oq Bk Pg)
open TBase (T Keep)
open CBx (w64)
theorem f2 {R : Nat -> Prop} {w : World} {B P : Nat} {S : Sh} {hv : Value} {A : Ar} {nb : Nat} {ov : Value} {lt : Int} {uv : Value} {cl : Int} (h : Pw R w P S hv) (hR : ∀ g, R g -> g < w.heap.size) (hB : Bw w B P A nb ov lt uv cl) (o : Oq) {lv : Value} (hl : RrS 1 LyI R w lv o.l) (hk : o.k = 2) :
  Calls prog 141 #[.pointer (some ⟨B, 0, none⟩), opv o lv] w fun e w' => e = .returned (.bool (fits S o)) /\ Below w.heap.size w w' := by
 have HL : Hid (RrS 1 LyI R w lv o.l) := hl
 obtain ⟨a, cap, rfl, -⟩ := hl
 obtain ⟨W, hW, hb, hs, hx⟩ := box5 w (.int .i64 o.k) (.int .i64 o.a) (.int .i64 o.b) (.int .i64 o.c) (.slice a o.l.length cap) 127
 have HB : Hid (Below w.heap.size w W) := hb
 have c0 := cell_of hx 0 _ rfl
 have c1 := cell_of hx 1 _ rfl
 have c2 := cell_of hx 2 _ rfl
 have c3 := cell_of hx 3 _ rfl
 have c4 := cell_of hx 4 _ rfl
 have f1 := frozen_of hx 1
 have f2 := frozen_of hx 2
 have f3 := frozen_of hx 3
 have f4 := frozen_of hx 4
 have b0 := cell_of (hB.keep hb) 0 _ rfl
 have cC := fun W' (hb' : Below w.heap.size w W') (m : Nat) => isCode_c ((h.keep (fun b hr hl => hb'.block b hl)).drewN m) o.a
 unfold fits
 rw [if_neg (by omega)]
 rw [if_neg (by omega)]
 rw [if_neg (by omega)]
 rw [if_neg (by omega)]
 rw [if_neg (by omega)]
 rw [if_pos (.inl hk)]
 clear hx hB h hR hb HL
 obtain ⟨k, x, y, z, l⟩ := o
 dsimp only at *
 unfold zr
 subst hk
 generalize isN x S.n.length = t at *
 cases ht : t
 case false =>
  go_enter func141, ntmps141
  go_wp2_with fail
  go_quiet (first | (go_at_call 190; exact Calls.quiet_of_same (cC _ (by first | exact HB.out | exact HB1.out | (repeat first | exact HB1.out | exact HB.out | apply IBase.below_drewN | refine Below.setCell ?_ (by exact Nat.le_refl _) _; done)) _)))
  go_wp2_with fail
  go_ret
  refine ⟨rfl, ?_⟩
  repeat first | exact HB1.out | exact HB.out | apply IBase.below_drewN | refine Below.setCell ?_ (by exact Nat.le_refl _) _
 cases hy0 : (y == 0)
 case false =>
  go_enter func141, ntmps141
  go_wp2_with fail
  go_quiet (first | (go_at_call 190; exact Calls.quiet_of_same (cC _ (by first | exact HB.out | exact HB1.out | (repeat first | exact HB1.out | exact HB.out | apply IBase.below_drewN | refine Below.setCell ?_ (by exact Nat.le_refl _) _; done)) _)))
  go_wp2_with fail
  go_ret
  refine ⟨rfl, ?_⟩
  repeat first | exact HB1.out | exact HB.out | apply IBase.below_drewN | refine Below.setCell ?_ (by exact Nat.le_refl _) _
 cases hz0 : (z == 0)
 case false =>
  go_enter func141, ntmps141
  go_wp2_with fail
  go_quiet (first | (go_at_call 190; exact Calls.quiet_of_same (cC _ (by first | exact HB.out | exact HB1.out | (repeat first | exact HB1.out | exact HB.out | apply IBase.below_drewN | refine Below.setCell ?_ (by exact Nat.le_refl _) _; done)) _)))
  go_wp2_with fail
  go_ret
  refine ⟨rfl, ?_⟩
  repeat first | exact HB1.out | exact HB.out | apply IBase.below_drewN | refine Below.setCell ?_ (by exact Nat.le_refl _) _
 cases hl0 : ((l.length : Int) == 0)
 case false =>
  go_enter func141, ntmps141
  go_wp2_with fail
  go_quiet (first | (go_at_call 190; exact Calls.quiet_of_same (cC _ (by first | exact HB.out | exact HB1.out | (repeat first | exact HB1.out | exact HB.out | apply IBase.below_drewN | refine Below.setCell ?_ (by exact Nat.le_refl _) _; done)) _)))
  go_wp2_with fail
  go_ret
  refine ⟨rfl, ?_⟩
  repeat first | exact HB1.out | exact HB.out | apply IBase.below_drewN | refine Below.setCell ?_ (by exact Nat.le_refl _) _
 go_enter func141, ntmps141
 go_wp2_with fail
 go_quiet (first | (go_at_call 190; exact Calls.quiet_of_same (cC _ (by first | exact HB.out | exact HB1.out | (repeat first | exact HB1.out | exact HB.out | apply IBase.below_drewN | refine Below.setCell ?_ (by exact Nat.le_refl _) _; done)) _)))
 go_wp2_with fail
 go_ret
 refine ⟨rfl, ?_⟩
 repeat first | exact HB1.out | exact HB.out | apply IBase.below_drewN | refine Below.setCell ?_ (by exact Nat.le_refl _) _
theorem f11 {R : Nat -> Prop} {w : World} {B P : Nat} {S : Sh} {hv : Value} {A : Ar} {nb : Nat} {ov : Value} {lt : Int} {uv : Value} {cl : Int} (h : Pw R w P S hv) (hR : ∀ g, R g -> g < w.heap.size) (hB : Bw w B P A nb ov lt uv cl) (o : Oq) {lv : Value} (hl : RrS 1 LyI R w lv o.l) (hk : o.k = 11) :
  Calls prog 141 #[.pointer (some ⟨B, 0, none⟩), opv o lv] w fun e w' => e = .returned (.bool (fits S o)) /\ Below w.heap.size w w' := by
 have HL : Hid (RrS 1 LyI R w lv o.l) := hl
 obtain ⟨a, cap, rfl, -⟩ := hl
 obtain ⟨W, hW, hb, hs, hx⟩ := box5 w (.int .i64 o.k) (.int .i64 o.a) (.int .i64 o.b) (.int .i64 o.c) (.slice a o.l.length cap) 127
 have HB : Hid (Below w.heap.size w W) := hb
 have c0 := cell_of hx 0 _ rfl
 have c1 := cell_of hx 1 _ rfl
 have c2 := cell_of hx 2 _ rfl
 have c3 := cell_of hx 3 _ rfl
 have c4 := cell_of hx 4 _ rfl
 have f1 := frozen_of hx 1
 have f2 := frozen_of hx 2
 have f3 := frozen_of hx 3
 have f4 := frozen_of hx 4
 have b0 := cell_of (hB.keep hb) 0 _ rfl
 have cC := fun W' (hb' : Below w.heap.size w W') (m : Nat) => isCode_c ((h.keep (fun b hr hl => hb'.block b hl)).drewN m) o.a
 unfold fits
 rw [if_neg (by omega)]
 rw [if_neg (by omega)]
 rw [if_neg (by omega)]
 rw [if_neg (by omega)]
 rw [if_neg (by omega)]
 rw [if_pos (.inr hk)]
 clear hx hB h hR hb HL
 obtain ⟨k, x, y, z, l⟩ := o
 dsimp only at *
 unfold zr
 subst hk
 generalize isN x S.n.length = t at *
 cases ht : t
 case false =>
  go_enter func141, ntmps141
  go_wp2_with fail
  go_quiet (first | (go_at_call 190; exact Calls.quiet_of_same (cC _ (by first | exact HB.out | exact HB1.out | (repeat first | exact HB1.out | exact HB.out | apply IBase.below_drewN | refine Below.setCell ?_ (by exact Nat.le_refl _) _; done)) _)))
  go_wp2_with fail
  go_ret
  refine ⟨rfl, ?_⟩
  repeat first | exact HB1.out | exact HB.out | apply IBase.below_drewN | refine Below.setCell ?_ (by exact Nat.le_refl _) _
 cases hy0 : (y == 0)
 case false =>
  go_enter func141, ntmps141
  go_wp2_with fail
  go_quiet (first | (go_at_call 190; exact Calls.quiet_of_same (cC _ (by first | exact HB.out | exact HB1.out | (repeat first | exact HB1.out | exact HB.out | apply IBase.below_drewN | refine Below.setCell ?_ (by exact Nat.le_refl _) _; done)) _)))
  go_wp2_with fail
  go_ret
  refine ⟨rfl, ?_⟩
  repeat first | exact HB1.out | exact HB.out | apply IBase.below_drewN | refine Below.setCell ?_ (by exact Nat.le_refl _) _
 cases hz0 : (z == 0)
 case false =>
  go_enter func141, ntmps141
  go_wp2_with fail
  go_quiet (first | (go_at_call 190; exact Calls.quiet_of_same (cC _ (by first | exact HB.out | exact HB1.out | (repeat first | exact HB1.out | exact HB.out | apply IBase.below_drewN | refine Below.setCell ?_ (by exact Nat.le_refl _) _; done)) _)))
  go_wp2_with fail
  go_ret
  refine ⟨rfl, ?_⟩
  repeat first | exact HB1.out | exact HB.out | apply IBase.below_drewN | refine Below.setCell ?_ (by exact Nat.le_refl _) _
 cases hl0 : ((l.length : Int) == 0)
 case false =>
  go_enter func141, ntmps141
  go_wp2_with fail
  go_quiet (first | (go_at_call 190; exact Calls.quiet_of_same (cC _ (by first | exact HB.out | exact HB1.out | (repeat first | exact HB1.out | exact HB.out | apply IBase.below_drewN | refine Below.setCell ?_ (by exact Nat.le_refl _) _; done)) _)))
  go_wp2_with fail
  go_ret
  refine ⟨rfl, ?_⟩
  repeat first | exact HB1.out | exact HB.out | apply IBase.below_drewN | refine Below.setCell ?_ (by exact Nat.le_refl _) _
 go_enter func141, ntmps141
 go_wp2_with fail
 go_quiet (first | (go_at_call 190; exact Calls.quiet_of_same (cC _ (by first | exact HB.out | exact HB1.out | (repeat first | exact HB1.out | exact HB.out | apply IBase.below_drewN | refine Below.setCell ?_ (by exact Nat.le_refl _) _; done)) _)))
 go_wp2_with fail
 go_ret
 refine ⟨rfl, ?_⟩
 repeat first | exact HB1.out | exact HB.out | apply IBase.below_drewN | refine Below.setCell ?_ (by exact Nat.le_refl _) _
end Go.Proofs.YtaiackmmmlhgbaaGreat.BFc
namespace Go.Proofs.YtaiackmmmlhgbaaGreat.BFd
open Go.RowKit BPl YRr YRs BBx BSm BFz
open YPl (Oq Bk Pg)
open TBase (T Keep)
open CBx (w64)
theorem f7 {R : Nat -> Prop} {w : World} {B P : Nat} {S : Sh} {hv : Value} {A : Ar} {nb : Nat} {ov : Value} {lt : Int} {uv : Value} {cl : Int} (h : Pw R w P S hv) (hR : ∀ g, R g -> g < w.heap.size) (hB : Bw w B P A nb ov lt uv cl) (o : Oq) {lv : Value} (hl : RrS 1 LyI R w lv o.l) (hk : o.k = 7) :
  Calls prog 141 #[.pointer (some ⟨B, 0, none⟩), opv o lv] w fun e w' => e = .returned (.bool (fits S o)) /\ Below w.heap.size w w' := by
 have HL : Hid (RrS 1 LyI R w lv o.l) := hl
 obtain ⟨a, cap, rfl, -⟩ := hl
 obtain ⟨W, hW, hb, hs, hx⟩ := box5 w (.int .i64 o.k) (.int .i64 o.a) (.int .i64 o.b) (.int .i64 o.c) (.slice a o.l.length cap) 127
 have HB : Hid (Below w.heap.size w W) := hb
 have c0 := cell_of hx 0 _ rfl
 have c1 := cell_of hx 1 _ rfl
 have c2 := cell_of hx 2 _ rfl
 have c3 := cell_of hx 3 _ rfl
 have c4 := cell_of hx 4 _ rfl
 have f1 := frozen_of hx 1
 have f2 := frozen_of hx 2
 have f3 := frozen_of hx 3
 have f4 := frozen_of hx 4
 have b0 := cell_of (hB.keep hb) 0 _ rfl
 have cS := fun W' (hb' : Below w.heap.size w W') (m : Nat) => isStatic_c ((h.keep (fun b hr hl => hb'.block b hl)).drewN m) o.a
 unfold fits
 rw [if_neg (by omega)]
 rw [if_neg (by omega)]
 rw [if_neg (by omega)]
 rw [if_neg (by omega)]
 rw [if_neg (by omega)]
 rw [if_neg (by omega)]
 rw [if_neg (by omega)]
 rw [if_pos hk]
 clear hx hB h hR hb HL
 obtain ⟨k, x, y, z, l⟩ := o
 dsimp only at *
 unfold zr
 subst hk
 generalize isN x S.d.length = t at *
 cases ht : t
 case false =>
  go_enter func141, ntmps141
  go_wp2_with fail
  go_quiet (first | (go_at_call 193; exact Calls.quiet_of_same (cS _ (by first | exact HB.out | exact HB1.out | (repeat first | exact HB1.out | exact HB.out | apply IBase.below_drewN | refine Below.setCell ?_ (by exact Nat.le_refl _) _; done)) _)))
  go_wp2_with fail
  go_ret
  refine ⟨rfl, ?_⟩
  repeat first | exact HB1.out | exact HB.out | apply IBase.below_drewN | refine Below.setCell ?_ (by exact Nat.le_refl _) _
 cases hy0 : (y == 0)
 case false =>
  go_enter func141, ntmps141
  go_wp2_with fail
  go_quiet (first | (go_at_call 193; exact Calls.quiet_of_same (cS _ (by first | exact HB.out | exact HB1.out | (repeat first | exact HB1.out | exact HB.out | apply IBase.below_drewN | refine Below.setCell ?_ (by exact Nat.le_refl _) _; done)) _)))
  go_wp2_with fail
  go_ret
  refine ⟨rfl, ?_⟩
  repeat first | exact HB1.out | exact HB.out | apply IBase.below_drewN | refine Below.setCell ?_ (by exact Nat.le_refl _) _
 cases hz0 : (z == 0)
 case false =>
  go_enter func141, ntmps141
  go_wp2_with fail
  go_quiet (first | (go_at_call 193; exact Calls.quiet_of_same (cS _ (by first | exact HB.out | exact HB1.out | (repeat first | exact HB1.out | exact HB.out | apply IBase.below_drewN | refine Below.setCell ?_ (by exact Nat.le_refl _) _; done)) _)))
  go_wp2_with fail
  go_ret
  refine ⟨rfl, ?_⟩
  repeat first | exact HB1.out | exact HB.out | apply IBase.below_drewN | refine Below.setCell ?_ (by exact Nat.le_refl _) _
 cases hl0 : ((l.length : Int) == 0)
 case false =>
  go_enter func141, ntmps141
  go_wp2_with fail
  go_quiet (first | (go_at_call 193; exact Calls.quiet_of_same (cS _ (by first | exact HB.out | exact HB1.out | (repeat first | exact HB1.out | exact HB.out | apply IBase.below_drewN | refine Below.setCell ?_ (by exact Nat.le_refl _) _; done)) _)))
  go_wp2_with fail
  go_ret
  refine ⟨rfl, ?_⟩
  repeat first | exact HB1.out | exact HB.out | apply IBase.below_drewN | refine Below.setCell ?_ (by exact Nat.le_refl _) _
 go_enter func141, ntmps141
 go_wp2_with fail
 go_quiet (first | (go_at_call 193; exact Calls.quiet_of_same (cS _ (by first | exact HB.out | exact HB1.out | (repeat first | exact HB1.out | exact HB.out | apply IBase.below_drewN | refine Below.setCell ?_ (by exact Nat.le_refl _) _; done)) _)))
 go_wp2_with fail
 go_ret
 refine ⟨rfl, ?_⟩
 repeat first | exact HB1.out | exact HB.out | apply IBase.below_drewN | refine Below.setCell ?_ (by exact Nat.le_refl _) _
theorem f12 {R : Nat -> Prop} {w : World} {B P : Nat} {S : Sh} {hv : Value} {A : Ar} {nb : Nat} {ov : Value} {lt : Int} {uv : Value} {cl : Int} (h : Pw R w P S hv) (hR : ∀ g, R g -> g < w.heap.size) (hB : Bw w B P A nb ov lt uv cl) (o : Oq) {lv : Value} (hl : RrS 1 LyI R w lv o.l) (hk : o.k = 12) :
  Calls prog 141 #[.pointer (some ⟨B, 0, none⟩), opv o lv] w fun e w' => e = .returned (.bool (fits S o)) /\ Below w.heap.size w w' := by
 have HL : Hid (RrS 1 LyI R w lv o.l) := hl
 obtain ⟨a, cap, rfl, -⟩ := hl
 obtain ⟨W, hW, hb, hs, hx⟩ := box5 w (.int .i64 o.k) (.int .i64 o.a) (.int .i64 o.b) (.int .i64 o.c) (.slice a o.l.length cap) 127
 have HB : Hid (Below w.heap.size w W) := hb
 have c0 := cell_of hx 0 _ rfl
 have c1 := cell_of hx 1 _ rfl
 have c2 := cell_of hx 2 _ rfl
 have c3 := cell_of hx 3 _ rfl
 have c4 := cell_of hx 4 _ rfl
 have f1 := frozen_of hx 1
 have f2 := frozen_of hx 2
 have f3 := frozen_of hx 3
 have f4 := frozen_of hx 4
 have b0 := cell_of (hB.keep hb) 0 _ rfl
 unfold fits
 rw [if_neg (by omega)]
 rw [if_neg (by omega)]
 rw [if_neg (by omega)]
 rw [if_neg (by omega)]
 rw [if_neg (by omega)]
 rw [if_neg (by omega)]
 rw [if_neg (by omega)]
 rw [if_neg (by omega)]
 rw [if_pos hk]
 clear hx hB h hR hb HL
 obtain ⟨k, x, y, z, l⟩ := o
 dsimp only at *
 unfold zr
 subst hk
 cases ht : decide (1 <= x)
 case false =>
  go_enter func141, ntmps141
  go_wp2_with fail
  go_ret
  refine ⟨rfl, ?_⟩
  repeat first | exact HB1.out | exact HB.out | apply IBase.below_drewN | refine Below.setCell ?_ (by exact Nat.le_refl _) _
 cases hy0 : (y == 0)
 case false =>
  go_enter func141, ntmps141
  go_wp2_with fail
  go_ret
  refine ⟨rfl, ?_⟩
  repeat first | exact HB1.out | exact HB.out | apply IBase.below_drewN | refine Below.setCell ?_ (by exact Nat.le_refl _) _
 cases hz0 : (z == 0)
 case false =>
  go_enter func141, ntmps141
  go_wp2_with fail
  go_ret
  refine ⟨rfl, ?_⟩
  repeat first | exact HB1.out | exact HB.out | apply IBase.below_drewN | refine Below.setCell ?_ (by exact Nat.le_refl _) _
 cases hl0 : ((l.length : Int) == 0)
 case false =>
  go_enter func141, ntmps141
  go_wp2_with fail
  go_ret
  refine ⟨rfl, ?_⟩
  repeat first | exact HB1.out | exact HB.out | apply IBase.below_drewN | refine Below.setCell ?_ (by exact Nat.le_refl _) _
 go_enter func141, ntmps141
 go_wp2_with fail
 go_ret
 refine ⟨rfl, ?_⟩
 repeat first | exact HB1.out | exact HB.out | apply IBase.below_drewN | refine Below.setCell ?_ (by exact Nat.le_refl _) _
theorem f6 {R : Nat -> Prop} {w : World} {B P : Nat} {S : Sh} {hv : Value} {A : Ar} {nb : Nat} {ov : Value} {lt : Int} {uv : Value} {cl : Int} (h : Pw R w P S hv) (hR : ∀ g, R g -> g < w.heap.size) (hB : Bw w B P A nb ov lt uv cl) (o : Oq) {lv : Value} (hl : RrS 1 LyI R w lv o.l) (hk : o.k = 6) :
  Calls prog 141 #[.pointer (some ⟨B, 0, none⟩), opv o lv] w fun e w' => e = .returned (.bool (fits S o)) /\ Below w.heap.size w w' := by
 have HL : Hid (RrS 1 LyI R w lv o.l) := hl
 obtain ⟨a, cap, rfl, -⟩ := hl
 obtain ⟨W, hW, hb, hs, hx⟩ := box5 w (.int .i64 o.k) (.int .i64 o.a) (.int .i64 o.b) (.int .i64 o.c) (.slice a o.l.length cap) 127
 have HB : Hid (Below w.heap.size w W) := hb
 have c0 := cell_of hx 0 _ rfl
 have c1 := cell_of hx 1 _ rfl
 have c2 := cell_of hx 2 _ rfl
 have c3 := cell_of hx 3 _ rfl
 have c4 := cell_of hx 4 _ rfl
 have f1 := frozen_of hx 1
 have f2 := frozen_of hx 2
 have f3 := frozen_of hx 3
 have f4 := frozen_of hx 4
 have b0 := cell_of (hB.keep hb) 0 _ rfl
 unfold fits
 rw [if_neg (by omega)]
 rw [if_neg (by omega)]
 rw [if_neg (by omega)]
 rw [if_neg (by omega)]
 rw [if_neg (by omega)]
 rw [if_neg (by omega)]
 rw [if_neg (by omega)]
 rw [if_neg (by omega)]
 rw [if_neg (by omega)]
 rw [if_pos hk]
 clear hx hB h hR hb HL
 obtain ⟨k, x, y, z, l⟩ := o
 dsimp only at *
 unfold zr
 subst hk
 cases hx0 : (x == 0)
 case false =>
  go_enter func141, ntmps141
  go_wp2_with fail
  go_ret
  refine ⟨rfl, ?_⟩
  repeat first | exact HB1.out | exact HB.out | apply IBase.below_drewN | refine Below.setCell ?_ (by exact Nat.le_refl _) _
 cases hy0 : (y == 0)
 case false =>
  go_enter func141, ntmps141
  go_wp2_with fail
  go_ret
  refine ⟨rfl, ?_⟩
  repeat first | exact HB1.out | exact HB.out | apply IBase.below_drewN | refine Below.setCell ?_ (by exact Nat.le_refl _) _
 cases hz0 : (z == 0)
 case false =>
  go_enter func141, ntmps141
  go_wp2_with fail
  go_ret
  refine ⟨rfl, ?_⟩
  repeat first | exact HB1.out | exact HB.out | apply IBase.below_drewN | refine Below.setCell ?_ (by exact Nat.le_refl _) _
 cases hl0 : ((l.length : Int) == 0)
 case false =>
  go_enter func141, ntmps141
  go_wp2_with fail
  go_ret
  refine ⟨rfl, ?_⟩
  repeat first | exact HB1.out | exact HB.out | apply IBase.below_drewN | refine Below.setCell ?_ (by exact Nat.le_refl _) _
 go_enter func141, ntmps141
 go_wp2_with fail
 go_ret
 refine ⟨rfl, ?_⟩
 repeat first | exact HB1.out | exact HB.out | apply IBase.below_drewN | refine Below.setCell ?_ (by exact Nat.le_refl _) _
end Go.Proofs.YtaiackmmmlhgbaaGreat.BFd

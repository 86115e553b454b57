import Derived.BigQuiet
import Derived.Deep.CutBlock
import Derived.Test.YtaiackmmmlhgbaaGreatPV28
import Derived.Test.YtaiackmmmlhgbaaGreatPV34
import Derived.Test.YtaiackmmmlhgbaaGreatPV37
import Derived.Test.YtaiackmmmlhgbaaGreatPV40
open Go.Proofs.Tryz
set_option linter.unusedVariables false
set_option maxRecDepth 20000
set_option maxHeartbeats 6400000
namespace Go.Proofs.YtaiackmmmlhgbaaGreat.WVp
open Go.RowKit BPl YRr BCp BLa BLf BLg BVf
open BSf (hid Lo)
open YPl (Oq Bk Pg)
open YEn (InPg)
open TBase (T Keep InL heap_alloc_new)
theorem walk {m : Nat} {w : World} {v : Value} {x : Pg} (hI : InPg w.heap.size m w v x) (hz : szP x) :
  Calls prog 4 #[v] w fun e w' => e = .returned (.bool true) /\ Below w.heap.size w w' := by
 have HI : Hid (∀ W, Below w.heap.size w W -> InPg w.heap.size m W v x) := fun W hW => hI.below hW
 have HOK := hid (okI_of hI)
 obtain ⟨a, n1, c1, b, n2, c2, c, n3, c3, d, n4, c4, rfl, -, -, hT, -⟩ := hI
 obtain ⟨W0, hW0⟩ : ∃ W, w.alloc (.cells #[.slice a n1 c1, .slice b n2 c2, .slice c n3 c3, .slice d n4 c4] 29) = W := ⟨_, rfl⟩
 have b0 : Below w.heap.size w W0 := by rw [<- hW0]; exact (Below.refl _ w).alloc (Nat.le_refl _) _
 have g0 : W0.heap[w.heap.size]? = some (.cells #[.slice a n1 c1, .slice b n2 c2, .slice c n3 c3, .slice d n4 c4] 29 (0, 0)) := by rw [<- hW0]; exact heap_alloc_new w _
 have s0 : w.heap.size < W0.heap.size := (Array.getElem?_eq_some_iff.1 g0).1
 have B0 := hid b0
 have HG : Hid (∀ W, Below W0.heap.size W0 W -> W.heap[w.heap.size]? = some (.cells #[.slice a n1 c1, .slice b n2 c2, .slice c n3 c3, .slice d n4 c4] 29 (0, 0))) := fun W h => (h.block _ s0).trans g0
 obtain ⟨p0, p1, p2, p3⟩ := TBase.four_box g0
 obtain ⟨_, _, _, _, _, _, _, _, _, _, _, _, e, -, -, hT0, -⟩ := HI.out W0 b0
 cases e
 have cS := TShallow.shallow_c m _ x.s W0 hT0.plain
 clear hT hT0 b0 g0
 obtain ⟨D, hD⟩ : ∃ D, decide (TShallow.depL x.s <= 4096) = D := ⟨_, rfl⟩
 rw [hD] at cS
 have HD := hid hD
 clear hD
 go_enter func4, ntmps4
 go_wp2_with fail
 refine cS.mono ?_
 rintro e W1 ⟨rfl, b1⟩
 have HB1 := hid b1
 have B1 := hid (B0.out.trans (b1.mono B0.out.size) : Below w.heap.size w W1)
 have hs1 : W0.heap.size <= W1.heap.size := b1.size
 clear cS b1 p0 p1 p2 p3 hW0
 obtain ⟨p0, p1, p2, p3⟩ := TBase.four_box (HG.out W1 HB1.out)
 cases D with
 | false =>
  go_wp2_with fail
  go_ret
  exact ⟨rfl, B1.out⟩
 | true =>
 have hdep : TShallow.depL x.s <= 4096 := of_decide_eq_true HD.out
 have cL := lendP_c (HI.out W1 B1.out) (by omega) hz
 go_wp2_with fail
 refine cL.mono ?_
 rintro e W2 ⟨u, rfl, hln, b2⟩
 have HB2 := hid (HB1.out.trans (b2.mono HB1.out.size) : Below W0.heap.size W0 W2)
 have B2 := hid (B1.out.trans (b2.mono B1.out.size) : Below w.heap.size w W2)
 have hs2 : W1.heap.size <= W2.heap.size := b2.size
 have HLN := hid hln
 have hin := ln_in hln (fun b hb => hb.2) HOK.out hz
 have HLK : Hid (∀ W, Below W2.heap.size W2 W -> LnP (Nw W1 W2) m W u x) := fun W hb => HLN.out.keep (fun b hS _ => hb.block b hS.2) fun _ h => h
 clear cL b2 p0 p1 p2 p3 hin
 obtain ⟨s1, s2', s3, s4, rfl, q1, q2, q3, q4⟩ := hln
 obtain ⟨ta, tc, rfl⟩ := tx_sl q1
 obtain ⟨ca, cc, rfl⟩ := q2.slice
 obtain ⟨sa, sc, rfl⟩ := inl_sl q3
 obtain ⟨ba, bc, rfl⟩ := q4.slice
 clear q1 q2 q3 q4
 obtain ⟨Y, hY⟩ : ∃ Y, W2.heap.size = Y := ⟨_, rfl⟩
 obtain ⟨V, hV⟩ : ∃ W, W2.alloc (.cells #[.slice none 0 0, .slice none 0 0, .slice none 0 0, .slice none 0 0] 29) = W := ⟨_, rfl⟩
 have gV : V.heap[Y]? = some (.cells #[.slice none 0 0, .slice none 0 0, .slice none 0 0, .slice none 0 0] 29 (0, 0)) := by rw [<- hV, <- hY]; exact heap_alloc_new W2 _
 have bV : Below Y W2 V := by rw [<- hV, <- hY]; exact (Below.refl _ _).alloc (Nat.le_refl _) _
 obtain ⟨W3, hW3⟩ : ∃ W, (((V.setCell ⟨Y, 0, none⟩ (.slice ta x.t.length tc)).setCell ⟨Y, 1, none⟩ (.slice ca x.c.length cc)).setCell ⟨Y, 2, none⟩ (.slice sa x.s.length sc)).setCell ⟨Y, 3, none⟩ (.slice ba x.b.length bc) = W := ⟨_, rfl⟩
 obtain ⟨g3, r3⟩ := YRg.set4 _ _ _ _ gV hW3
 have b3 : Below Y W2 W3 := by
  rw [<- hW3]
  exact (((bV.setCell (p := ⟨Y, 0, none⟩) (Nat.le_refl _) _).setCell (p := ⟨Y, 1, none⟩) (Nat.le_refl _) _).setCell (p := ⟨Y, 2, none⟩) (Nat.le_refl _) _).setCell (p := ⟨Y, 3, none⟩) (Nat.le_refl _) _
 rw [<- hY] at b3
 have hs3 : W2.heap.size <= W3.heap.size := b3.size
 have hYl : Y < W3.heap.size := (Array.getElem?_eq_some_iff.1 g3).1
 have B3 := hid (B2.out.trans (b3.mono B2.out.size) : Below w.heap.size w W3)
 have B3' := hid b3
 have HB3 := hid (HB2.out.trans (b3.mono HB2.out.size) : Below W0.heap.size W0 W3)
 have hin3 := ln_in (HLK.out W3 b3) (fun b hb => by have := hb.2; omega) HOK.out hz
 have cV := verify_c hin3 (Nat.le_refl _)
 have HGY : Hid (∀ W, Below W3.heap.size W3 W -> W.heap[Y]? = some (.cells #[(.slice ta x.t.length tc), (.slice ca x.c.length cc), (.slice sa x.s.length sc), (.slice ba x.b.length bc)] 29 (0, 0))) := fun W h => (h.block _ hYl).trans g3
 obtain ⟨y0, y1, y2, y3⟩ := TBase.four_box gV
 have f0 := TBase.frozen_box gV 0
 have f1 := TBase.frozen_box gV 1
 have f2 := TBase.frozen_box gV 2
 have f3 := TBase.frozen_box gV 3
 obtain ⟨v0, v1, v2, v3⟩ := TBase.four_box g3
 obtain ⟨Z, hZ⟩ : ∃ Z, vf x = Z := ⟨_, rfl⟩
 rw [hZ] at cV
 have HZ := hid hZ
 clear gV bV r3 b3 hin3 g3 hZ
 obtain ⟨z1, z2, z3⟩ := Z
 obtain ⟨p0, p1, p2, p3⟩ := TBase.four_box (HG.out W2 HB2.out)
 go_wp2_with fail
 refine cV.mono ?_
 rintro e W4 ⟨rfl, b4⟩
 have B4 := hid (B3.out.trans (b4.mono B3.out.size) : Below w.heap.size w W4)
 have B4' := hid (B3'.out.trans (b4.mono B3'.out.size) : Below W2.heap.size W2 W4)
 have HB4 := hid (HB3.out.trans (b4.mono HB3.out.size) : Below W0.heap.size W0 W4)
 have HBY4 := hid b4
 have hs4 : W3.heap.size <= W4.heap.size := b4.size
 have cR := BQu.rverify_c (HI.out W4 B4.out) (by omega) (BQw.dep_one hdep)
 rw [HZ.out] at cR
 clear cV b4 p0 p1 p2 p3 y0 y1 y2 y3 f0 f1 f2 f3 v0 v1 v2 v3 hV hW3
 obtain ⟨p0, p1, p2, p3⟩ := TBase.four_box (HG.out W4 HB4.out)
 go_wp2_with fail
 refine cR.mono ?_
 rintro e W5 ⟨rfl, b5⟩
 have B5 := hid (B4.out.trans (b5.mono B4.out.size) : Below w.heap.size w W5)
 have B5' := hid (B4'.out.trans (b5.mono B4'.out.size) : Below W2.heap.size W2 W5)
 have HB5 := hid (HB4.out.trans (b5.mono HB4.out.size) : Below W0.heap.size W0 W5)
 have HBY5 := hid (HBY4.out.trans (b5.mono HBY4.out.size) : Below W3.heap.size W3 W5)
 have hs5 : W4.heap.size <= W5.heap.size := b5.size
 have cN : Calls prog 8 #[.int .i64 z3] W5 fun e w' => e = .returned (.int .i64 z3) /\ W5 = w' := (Leb.num_c z3 W5).mono fun e w' h => ⟨h.1, h.2.symm⟩
 have cK := keptP_c (HLK.out W5 B5'.out) (HI.out W5 B5.out) (by omega) hz
 clear cR b5 p0 p1 p2 p3
 obtain ⟨p0, p1, p2, p3⟩ := TBase.four_box (HG.out W5 HB5.out)
 obtain ⟨v0, v1, v2, v3⟩ := TBase.four_box (HGY.out W5 HBY5.out)
 have d1 : ((z1 : Int) == z1) = true := by simp
 have d2 : ((z2 : Int) == z2) = true := by simp
 have d3 : ((z3 : Int) == z3) = true := by simp
 go_wp2_with fail
 refine cN.mono ?_
 rintro e w9 ⟨rfl, h9⟩
 obtain rfl := h9
 clear cN
 go_wp2_with fail
 refine cK.mono ?_
 rintro e W6 ⟨rfl, b6⟩
 have B6 := hid (B5.out.trans (b6.mono B5.out.size) : Below w.heap.size w W6)
 have cA := BAw.awake_c W6
 clear cK b6 p0 p1 p2 p3 v0 v1 v2 v3
 go_wp2_with fail
 refine cA.mono ?_
 rintro e W7 ⟨rfl, b7⟩
 have B7 := hid (B6.out.trans (b7.mono B6.out.size) : Below w.heap.size w W7)
 clear cA b7
 go_wp2_with fail
 go_ret
 exact ⟨rfl, B7.out⟩
end Go.Proofs.YtaiackmmmlhgbaaGreat.WVp

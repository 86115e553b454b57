import Derived.Deep.RegionWith
import Derived.Lib.ItoaLen
import Derived.Test.YtghnhkagkngjcaaGreatDoorPN04
import Derived.Test.YtghnhkagkngjcaaGreatDoorPN23
set_option linter.unusedVariables false
set_option maxRecDepth 20000
set_option maxHeartbeats 3200000
namespace Go.Proofs.YtghnhkagkngjcaaGreatDoor.PPc
open Go.RowKit Base EPure ENd PPk PPl PPr PBt PSg PPa PPb
open PTx (qt)
open XBase (four_box two_box frozen_box Rg)
def Cl (k : Nat) (m : Nat) (x : Ex) (R : List UInt8) : Prop := ∀ (B : Nat) (W : World) (v u : Value) (L : List UInt8), XBase.In false (fun b => b < B) W m u x → (∀ W', Below B W W' → Digits.Tab W') → Pk B W W v L [] → L.length + R.length ≤ 100000000000 →
  Calls Tryz.prog k #[v, u] W fun e w' => ∃ v', e = .returned v' ∧ Pk B W w' v' (L ++ R) []
theorem lvl_ge (o : Int) : -1 ≤ lvl o := by unfold lvl; (repeat' split); all_goals omega
theorem expr_par {m : Nat} {x : Ex} {z : Int} (hr : 1 ≤ x.o ∧ x.o ≤ 31) (hz : lvl x.o < z) (hc : Ap m (-1) x) {B : Nat} {W : World} {v u : Value} {L : List UInt8} (hin : XBase.In false (fun b => b < B) W m u x) (hT : ∀ W', Below B W W' → Digits.Tab W') (hp : Pk B W W v L []) (hl : L.length + (40 :: pr (-1) x ++ [41]).length ≤ 100000000000) :
  Calls Tryz.prog 30 #[v, u, .int .i64 z] W fun e w' => ∃ v', e = .returned v' ∧ Pk B W w' v' (L ++ (40 :: pr (-1) x ++ [41])) [] := by
 obtain ⟨m', lv, rfl, hu, ho, hi, hs, hL⟩ := hin.shape
 obtain ⟨a, cap, rfl, hLr⟩ := hL
 have HIN : Hid (XBase.In false (fun b => b < B) W (m' + 1) u x) := hin
 have HT : Hid (∀ W', Below B W W' → Digits.Tab W') := hT
 have HL : Hid (L.length + (40 :: pr (-1) x ++ [41]).length ≤ 100000000000) := hl
 have HC : Hid (Ap (m' + 1) (-1) x) := hc
 clear hin hT hLr hl hc
 subst hu
 obtain ⟨ap, np, cp, rfl⟩ := hp.shape
 obtain ⟨W1, hW1⟩ : ∃ W1, W.alloc (.cells #[.int .i64 x.o, .int .i64 x.i, .string x.s, .slice a x.l.length cap] 24) = W1 := ⟨_, rfl⟩
 have hb0 : Below W.heap.size W W1 := by rw [← hW1]; exact (Below.refl _ W).alloc (Nat.le_refl _) _
 have hp0 : Hid (Pk B W W1 (.slice ap np cp) L []) := hp.below hb0
 have hbx : W1.heap[W.heap.size]? = some (.cells #[.int .i64 x.o, .int .i64 x.i, .string x.s, .slice a x.l.length cap] 24 (0, 0)) := by rw [← hW1]; exact heap_alloc_new W _
 have HX : Hid (W1.heap[W.heap.size]? = some (.cells #[.int .i64 x.o, .int .i64 x.i, .string x.s, .slice a x.l.length cap] 24 (0, 0))) := hbx
 have hp1 := Pk.start hp0.out.own hp0.out.le hp0.out.nil
 obtain ⟨y0, y1, y2, y3⟩ := four_box hbx
 have hB : Below B W W1 := hb0.mono hp.le
 have cP := placeOf_c hr.1 hr.2 W1
 have dz : decide (lvl x.o < z) = true := decide_eq_true hz
 clear hz
 generalize lvl x.o = lx at *
 generalize (⟨(sgo x.o).toArray⟩ : ByteArray) = sx at *
 clear hp hbx hr
 go_enter Tryz.func30, Tryz.ntmps30
 go_wp2_with fail
 refine cP.mono ?_
 rintro e W2 ⟨rfl, b2⟩
 have hq2 := hp1.below b2
 have HX2 := hq2.ty _ _ _ _ HX.out (by decide)
 clear y0 y1 y2 y3 cP hp1 hW1
 obtain ⟨y0, y1, y2, y3⟩ := four_box HX2
 have hB2 := hB.trans hq2.bel
 have c2 := between_c HC.out (c1 := 40) (c2 := 41) (k1 := 40) (k2 := 41) rfl rfl (HIN.out.keep (keepB hB2)) (fun W' hW => HT.out W' (hB2.trans hW)) (Pk.start hq2.own hq2.le hq2.nil) (by have := HL.out; simp only [List.length_append, List.length_cons, List.length_nil] at this; omega)
 clear HX2
 go_wp2_with fail
 refine c2.mono ?_
 rintro e W9 ⟨v9, rfl, hq9⟩
 have HP9 : Hid (Pk B W W9 v9 (L ++ (40 :: pr (-1) x ++ [41])) []) := by show Pk B W W9 v9 _ []; exact (hp0.out.trans hq2).trans hq9
 obtain ⟨a9, n9, c9, rfl⟩ := hq9.shape
 clear hq9 c2 hq2
 go_wp2_with fail
 go_ret
 exact ⟨_, rfl, HP9.out⟩
theorem expr_sign {m : Nat} {x : Ex} {z : Int} {R : List UInt8} (hr : 1 ≤ x.o ∧ x.o ≤ 31) (hz : ¬ lvl x.o < z) (hlv : lvl x.o = 11) (hc : Cl 47 m x R) {B : Nat} {W : World} {v u : Value} {L : List UInt8} (hin : XBase.In false (fun b => b < B) W m u x) (hT : ∀ W', Below B W W' → Digits.Tab W') (hp : Pk B W W v L []) (hl : L.length + (R).length ≤ 100000000000) :
  Calls Tryz.prog 30 #[v, u, .int .i64 z] W fun e w' => ∃ v', e = .returned v' ∧ Pk B W w' v' (L ++ (R)) [] := by
 obtain ⟨m', lv, rfl, hu, ho, hi, hs, hL⟩ := hin.shape
 obtain ⟨a, cap, rfl, hLr⟩ := hL
 have HIN : Hid (XBase.In false (fun b => b < B) W (m' + 1) u x) := hin
 have HT : Hid (∀ W', Below B W W' → Digits.Tab W') := hT
 have HL : Hid (L.length + (R).length ≤ 100000000000) := hl
 have HC : Hid (Cl 47 (m' + 1) x R) := hc
 clear hin hT hLr hl hc
 subst hu
 obtain ⟨ap, np, cp, rfl⟩ := hp.shape
 obtain ⟨W1, hW1⟩ : ∃ W1, W.alloc (.cells #[.int .i64 x.o, .int .i64 x.i, .string x.s, .slice a x.l.length cap] 24) = W1 := ⟨_, rfl⟩
 have hb0 : Below W.heap.size W W1 := by rw [← hW1]; exact (Below.refl _ W).alloc (Nat.le_refl _) _
 have hp0 : Hid (Pk B W W1 (.slice ap np cp) L []) := hp.below hb0
 have hbx : W1.heap[W.heap.size]? = some (.cells #[.int .i64 x.o, .int .i64 x.i, .string x.s, .slice a x.l.length cap] 24 (0, 0)) := by rw [← hW1]; exact heap_alloc_new W _
 have HX : Hid (W1.heap[W.heap.size]? = some (.cells #[.int .i64 x.o, .int .i64 x.i, .string x.s, .slice a x.l.length cap] 24 (0, 0))) := hbx
 have hp1 := Pk.start hp0.out.own hp0.out.le hp0.out.nil
 obtain ⟨y0, y1, y2, y3⟩ := four_box hbx
 have hB : Below B W W1 := hb0.mono hp.le
 have cP := placeOf_c hr.1 hr.2 W1
 rw [hlv] at cP hz
 have dz : decide ((11 : Int) < z) = false := decide_eq_false hz
 clear hz hlv
 generalize (⟨(sgo x.o).toArray⟩ : ByteArray) = sx at *
 clear hp hbx hr
 go_enter Tryz.func30, Tryz.ntmps30
 go_wp2_with fail
 refine cP.mono ?_
 rintro e W2 ⟨rfl, b2⟩
 have hq2 := hp1.below b2
 have HX2 := hq2.ty _ _ _ _ HX.out (by decide)
 clear y0 y1 y2 y3 cP hp1 hW1
 obtain ⟨y0, y1, y2, y3⟩ := four_box HX2
 have hB2 := hB.trans hq2.bel
 have c2 := HC.out B W2 _ _ L (HIN.out.keep (keepB hB2)) (fun W' hW => HT.out W' (hB2.trans hW)) (Pk.start hq2.own hq2.le hq2.nil) HL.out
 clear HX2
 go_wp2_with fail
 refine c2.mono ?_
 rintro e W9 ⟨v9, rfl, hq9⟩
 have HP9 : Hid (Pk B W W9 v9 (L ++ (R)) []) := by show Pk B W W9 v9 _ []; exact (hp0.out.trans hq2).trans hq9
 obtain ⟨a9, n9, c9, rfl⟩ := hq9.shape
 clear hq9 c2 hq2
 go_wp2_with fail
 go_ret
 exact ⟨_, rfl, HP9.out⟩
theorem expr_part {m : Nat} {x : Ex} {z : Int} {R : List UInt8} (hr : 1 ≤ x.o ∧ x.o ≤ 31) (hz : ¬ lvl x.o < z) (hlv : lvl x.o = 12) (hc : Cl 48 m x R) {B : Nat} {W : World} {v u : Value} {L : List UInt8} (hin : XBase.In false (fun b => b < B) W m u x) (hT : ∀ W', Below B W W' → Digits.Tab W') (hp : Pk B W W v L []) (hl : L.length + (R).length ≤ 100000000000) :
  Calls Tryz.prog 30 #[v, u, .int .i64 z] W fun e w' => ∃ v', e = .returned v' ∧ Pk B W w' v' (L ++ (R)) [] := by
 obtain ⟨m', lv, rfl, hu, ho, hi, hs, hL⟩ := hin.shape
 obtain ⟨a, cap, rfl, hLr⟩ := hL
 have HIN : Hid (XBase.In false (fun b => b < B) W (m' + 1) u x) := hin
 have HT : Hid (∀ W', Below B W W' → Digits.Tab W') := hT
 have HL : Hid (L.length + (R).length ≤ 100000000000) := hl
 have HC : Hid (Cl 48 (m' + 1) x R) := hc
 clear hin hT hLr hl hc
 subst hu
 obtain ⟨ap, np, cp, rfl⟩ := hp.shape
 obtain ⟨W1, hW1⟩ : ∃ W1, W.alloc (.cells #[.int .i64 x.o, .int .i64 x.i, .string x.s, .slice a x.l.length cap] 24) = W1 := ⟨_, rfl⟩
 have hb0 : Below W.heap.size W W1 := by rw [← hW1]; exact (Below.refl _ W).alloc (Nat.le_refl _) _
 have hp0 : Hid (Pk B W W1 (.slice ap np cp) L []) := hp.below hb0
 have hbx : W1.heap[W.heap.size]? = some (.cells #[.int .i64 x.o, .int .i64 x.i, .string x.s, .slice a x.l.length cap] 24 (0, 0)) := by rw [← hW1]; exact heap_alloc_new W _
 have HX : Hid (W1.heap[W.heap.size]? = some (.cells #[.int .i64 x.o, .int .i64 x.i, .string x.s, .slice a x.l.length cap] 24 (0, 0))) := hbx
 have hp1 := Pk.start hp0.out.own hp0.out.le hp0.out.nil
 obtain ⟨y0, y1, y2, y3⟩ := four_box hbx
 have hB : Below B W W1 := hb0.mono hp.le
 have cP := placeOf_c hr.1 hr.2 W1
 rw [hlv] at cP hz
 have dz : decide ((12 : Int) < z) = false := decide_eq_false hz
 clear hz hlv
 generalize (⟨(sgo x.o).toArray⟩ : ByteArray) = sx at *
 clear hp hbx hr
 go_enter Tryz.func30, Tryz.ntmps30
 go_wp2_with fail
 refine cP.mono ?_
 rintro e W2 ⟨rfl, b2⟩
 have hq2 := hp1.below b2
 have HX2 := hq2.ty _ _ _ _ HX.out (by decide)
 clear y0 y1 y2 y3 cP hp1 hW1
 obtain ⟨y0, y1, y2, y3⟩ := four_box HX2
 have hB2 := hB.trans hq2.bel
 have c2 := HC.out B W2 _ _ L (HIN.out.keep (keepB hB2)) (fun W' hW => HT.out W' (hB2.trans hW)) (Pk.start hq2.own hq2.le hq2.nil) HL.out
 clear HX2
 go_wp2_with fail
 refine c2.mono ?_
 rintro e W9 ⟨v9, rfl, hq9⟩
 have HP9 : Hid (Pk B W W9 v9 (L ++ (R)) []) := by show Pk B W W9 v9 _ []; exact (hp0.out.trans hq2).trans hq9
 obtain ⟨a9, n9, c9, rfl⟩ := hq9.shape
 clear hq9 c2 hq2
 go_wp2_with fail
 go_ret
 exact ⟨_, rfl, HP9.out⟩
end Go.Proofs.YtghnhkagkngjcaaGreatDoor.PPc
namespace Go.Proofs.YtghnhkagkngjcaaGreatDoor.PPd
open Go.RowKit Base EPure ENd PPk PPl PPr PBt PSg PPa PPb PPc
open PTx (qt)
open XBase (four_box two_box frozen_box Rg)
theorem expr_choice {m : Nat} {y x t : Ex} {i z : Int} {s : ByteArray} (hz : z ≤ -1) (hy : Ap m 0 y) (hx : Ap m (-1) x) (ht : Ap m (-1) t) {B : Nat} {W : World} {v u : Value} {L : List UInt8} (hin : XBase.In false (fun b => b < B) W (m + 1) u (.mk 31 i s [y, x, t])) (hT : ∀ W', Below B W W' → Digits.Tab W') (hp : Pk B W W v L []) (hl : L.length + (pr 0 y ++ [32, 63, 32] ++ pr (-1) x ++ [32, 58, 32] ++ pr (-1) t).length ≤ 100000000000) :
  Calls Tryz.prog 30 #[v, u, .int .i64 z] W fun e w' => ∃ v', e = .returned v' ∧ Pk B W w' v' (L ++ (pr 0 y ++ [32, 63, 32] ++ pr (-1) x ++ [32, 58, 32] ++ pr (-1) t)) [] := by
 obtain ⟨m', lv, hm, hu, hoo, hi, hs, hL⟩ := hin.shape
 obtain rfl : m = m' := by omega
 have hL0 := hL
 obtain ⟨a, cap, rfl, hcap, hcap2, hLr⟩ := hL0
 obtain ⟨g, oo, v0, v1, v2, v3, rfl, hg, d0, d1, d2, d3, hk0⟩ := kid hL (j := 0) (by show 0 < 3; omega)
 have HK0 : Hid (XBase.In false (fun b => b < B) W m (.agg #[v0, v1, v2, v3]) y) := hk0
 have HD0 : Hid (W.cell? ⟨g, oo, none⟩ = some v0 ∧ W.cell? ⟨g, oo + 1, none⟩ = some v1 ∧ W.cell? ⟨g, oo + 2, none⟩ = some v2 ∧ W.cell? ⟨g, oo + 3, none⟩ = some v3) := ⟨by simpa [Nat.add_assoc] using d0, by simpa [Nat.add_assoc] using d1, by simpa [Nat.add_assoc] using d2, by simpa [Nat.add_assoc] using d3⟩
 clear hk0 d0 d1 d2 d3
 obtain ⟨g1, o1, p10, p11, p12, p13, E1, _, b10, b11, b12, b13, hk1⟩ := kid hL (j := 1) (by show 1 < 3; omega)
 cases E1
 have HK1 : Hid (XBase.In false (fun b => b < B) W m (.agg #[p10, p11, p12, p13]) x) := hk1
 have HD1 : Hid (W.cell? ⟨g, oo + 4, none⟩ = some p10 ∧ W.cell? ⟨g, oo + 5, none⟩ = some p11 ∧ W.cell? ⟨g, oo + 6, none⟩ = some p12 ∧ W.cell? ⟨g, oo + 7, none⟩ = some p13) := ⟨by simpa [Nat.add_assoc] using b10, by simpa [Nat.add_assoc] using b11, by simpa [Nat.add_assoc] using b12, by simpa [Nat.add_assoc] using b13⟩
 clear hk1 b10 b11 b12 b13
 obtain ⟨g2, o2, p20, p21, p22, p23, E2, _, b20, b21, b22, b23, hk2⟩ := kid hL (j := 2) (by show 2 < 3; omega)
 cases E2
 have HK2 : Hid (XBase.In false (fun b => b < B) W m (.agg #[p20, p21, p22, p23]) t) := hk2
 have HD2 : Hid (W.cell? ⟨g, oo + 8, none⟩ = some p20 ∧ W.cell? ⟨g, oo + 9, none⟩ = some p21 ∧ W.cell? ⟨g, oo + 10, none⟩ = some p22 ∧ W.cell? ⟨g, oo + 11, none⟩ = some p23) := ⟨by simpa [Nat.add_assoc] using b20, by simpa [Nat.add_assoc] using b21, by simpa [Nat.add_assoc] using b22, by simpa [Nat.add_assoc] using b23⟩
 clear hk2 b20 b21 b22 b23
 have hcap : 3 ≤ cap := hcap
 have hu : u = .agg #[.int .i64 31, .int .i64 i, .string s, .slice (some ⟨g, oo, none⟩) 3 cap] := hu
 have hi : -9223372036854775808 ≤ i ∧ i ≤ 9223372036854775807 := hi
 have hs : s.size ≤ 140737488351232 := hs
 have HT : Hid (∀ W', Below B W W' → Digits.Tab W') := hT
 have HAy : Hid (Ap m 0 y) := hy
 clear hy
 have HAx : Hid (Ap m (-1) x) := hx
 clear hx
 have HAt : Hid (Ap m (-1) t) := ht
 clear ht
 have HL : Hid (L.length + (pr 0 y ++ [32, 63, 32] ++ pr (-1) x ++ [32, 58, 32] ++ pr (-1) t).length ≤ 100000000000) := hl
 have hll : L.length ≤ 100000000000 := by omega
 have hsz := hp.le
 clear hin hT hLr hl hL hm
 subst hu
 obtain ⟨ap, np, cp, rfl⟩ := hp.shape
 obtain ⟨W1, hW1⟩ : ∃ W1, W.alloc (.cells #[.int .i64 31, .int .i64 i, .string s, .slice (some ⟨g, oo, none⟩) 3 cap] 24) = W1 := ⟨_, rfl⟩
 have hb0 : Below W.heap.size W W1 := by rw [← hW1]; exact (Below.refl _ W).alloc (Nat.le_refl _) _
 have hp0 : Hid (Pk B W W1 (.slice ap np cp) L []) := hp.below hb0
 have hbx : W1.heap[W.heap.size]? = some (.cells #[.int .i64 31, .int .i64 i, .string s, .slice (some ⟨g, oo, none⟩) 3 cap] 24 (0, 0)) := by rw [← hW1]; exact heap_alloc_new W _
 have HX : Hid (W1.heap[W.heap.size]? = some (.cells #[.int .i64 31, .int .i64 i, .string s, .slice (some ⟨g, oo, none⟩) 3 cap] 24 (0, 0))) := hbx
 have hp1 := Pk.start hp0.out.own hp0.out.le hp0.out.nil
 obtain ⟨y0, y1, y2, y3⟩ := four_box hbx
 have hB : Below B W W1 := hb0.mono hp.le
 clear hp hbx
 have hkk := keepB hB
 have d0 := hkk.cell hg HD0.out.1
 have d1 := hkk.cell hg HD0.out.2.1
 have d2 := hkk.cell hg HD0.out.2.2.1
 have d3 := hkk.cell hg HD0.out.2.2.2
 clear hkk
 have hlen : L.length + (pr 0 y).length + (pr (-1) x).length + (pr (-1) t).length + 6 ≤ 100000000000 := by have := HL.out; simp only [List.length_append, List.length_cons, List.length_nil] at this; omega
 have cP : Calls Tryz.prog 45 #[.int .i64 31] W1 fun e w' => e = .returned (.tuple #[.int .i64 (-1), .string ⟨#[]⟩]) ∧ Below W1.heap.size W1 w' := placeOf_c (o := 31) (by omega) (by omega) W1
 have dz : decide ((-1 : Int) < z) = false := decide_eq_false (by omega)
 clear hz d0 d1 d2 d3
 go_enter Tryz.func30, Tryz.ntmps30
 go_wp2_with fail
 refine cP.mono ?_
 rintro e W2 ⟨rfl, b2⟩
 have hq2 := hp1.below b2
 have HX2 := hq2.ty _ _ _ _ HX.out (by decide)
 clear y0 y1 y2 y3 cP hp1 hW1
 obtain ⟨y0, y1, y2, y3⟩ := four_box HX2
 clear HX2
 have hkk := keepB (hB.trans hq2.bel)
 have d0 := hkk.cell hg HD0.out.1
 have d1 := hkk.cell hg HD0.out.2.1
 have d2 := hkk.cell hg HD0.out.2.2.1
 have d3 := hkk.cell hg HD0.out.2.2.2
 clear hkk
 have c2 := HAy.out.at HK0.out HT.out hB hq2 (by omega)
 go_wp2_with fail
 refine c2.mono ?_
 rintro e W3 ⟨v3', rfl, hq3⟩
 obtain ⟨a3, n3, c3, rfl⟩ := hq3.shape
 clear c2 hq2
 have HX3 := hq3.ty _ _ _ _ HX.out (by decide)
 clear y0 y1 y2 y3 d0 d1 d2 d3
 obtain ⟨y0, y1, y2, y3⟩ := four_box HX3
 clear HX3
 have HM1 : Hid ((L ++ pr 0 y).length + (pr (-1) x).length + (pr (-1) t).length + 6 ≤ 100000000000) := by show _ ≤ _; simp only [List.length_append]; omega
 have HEQ : Hid (L ++ pr 0 y ++ [32, 63, 32] ++ pr (-1) x ++ [32, 58, 32] ++ pr (-1) t = L ++ (pr 0 y ++ [32, 63, 32] ++ pr (-1) x ++ [32, 58, 32] ++ pr (-1) t)) := by show _ = _; simp
 obtain ⟨M1, hM1⟩ : ∃ M1, L ++ pr 0 y = M1 := ⟨_, rfl⟩
 rw [hM1] at hq3 HM1 HEQ
 clear hM1 hlen
 go_wp2_with (first | (at_builtin; refine list_text rfl _ _ rfl hq3 rfl ⟨#[32, 63, 32]⟩ rfl (by have := HM1.out; show M1.length + 3 ≤ _; omega) ?_))
 intro v4 W4 hq4
 obtain ⟨a4, n4, c4, rfl⟩ := hq4.shape
 clear hq3
 have HX4 := hq4.ty _ _ _ _ HX.out (by decide)
 clear y0 y1 y2 y3 
 obtain ⟨y0, y1, y2, y3⟩ := four_box HX4
 clear HX4
 have hkk := keepB (hB.trans hq4.bel)
 have b10 := hkk.cell hg HD1.out.1
 have b11 := hkk.cell hg HD1.out.2.1
 have b12 := hkk.cell hg HD1.out.2.2.1
 have b13 := hkk.cell hg HD1.out.2.2.2
 clear hkk
 have hq4 : Pk B W1 W4 (.slice a4 n4 c4) (M1 ++ [32, 63, 32]) [] := hq4
 have c4' := HAx.out.at HK1.out HT.out hB hq4 (by have := HM1.out; simp only [List.length_append, List.length_cons, List.length_nil]; omega)
 clear hq4
 go_wp2_with fail
 refine c4'.mono ?_
 rintro e W5 ⟨v5, rfl, hq5⟩
 obtain ⟨a5, n5, c5, rfl⟩ := hq5.shape
 clear c4'
 have HX5 := hq5.ty _ _ _ _ HX.out (by decide)
 clear y0 y1 y2 y3 b10 b11 b12 b13
 obtain ⟨y0, y1, y2, y3⟩ := four_box HX5
 clear HX5
 have HM2 : Hid ((M1 ++ [32, 63, 32] ++ pr (-1) x).length + (pr (-1) t).length + 3 ≤ 100000000000) := by have := HM1.out; show _ ≤ _; simp only [List.length_append, List.length_cons, List.length_nil]; omega
 obtain ⟨M2, hM2⟩ : ∃ M2, M1 ++ [32, 63, 32] ++ pr (-1) x = M2 := ⟨_, rfl⟩
 rw [hM2] at hq5 HM2 HEQ
 clear hM2
 go_wp2_with (first | (at_builtin; refine list_text rfl _ _ rfl hq5 rfl ⟨#[32, 58, 32]⟩ rfl (by have := HM2.out; show M2.length + 3 ≤ _; omega) ?_))
 intro v6 W6 hq6
 obtain ⟨a6, n6, c6, rfl⟩ := hq6.shape
 clear hq5
 have HX6 := hq6.ty _ _ _ _ HX.out (by decide)
 clear y0 y1 y2 y3 
 obtain ⟨y0, y1, y2, y3⟩ := four_box HX6
 clear HX6
 have hkk := keepB (hB.trans hq6.bel)
 have b20 := hkk.cell hg HD2.out.1
 have b21 := hkk.cell hg HD2.out.2.1
 have b22 := hkk.cell hg HD2.out.2.2.1
 have b23 := hkk.cell hg HD2.out.2.2.2
 clear hkk
 have hq6 : Pk B W1 W6 (.slice a6 n6 c6) (M2 ++ [32, 58, 32]) [] := hq6
 have c6' := HAt.out.at HK2.out HT.out hB hq6 (by have := HM2.out; simp only [List.length_append, List.length_cons, List.length_nil]; omega)
 clear hq6
 go_wp2_with fail
 refine c6'.mono ?_
 rintro e W9 ⟨v9, rfl, hq9⟩
 clear c6'
 have HP9 : Hid (Pk B W W9 v9 (L ++ (pr 0 y ++ [32, 63, 32] ++ pr (-1) x ++ [32, 58, 32] ++ pr (-1) t)) []) := by show Pk B W W9 v9 _ []; rw [← HEQ.out]; exact hp0.out.trans hq9
 obtain ⟨a9, n9, c9, rfl⟩ := hq9.shape
 clear hq9
 go_wp2_with fail
 go_ret
 exact ⟨_, rfl, HP9.out⟩
theorem expr_bin {m : Nat} {y x : Ex} {o i l z : Int} {sg : ByteArray} {s : ByteArray} (hr : 1 ≤ o ∧ o ≤ 31) (hlv : lvl o = l) (hsg : (⟨(sgo o).toArray⟩ : ByteArray) = sg) (hl0 : 0 ≤ l) (hl10 : l ≤ 10) (hz : ¬ l < z) (hy : Ap m l y) (hx : Ap m (l + 1) x) {B : Nat} {W : World} {v u : Value} {L : List UInt8} (hin : XBase.In false (fun b => b < B) W (m + 1) u (.mk o i s [y, x])) (hT : ∀ W', Below B W W' → Digits.Tab W') (hp : Pk B W W v L []) (hl : L.length + (pr l y ++ [32] ++ sg.data.toList ++ [32] ++ pr (l + 1) x).length ≤ 100000000000) :
  Calls Tryz.prog 30 #[v, u, .int .i64 z] W fun e w' => ∃ v', e = .returned v' ∧ Pk B W w' v' (L ++ (pr l y ++ [32] ++ sg.data.toList ++ [32] ++ pr (l + 1) x)) [] := by
 obtain ⟨m', lv, hm, hu, hoo, hi, hs, hL⟩ := hin.shape
 obtain rfl : m = m' := by omega
 have hL0 := hL
 obtain ⟨a, cap, rfl, hcap, hcap2, hLr⟩ := hL0
 obtain ⟨g, oo, v0, v1, v2, v3, rfl, hg, d0, d1, d2, d3, hk0⟩ := kid hL (j := 0) (by show 0 < 2; omega)
 have HK0 : Hid (XBase.In false (fun b => b < B) W m (.agg #[v0, v1, v2, v3]) y) := hk0
 have HD0 : Hid (W.cell? ⟨g, oo, none⟩ = some v0 ∧ W.cell? ⟨g, oo + 1, none⟩ = some v1 ∧ W.cell? ⟨g, oo + 2, none⟩ = some v2 ∧ W.cell? ⟨g, oo + 3, none⟩ = some v3) := ⟨by simpa [Nat.add_assoc] using d0, by simpa [Nat.add_assoc] using d1, by simpa [Nat.add_assoc] using d2, by simpa [Nat.add_assoc] using d3⟩
 clear hk0 d0 d1 d2 d3
 obtain ⟨g1, o1, p10, p11, p12, p13, E1, _, b10, b11, b12, b13, hk1⟩ := kid hL (j := 1) (by show 1 < 2; omega)
 cases E1
 have HK1 : Hid (XBase.In false (fun b => b < B) W m (.agg #[p10, p11, p12, p13]) x) := hk1
 have HD1 : Hid (W.cell? ⟨g, oo + 4, none⟩ = some p10 ∧ W.cell? ⟨g, oo + 5, none⟩ = some p11 ∧ W.cell? ⟨g, oo + 6, none⟩ = some p12 ∧ W.cell? ⟨g, oo + 7, none⟩ = some p13) := ⟨by simpa [Nat.add_assoc] using b10, by simpa [Nat.add_assoc] using b11, by simpa [Nat.add_assoc] using b12, by simpa [Nat.add_assoc] using b13⟩
 clear hk1 b10 b11 b12 b13
 have hcap : 2 ≤ cap := hcap
 have hu : u = .agg #[.int .i64 o, .int .i64 i, .string s, .slice (some ⟨g, oo, none⟩) 2 cap] := hu
 have hoo : -9223372036854775808 ≤ o ∧ o ≤ 9223372036854775807 := hoo
 have hi : -9223372036854775808 ≤ i ∧ i ≤ 9223372036854775807 := hi
 have hs : s.size ≤ 140737488351232 := hs
 have HT : Hid (∀ W', Below B W W' → Digits.Tab W') := hT
 have HAy : Hid (Ap m l y) := hy
 clear hy
 have HAx : Hid (Ap m (l + 1) x) := hx
 clear hx
 have HL : Hid (L.length + (pr l y ++ [32] ++ sg.data.toList ++ [32] ++ pr (l + 1) x).length ≤ 100000000000) := hl
 have hll : L.length ≤ 100000000000 := by omega
 have hsz := hp.le
 clear hin hT hLr hl hL hm
 subst hu
 obtain ⟨ap, np, cp, rfl⟩ := hp.shape
 obtain ⟨W1, hW1⟩ : ∃ W1, W.alloc (.cells #[.int .i64 o, .int .i64 i, .string s, .slice (some ⟨g, oo, none⟩) 2 cap] 24) = W1 := ⟨_, rfl⟩
 have hb0 : Below W.heap.size W W1 := by rw [← hW1]; exact (Below.refl _ W).alloc (Nat.le_refl _) _
 have hp0 : Hid (Pk B W W1 (.slice ap np cp) L []) := hp.below hb0
 have hbx : W1.heap[W.heap.size]? = some (.cells #[.int .i64 o, .int .i64 i, .string s, .slice (some ⟨g, oo, none⟩) 2 cap] 24 (0, 0)) := by rw [← hW1]; exact heap_alloc_new W _
 have HX : Hid (W1.heap[W.heap.size]? = some (.cells #[.int .i64 o, .int .i64 i, .string s, .slice (some ⟨g, oo, none⟩) 2 cap] 24 (0, 0))) := hbx
 have hp1 := Pk.start hp0.out.own hp0.out.le hp0.out.nil
 obtain ⟨y0, y1, y2, y3⟩ := four_box hbx
 have hB : Below B W W1 := hb0.mono hp.le
 clear hp hbx
 have hkk := keepB hB
 have d0 := hkk.cell hg HD0.out.1
 have d1 := hkk.cell hg HD0.out.2.1
 have d2 := hkk.cell hg HD0.out.2.2.1
 have d3 := hkk.cell hg HD0.out.2.2.2
 clear hkk
 have hlen : L.length + (pr l y).length + sg.size + (pr (l + 1) x).length + 2 ≤ 100000000000 := by have := HL.out; simp only [List.length_append, List.length_cons, List.length_nil, size_list] at this; omega
 have cP := placeOf_c hr.1 hr.2 W1
 rw [hlv, hsg] at cP
 have dz : decide (l < z) = false := decide_eq_false hz
 have e1 : (l == -1) = false := by simp; omega
 have e2 : (l == 11) = false := by simp; omega
 have e3 : (l == 12) = false := by simp; omega
 have hwr : IntKind.i64.wrap (l + 1) = l + 1 := by rw [IntKind.wrap_i64]; omega
 clear hz d0 d1 d2 d3 hlv hsg hr
 go_enter Tryz.func30, Tryz.ntmps30
 go_wp2_with fail
 refine cP.mono ?_
 rintro e W2 ⟨rfl, b2⟩
 have hq2 := hp1.below b2
 have HX2 := hq2.ty _ _ _ _ HX.out (by decide)
 clear y0 y1 y2 y3 cP hp1 hW1
 obtain ⟨y0, y1, y2, y3⟩ := four_box HX2
 clear HX2
 have hkk := keepB (hB.trans hq2.bel)
 have d0 := hkk.cell hg HD0.out.1
 have d1 := hkk.cell hg HD0.out.2.1
 have d2 := hkk.cell hg HD0.out.2.2.1
 have d3 := hkk.cell hg HD0.out.2.2.2
 clear hkk
 have c2 := HAy.out.at HK0.out HT.out hB hq2 (by omega)
 go_wp2_with fail
 refine c2.mono ?_
 rintro e W3 ⟨v3', rfl, hq3⟩
 obtain ⟨a3, n3, c3, rfl⟩ := hq3.shape
 clear c2 hq2
 have HX3 := hq3.ty _ _ _ _ HX.out (by decide)
 clear y0 y1 y2 y3 d0 d1 d2 d3
 obtain ⟨y0, y1, y2, y3⟩ := four_box HX3
 clear HX3
 have HM1 : Hid ((L ++ pr l y).length + sg.size + (pr (l + 1) x).length + 2 ≤ 100000000000) := by show _ ≤ _; simp only [List.length_append]; omega
 have HEQ : Hid (L ++ pr l y ++ [32] ++ sg.data.toList ++ [32] ++ pr (l + 1) x = L ++ (pr l y ++ [32] ++ sg.data.toList ++ [32] ++ pr (l + 1) x)) := by show _ = _; simp
 obtain ⟨M1, hM1⟩ : ∃ M1, L ++ pr l y = M1 := ⟨_, rfl⟩
 rw [hM1] at hq3 HM1 HEQ
 have hq3 := hq3.lay [32] #[.int .u8 32] rfl
 clear hM1 hlen
 go_wp2_with (first | (at_builtin; refine list_bytes rfl _ _ rfl hq3 rfl _ _ [32] rfl (by simp) (by have := HM1.out; simp only [List.length_cons, List.length_nil]; omega) ?_))
 intro v4 W4 hq4
 obtain ⟨a4, n4, c4, rfl⟩ := hq4.shape
 have hq4 := hq4.bare
 clear hq3
 have HX4 := hq4.ty _ _ _ _ HX.out (by decide)
 clear y0 y1 y2 y3 
 obtain ⟨y0, y1, y2, y3⟩ := four_box HX4
 clear HX4
 have hq4 : Pk B W1 W4 (.slice a4 n4 c4) (M1 ++ [32]) [] := hq4
 go_wp2_with (first | (at_builtin; refine list_text rfl _ _ rfl hq4 rfl sg rfl (by have := HM1.out; simp only [List.length_append, List.length_cons, List.length_nil]; omega) ?_))
 intro v5 W5 hq5
 have hq5 : Pk B W1 W5 v5 (M1 ++ [32] ++ sg.data.toList) [] := by simpa using hq5
 have HM2 : Hid ((M1 ++ [32] ++ sg.data.toList).length + (pr (l + 1) x).length + 1 ≤ 100000000000) := by have := HM1.out; show _ ≤ _; simp only [List.length_append, List.length_cons, List.length_nil, size_list]; omega
 obtain ⟨M2, hM2⟩ : ∃ M2, M1 ++ [32] ++ sg.data.toList = M2 := ⟨_, rfl⟩
 rw [hM2] at hq5 HM2 HEQ
 obtain ⟨a5, n5, c5, rfl⟩ := hq5.shape
 clear hM2 hq4
 have HX5 := hq5.ty _ _ _ _ HX.out (by decide)
 clear y0 y1 y2 y3 
 obtain ⟨y0, y1, y2, y3⟩ := four_box HX5
 clear HX5
 have hq6 := hq5.lay [32] #[.int .u8 32] rfl
 clear hq5
 go_wp2_with (first | (at_builtin; refine list_bytes rfl _ _ rfl hq6 rfl _ _ [32] rfl (by simp) (by have := HM2.out; simp only [List.length_cons, List.length_nil]; omega) ?_))
 intro v7 W7 hq7
 obtain ⟨a7, n7, c7, rfl⟩ := hq7.shape
 have hq7 := hq7.bare
 clear hq6
 have HX7 := hq7.ty _ _ _ _ HX.out (by decide)
 clear y0 y1 y2 y3 
 obtain ⟨y0, y1, y2, y3⟩ := four_box HX7
 clear HX7
 have hkk := keepB (hB.trans hq7.bel)
 have b10 := hkk.cell hg HD1.out.1
 have b11 := hkk.cell hg HD1.out.2.1
 have b12 := hkk.cell hg HD1.out.2.2.1
 have b13 := hkk.cell hg HD1.out.2.2.2
 clear hkk
 have hq7 : Pk B W1 W7 (.slice a7 n7 c7) (M2 ++ [32]) [] := hq7
 have c7' := HAx.out.at HK1.out HT.out hB hq7 (by have := HM2.out; simp only [List.length_append, List.length_cons, List.length_nil]; omega)
 clear hq7
 go_wp2_with fail
 refine c7'.mono ?_
 rintro e W9 ⟨v9, rfl, hq9⟩
 clear c7'
 have HP9 : Hid (Pk B W W9 v9 (L ++ (pr l y ++ [32] ++ sg.data.toList ++ [32] ++ pr (l + 1) x)) []) := by show Pk B W W9 v9 _ []; rw [← HEQ.out]; exact hp0.out.trans hq9
 obtain ⟨a9, n9, c9, rfl⟩ := hq9.shape
 clear hq9
 go_wp2_with fail
 go_ret
 exact ⟨_, rfl, HP9.out⟩
end Go.Proofs.YtghnhkagkngjcaaGreatDoor.PPd
namespace Go.Proofs.YtghnhkagkngjcaaGreatDoor.PPe
open Go.RowKit Base EPure ENd PPk PPl PFit PPr PBt PSg PPa PPb PPc PPd
theorem pr_open {z o i : Int} {s : ByteArray} {l : List Ex} (h : ¬ lvl o < z) : pr z (.mk o i s l) = bdy o i s (prL l (kl o)) := by
 show PPr.par z o (bdy o i s (prL l (kl o))) = _
 unfold PPr.par
 rw [if_neg h]
theorem pr_shut {z : Int} {x : Ex} (h : lvl x.o < z) : pr z x = 40 :: pr (-1) x ++ [41] := by
 have h1 : ¬ lvl x.o < -1 := by have := lvl_ge x.o; omega
 unfold pr PPr.par
 rw [if_pos h, if_neg h1]
theorem one_of {l : List Ex} (h : l.length = 1) : ∃ y, l = [y] := by
 match l, h with
 | [y], _ => exact ⟨y, rfl⟩
theorem two_of {l : List Ex} (h : l.length = 2) : ∃ y x, l = [y, x] := by
 match l, h with
 | [y, x], _ => exact ⟨y, x, rfl⟩
theorem three_of {l : List Ex} (h : l.length = 3) : ∃ y x t, l = [y, x, t] := by
 match l, h with
 | [y, x, t], _ => exact ⟨y, x, t, rfl⟩
theorem kd_bin {o : Int} (h1 : 12 ≤ o) (h2 : o ≤ 30) : kd o = 2 := by
 unfold kd
 rw [if_neg (by omega), if_neg (by omega), if_pos (by omega)]
theorem lvl_bin {o : Int} (h1 : 12 ≤ o) (h2 : o ≤ 30) : 0 ≤ lvl o ∧ lvl o ≤ 10 := by
 unfold lvl
 repeat' split
 all_goals omega
theorem lvl_part {o : Int} (h1 : 1 ≤ o) (h2 : o ≤ 9) : lvl o = 12 := by
 unfold lvl
 repeat' rw [if_neg (by omega)]
theorem kl_bin {o : Int} (h1 : 12 ≤ o) (h2 : o ≤ 30) : kl o = [lvl o, lvl o + 1] := by
 unfold kl
 repeat' rw [if_neg (by omega)]
theorem bdy_bin {o i : Int} {s : ByteArray} {p q : List UInt8} (h1 : 12 ≤ o) (h2 : o ≤ 30) : bdy o i s [p, q] = p ++ [32] ++ sgo o ++ [32] ++ q := by
 unfold bdy
 repeat' rw [if_neg (by omega)]
 rfl
theorem bdy_word {o i : Int} {s : ByteArray} {p : List (List UInt8)} (h1 : 1 ≤ o) (h2 : o ≤ 3) : bdy o i s p = (wdl.getD o.toNat ByteArray.empty).data.toList := by
 unfold bdy
 iterate 9 rw [if_neg (by omega)]
 rw [if_pos h2]
theorem str_len {i : Int} {s : ByteArray} (h : ft 5 i s = true) : s.size ≤ 4096 := by
 have h : ((i == 0) && tx s) = true := h
 simp only [tx, tg, Bool.and_eq_true, decide_eq_true_eq] at h
 exact h.2.1.1
theorem call_rg {i : Int} {s : ByteArray} (h : ft 9 i s = true) : 1 ≤ i ∧ i ≤ 8 := by
 have h : ((decide (1 ≤ i) && decide (i ≤ 8)) && (s.size == 0)) = true := h
 simp only [Bool.and_eq_true, decide_eq_true_eq] at h
 exact h.1
theorem part_all {m : Nat} {o i : Int} {s : ByteArray} {l : List Ex} (ih : ∀ x : Ex, gd x → ∀ z, Ap m z x) (hg : gd (.mk o i s l)) (h1 : 1 ≤ o) (h9 : o ≤ 9) : Cl 48 (m + 1) (.mk o i s l) (bdy o i s (prL l (kl o))) := by
 obtain ⟨hn, hf, hk⟩ := hg
 have hn : (l.length : Int) = kd o := hn
 have hf : ft o i s = true := hf
 have hk : gdL l := hk
 intro B W v u L hin hT hp hl
 by_cases h3 : o ≤ 3
 ·have hkd : kd o = 0 := by unfold kd; rw [if_pos (by omega)]
  obtain rfl : l = [] := List.length_eq_zero_iff.1 (by omega)
  rw [bdy_word h1 h3] at hl ⊢
  exact part_word h1 h3 hin hT hp hl
 have ho : o = 4 ∨ o = 5 ∨ o = 6 ∨ o = 7 ∨ o = 8 ∨ o = 9 := by omega
 rcases ho with rfl | rfl | rfl | rfl | rfl | rfl
 ·obtain rfl : l = [] := List.length_eq_zero_iff.1 (by have : kd 4 = 0 := rfl; omega)
  exact part_int hin hT hp hl
 ·obtain rfl : l = [] := List.length_eq_zero_iff.1 (by have : kd 5 = 0 := rfl; omega)
  exact part_str (str_len hf) hin hT hp hl
 ·obtain rfl : l = [] := List.length_eq_zero_iff.1 (by have : kd 6 = 0 := rfl; omega)
  exact part_var hin hT hp hl
 ·obtain ⟨y, rfl⟩ := one_of (l := l) (by have : kd 7 = 1 := rfl; omega)
  have e : bdy 7 i s (prL [y] (kl 7)) = pr 12 y ++ [46] ++ s.data.toList := by rw [show kl 7 = [12] from rfl, pr1]; rfl
  rw [e] at hl ⊢
  exact part_field (ih y (gdL_cons.1 hk).1 12) hin hT hp hl
 ·obtain ⟨y, x, rfl⟩ := two_of (l := l) (by have : kd 8 = 2 := rfl; omega)
  have e : bdy 8 i s (prL [y, x] (kl 8)) = pr 12 y ++ (91 :: pr (-1) x ++ [93]) := by rw [show kl 8 = [12, -1] from rfl, pr2]; rfl
  rw [e] at hl ⊢
  exact part_index (ih y (gdL_cons.1 hk).1 12) (ih x (gdL_cons.1 (gdL_cons.1 hk).2).1 (-1)) hin hT hp hl
 ·obtain ⟨y, rfl⟩ := one_of (l := l) (by have : kd 9 = 1 := rfl; omega)
  have e : bdy 9 i s (prL [y] (kl 9)) = (cll.getD i.toNat ByteArray.empty).data.toList ++ (40 :: pr (-1) y ++ [41]) := by rw [show kl 9 = [-1] from rfl, pr1]; rfl
  rw [e] at hl ⊢
  exact part_call (call_rg hf).1 (call_rg hf).2 (ih y (gdL_cons.1 hk).1 (-1)) hin hT hp hl
theorem open_all {m : Nat} {o i : Int} {s : ByteArray} {l : List Ex} (ih : ∀ x : Ex, gd x → ∀ z, Ap m z x) (hg : gd (.mk o i s l)) {z : Int} (hz : ¬ lvl o < z) : Ap (m + 1) z (.mk o i s l) := by
 have hr := gd_range hg
 have hr : 1 ≤ o ∧ o ≤ 31 := hr
 have hn : (l.length : Int) = kd o := hg.1
 have hk : gdL l := hg.2.2
 intro B W v u L hin hT hp hl
 rw [pr_open hz] at hl ⊢
 by_cases h9 : o ≤ 9
 ·exact expr_part (x := .mk o i s l) hr hz (lvl_part hr.1 h9) (part_all ih hg hr.1 h9) hin hT hp hl
 by_cases h11 : o = 10 ∨ o = 11
 ·rcases h11 with rfl | rfl
  ·obtain ⟨y, rfl⟩ := one_of (l := l) (by have : kd 10 = 1 := rfl; omega)
   have e : bdy 10 i s (prL [y] (kl 10)) = 45 :: pr 11 y := by rw [show kl 10 = [11] from rfl, pr1]; rfl
   rw [e] at hl ⊢
   refine expr_sign (x := .mk _ i s [y]) hr hz rfl (R := 45 :: pr 11 y) ?_ hin hT hp hl
   intro B W v u L hin hT hp hl
   exact signed_c (k := 45) (.inl ⟨rfl, rfl, rfl⟩) (ih y (gdL_cons.1 hk).1 11) hin hT hp (by simp only [List.length_cons] at hl; omega)
  ·obtain ⟨y, rfl⟩ := one_of (l := l) (by have : kd 11 = 1 := rfl; omega)
   have e : bdy 11 i s (prL [y] (kl 11)) = 33 :: pr 11 y := by rw [show kl 11 = [11] from rfl, pr1]; rfl
   rw [e] at hl ⊢
   refine expr_sign (x := .mk _ i s [y]) hr hz rfl (R := 33 :: pr 11 y) ?_ hin hT hp hl
   intro B W v u L hin hT hp hl
   exact signed_c (k := 33) (.inr ⟨rfl, rfl, rfl⟩) (ih y (gdL_cons.1 hk).1 11) hin hT hp (by simp only [List.length_cons] at hl; omega)
 by_cases h31 : o = 31
 ·subst h31
  obtain ⟨y, x, t, rfl⟩ := three_of (l := l) (by have : kd 31 = 3 := rfl; omega)
  have e : bdy 31 i s (prL [y, x, t] (kl 31)) = pr 0 y ++ [32, 63, 32] ++ pr (-1) x ++ [32, 58, 32] ++ pr (-1) t := by rw [show kl 31 = [0, -1, -1] from rfl, pr3]; rfl
  rw [e] at hl ⊢
  have hz1 : z ≤ -1 := by have : lvl 31 = -1 := rfl; omega
  exact expr_choice hz1 (ih y (gdL_cons.1 hk).1 0) (ih x (gdL_cons.1 (gdL_cons.1 hk).2).1 (-1)) (ih t (gdL_cons.1 (gdL_cons.1 (gdL_cons.1 hk).2).2).1 (-1)) hin hT hp hl
 have h12 : 12 ≤ o := by omega
 have h30 : o ≤ 30 := by omega
 obtain ⟨y, x, rfl⟩ := two_of (l := l) (by have := kd_bin h12 h30; omega)
 have e : bdy o i s (prL [y, x] (kl o)) = pr (lvl o) y ++ [32] ++ (⟨(sgo o).toArray⟩ : ByteArray).data.toList ++ [32] ++ pr (lvl o + 1) x := by rw [kl_bin h12 h30, pr2, bdy_bin h12 h30]
 rw [e] at hl ⊢
 exact expr_bin hr rfl rfl (lvl_bin h12 h30).1 (lvl_bin h12 h30).2 hz (ih y (gdL_cons.1 hk).1 _) (ih x (gdL_cons.1 (gdL_cons.1 hk).2).1 _) hin hT hp hl
theorem expr_all : ∀ (m : Nat) (x : Ex), gd x → ∀ z, Ap m z x := by
 intro m
 induction m with
 | zero =>
  intro x _ z B W v u L hin
  obtain ⟨m', _, h, _⟩ := hin.shape
  exact absurd h (by omega)
 | succ m ih =>
  intro x hg z
  obtain ⟨o, i, s, l⟩ := x
  by_cases hz : lvl o < z
  ·have h1 : ¬ lvl o < -1 := by have := lvl_ge o; omega
   have hc : Ap (m + 1) (-1) (.mk o i s l) := open_all ih hg h1
   intro B W v u L hin hT hp hl
   rw [pr_shut (x := .mk o i s l) hz] at hl ⊢
   exact expr_par (x := .mk o i s l) (gd_range hg) hz hc hin hT hp hl
  ·exact open_all ih hg hz
end Go.Proofs.YtghnhkagkngjcaaGreatDoor.PPe
namespace Go.Proofs.YtghnhkagkngjcaaGreatDoor.PPp
open Go.RowKit Base EPure ERd ETx PPk PMay PPr PBt PPe
open XBase (four_box)
def ptx (x : Ex) : List UInt8 := if (mayL [x] 512).1 = true then pr (-1) x else []
def pcd (x : Ex) : Int := if (mayL [x] 512).1 = true then 0 else 1003
theorem print_c {m : Nat} {x : Ex} {w : World} {u : Value} (hin : XBase.In false (fun b => b < w.heap.size) w m u x) (hT : ∀ W', Below w.heap.size w W' → Digits.Tab W') (hl : (mayL [x] 512).1 = true → (pr (-1) x).length ≤ 100000000000) :
  Calls Tryz.prog 21 #[u] w fun e w' => e = .returned (.tuple #[.string ⟨(ptx x).toArray⟩, .int .i64 (pcd x)]) ∧ Below w.heap.size w w' := by
 obtain ⟨m', lv, rfl, hu, ho, hi, hs, hL⟩ := hin.shape
 obtain ⟨a, cap, rfl, hLr⟩ := hL
 have HIN : Hid (XBase.In false (fun b => b < w.heap.size) w (m' + 1) u x) := hin
 have HT : Hid (∀ W', Below w.heap.size w W' → Digits.Tab W') := hT
 clear hin hLr hT
 subst hu
 obtain ⟨W1, hW1⟩ : ∃ W1, w.alloc (.cells #[.int .i64 x.o, .int .i64 x.i, .string x.s, .slice a x.l.length cap] 24) = W1 := ⟨_, rfl⟩
 have b1 : Below w.heap.size w W1 := by rw [← hW1]; exact (Below.refl _ w).alloc (Nat.le_refl _) _
 have hs1 : W1.heap.size = w.heap.size + 1 := by rw [← hW1]; simp
 have hbx : W1.heap[w.heap.size]? = some (.cells #[.int .i64 x.o, .int .i64 x.i, .string x.s, .slice a x.l.length cap] 24 (0, 0)) := by rw [← hW1]; exact heap_alloc_new w _
 have HBX1 : Hid (W1.heap[w.heap.size]? = some (.cells #[.int .i64 x.o, .int .i64 x.i, .string x.s, .slice a x.l.length cap] 24 (0, 0))) := hbx
 have cM := may_c (m := m' + 1) (w := W1) (x := x) ((HIN.out.keep (keepB b1)).weak (S' := fun _ => True) (fun b _ => trivial) false id (m' + 1) (Nat.le_refl _))
 obtain ⟨y0, y1, y2, y3⟩ := four_box hbx
 have HS1 : Hid (W1.heap.size = w.heap.size + 1) := hs1
 have HB1 : Hid (Below w.heap.size w W1) := b1
 clear hbx b1 hs1
 unfold ptx pcd
 cases hm : (mayL [x] 512).1 with
 | false =>
  rw [hm] at cM
  simp only [Bool.false_eq_true, if_false]
  clear hl hm
  go_enter Tryz.func21, Tryz.ntmps21
  go_wp2_with fail
  refine cM.mono ?_
  rintro e W3 ⟨rfl, b3⟩
  clear y0 y1 y2 y3 hW1 cM
  go_wp2_with fail
  go_ret2
  exact ⟨rfl, nx HB1.out b3⟩
 | true =>
  rw [hm] at cM
  simp only [if_true]
  have HG : Hid (gd x) := (gdL_cons.1 (gd_of _ [x] 512 (Nat.le_refl _) hm)).1
  have HLN : Hid ((pr (-1) x).length ≤ 100000000000) := hl hm
  clear hl hm
  go_enter Tryz.func21, Tryz.ntmps21
  go_wp2_with fail
  refine cM.mono ?_
  rintro e W3 ⟨rfl, b3⟩
  clear y0 y1 y2 y3 hW1 cM
  have hb3 : Below w.heap.size w W3 := nx HB1.out b3
  have hbx3 := (b3.block w.heap.size (by have := HS1.out; omega)).trans HBX1.out
  obtain ⟨y0, y1, y2, y3⟩ := four_box hbx3
  have hsz := hb3.size
  have cE := expr_all (m' + 1) x HG.out (-1) w.heap.size W3 (.slice none 0 0) _ [] (HIN.out.keep (keepB hb3)) (fun W' hW => HT.out W' (hb3.trans hW)) (Pk.start (World.ownsRow_nil _ _ _ _) hsz (by simp)) (by have := HLN.out; simp only [List.length_nil]; omega)
  have HB3 : Hid (Below w.heap.size w W3) := hb3
  clear hb3 hbx3 b3
  go_wp2_with fail
  refine cE.mono ?_
  rintro e W4 ⟨v4, rfl, hq4⟩
  have hconv := own_conv hq4.own
  have HB4 : Hid (Below w.heap.size w W4) := HB3.out.trans hq4.bel
  obtain ⟨a4, n4, c4, rfl⟩ := hq4.shape
  rw [List.nil_append] at hconv
  obtain ⟨X, hX⟩ : ∃ X, pr (-1) x = X := ⟨_, rfl⟩
  have HXE : Hid (pr (-1) x = X) := hX
  rw [hX] at hconv
  clear hq4 cE y0 y1 y2 y3 hX
  go_wp2_with fail
  go_ret2
  rw [HXE.out]
  exact ⟨rfl, HB4.out⟩
end Go.Proofs.YtghnhkagkngjcaaGreatDoor.PPp
namespace Go.Proofs.YtghnhkagkngjcaaGreatDoor.ERg
open EPure
def rgL : List Ex → Prop
 | [] => True
 | .mk o i s l :: t => (-9223372036854775808 ≤ i ∧ i ≤ 9223372036854775807) ∧ rgL l ∧ rgL t
theorem rgL_cons {x : Ex} {t : List Ex} : rgL (x :: t) ↔ (-9223372036854775808 ≤ x.i ∧ x.i ≤ 9223372036854775807) ∧ rgL x.l ∧ rgL t := by
 obtain ⟨o, i, s, l⟩ := x
 rw [rgL]
 exact Iff.rfl
theorem rgL_all : ∀ {l : List Ex}, (∀ j (h : j < l.length), rgL [l[j]]) → rgL l
 | [], _ => by rw [rgL]; trivial
 | x :: t, h => by
  have h0 := rgL_cons.1 (h 0 (by simp))
  have ht := rgL_all (l := t) fun j hj => h (j + 1) (by simp; omega)
  exact rgL_cons.2 ⟨h0.1, h0.2.1, ht⟩
end Go.Proofs.YtghnhkagkngjcaaGreatDoor.ERg

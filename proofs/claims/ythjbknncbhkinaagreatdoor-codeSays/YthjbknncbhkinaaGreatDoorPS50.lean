import Derived.Test.YthjbknncbhkinaaGreatDoorPS27
import Derived.Test.YthjbknncbhkinaaGreatDoorPS36
import Derived.Test.YthjbknncbhkinaaGreatDoorPS42
import Derived.Test.YthjbknncbhkinaaGreatDoorPS43
import Derived.Test.YthjbknncbhkinaaGreatDoorPS44
import Derived.Test.YthjbknncbhkinaaGreatDoorPS49
open Go.Proofs.Tryz
set_option linter.unusedVariables false
set_option maxRecDepth 20000
set_option maxHeartbeats 3200000
namespace Go.Proofs.YthjbknncbhkinaaGreatDoor.NRw
open Go.RowKit Base VJn VRs MBx MSe MDo MCd MPl MRg MRv
open VPure
open CPu (Ins ck)
open CBx (Cx)
def RV2 (m : Nat) (w : World) (X : Except Int C) (e : Ending) (w' : World) : Prop := Below w.heap.size w w' /\ match X with
 | .ok r => ∃ u, e = .returned (.tuple #[u, .int .i64 0]) /\ Base.In false All w' m u r
 | .error n => ∃ u, e = .returned (.tuple #[u, .int .i64 n]) /\ Base.In false All w' m u zerC
theorem way_c {K m : Nat} {w : World} {cv tv sv : Value} {L : List Ins} {T : List ByteArray} {S : List C} (hL : Cx K w cv L) (hT : Tz K w tv T) (hS : Base.InL false (fun b => b < K) w (m + 1) sv S) (hK : K <= w.heap.size) (hOk : ∀ x ∈ L, -9223372036854775808 <= x.2 /\ x.2 <= 9223372036854775807) (hTb : Tb w) (h1 : (T.any fun s => !STx.tg s) = false) (h2 : ck L T.length S.length = 0) (h3 : S.any MEi.bd = false) :
  Calls prog 22 #[cv, tv, sv] w fun e w' => RV2 (m + 1) w (match mrun L T S L.length 0 [] with
   | .ok r => .ok r
   | .error n => .error (n : Nat)) e w' := by
 have hSA : Base.InL false All w (m + 1) sv S := hS.weak (fun _ _ => trivial) false id _ (Nat.le_refl _)
 have hSw : ∀ c ∈ S, wf c := fun c hc => GWf.code_wf (by
  have : MEi.bd c = false := by
   cases e : MEi.bd c with
   | false => rfl
   | true => rw [List.any_eq_true.2 ⟨c, hc, e⟩] at h3; cases h3
  unfold MEi.bd MEi.cd at this
  simpa using this)
 obtain ⟨hn, H, hh0, hh1, hst⟩ := MHt.ck_st h2
 have hmem : ∀ W, Below w.heap.size w W -> Cx W.heap.size W cv L /\ Tz W.heap.size W tv T /\ Base.InL false (fun b => b < W.heap.size) W (m + 1) sv S /\ TK W.heap.size W := fun W hW => by
  have hz := hW.size
  refine ⟨(hL.below (hW.mono hK)).mono (by omega), ?_, (hS.keep (w' := W) fun b hb hl => hW.block b hl).weak (fun b hb => by show b < W.heap.size; have : b < K := hb; omega) false id _ (Nat.le_refl _), hTb.below hW⟩
  obtain ⟨a, cap, g1, g2, g3, g4⟩ := hT.below (hW.mono hK)
  exact ⟨a, cap, g1, g2, g3, g4.imp id fun ⟨g, o, ha, hg, hc⟩ => ⟨g, o, ha, by omega, hc⟩⟩
 have hrun : ∀ W, Below w.heap.size w W -> ∀ W2, Below W.heap.size W W2 -> Mc W.heap.size (m + 1) W2 (W.heap.size + 2) tv sv nilS [] -> Calls prog 66 #[ptr (W.heap.size + 2), cv] W2 fun e w' => RA W.heap.size (m + 1) (W.heap.size + 2) nilS W2 (mrun L T S L.length 0 []) e w' := fun W hW W2 b2 m2 => by
  obtain ⟨p1, p2, p3, p4⟩ := hmem W hW
  exact run_c (p1.below b2) m2 hn (p2.below b2) (p3.keep (w' := W2) fun b hb _ => b2.block b hb) (p4.below b2) hSw hOk hh0 hh1 hst
 obtain ⟨a1, c1, rfl, -⟩ := id hL
 obtain ⟨a2, c2, rfl, -⟩ := id hT
 obtain ⟨a3, c3, rfl, -⟩ := id hS
 cases hX : mrun L T S L.length 0 [] with
 | ok r =>
  refine (good_c (r := r) (z := 0) hL hT hSA hK h1 h2 h3 fun W hW => MCo.code_ok fun W2 b2 m2 => ?_).mono fun e w' ⟨u, he, hin, hb⟩ => ⟨hb, u, he, hin⟩
  have := hrun W hW W2 b2 m2
  rw [hX] at this
  exact this
 | error n =>
  have cE : ∀ W, Below w.heap.size w W -> Calls prog 42 #[.slice a1 L.length c1, .slice a2 T.length c2, .slice a3 S.length c3] W fun e w' => ∃ u, e = .returned (.tuple #[u, .int .i64 (n : Nat)]) /\ Base.In false (fun b => b < W.heap.size) w' (m + 1) u zerC /\ Below W.heap.size W w' := fun W hW => by
   refine (MCg.code_err (m := m + 1) (n0 := n) fun W2 b2 m2 => ?_).mono fun e w' ⟨he, hb⟩ => ⟨_, he, in_v0 _ w' m false (by decide) (by decide) (by decide), hb⟩
   have := hrun W hW W2 b2 m2
   rw [hX] at this
   exact this
  refine (good_c (r := zerC) (z := (n : Nat)) hL hT hSA hK h1 h2 h3 cE).mono fun e w' ⟨u, he, hin, hb⟩ => ⟨hb, u, he, hin⟩
theorem bad_text {K m : Nat} {w : World} {cv tv sv : Value} {L : List Ins} {T : List ByteArray} {S : List C} (hL : Cx K w cv L) (hT : Tz K w tv T) (hS : Base.InL false All w (m + 1) sv S) (hK : K <= w.heap.size) (h1 : (T.any fun s => !STx.tg s) = true) :
  Calls prog 22 #[cv, tv, sv] w fun e w' => RV2 (m + 1) w (.error 2000) e w' := by
 obtain ⟨W0, hW0⟩ : ∃ W0, w.alloc (.cells #[.int .i64 0, .bool false, .int .i64 0, .string ⟨#[]⟩, .slice none 0 0, .slice none 0 0] 46) = W0 := ⟨_, rfl⟩
 have b0 : Below w.heap.size w W0 := by rw [<- hW0]; exact (Below.refl _ w).alloc (Nat.le_refl _) _
 have s0 : W0.heap.size = w.heap.size + 1 := by rw [<- hW0]; simp
 have x0 : W0.heap[w.heap.size]? = some (.cells #[.int .i64 0, .bool false, .int .i64 0, .string ⟨#[]⟩, .slice none 0 0, .slice none 0 0] 46 (0, 0)) := by rw [<- hW0]; exact heap_alloc_new w _
 have cT := METx.contains_c (hT.below (b0.mono hK)) (by omega)
 rw [h1] at cT
 have HL : Hid (Cx K w cv L) := hL
 have HS : Hid (Base.InL false All w (m + 1) sv S) := hS
 have HB0 : Hid _ := b0
 have HX0 : Hid _ := x0
 obtain ⟨a1, c1, rfl, hl1, hl2, -⟩ := hL
 obtain ⟨a2, c2, rfl, ht1, ht2, -⟩ := hT
 obtain ⟨a3, c3, rfl, hs1, hs2, -⟩ := hS
 clear b0 x0 h1
 go_enter func22, ntmps22
 go_wp2_with fail
 try rw [hW0]
 refine cT.mono ?_
 rintro e W1 ⟨rfl, b1⟩
 have hb1 : Below w.heap.size w W1 := HB0.out.trans (b1.mono (by omega))
 have y1 := (b1.block w.heap.size (by omega)).trans HX0.out
 obtain ⟨W9, hW9⟩ : ∃ W9, (((((W1.setCell ⟨w.heap.size, 0, none⟩ (.int .i64 0)).setCell ⟨w.heap.size, 1, none⟩ (.bool false)).setCell ⟨w.heap.size, 2, none⟩ (.int .i64 0)).setCell ⟨w.heap.size, 3, none⟩ (.string ⟨#[]⟩)).setCell ⟨w.heap.size, 4, none⟩ (.slice none 0 0)).setCell ⟨w.heap.size, 5, none⟩ (.slice none 0 0) = W9 := ⟨_, rfl⟩
 obtain ⟨q1, q2, q3, q4⟩ := set6 _ _ _ _ _ _ y1 hW9
 have HE : Hid (Below w.heap.size w W9) := q4 _ _ (Nat.le_refl _) hb1
 have HQ1 : Hid _ := q1
 have HW9 : Hid (_ = W9) := hW9
 obtain ⟨v0', v1', v2', v3', v4', v5'⟩ := six_box y1
 have g0 := frozen_box y1 0
 have g1 := frozen_box y1 1
 have g2 := frozen_box y1 2
 have g3 := frozen_box y1 3
 have g4 := frozen_box y1 4
 have g5 := frozen_box y1 5
 clear cT b1 hb1 y1 q1 q2 q3 q4 hW9
 go_wp2_with fail
 rw [HW9.out]
 refine bodyPost_ret (Part.res_row_tmp rfl _ W9 w.heap.size 46 _ (0, 0) _ rfl HQ1.out underlying46 rfl (by kernel_rfl)) rfl ?_
 exact ⟨HE.out, _, rfl, in_v0 _ _ m false (by decide) (by decide) (by decide)⟩
theorem bad_code {K m : Nat} {w : World} {cv tv sv : Value} {L : List Ins} {T : List ByteArray} {S : List C} (hL : Cx K w cv L) (hT : Tz K w tv T) (hS : Base.InL false All w (m + 1) sv S) (hK : K <= w.heap.size) (h1 : (T.any fun s => !STx.tg s) = false) (h2 : ck L T.length S.length ≠ 0) :
  Calls prog 22 #[cv, tv, sv] w fun e w' => RV2 (m + 1) w (.error (ck L T.length S.length)) e w' := by
 obtain ⟨W0, hW0⟩ : ∃ W0, w.alloc (.cells #[.int .i64 0, .bool false, .int .i64 0, .string ⟨#[]⟩, .slice none 0 0, .slice none 0 0] 46) = W0 := ⟨_, rfl⟩
 have b0 : Below w.heap.size w W0 := by rw [<- hW0]; exact (Below.refl _ w).alloc (Nat.le_refl _) _
 have s0 : W0.heap.size = w.heap.size + 1 := by rw [<- hW0]; simp
 have x0 : W0.heap[w.heap.size]? = some (.cells #[.int .i64 0, .bool false, .int .i64 0, .string ⟨#[]⟩, .slice none 0 0, .slice none 0 0] 46 (0, 0)) := by rw [<- hW0]; exact heap_alloc_new w _
 have cT := METx.contains_c (hT.below (b0.mono hK)) (by omega)
 rw [h1] at cT
 have HL : Hid (Cx K w cv L) := hL
 have HS : Hid (Base.InL false All w (m + 1) sv S) := hS
 have HB0 : Hid _ := b0
 have HX0 : Hid _ := x0
 obtain ⟨a1, c1, rfl, hl1, hl2, -⟩ := hL
 obtain ⟨a2, c2, rfl, ht1, ht2, -⟩ := hT
 obtain ⟨a3, c3, rfl, hs1, hs2, -⟩ := hS
 obtain ⟨z, hz⟩ : ∃ z, ck L T.length S.length = z := ⟨_, rfl⟩
 rw [hz] at h2 ⊢
 have HZ : Hid (ck L T.length S.length = z) := hz
 have dz : (z == 0) = false := by simp [h2]
 clear b0 x0 h1 h2 hz
 go_enter func22, ntmps22
 go_wp2_with fail
 try rw [hW0]
 refine cT.mono ?_
 rintro e W1 ⟨rfl, b1⟩
 have hb1 : Below w.heap.size w W1 := HB0.out.trans (b1.mono (by omega))
 have cK := CCk.check_c (HL.out.below (hb1.mono hK)) (by have := hb1.size; omega) (T.length : Int) (S.length : Int)
 have HB1 : Hid _ := hb1
 have HX1 : Hid _ := (b1.block w.heap.size (by omega)).trans HX0.out
 have hz1 := b1.size
 rw [HZ.out] at cK
 clear cT b1 hb1 HZ
 go_wp2_with fail
 refine cK.mono ?_
 rintro e W2 ⟨rfl, b2⟩
 have hz2 := b2.size
 have hb2 : Below w.heap.size w W2 := HB1.out.trans (b2.mono (by omega))
 have y1 := (b2.block w.heap.size (by omega)).trans HX1.out
 obtain ⟨W9, hW9⟩ : ∃ W9, (((((W2.setCell ⟨w.heap.size, 0, none⟩ (.int .i64 0)).setCell ⟨w.heap.size, 1, none⟩ (.bool false)).setCell ⟨w.heap.size, 2, none⟩ (.int .i64 0)).setCell ⟨w.heap.size, 3, none⟩ (.string ⟨#[]⟩)).setCell ⟨w.heap.size, 4, none⟩ (.slice none 0 0)).setCell ⟨w.heap.size, 5, none⟩ (.slice none 0 0) = W9 := ⟨_, rfl⟩
 obtain ⟨q1, q2, q3, q4⟩ := set6 _ _ _ _ _ _ y1 hW9
 have HE : Hid (Below w.heap.size w W9) := q4 _ _ (Nat.le_refl _) hb2
 have HQ1 : Hid _ := q1
 have HW9 : Hid (_ = W9) := hW9
 obtain ⟨v0', v1', v2', v3', v4', v5'⟩ := six_box y1
 have g0 := frozen_box y1 0
 have g1 := frozen_box y1 1
 have g2 := frozen_box y1 2
 have g3 := frozen_box y1 3
 have g4 := frozen_box y1 4
 have g5 := frozen_box y1 5
 clear cK b2 hb2 y1 q1 q2 q3 q4 hW9
 go_wp2_with fail
 rw [HW9.out]
 refine bodyPost_ret (Part.res_row_tmp rfl _ W9 w.heap.size 46 _ (0, 0) _ rfl HQ1.out underlying46 rfl (by kernel_rfl)) rfl ?_
 exact ⟨HE.out, _, rfl, in_v0 _ _ m false (by decide) (by decide) (by decide)⟩
theorem bad_value {K m : Nat} {w : World} {cv tv sv : Value} {L : List Ins} {T : List ByteArray} {S : List C} (hL : Cx K w cv L) (hT : Tz K w tv T) (hS : Base.InL false All w (m + 1) sv S) (hK : K <= w.heap.size) (h1 : (T.any fun s => !STx.tg s) = false) (h2 : ck L T.length S.length = 0) (h3 : S.any MEi.bd = true) :
  Calls prog 22 #[cv, tv, sv] w fun e w' => RV2 (m + 1) w (.error 1108) e w' := by
 obtain ⟨W0, hW0⟩ : ∃ W0, w.alloc (.cells #[.int .i64 0, .bool false, .int .i64 0, .string ⟨#[]⟩, .slice none 0 0, .slice none 0 0] 46) = W0 := ⟨_, rfl⟩
 have b0 : Below w.heap.size w W0 := by rw [<- hW0]; exact (Below.refl _ w).alloc (Nat.le_refl _) _
 have s0 : W0.heap.size = w.heap.size + 1 := by rw [<- hW0]; simp
 have x0 : W0.heap[w.heap.size]? = some (.cells #[.int .i64 0, .bool false, .int .i64 0, .string ⟨#[]⟩, .slice none 0 0, .slice none 0 0] 46 (0, 0)) := by rw [<- hW0]; exact heap_alloc_new w _
 have cT := METx.contains_c (hT.below (b0.mono hK)) (by omega)
 rw [h1] at cT
 have HL : Hid (Cx K w cv L) := hL
 have HS : Hid (Base.InL false All w (m + 1) sv S) := hS
 have HB0 : Hid _ := b0
 have HX0 : Hid _ := x0
 obtain ⟨a1, c1, rfl, hl1, hl2, -⟩ := hL
 obtain ⟨a2, c2, rfl, ht1, ht2, -⟩ := hT
 obtain ⟨a3, c3, rfl, hs1, hs2, -⟩ := hS
 have HCK : Hid (ck L T.length S.length = 0) := h2
 have HAN : Hid (S.any MEi.bd = true) := h3
 clear b0 x0 h1 h2 h3
 go_enter func22, ntmps22
 go_wp2_with fail
 try rw [hW0]
 refine cT.mono ?_
 rintro e W1 ⟨rfl, b1⟩
 have hb1 : Below w.heap.size w W1 := HB0.out.trans (b1.mono (by omega))
 have cK := CCk.check_c (HL.out.below (hb1.mono hK)) (by have := hb1.size; omega) (T.length : Int) (S.length : Int)
 have HB1 : Hid _ := hb1
 have HX1 : Hid _ := (b1.block w.heap.size (by omega)).trans HX0.out
 have hz1 := b1.size
 rw [HCK.out] at cK
 clear cT b1 hb1
 go_wp2_with fail
 refine cK.mono ?_
 rintro e W2 ⟨rfl, b2⟩
 have hz2 := b2.size
 have hb2 : Below w.heap.size w W2 := HB1.out.trans (b2.mono (by omega))
 have cS := MEi.contains_c (HS.out.below hb2)
 rw [HAN.out] at cS
 have HB2 : Hid _ := hb2
 have HX2 : Hid _ := (b2.block w.heap.size (by omega)).trans HX1.out
 clear cK b2 hb2
 go_wp2_with fail
 refine cS.mono ?_
 rintro e W3 ⟨rfl, b3⟩
 have hz3 := b3.size
 have hb3 : Below w.heap.size w W3 := HB2.out.trans (b3.mono (by omega))
 have y1 := (b3.block w.heap.size (by omega)).trans HX2.out
 obtain ⟨W9, hW9⟩ : ∃ W9, (((((W3.setCell ⟨w.heap.size, 0, none⟩ (.int .i64 0)).setCell ⟨w.heap.size, 1, none⟩ (.bool false)).setCell ⟨w.heap.size, 2, none⟩ (.int .i64 0)).setCell ⟨w.heap.size, 3, none⟩ (.string ⟨#[]⟩)).setCell ⟨w.heap.size, 4, none⟩ (.slice none 0 0)).setCell ⟨w.heap.size, 5, none⟩ (.slice none 0 0) = W9 := ⟨_, rfl⟩
 obtain ⟨q1, q2, q3, q4⟩ := set6 _ _ _ _ _ _ y1 hW9
 have HE : Hid (Below w.heap.size w W9) := q4 _ _ (Nat.le_refl _) hb3
 have HQ1 : Hid _ := q1
 have HW9 : Hid (_ = W9) := hW9
 obtain ⟨v0', v1', v2', v3', v4', v5'⟩ := six_box y1
 have g0 := frozen_box y1 0
 have g1 := frozen_box y1 1
 have g2 := frozen_box y1 2
 have g3 := frozen_box y1 3
 have g4 := frozen_box y1 4
 have g5 := frozen_box y1 5
 clear cS b3 hb3 y1 q1 q2 q3 q4 hW9
 go_wp2_with fail
 rw [HW9.out]
 refine bodyPost_ret (Part.res_row_tmp rfl _ W9 w.heap.size 46 _ (0, 0) _ rfl HQ1.out underlying46 rfl (by kernel_rfl)) rfl ?_
 exact ⟨HE.out, _, rfl, in_v0 _ _ m false (by decide) (by decide) (by decide)⟩
theorem run_g {K m : Nat} {w : World} {cv tv sv : Value} {L : List Ins} {T : List ByteArray} {S : List C} (hL : Cx K w cv L) (hT : Tz K w tv T) (hS : Base.InL false (fun b => b < K) w (m + 1) sv S) (hK : K <= w.heap.size) (hOk : ∀ x ∈ L, -9223372036854775808 <= x.2 /\ x.2 <= 9223372036854775807) (hTb : Tb w) :
  Calls prog 22 #[cv, tv, sv] w fun e w' => RV2 (m + 1) w (rn L T S) e w' := by
 have hSA : Base.InL false All w (m + 1) sv S := hS.weak (fun _ _ => trivial) false id _ (Nat.le_refl _)
 unfold rn
 by_cases h1 : (T.any fun s => !STx.tg s) = true
 ·rw [if_pos h1]; exact bad_text hL hT hSA hK h1
 rw [if_neg h1]
 simp only [Bool.not_eq_true] at h1
 by_cases h2 : ck L T.length S.length ≠ 0
 ·rw [if_pos h2]; exact bad_code hL hT hSA hK h1 h2
 rw [if_neg h2]
 have h2 : ck L T.length S.length = 0 := Decidable.not_not.1 h2
 by_cases h3 : S.any MEi.bd = true
 ·rw [if_pos h3]; exact bad_value hL hT hSA hK h1 h2 h3
 rw [if_neg h3]
 simp only [Bool.not_eq_true] at h3
 exact way_c hL hT hS hK hOk hTb h1 h2 h3
end Go.Proofs.YthjbknncbhkinaaGreatDoor.NRw
namespace Go.Proofs.YthjbknncbhkinaaGreatDoor.GEi
open Go.RowKit Base
open Shallow (dep)
def cd (c : C) : Int := (Measure.ms 0 0 (Walk.pl 1 c)).2.2
def bd (c : C) : Bool := cd c != 0
theorem none_c {m : Nat} {v : Value} {c : C} {w : World} (h : Base.In false All w m v c) (hd : dep c <= 4096) :
  Calls prog 44 #[v] w fun e w' => e = .returned (.bool (bd c)) /\ Below w.heap.size w w' := by
 obtain ⟨an, ln, cn, al, ll, cl, rfl⟩ := VRs.in_shape h
 obtain ⟨W0, hW0⟩ : ∃ W0, w.alloc (.cells #[.int .i64 c.k, .bool c.b, .int .i64 c.i, .string c.s, .slice an ln cn, .slice al ll cl] 46) = W0 := ⟨_, rfl⟩
 have hb0 : Below w.heap.size w W0 := by rw [<- hW0]; exact (Below.refl _ w).alloc (Nat.le_refl _) _
 have hp : W0.heap[w.heap.size]? = some (.cells #[.int .i64 c.k, .bool c.b, .int .i64 c.i, .string c.s, .slice an ln cn, .slice al ll cl] 46 (0, 0)) := by rw [<- hW0]; exact heap_alloc_new w _
 obtain ⟨p0, p1, p2, p3, p4, p5⟩ := six_box hp
 have cC := GMw.check_all (h.below hb0)
 have HB : Hid (Below w.heap.size w W0) := hb0
 have HBD : Hid (bd c = ((Measure.ms 0 0 (Walk.pl 1 c)).2.2 != 0)) := rfl
 generalize bd c = Z at *
 generalize (Measure.ms 0 0 (Walk.pl 1 c)).2.2 = z at *
 generalize c.k = k at *
 generalize c.b = b at *
 generalize c.i = i at *
 generalize c.s = s at *
 clear h hb0 hp hd
 go_enter func44, ntmps44
 go_wp2_with fail
 try rw [hW0]
 refine cC.mono ?_
 rintro e W1 ⟨rfl, hb1⟩
 have HB1 : Hid (Below w.heap.size w W1) := HB.out.trans (hb1.mono HB.out.size)
 clear hb1 cC HB p0 p1 p2 p3 p4 p5 hW0
 go_wp2_with fail
 go_ret
 exact ⟨by rw [HBD.out]; rfl, HB1.out⟩
theorem any_cons (l : List C) (q : Nat) (h : q < l.length) : (l.drop q).any bd = (bd l[q] || (l.drop (q + 1)).any bd) := by
 rw [List.drop_eq_getElem_cons h, List.any_cons]
theorem index_c {m : Nat} {w : World} {v : Value} {l : List C} (hin : Base.InL false All w m v l) (hd : ∀ c ∈ l, dep c <= 4096) :
  Calls prog 62 #[v, .func (.func 44) #[] #[]] w fun e w' => ∃ z : Int, e = .returned (.int .i64 z) /\ decide (0 <= z) = l.any bd /\ Below w.heap.size w w' := by
 obtain ⟨a, cap, rfl, hlc, hcm, hlen, hnil, hL⟩ := hin
 have HL : Hid (LAt false All w m a cap l) := hL
 have HD : Hid _ := hd
 obtain ⟨T, hT⟩ : ∃ T, l.any bd = T := ⟨_, rfl⟩
 have HT : Hid ((l.drop 0).any bd = T) := hT
 rw [hT]
 clear hT hL hd
 go_enter func62, ntmps62
 go_wp2_with fail
 go_loopw [8] (fun i wr => ∃ q : Nat, q <= l.length /\ i = .int .i64 q /\ (l.drop q).any bd = T /\ Below w.heap.size w wr) (fun i _ => l.length - (intOf i).toNat)
 case atStart => exact ⟨0, by omega, rfl, HT.out, Below.refl _ _⟩
 case round =>
  clear HT
  obtain ⟨q, hq, rfl, hM, hb⟩ := hrel
  have Hb : Hid (Below w.heap.size w wr) := hb
  by_cases hlt : q < l.length
  ·have d0 : decide ((q : Int) < (l.length : Int)) = true := by simp; omega
   have i0 : (0 : Int) <= (q : Int) := by omega
   have i1 : (q : Int) < (l.length : Int) := by omega
   obtain ⟨g, o, u, rfl, -, hu, hi⟩ := elem_at HL.out hlt
   have hu := six_below hu hb
   obtain ⟨an, ln, cn, al, ll, cl, rfl⟩ := VRs.in_shape hi
   obtain ⟨v0, v1, v2, v3, v4, v5, he, k0, k1, k2, k3, k4, k5⟩ := hu
   simp only [Value.agg.injEq, Array.mk.injEq, List.cons.injEq, and_true] at he
   obtain ⟨rfl, rfl, rfl, rfl, rfl, rfl⟩ := he
   rw [any_cons l q hlt] at hM
   have cO := none_c (hi.below hb) (HD.out _ (List.getElem_mem hlt))
   obtain ⟨b, hb'⟩ : ∃ b, bd l[q] = b := ⟨_, rfl⟩
   rw [hb'] at cO hM
   have HM : Hid ((b || (l.drop (q + 1)).any bd) = T) := hM
   generalize l[q].k = kk at *
   generalize l[q].b = bb at *
   generalize l[q].i = ii at *
   generalize l[q].s = ss at *
   clear hi hb' hM hb
   go_wp2_with fail
   refine cO.mono ?_
   rintro e W1 ⟨rfl, b1⟩
   have HB1 : Hid (Below w.heap.size w W1) := Hb.out.trans (b1.mono Hb.out.size)
   clear cO b1 k0 k1 k2 k3 k4 k5
   cases b with
   | true =>
    have hT : true = T := by have := HM.out; rw [Bool.true_or] at this; exact this
    subst hT
    go_wp2_with fail
    go_ret
    exact ⟨_, rfl, by simp, HB1.out⟩
   | false =>
    go_wp2_with fail
    go_roundw
    case rel => exact ⟨q + 1, by omega, by go_num, by have := HM.out; rw [Bool.false_or] at this; exact this, HB1.out⟩
    case measure => simp only [intOf]; omega
  ·have d0 : decide ((q : Int) < (l.length : Int)) = false := by simp; omega
   have hT : false = T := by
    rw [List.drop_eq_nil_of_le (by omega)] at hM
    exact hM
   subst hT
   clear hM
   go_wp2_with fail
   go_ret
   exact ⟨_, rfl, by simp, Hb.out⟩
theorem contains_c {m : Nat} {w : World} {v : Value} {l : List C} (hin : Base.InL false All w m v l) (hd : ∀ c ∈ l, dep c <= 4096) :
  Calls prog 40 #[v, .func (.func 44) #[] #[]] w fun e w' => e = .returned (.bool (l.any bd)) /\ Below w.heap.size w w' := by
 have cI := index_c hin hd
 obtain ⟨T, hT⟩ : ∃ T, l.any bd = T := ⟨_, rfl⟩
 rw [hT] at cI ⊢
 obtain ⟨a, cap, rfl, -⟩ := hin
 clear hT hd
 go_enter func40, ntmps40
 go_wp2_with fail
 refine cI.mono ?_
 rintro e W1 ⟨z, rfl, hz, hb⟩
 have HB : Hid (Below w.heap.size w W1) := hb
 have HZ : Hid (decide (0 <= z) = T) := hz
 clear hb cI hz
 go_wp2_with fail
 have hT := HZ.out
 subst hT
 go_ret
 exact ⟨rfl, HB.out⟩
end Go.Proofs.YthjbknncbhkinaaGreatDoor.GEi
namespace Go.Proofs.YthjbknncbhkinaaGreatDoor.GEv
open Go.RowKit Base VSm
open VPure hiding evL
open Shallow (dep)
def c0 : C := .mk 0 false 0 ⟨#[]⟩ [] []
def va (A : Ans) : C := match A with
 | .ok c => c
 | .error _ => c0
def er (A : Ans) : Int := match A with
 | .ok _ => 0
 | .error q => (q : Nat)
theorem in_zero (S : Nat -> Prop) (w : World) : Base.In false S w 1 (v0 0 false 0 ⟨#[]⟩) c0 := by
 show Base.In false S w (0 + 1) _ (C.mk 0 false 0 ⟨#[]⟩ [] [])
 rw [Base.in_iff]
 exact ⟨_, _, rfl, by simp, by simp, by simp [ByteArray.size], ⟨none, 0, rfl, by simp, by omega, by simp, by simp, fun _ => rfl, .inl ⟨rfl, rfl⟩⟩, ⟨none, 0, rfl, by simp, by simp [maxLen], by simp, fun _ => rfl, .inl ⟨rfl, rfl⟩⟩⟩
end Go.Proofs.YthjbknncbhkinaaGreatDoor.GEv
namespace Go.Proofs.YthjbknncbhkinaaGreatDoor.NEv
open Go.RowKit Base EPure JPure VSm VJn VRs JVa JRv NPl GEi
open VPure hiding evL
open Shallow (dep)
open GPl (rh)
open GEv (c0 va er in_zero)
structure Rk (K m n : Nat) (w : World) (Pv : Value) (L : List C) (v : Value) (x : Ex) : Prop where
 ex : XBase.In false (fun b => b < K) w n v x
 low : K <= w.heap.size
 wfs : ∀ (j : Int) c, rh L j = some c -> wf c
 gd : gd x
 ok : ops okOp x
 tb : Tb w
 sk : Sk K (m + 1) w Pv L
theorem Rk.below {K m n : Nat} {w w' : World} {Pv : Value} {L : List C} {v : Value} {x : Ex} (h : Rk K m n w Pv L v x) (hb : Below w.heap.size w w') : Rk K m n w' Pv L v x :=
 ⟨h.ex.below hb, Nat.le_trans h.low hb.size, h.wfs, h.gd, h.ok, h.tb.below hb, h.sk.below hb⟩
theorem eval_of {K m n : Nat} {w : World} {Pv : Value} {L : List C} {v : Value} {x : Ex} (h : Rk K m n w Pv L v x) (hL : Base.InL false All w (m + 1) Pv L) (hdp : ∀ c ∈ L, dep c <= 4096) (hrs : KSh.rsv x = true) (hno : L.any bd = false)
  (hF : ∀ (W : World) (v : Value), Base.In false All W (m + 1) v (va (ev (rh L) x)) -> Calls prog 43 #[v] W fun e w' => ∃ u, e = .returned u /\ Base.In false (fun b => W.heap.size <= b) w' (m + 1) u (va (ev (rh L) x)) /\ Below W.heap.size W w') :
  Calls prog 23 #[v, Pv] w fun e w' => ∃ k u, e = .returned (.tuple #[u, .int .i64 (er (ev (rh L) x))]) /\ Base.In false (fun b => w.heap.size <= b) w' k u (va (ev (rh L) x)) /\ Below w.heap.size w w' := by
 have hmf : ∀ (fn : Fn) (first cap : Array Value) (w : World), (Instr.makeFunc fn first cap).run prog w = .ok (.func fn first cap) w := fun _ _ _ _ => rfl
 obtain ⟨n', lv, rfl, rfl, -⟩ := h.ex.shape
 obtain ⟨W0, hW0⟩ : ∃ W0, (w.alloc (.cells #[.int .i64 x.o, .int .i64 x.i, .string x.s, lv] 24)).alloc (.cells #[.int .i64 0, .bool false, .int .i64 0, .string ⟨#[]⟩, .slice none 0 0, .slice none 0 0] 46) = W0 := ⟨_, rfl⟩
 have hb0 : Below w.heap.size w W0 := by rw [<- hW0]; exact ((Below.refl _ w).alloc (Nat.le_refl _) _).alloc (by simp) _
 have hs0 : W0.heap.size = w.heap.size + 2 := by rw [<- hW0]; simp
 have hx0 : W0.heap[w.heap.size]? = some (.cells #[.int .i64 x.o, .int .i64 x.i, .string x.s, lv] 24 (0, 0)) := by rw [<- hW0, Below.heap_alloc _ _ _ (by simp), heap_alloc_new]
 have hx1 : W0.heap[w.heap.size + 1]? = some (.cells #[.int .i64 0, .bool false, .int .i64 0, .string ⟨#[]⟩, .slice none 0 0, .slice none 0 0] 46 (0, 0)) := by
  have := heap_alloc_new (w.alloc (.cells #[.int .i64 x.o, .int .i64 x.i, .string x.s, lv] 24)) (.cells #[.int .i64 0, .bool false, .int .i64 0, .string ⟨#[]⟩, .slice none 0 0, .slice none 0 0] 46)
  rwa [hW0, World.size_alloc] at this
 have HH : Hid (Rk K m (n' + 1) w Pv L (.agg #[.int .i64 x.o, .int .i64 x.i, .string x.s, lv]) x) := h
 have HL : Hid (Base.InL false All w (m + 1) Pv L) := hL
 have HD : Hid _ := hdp
 have cR := KSh.resolved_c ((h.ex.below hb0).weak (fun _ _ => trivial) false id _ (Nat.le_refl _))
 rw [hrs] at cR
 obtain ⟨x0, x1, x2, x3⟩ := XBase.four_box hx0
 have HB0 : Hid (Below w.heap.size w W0) := hb0
 have HX0 : Hid _ := hx0
 have HX1 : Hid _ := hx1
 have HNO : Hid (L.any bd = false) := hno
 obtain ⟨ps, pc, rfl, -⟩ := h.sk
 obtain ⟨U, hU⟩ : ∃ U, ev (rh L) x = U := ⟨_, rfl⟩
 have HU : Hid (ev (rh L) x = U) := hU
 rw [hU] at hF ⊢
 have HF : Hid _ := hF
 clear hF
 clear h hL hdp hrs hno hb0 hx0 hx1 hU
 go_enter func23, ntmps23
 go_wp2_with fail
 try rw [hW0]
 refine cR.mono ?_
 rintro e W1 ⟨rfl, b1⟩
 have hs1 := b1.size
 have HB1 : Hid (Below w.heap.size w W1) := HB0.out.trans (b1.mono (by omega))
 have HX01 : Hid _ := (b1.block w.heap.size (by omega)).trans HX0.out
 have HX11 : Hid _ := (b1.block (w.heap.size + 1) (by omega)).trans HX1.out
 have cC := contains_c (Base.InL.below HL.out HB1.out) HD.out
 rw [HNO.out] at cC
 clear cR b1 x0 x1 x2 x3 hW0
 go_wp2_with fail
 refine cC.mono ?_
 rintro e W2 ⟨rfl, b2⟩
 have hs2 := b2.size
 have HB2 : Hid (Below w.heap.size w W2) := HB1.out.trans (b2.mono HB1.out.size)
 have HX02 : Hid _ := (b2.block w.heap.size (by omega)).trans HX01.out
 have HX12 : Hid _ := (b2.block (w.heap.size + 1) (by omega)).trans HX11.out
 have h2 := HH.out.below HB2.out
 have cV := reckon_c (m := m) h2.ex h2.low h2.wfs h2.gd h2.ok h2.tb (at_c h2.sk h2.low)
 rw [HU.out] at cV
 obtain ⟨x0, x1, x2, x3⟩ := XBase.four_box HX02.out
 clear cC b2 h2
 go_wp2_with fail
 refine cV.mono ?_
 rintro e W3 ⟨b3, hA⟩
 have hs3 := b3.size
 have HB3 : Hid (Below w.heap.size w W3) := HB2.out.trans (b3.mono HB2.out.size)
 have HX13 : Hid _ := (b3.block (w.heap.size + 1) (by omega)).trans HX12.out
 obtain ⟨k3, i3, b3', s3, an, ln, cn, al, ll, cl, hu, hin⟩ : ∃ k i b s an ln cn al ll cl, e = .returned (.tuple #[.agg #[.int .i64 k, .bool b, .int .i64 i, .string s, .slice an ln cn, .slice al ll cl], .int .i64 (er U)]) /\ Base.In false All W3 (m + 1) (.agg #[.int .i64 k, .bool b, .int .i64 i, .string s, .slice an ln cn, .slice al ll cl]) (va U) := by
  cases U with
  | error q =>
   have hA : e = _ := hA
   exact ⟨0, 0, false, ⟨#[]⟩, none, 0, 0, none, 0, 0, hA, (in_zero All W3).weak (fun _ h => h) false id _ (by omega)⟩
  | ok c =>
   obtain ⟨u, he, hin⟩ := hA
   obtain ⟨an, ln, cn, al, ll, cl, rfl⟩ := in_shape hin
   exact ⟨_, _, _, _, an, ln, cn, al, ll, cl, he, hin.weak (fun _ _ => trivial) false id _ (Nat.le_refl _)⟩
 subst hu
 have HIN : Hid _ := hin
 obtain ⟨W4, hW4⟩ : ∃ W4, W3.alloc (.cells #[.int .i64 k3, .bool b3', .int .i64 i3, .string s3, .slice an ln cn, .slice al ll cl] 46) = W4 := ⟨_, rfl⟩
 have b4 : Below W3.heap.size W3 W4 := by rw [<- hW4]; exact (Below.refl _ W3).alloc (Nat.le_refl _) _
 have hs4 : W4.heap.size = W3.heap.size + 1 := by rw [<- hW4]; simp
 have hx4 : W4.heap[W3.heap.size]? = some (.cells #[.int .i64 k3, .bool b3', .int .i64 i3, .string s3, .slice an ln cn, .slice al ll cl] 46 (0, 0)) := by rw [<- hW4]; exact heap_alloc_new W3 _
 have HX14 : Hid _ := (b4.block (w.heap.size + 1) (by omega)).trans HX13.out
 have HB4 : Hid (Below w.heap.size w W4) := HB3.out.trans (b4.mono HB3.out.size)
 have cF := HF.out W4 _ (hin.below b4)
 obtain ⟨y0, y1, y2, y3, y4, y5⟩ := six_box hx4
 have HW4 : Hid (W3.alloc (.cells #[.int .i64 k3, .bool b3', .int .i64 i3, .string s3, .slice an ln cn, .slice al ll cl] 46) = W4) := hW4
 obtain ⟨Z, hZ⟩ : ∃ Z, er U = Z := ⟨_, rfl⟩
 rw [hZ]
 clear cV b3 hA hin b4 hx4 x0 x1 x2 x3 hW4
 go_wp2_with fail
 try rw [HW4.out]
 refine cF.mono ?_
 rintro e W5 ⟨u, rfl, hin5, b5⟩
 have hs5 := b5.size
 obtain ⟨an5, ln5, cn5, al5, ll5, cl5, rfl⟩ := in_shape hin5
 have HX15 : Hid _ := (b5.block (w.heap.size + 1) (by omega)).trans HX14.out
 have HB5 : Hid (Below w.heap.size w W5) := HB4.out.trans (b5.mono HB4.out.size)
 obtain ⟨r0, r1, r2, r3, r4, r5⟩ := six_box HX15.out
 have rf0 := frozen_box HX15.out 0
 have rf1 := frozen_box HX15.out 1
 have rf2 := frozen_box HX15.out 2
 have rf3 := frozen_box HX15.out 3
 have rf4 := frozen_box HX15.out 4
 have rf5 := frozen_box HX15.out 5
 have HI5 : Hid _ := hin5
 generalize (va U).k = kk at *
 generalize (va U).b = kb at *
 generalize (va U).i = ki at *
 generalize (va U).s = ks at *
 obtain ⟨W9, hW9⟩ : ∃ W9, (((((W5.setCell ⟨w.heap.size + 1, 0, none⟩ (.int .i64 kk)).setCell ⟨w.heap.size + 1, 1, none⟩ (.bool kb)).setCell ⟨w.heap.size + 1, 2, none⟩ (.int .i64 ki)).setCell ⟨w.heap.size + 1, 3, none⟩ (.string ks)).setCell ⟨w.heap.size + 1, 4, none⟩ (.slice an5 ln5 cn5)).setCell ⟨w.heap.size + 1, 5, none⟩ (.slice al5 ll5 cl5) = W9 := ⟨_, rfl⟩
 obtain ⟨q1, q2, q3, q4⟩ := set6 _ _ _ _ _ _ HX15.out hW9
 have HB9 : Hid (Below w.heap.size w W9) := q4 _ _ (by omega) HB5.out
 have HI9 : Hid (Base.In false (fun b => w.heap.size <= b) W9 (m + 1) (vl kk kb ki ks (.slice an5 ln5 cn5) (.slice al5 ll5 cl5)) (va U)) := (HI5.out.keep (w' := W9) (fun b hb _ => q2 b (by have : W4.heap.size <= b := hb; omega))).weak (fun b hb => by have : W4.heap.size <= b := hb; omega) false id _ (Nat.le_refl _)
 have HQ1 : Hid _ := q1
 clear q1 q2 q3 q4 hin5 b5 cF
 have HZ : Hid (er U = Z) := hZ
 clear hZ
 go_wp2_with fail
 try rw [hW9]
 refine bodyPost_ret (Part.res_row_tmp rfl _ W9 (w.heap.size + 1) 46 _ (0, 0) _ rfl HQ1.out underlying46 rfl (by kernel_rfl)) rfl ?_
 exact ⟨_, _, by rw [HZ.out]; rfl, HI9.out, HB9.out⟩
end Go.Proofs.YthjbknncbhkinaaGreatDoor.NEv

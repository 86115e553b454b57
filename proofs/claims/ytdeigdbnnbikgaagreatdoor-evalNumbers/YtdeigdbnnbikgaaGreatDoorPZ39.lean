import Derived.Deep.CutBlock
import Derived.Deep.RegionHeld3
import Derived.LoopN
import Derived.LoopTactic
import Derived.Test.YtdeigdbnnbikgaaGreatDoorPZ33
import Derived.Test.YtdeigdbnnbikgaaGreatDoorPZ38
namespace Go.Proofs.YtdeigdbnnbikgaaGreatDoor.WNu
open Go.RowKit Go.Proofs.YtdeigdbnnbikgaaGreatDoor.Base Go.Proofs.YtdeigdbnnbikgaaGreatDoor.EPure Go.Proofs.YtdeigdbnnbikgaaGreatDoor.VPure Go.Proofs.YtdeigdbnnbikgaaGreatDoor.VSm Go.Proofs.YtdeigdbnnbikgaaGreatDoor.VMp Go.Proofs.YtdeigdbnnbikgaaGreatDoor.VNo Go.Proofs.YtdeigdbnnbikgaaGreatDoor.VVa Go.Proofs.YtdeigdbnnbikgaaGreatDoor.VEv Go.Proofs.YtdeigdbnnbikgaaGreatDoor.VOf Go.Proofs.YtdeigdbnnbikgaaGreatDoor.VAp Go.Proofs.YtdeigdbnnbikgaaGreatDoor.VAw Go.Proofs.YtdeigdbnnbikgaaGreatDoor.VUp Go.Proofs.YtdeigdbnnbikgaaGreatDoor.VUq Go.Proofs.YtdeigdbnnbikgaaGreatDoor.Fresh
set_option linter.unusedVariables false
theorem same_int {S : Nat → Prop} {V Y : World} {u : Value} {X : Int} (h : Base.In false S V 1 u (intC X)) (hy : Below V.drew.heap.size V.drew Y) (hX : -9223372036854775808 ≤ X ∧ X ≤ 9223372036854775807) :
    Calls Tryz.prog 15 #[u, vl 3 false X ⟨#[]⟩ (.slice none 0 0) (.slice none 0 0)] Y fun e w' => e = .returned (.bool true) ∧ Below Y.heap.size Y w' := by
  have h1 : Base.In false All V.drew 1 u (intC X) := Base.In.keep (w := V) (w' := V.drew) (fun _ _ _ => rfl) (h.weak (S' := All) (fun _ _ => trivial) false id _ (Nat.le_refl _))
  exact SameV.sameV_c 1 u _ (intC X) Y (h1.below hy) (VRs.in_int _ _ _ hX)
set_option maxRecDepth 20000 in
set_option maxHeartbeats 12800000 in
theorem walk (a : Int) (a0 : -9223372036854775808 ≤ a) (a1 : a ≤ 9223372036854775807) (b : Int) (b0 : -9223372036854775808 ≤ b) (b1 : b ≤ 9223372036854775807) {w : World} (hT : TX w) :
    Calls Tryz.prog 6 #[.int .i64 a, .int .i64 b] w fun e w' => e = .returned (.bool true) ∧ Below w.heap.size w w' := by
  have HT : Hid (TX w) := hT
  have cA := awake_c hT
  have c1 := int_c a
  have c2 := int_c b
  clear hT
  go_enter Tryz.func6, Tryz.ntmps6
  go_upto_region 3 with (first | (go_at_call 19; refine cA.mono ?_; rintro e W0 ⟨rfl, hb0⟩))
  clear cA
  go_upto_region 4 with (first | (go_at_call 29; first | (have t := hb1; clear t; refine (c2 _).mono ?_; rintro e W2 ⟨rfl, hb2⟩) | (refine (c1 _).mono ?_; rintro e W1 ⟨rfl, hb1⟩)))
  have hB2 : Below w.heap.size w W2 := (hb0.trans (hb1.mono hb0.size)).trans (hb2.mono (hb0.trans (hb1.mono hb0.size)).size)
  obtain ⟨V0, hV0⟩ : ∃ V0, W2.alloc (.cells #[.string ⟨#[97]⟩, .int .i64 3, .bool false, .int .i64 a, .string ⟨#[]⟩, .slice none 0 0, .slice none 0 0, .string ⟨#[98]⟩, .int .i64 3, .bool false, .int .i64 b, .string ⟨#[]⟩, .slice none 0 0, .slice none 0 0] 52) = V0 := ⟨_, rfl⟩
  have hz : V0.heap[W2.heap.size]? = some (.cells #[.string ⟨#[97]⟩, .int .i64 3, .bool false, .int .i64 a, .string ⟨#[]⟩, .slice none 0 0, .slice none 0 0, .string ⟨#[98]⟩, .int .i64 3, .bool false, .int .i64 b, .string ⟨#[]⟩, .slice none 0 0, .slice none 0 0] 52 (0, 0)) := by rw [← hV0]; exact heap_alloc_new _ _
  have hv0 : Below W2.heap.size W2 V0 := by rw [← hV0]; exact (Below.refl _ _).alloc (Nat.le_refl _) _
  have s0 : V0.heap.size = W2.heap.size + 1 := by rw [← hV0]; simp
  obtain ⟨V1, hV1⟩ : ∃ V1, V0.alloc (.cells #[.string ⟨#[97, 32, 43, 32, 98]⟩, .string ⟨#[97, 32, 45, 32, 98]⟩, .string ⟨#[97, 32, 42, 32, 98]⟩, .string ⟨#[97, 32, 47, 32, 98]⟩, .string ⟨#[97, 32, 37, 32, 98]⟩, .string ⟨#[97, 32, 60, 60, 32, 98]⟩, .string ⟨#[97, 32, 62, 62, 32, 98]⟩, .string ⟨#[45, 97]⟩] 9) = V1 := ⟨_, rfl⟩
  have hy : V1.heap[V0.heap.size]? = some (.cells #[.string ⟨#[97, 32, 43, 32, 98]⟩, .string ⟨#[97, 32, 45, 32, 98]⟩, .string ⟨#[97, 32, 42, 32, 98]⟩, .string ⟨#[97, 32, 47, 32, 98]⟩, .string ⟨#[97, 32, 37, 32, 98]⟩, .string ⟨#[97, 32, 60, 60, 32, 98]⟩, .string ⟨#[97, 32, 62, 62, 32, 98]⟩, .string ⟨#[45, 97]⟩] 9 (0, 0)) := by rw [← hV1]; exact heap_alloc_new _ _
  have hv1 : Below V0.heap.size V0 V1 := by rw [← hV1]; exact (Below.refl _ _).alloc (Nat.le_refl _) _
  have s1 : V1.heap.size = W2.heap.size + 2 := by rw [← hV1]; simp [s0]
  rw [s0] at hy
  have HS1 : Hid (V1.heap.size = W2.heap.size + 2) := s1
  have hB0 : Below w.heap.size w V0 := hB2.trans (hv0.mono hB2.size)
  have HB1 : Hid (Below w.heap.size w V1) := hB0.trans (hv1.mono hB0.size)
  have HE : Hid (Bl (W2.heap.size + 1) 1 V1 (.slice (some ⟨W2.heap.size, 0, none⟩) 2 2) (bsU a b)) := (env2 (by decide) (by decide) ⟨a0, a1⟩ ⟨b0, b1⟩ hz).low (hv1.mono (by omega))
  have HS : Hid (∀ q, q < 8 → V1.cell? ⟨W2.heap.size + 1, q, none⟩ = some (.string (tN q))) := by
    intro q hq
    have : q = 0 ∨ q = 1 ∨ q = 2 ∨ q = 3 ∨ q = 4 ∨ q = 5 ∨ q = 6 ∨ q = 7 := by omega
    rcases this with rfl | rfl | rfl | rfl | rfl | rfl | rfl | rfl <;> (simp only [World.cell?, hy]; rfl)
  clear hz hy hv0 hv1 hB0 hB2 hb0 hb1 hb2 c1 c2
  try rw [hV0]
  go_wp2_with fail
  clear hV0 hV1
  go_loopw [7] (fun v wr => ∃ q : Nat, v = .int .i64 q ∧ q ≤ 8 ∧ Below V1.heap.size V1 wr) (fun v _ => 8 - (intOf v).toNat)
  case atStart => exact ⟨0, rfl, by omega, Below.refl _ _⟩
  case round =>
    obtain ⟨q, rfl, hq, hb⟩ := hrel
    have hs1 := HS1.out
    have HB : Hid (Below w.heap.size w wr) := HB1.out.trans (hb.mono HB1.out.size)
    have hsz := hb.size
    by_cases hlt : q < 8
    · have d0 : decide ((q : Int) < 8) = true := by simp; omega
      have hcell : wr.cell? ⟨W2.heap.size + 1, q, none⟩ = some (.string (tN q)) := (World.cell?_of_block (w := V1) (hb.block (W2.heap.size + 1) (by omega))).trans (HS.out q hlt)
      have hE2 := HE.out.low (hb.mono (by omega))
      have HCELL : Hid (wr.cell? ⟨W2.heap.size + 1, q, none⟩ = some (.string (tN q))) := hcell
      have cO := ofN hlt hE2 (by omega) (HT.out.later HB.out)
      have hwr := wN_rng (q := q) (b := b) ⟨a0, a1⟩
      obtain ⟨X, hX⟩ : ∃ X, (wN q a b).1 = X := ⟨_, rfl⟩
      obtain ⟨E, hE⟩ : ∃ E, (wN q a b).2 = E := ⟨_, rfl⟩
      rw [hX, hE] at cO
      rw [hX] at hwr
      have HX : Hid ((wN q a b).1 = X ∧ (wN q a b).2 = E) := ⟨hX, hE⟩
      have HB2 : Hid (Below V1.heap.size V1 wr) := hb
      clear hb hE2 hX hE hcell
      have cN := WhA.neg a a0 a1
      go_upto_block 2 with (first | (go_at_call 30; refine (cN _).mono ?_; rintro e wr ⟨rfl, rfl⟩))
      go_cut [8, 9] from 23 to 121 (fun x e wc => x = .int .i64 X ∧ e = .int .i64 E ∧ wc = wr)
      case first =>
        clear cO HCELL hwr cN
        have : q = 0 ∨ q = 1 ∨ q = 2 ∨ q = 3 ∨ q = 4 ∨ q = 5 ∨ q = 6 ∨ q = 7 := by omega
        rcases this with rfl | rfl | rfl | rfl | rfl | rfl | rfl | rfl
        · have cC := WhA.add a b a0 a1 b0 b1
          go_wp2_with (first | (go_at_call 31; refine (cC _).mono ?_; rintro e wr ⟨rfl, rfl⟩))
          go_meet
          case rel => exact ⟨by rw [← HX.out.1]; rfl, by rw [← HX.out.2]; rfl, rfl⟩
        · have cC := WhA.sub a b a0 a1 b0 b1
          go_wp2_with (first | (go_at_call 32; refine (cC _).mono ?_; rintro e wr ⟨rfl, rfl⟩))
          go_meet
          case rel => exact ⟨by rw [← HX.out.1]; rfl, by rw [← HX.out.2]; rfl, rfl⟩
        · have cC := WhA.mul a b a0 a1 b0 b1
          go_wp2_with (first | (go_at_call 33; refine (cC _).mono ?_; rintro e wr ⟨rfl, rfl⟩))
          go_meet
          case rel => exact ⟨by rw [← HX.out.1]; rfl, by rw [← HX.out.2]; rfl, rfl⟩
        · have cC := WhA.div a b a0 a1
          go_wp2_with (first | (go_at_call 34; refine (cC _).mono ?_; rintro e wr ⟨rfl, rfl⟩))
          go_meet
          case rel => exact ⟨by rw [← HX.out.1]; rfl, by rw [← HX.out.2]; rfl, rfl⟩
        · have cC := WhA.mod a b
          go_wp2_with (first | (go_at_call 35; refine (cC _).mono ?_; rintro e wr ⟨rfl, rfl⟩))
          go_meet
          case rel => exact ⟨by rw [← HX.out.1]; rfl, by rw [← HX.out.2]; rfl, rfl⟩
        · have cC := whShl a b
          go_wp2_with (first | (go_at_call 36; refine (cC _).mono ?_; rintro e wr ⟨rfl, rfl⟩))
          go_meet
          case rel => exact ⟨by rw [← HX.out.1]; rfl, by rw [← HX.out.2]; rfl, rfl⟩
        · have cC := whShr a b
          go_wp2_with (first | (go_at_call 37; refine (cC _).mono ?_; rintro e wr ⟨rfl, rfl⟩))
          go_meet
          case rel => exact ⟨by rw [← HX.out.1]; rfl, by rw [← HX.out.2]; rfl, rfl⟩
        · go_wp2_with fail
          go_meet
          case rel => exact ⟨by rw [← HX.out.1]; rfl, by rw [← HX.out.2]; rfl, rfl⟩
      case rest =>
        obtain ⟨rfl, rfl, rfl⟩ := hcut
        clear cN HX
        have hcell := HCELL.out
        go_wp2_with fail
        refine cO.mono ?_
        rintro e X1 ⟨hx, u, rfl, hfr⟩
        clear cO hcell
        have sx := hx.size
        have hinu := hfr.in
        obtain ⟨un, ul, uc, ua, ub, ud, hu⟩ := VRs.in_shape hinu
        have HX1 : Hid (Below w.heap.size w X1) := HB.out.trans (hx.mono HB.out.size)
        have HX2 : Hid (Below V1.heap.size V1 X1) := HB2.out.trans (hx.mono HB2.out.size)
        clear hx hfr HB HB2
        by_cases h100 : E = 100
        · obtain rfl : E = 100 := h100
          have hnO : nOf (.error 1102 : Ans) = 1102 := rfl
          have hA : mapI (chkI X 100) = .error 1102 := by rfl
          rw [hA] at hinu hu
          try rw [hA]
          have hu' : u = vl 0 false 0 ⟨#[]⟩ (.slice un ul uc) (.slice ua ub ud) := hu
          subst hu'
          have HIN : Hid (Base.In false _ X1 _ (vl 0 false 0 ⟨#[]⟩ (.slice un ul uc) (.slice ua ub ud)) zerC) := hinu
          clear hinu hu hA
          obtain ⟨Z, hZ⟩ : ∃ Z, X1.alloc (.cells #[.int .i64 0, .bool false, .int .i64 0, .string ⟨#[]⟩, .slice none 0 0, .slice none 0 0] 32) = Z := ⟨_, rfl⟩
          have hz : Z.heap[X1.heap.size]? = some (.cells #[.int .i64 0, .bool false, .int .i64 0, .string ⟨#[]⟩, .slice none 0 0, .slice none 0 0] 32 (0, 0)) := by rw [← hZ]; exact heap_alloc_new _ _
          have hbz : Below X1.heap.size X1 Z := by rw [← hZ]; exact (Below.refl _ _).alloc (Nat.le_refl _) _
          obtain ⟨n0, n1, n2, n3, n4, n5⟩ := six_box hz
          have nf0 := frozen_box hz 0
          have nf1 := frozen_box hz 1
          have nf2 := frozen_box hz 2
          have nf3 := frozen_box hz 3
          have nf4 := frozen_box hz 4
          have nf5 := frozen_box hz 5
          obtain ⟨V, hV⟩ : ∃ V, ((((((Z.setCell ⟨X1.heap.size, 0, none⟩ (.int .i64 0)).setCell ⟨X1.heap.size, 1, none⟩ (.bool false)).setCell ⟨X1.heap.size, 2, none⟩ (.int .i64 0)).setCell ⟨X1.heap.size, 3, none⟩ (.string ⟨#[]⟩)).setCell ⟨X1.heap.size, 4, none⟩ (.slice un ul uc)).setCell ⟨X1.heap.size, 5, none⟩ (.slice ua ub ud)) = V := ⟨_, rfl⟩
          obtain ⟨g1, g2, g3, g4⟩ := set6 _ _ _ _ _ _ hz hV
          have hbv : Below X1.heap.size X1 V := g4 _ _ (Nat.le_refl _) hbz
          obtain ⟨t0, t1, t2, t3, t4, t5⟩ := six_box g1
          have sv := hbv.size
          have hvl := (Array.getElem?_eq_some_iff.1 g1).1
          have HG : Hid (V.heap[X1.heap.size]? = some _) := g1
          have HV1 : Hid (Below w.heap.size w V) := HX1.out.trans (hbv.mono HX1.out.size)
          have HV2 : Hid (Below V1.heap.size V1 V) := HX2.out.trans (hbv.mono HX2.out.size)
          have hi2 := HIN.out.keep (fun b' _ hlt' => hbv.block b' hlt')
          have HI2 : Hid (Base.In false All V 1 (vl 0 false 0 ⟨#[]⟩ (.slice un ul uc) (.slice ua ub ud)) zerC) := hi2.weak (S' := All) (fun _ _ => trivial) false id _ (Nat.le_refl _)
          clear hz hbz g1 g2 g3 g4 hbv HIN HX1 HX2 hi2
          have cM := num_c 100
          go_upto_region 33 with (first | (go_at_call 14; refine (cM _).mono ?_; rintro e V ⟨rfl, rfl⟩))
          go_quiet (fail)
          go_wp2_with fail
          go_roundw
          case rel => exact ⟨q + 1, by go_num, by omega, HV2.out.trans ⟨rfl, rfl, rfl, by simp, fun _ _ => by simp⟩⟩
          case measure => simp only [intOf]; omega
        · by_cases h101 : E = 101
          · obtain rfl : E = 101 := h101
            have hnO : nOf (.error 1103 : Ans) = 1103 := rfl
            have hA : mapI (chkI X 101) = .error 1103 := by rfl
            rw [hA] at hinu hu
            try rw [hA]
            have hu' : u = vl 0 false 0 ⟨#[]⟩ (.slice un ul uc) (.slice ua ub ud) := hu
            subst hu'
            have HIN : Hid (Base.In false _ X1 _ (vl 0 false 0 ⟨#[]⟩ (.slice un ul uc) (.slice ua ub ud)) zerC) := hinu
            clear hinu hu hA
            obtain ⟨Z, hZ⟩ : ∃ Z, X1.alloc (.cells #[.int .i64 0, .bool false, .int .i64 0, .string ⟨#[]⟩, .slice none 0 0, .slice none 0 0] 32) = Z := ⟨_, rfl⟩
            have hz : Z.heap[X1.heap.size]? = some (.cells #[.int .i64 0, .bool false, .int .i64 0, .string ⟨#[]⟩, .slice none 0 0, .slice none 0 0] 32 (0, 0)) := by rw [← hZ]; exact heap_alloc_new _ _
            have hbz : Below X1.heap.size X1 Z := by rw [← hZ]; exact (Below.refl _ _).alloc (Nat.le_refl _) _
            obtain ⟨n0, n1, n2, n3, n4, n5⟩ := six_box hz
            have nf0 := frozen_box hz 0
            have nf1 := frozen_box hz 1
            have nf2 := frozen_box hz 2
            have nf3 := frozen_box hz 3
            have nf4 := frozen_box hz 4
            have nf5 := frozen_box hz 5
            obtain ⟨V, hV⟩ : ∃ V, ((((((Z.setCell ⟨X1.heap.size, 0, none⟩ (.int .i64 0)).setCell ⟨X1.heap.size, 1, none⟩ (.bool false)).setCell ⟨X1.heap.size, 2, none⟩ (.int .i64 0)).setCell ⟨X1.heap.size, 3, none⟩ (.string ⟨#[]⟩)).setCell ⟨X1.heap.size, 4, none⟩ (.slice un ul uc)).setCell ⟨X1.heap.size, 5, none⟩ (.slice ua ub ud)) = V := ⟨_, rfl⟩
            obtain ⟨g1, g2, g3, g4⟩ := set6 _ _ _ _ _ _ hz hV
            have hbv : Below X1.heap.size X1 V := g4 _ _ (Nat.le_refl _) hbz
            obtain ⟨t0, t1, t2, t3, t4, t5⟩ := six_box g1
            have sv := hbv.size
            have hvl := (Array.getElem?_eq_some_iff.1 g1).1
            have HG : Hid (V.heap[X1.heap.size]? = some _) := g1
            have HV1 : Hid (Below w.heap.size w V) := HX1.out.trans (hbv.mono HX1.out.size)
            have HV2 : Hid (Below V1.heap.size V1 V) := HX2.out.trans (hbv.mono HX2.out.size)
            have hi2 := HIN.out.keep (fun b' _ hlt' => hbv.block b' hlt')
            have HI2 : Hid (Base.In false All V 1 (vl 0 false 0 ⟨#[]⟩ (.slice un ul uc) (.slice ua ub ud)) zerC) := hi2.weak (S' := All) (fun _ _ => trivial) false id _ (Nat.le_refl _)
            clear hz hbz g1 g2 g3 g4 hbv HIN HX1 HX2 hi2
            have cM := num_c 101
            go_upto_region 33 with (first | (go_at_call 14; refine (cM _).mono ?_; rintro e V ⟨rfl, rfl⟩))
            go_quiet (fail)
            go_wp2_with fail
            go_roundw
            case rel => exact ⟨q + 1, by go_num, by omega, HV2.out.trans ⟨rfl, rfl, rfl, by simp, fun _ _ => by simp⟩⟩
            case measure => simp only [intOf]; omega
          · by_cases h102 : E = 102
            · obtain rfl : E = 102 := h102
              have hnO : nOf (.error 1104 : Ans) = 1104 := rfl
              have hA : mapI (chkI X 102) = .error 1104 := by rfl
              rw [hA] at hinu hu
              try rw [hA]
              have hu' : u = vl 0 false 0 ⟨#[]⟩ (.slice un ul uc) (.slice ua ub ud) := hu
              subst hu'
              have HIN : Hid (Base.In false _ X1 _ (vl 0 false 0 ⟨#[]⟩ (.slice un ul uc) (.slice ua ub ud)) zerC) := hinu
              clear hinu hu hA
              obtain ⟨Z, hZ⟩ : ∃ Z, X1.alloc (.cells #[.int .i64 0, .bool false, .int .i64 0, .string ⟨#[]⟩, .slice none 0 0, .slice none 0 0] 32) = Z := ⟨_, rfl⟩
              have hz : Z.heap[X1.heap.size]? = some (.cells #[.int .i64 0, .bool false, .int .i64 0, .string ⟨#[]⟩, .slice none 0 0, .slice none 0 0] 32 (0, 0)) := by rw [← hZ]; exact heap_alloc_new _ _
              have hbz : Below X1.heap.size X1 Z := by rw [← hZ]; exact (Below.refl _ _).alloc (Nat.le_refl _) _
              obtain ⟨n0, n1, n2, n3, n4, n5⟩ := six_box hz
              have nf0 := frozen_box hz 0
              have nf1 := frozen_box hz 1
              have nf2 := frozen_box hz 2
              have nf3 := frozen_box hz 3
              have nf4 := frozen_box hz 4
              have nf5 := frozen_box hz 5
              obtain ⟨V, hV⟩ : ∃ V, ((((((Z.setCell ⟨X1.heap.size, 0, none⟩ (.int .i64 0)).setCell ⟨X1.heap.size, 1, none⟩ (.bool false)).setCell ⟨X1.heap.size, 2, none⟩ (.int .i64 0)).setCell ⟨X1.heap.size, 3, none⟩ (.string ⟨#[]⟩)).setCell ⟨X1.heap.size, 4, none⟩ (.slice un ul uc)).setCell ⟨X1.heap.size, 5, none⟩ (.slice ua ub ud)) = V := ⟨_, rfl⟩
              obtain ⟨g1, g2, g3, g4⟩ := set6 _ _ _ _ _ _ hz hV
              have hbv : Below X1.heap.size X1 V := g4 _ _ (Nat.le_refl _) hbz
              obtain ⟨t0, t1, t2, t3, t4, t5⟩ := six_box g1
              have sv := hbv.size
              have hvl := (Array.getElem?_eq_some_iff.1 g1).1
              have HG : Hid (V.heap[X1.heap.size]? = some _) := g1
              have HV1 : Hid (Below w.heap.size w V) := HX1.out.trans (hbv.mono HX1.out.size)
              have HV2 : Hid (Below V1.heap.size V1 V) := HX2.out.trans (hbv.mono HX2.out.size)
              have hi2 := HIN.out.keep (fun b' _ hlt' => hbv.block b' hlt')
              have HI2 : Hid (Base.In false All V 1 (vl 0 false 0 ⟨#[]⟩ (.slice un ul uc) (.slice ua ub ud)) zerC) := hi2.weak (S' := All) (fun _ _ => trivial) false id _ (Nat.le_refl _)
              clear hz hbz g1 g2 g3 g4 hbv HIN HX1 HX2 hi2
              have cM := num_c 102
              go_upto_region 33 with (first | (go_at_call 14; refine (cM _).mono ?_; rintro e V ⟨rfl, rfl⟩))
              go_quiet (fail)
              go_wp2_with fail
              go_roundw
              case rel => exact ⟨q + 1, by go_num, by omega, HV2.out.trans ⟨rfl, rfl, rfl, by simp, fun _ _ => by simp⟩⟩
              case measure => simp only [intOf]; omega
            · have hnO : nOf (.ok (intC X) : Ans) = 0 := rfl
              have hA : mapI (chkI X E) = .ok (intC X) := by unfold chkI; rw [if_neg h100, if_neg h101, if_neg h102]; rfl
              rw [hA] at hinu hu
              try rw [hA]
              have f0 : (E == 100) = false := by simp; omega
              have f1 : (E == 101) = false := by simp; omega
              have f2 : (E == 102) = false := by simp; omega
              have hu' : u = vl 3 false X ⟨#[]⟩ (.slice un ul uc) (.slice ua ub ud) := hu
              subst hu'
              have HIN : Hid (Base.In false _ X1 _ (vl 3 false X ⟨#[]⟩ (.slice un ul uc) (.slice ua ub ud)) (intC X)) := hinu
              clear hinu hu hA
              obtain ⟨Z, hZ⟩ : ∃ Z, X1.alloc (.cells #[.int .i64 0, .bool false, .int .i64 0, .string ⟨#[]⟩, .slice none 0 0, .slice none 0 0] 32) = Z := ⟨_, rfl⟩
              have hz : Z.heap[X1.heap.size]? = some (.cells #[.int .i64 0, .bool false, .int .i64 0, .string ⟨#[]⟩, .slice none 0 0, .slice none 0 0] 32 (0, 0)) := by rw [← hZ]; exact heap_alloc_new _ _
              have hbz : Below X1.heap.size X1 Z := by rw [← hZ]; exact (Below.refl _ _).alloc (Nat.le_refl _) _
              obtain ⟨n0, n1, n2, n3, n4, n5⟩ := six_box hz
              have nf0 := frozen_box hz 0
              have nf1 := frozen_box hz 1
              have nf2 := frozen_box hz 2
              have nf3 := frozen_box hz 3
              have nf4 := frozen_box hz 4
              have nf5 := frozen_box hz 5
              obtain ⟨V, hV⟩ : ∃ V, ((((((Z.setCell ⟨X1.heap.size, 0, none⟩ (.int .i64 3)).setCell ⟨X1.heap.size, 1, none⟩ (.bool false)).setCell ⟨X1.heap.size, 2, none⟩ (.int .i64 X)).setCell ⟨X1.heap.size, 3, none⟩ (.string ⟨#[]⟩)).setCell ⟨X1.heap.size, 4, none⟩ (.slice un ul uc)).setCell ⟨X1.heap.size, 5, none⟩ (.slice ua ub ud)) = V := ⟨_, rfl⟩
              obtain ⟨g1, g2, g3, g4⟩ := set6 _ _ _ _ _ _ hz hV
              have hbv : Below X1.heap.size X1 V := g4 _ _ (Nat.le_refl _) hbz
              obtain ⟨t0, t1, t2, t3, t4, t5⟩ := six_box g1
              have sv := hbv.size
              have hvl := (Array.getElem?_eq_some_iff.1 g1).1
              have HG : Hid (V.heap[X1.heap.size]? = some _) := g1
              have HV1 : Hid (Below w.heap.size w V) := HX1.out.trans (hbv.mono HX1.out.size)
              have HV2 : Hid (Below V1.heap.size V1 V) := HX2.out.trans (hbv.mono HX2.out.size)
              have hi2 := HIN.out.keep (fun b' _ hlt' => hbv.block b' hlt')
              have HI2 : Hid (Base.In false All V 1 (vl 3 false X ⟨#[]⟩ (.slice un ul uc) (.slice ua ub ud)) (intC X)) := hi2.weak (S' := All) (fun _ _ => trivial) false id _ (Nat.le_refl _)
              clear hz hbz g1 g2 g3 g4 hbv HIN HX1 HX2 hi2
              have cM := num_c E
              go_upto_region 33 with (first | (go_at_call 14; refine (cM _).mono ?_; rintro e V ⟨rfl, rfl⟩))
              clear n0 n1 n2 n3 n4 n5 nf0 nf1 nf2 nf3 nf4 nf5 hZ hV cM
              have cI := int_c X
              have hsd : V.drew.heap.size = V.heap.size := by simp
              go_cut [121] from 23 to 121 (fun x wc => x = .bool false ∧ Below w.heap.size w wc ∧ Below V1.heap.size V1 wc)
              case first =>
                go_region_held3 (fun w' => w'.cell? ⟨X1.heap.size, 0, none⟩ = some (.int .i64 3) ∧ w'.cell? ⟨X1.heap.size, 1, none⟩ = some (.bool false) ∧ w'.cell? ⟨X1.heap.size, 2, none⟩ = some (.int .i64 X) ∧ w'.cell? ⟨X1.heap.size, 3, none⟩ = some (.string ⟨#[]⟩) ∧ w'.cell? ⟨X1.heap.size, 4, none⟩ = some (.slice un ul uc) ∧ w'.cell? ⟨X1.heap.size, 5, none⟩ = some (.slice ua ub ud)) (go_keep) (first | (go_at_call 29; refine (cI _).mono ?_; rintro e Y1 ⟨rfl, hy1⟩; have sy1 := hy1.size; rw [hsd] at sy1; obtain ⟨r0, r1, r2, r3, r4, r5⟩ := six_box ((hy1.block X1.heap.size (by rw [hsd]; omega)).trans HG.out); have cS := same_int HI2.out hy1 hwr) | (go_at_call 15; refine cS.mono ?_; rintro e Y2 ⟨rfl, hy2⟩; have GB : Below V.heap.size V Y2 := (VIn.bel_d (Below.refl _ _) hy1).trans (hy2.mono (VIn.bel_d (Below.refl _ _) hy1).size); obtain ⟨r0, r1, r2, r3, r4, r5⟩ := six_box ((GB.block X1.heap.size (by omega)).trans HG.out)) | fail)
                all_goals
                  go_wp2_with fail
                  go_meet
                  case rel => exact ⟨rfl, HV1.out.trans (GB.mono HV1.out.size), HV2.out.trans (GB.mono HV2.out.size)⟩
              case rest =>
                obtain ⟨rfl, h8, h9⟩ := hcut
                go_wp2_with fail
                go_roundw
                case rel => exact ⟨q + 1, by go_num, by omega, h9⟩
                case measure => simp only [intOf]; omega
    · have d0 : decide ((q : Int) < 8) = false := by simp; omega
      go_wp2_with fail
      go_ret
      exact ⟨rfl, HB.out⟩
end Go.Proofs.YtdeigdbnnbikgaaGreatDoor.WNu

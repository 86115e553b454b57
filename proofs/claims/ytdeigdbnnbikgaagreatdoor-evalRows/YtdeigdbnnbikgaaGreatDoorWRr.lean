/- Six comparisons of two values: contract of rows. -/
import Derived.Test.YtdeigdbnnbikgaaGreatDoorVRw
import Derived.Test.YtdeigdbnnbikgaaGreatDoorPZ33
import Derived.LoopTactic
import Derived.LoopN
import Derived.Deep.CutBlock
import Derived.Deep.RegionHeld3
namespace Go.Proofs.YtdeigdbnnbikgaaGreatDoor.WRr
open Go.RowKit Go.Proofs.YtdeigdbnnbikgaaGreatDoor.Base Go.Proofs.YtdeigdbnnbikgaaGreatDoor.EPure Go.Proofs.YtdeigdbnnbikgaaGreatDoor.VPure Go.Proofs.YtdeigdbnnbikgaaGreatDoor.VSm Go.Proofs.YtdeigdbnnbikgaaGreatDoor.VMp Go.Proofs.YtdeigdbnnbikgaaGreatDoor.VNo Go.Proofs.YtdeigdbnnbikgaaGreatDoor.VVa Go.Proofs.YtdeigdbnnbikgaaGreatDoor.VEv Go.Proofs.YtdeigdbnnbikgaaGreatDoor.VOf Go.Proofs.YtdeigdbnnbikgaaGreatDoor.VAp Go.Proofs.YtdeigdbnnbikgaaGreatDoor.VAw Go.Proofs.YtdeigdbnnbikgaaGreatDoor.VRw Go.Proofs.YtdeigdbnnbikgaaGreatDoor.Fresh
set_option linter.unusedVariables false

/-- A value of one word. -/
abbrev oneC (k i : Int) (s : ByteArray) : C := .mk k false i s [] []
theorem same_boo {V Y : World} {u : Value} {B : Bool} (h : Base.In false All V 1 u (booC B)) (hy : Below V.heap.size V Y) :
    Calls Tryz.prog 15 #[u, v0 2 B 0 ⟨#[]⟩] Y fun e w' => e = .returned (.bool true) ∧ Below Y.heap.size Y w' :=
  SameV.sameV_c 1 u _ (booC B) Y (h.below hy) (VRs.in_boo _ _ _ _)
/-- Two names bound to values of one word, in a block of their own. -/
theorem envR {w : World} {G m : Nat} {s t : ByteArray} {k i1 i2 : Int} {s1 s2 : ByteArray} (hs : s.size ≤ 140737488351232) (ht : t.size ≤ 140737488351232) (hk : -9223372036854775808 ≤ k ∧ k ≤ 9223372036854775807) (hi : -9223372036854775808 ≤ i1 ∧ i1 ≤ 9223372036854775807) (hj : -9223372036854775808 ≤ i2 ∧ i2 ≤ 9223372036854775807) (hs1 : s1.size ≤ 140737488351232) (hs2 : s2.size ≤ 140737488351232) {T : TypeId}
    (h : w.heap[G]? = some (.cells #[.string s, .int .i64 k, .bool false, .int .i64 i1, .string s1, .slice none 0 0, .slice none 0 0, .string t, .int .i64 k, .bool false, .int .i64 i2, .string s2, .slice none 0 0, .slice none 0 0] T (0, 0))) :
    Bl (G + 1) (m + 1) w (.slice (some ⟨G, 0, none⟩) 2 2) [(s, oneC k i1 s1), (t, oneC k i2 s2)] := by
  have hc : ∀ q, q < 14 → w.cell? ⟨G, q, none⟩ = (#[.string s, .int .i64 k, .bool false, .int .i64 i1, .string s1, .slice none 0 0, .slice none 0 0, .string t, .int .i64 k, .bool false, .int .i64 i2, .string s2, .slice none 0 0, .slice none 0 0] : Array Value)[q]? := fun q hq => by
    simp [World.cell?, h]
  refine ⟨some ⟨G, 0, none⟩, 2, rfl, by simp, by decide, (fun e => by cases e), by simp, fun b hb => ?_, .inr ⟨G, 0, rfl, Nat.lt_succ_self _, fun q hq => ?_⟩⟩
  · simp only [List.mem_cons, List.not_mem_nil, or_false] at hb
    rcases hb with rfl | rfl
    · exact hs
    · exact ht
  · have : q = 0 ∨ q = 1 := by simp at hq; omega
    rcases this with rfl | rfl
    · exact ⟨none, 0, 0, none, 0, 0, hc 0 (by decide), hc 1 (by decide), hc 2 (by decide), hc 3 (by decide), hc 4 (by decide), hc 5 (by decide), hc 6 (by decide), VRs.in_v0 _ _ _ false hk hi hs1⟩
    · exact ⟨none, 0, 0, none, 0, 0, hc 7 (by decide), hc 8 (by decide), hc 9 (by decide), hc 10 (by decide), hc 11 (by decide), hc 12 (by decide), hc 13 (by decide), VRs.in_v0 _ _ _ false hk hj hs2⟩
set_option maxRecDepth 20000 in
set_option maxHeartbeats 12800000 in
theorem rows_c {k i1 i2 : Int} {s1 s2 : ByteArray} {less same : Bool} (hk : -9223372036854775808 ≤ k ∧ k ≤ 9223372036854775807) (hi : -9223372036854775808 ≤ i1 ∧ i1 ≤ 9223372036854775807) (hj : -9223372036854775808 ≤ i2 ∧ i2 ≤ 9223372036854775807) (hs1 : s1.size ≤ 140737488351232) (hs2 : s2.size ≤ 140737488351232)
    (h6 : Six (oneC k i1 s1) (oneC k i2 s2) less same) (h1 : code (oneC k i1 s1) = 0) (h2 : code (oneC k i2 s2) = 0) {w : World} (hT : TX w) :
    Calls Tryz.prog 39 #[v0 k false i1 s1, v0 k false i2 s2, .bool less, .bool same] w fun e w' => e = .returned (.bool true) ∧ Below w.heap.size w w' := by
  have HT : Hid (TX w) := hT
  have HO : Hid (∀ (q : Nat), q < 6 → ∀ (K : Nat) (W : World) (v : Value), Bl K 1 W v (bsR (oneC k i1 s1) (oneC k i2 s2)) → K ≤ W.heap.size → TX W → Calls Tryz.prog 38 #[.string (tR q), v] W fun e w' => EV 1 W (booC (wR less same q)) 0 e w') := fun q hq K W v hv hK hT => ofR hq h6 h1 h2 (by simp [Shallow.dep, Shallow.depL]) (by simp [Shallow.dep, Shallow.depL]) hv hK hT
  obtain ⟨W0, hW0⟩ : ∃ W0, (w.alloc (.cells #[.int .i64 k, .bool false, .int .i64 i1, .string s1, .slice none 0 0, .slice none 0 0] 32)).alloc (.cells #[.int .i64 k, .bool false, .int .i64 i2, .string s2, .slice none 0 0, .slice none 0 0] 32) = W0 := ⟨_, rfl⟩
  have z0 : W0.heap.size = w.heap.size + 2 := by rw [← hW0]; simp
  have hb0 : Below w.heap.size w W0 := by rw [← hW0]; exact ((Below.refl _ w).alloc (Nat.le_refl _) _).alloc (by simp) _
  have hp : W0.heap[w.heap.size]? = some (.cells #[.int .i64 k, .bool false, .int .i64 i1, .string s1, .slice none 0 0, .slice none 0 0] 32 (0, 0)) := by rw [← hW0, Below.heap_alloc _ _ _ (by simp), heap_alloc_new]
  have hq : W0.heap[w.heap.size + 1]? = some (.cells #[.int .i64 k, .bool false, .int .i64 i2, .string s2, .slice none 0 0, .slice none 0 0] 32 (0, 0)) := by
    have := heap_alloc_new (w.alloc (.cells #[.int .i64 k, .bool false, .int .i64 i1, .string s1, .slice none 0 0, .slice none 0 0] 32)) (.cells #[.int .i64 k, .bool false, .int .i64 i2, .string s2, .slice none 0 0, .slice none 0 0] 32)
    rw [World.size_alloc] at this
    rw [← hW0]
    exact this
  obtain ⟨p0, p1, p2, p3, p4, p5⟩ := six_box hp
  obtain ⟨q0, q1, q2, q3, q4, q5⟩ := six_box hq
  obtain ⟨V0, hV0⟩ : ∃ V0, W0.alloc (.cells #[.string ⟨#[97]⟩, .int .i64 k, .bool false, .int .i64 i1, .string s1, .slice none 0 0, .slice none 0 0, .string ⟨#[98]⟩, .int .i64 k, .bool false, .int .i64 i2, .string s2, .slice none 0 0, .slice none 0 0] 52) = V0 := ⟨_, rfl⟩
  have hz : V0.heap[w.heap.size + 2]? = some (.cells #[.string ⟨#[97]⟩, .int .i64 k, .bool false, .int .i64 i1, .string s1, .slice none 0 0, .slice none 0 0, .string ⟨#[98]⟩, .int .i64 k, .bool false, .int .i64 i2, .string s2, .slice none 0 0, .slice none 0 0] 52 (0, 0)) := by rw [← hV0, ← z0]; exact heap_alloc_new _ _
  have hv0 : Below W0.heap.size W0 V0 := by rw [← hV0]; exact (Below.refl _ _).alloc (Nat.le_refl _) _
  have y0 : V0.heap.size = w.heap.size + 3 := by rw [← hV0]; simp [z0]
  obtain ⟨V1, hV1⟩ : ∃ V1, V0.alloc (.cells #[.string ⟨#[97, 32, 60, 32, 98]⟩, .string ⟨#[97, 32, 60, 61, 32, 98]⟩, .string ⟨#[97, 32, 62, 32, 98]⟩, .string ⟨#[97, 32, 62, 61, 32, 98]⟩, .string ⟨#[97, 32, 61, 61, 32, 98]⟩, .string ⟨#[97, 32, 33, 61, 32, 98]⟩] 9) = V1 := ⟨_, rfl⟩
  have hy : V1.heap[w.heap.size + 3]? = some (.cells #[.string ⟨#[97, 32, 60, 32, 98]⟩, .string ⟨#[97, 32, 60, 61, 32, 98]⟩, .string ⟨#[97, 32, 62, 32, 98]⟩, .string ⟨#[97, 32, 62, 61, 32, 98]⟩, .string ⟨#[97, 32, 61, 61, 32, 98]⟩, .string ⟨#[97, 32, 33, 61, 32, 98]⟩] 9 (0, 0)) := by rw [← hV1, ← y0]; exact heap_alloc_new _ _
  have hv1 : Below V0.heap.size V0 V1 := by rw [← hV1]; exact (Below.refl _ _).alloc (Nat.le_refl _) _
  have y1 : V1.heap.size = w.heap.size + 4 := by rw [← hV1]; simp [y0]
  have hb1 : Below w.heap.size w V1 := (hb0.trans (hv0.mono hb0.size)).trans (hv1.mono (hb0.trans (hv0.mono hb0.size)).size)
  have HE1 : Hid (Bl (w.heap.size + 3) 1 V1 (.slice (some ⟨w.heap.size + 2, 0, none⟩) 2 2) (bsR (oneC k i1 s1) (oneC k i2 s2))) := (envR (by decide) (by decide) hk hi hj hs1 hs2 hz).low (hv1.mono (by omega))
  obtain ⟨V2, hV2⟩ : ∃ V2, V1.alloc (.cells #[.bool (wR less same 0), .bool (wR less same 1), .bool (wR less same 2), .bool (wR less same 3), .bool (wR less same 4), .bool (wR less same 5)] 4) = V2 := ⟨_, rfl⟩
  have hx : V2.heap[w.heap.size + 4]? = some (.cells #[.bool (wR less same 0), .bool (wR less same 1), .bool (wR less same 2), .bool (wR less same 3), .bool (wR less same 4), .bool (wR less same 5)] 4 (0, 0)) := by rw [← hV2, ← y1]; exact heap_alloc_new _ _
  have hv2 : Below V1.heap.size V1 V2 := by rw [← hV2]; exact (Below.refl _ _).alloc (Nat.le_refl _) _
  have y2 : V2.heap.size = w.heap.size + 5 := by rw [← hV2]; simp [y1]
  have HB2 : Hid (Below w.heap.size w V2) := hb1.trans (hv2.mono hb1.size)
  have HE : Hid (Bl (w.heap.size + 3) 1 V2 (.slice (some ⟨w.heap.size + 2, 0, none⟩) 2 2) (bsR (oneC k i1 s1) (oneC k i2 s2))) := HE1.out.low (hv2.mono (by omega))
  have HS : Hid (∀ q, q < 6 → V2.cell? ⟨w.heap.size + 3, q, none⟩ = some (.string (tR q))) := by
    intro q hq
    have hy2 := (hv2.block (w.heap.size + 3) (by omega)).trans hy
    have : q = 0 ∨ q = 1 ∨ q = 2 ∨ q = 3 ∨ q = 4 ∨ q = 5 := by omega
    rcases this with rfl | rfl | rfl | rfl | rfl | rfl <;> (simp only [World.cell?, hy2]; rfl)
  have HW : Hid (∀ q, q < 6 → V2.cell? ⟨w.heap.size + 4, q, none⟩ = some (.bool (wR less same q))) := by
    intro q hq
    have : q = 0 ∨ q = 1 ∨ q = 2 ∨ q = 3 ∨ q = 4 ∨ q = 5 := by omega
    rcases this with rfl | rfl | rfl | rfl | rfl | rfl <;> (simp only [World.cell?, hx]; rfl)
  have HY2 : Hid (V2.heap.size = w.heap.size + 5) := y2
  have HV2 : Hid (V1.alloc (.cells #[.bool (wR less same 0), .bool (wR less same 1), .bool (wR less same 2), .bool (wR less same 3), .bool (wR less same 4), .bool (wR less same 5)] 4) = V2) := hV2
  clear hz hy hx hv0 hv1 hv2 hb0 hb1 hp hq HE1 hV2 h6 h1 h2 hT
  go_enter Tryz.func39, Tryz.ntmps39
  go_upto_region 3 with fail
  try rw [hW0]
  try rw [hV0]
  try rw [hV1]
  go_cut [11] from 21 to 37 (fun x wc => x = .slice (some ⟨w.heap.size + 4, 0, none⟩) 6 6 ∧ wc = V2)
  case first =>
    have e := HV2.out
    have ee := y1
    cases less <;> cases same <;>
    · simp only [wR] at e
      go_wp2_with fail
      go_meet
      case rel => exact ⟨by first | rfl | rw [y1], by first | exact e | rfl⟩
  case rest =>
    obtain ⟨rfl, rfl⟩ := hcut
    clear p0 p1 p2 p3 p4 p5 q0 q1 q2 q3 q4 q5 hW0 hV0 hV1 HV2 y0 y1 y2 z0
    go_wp2_with fail
    go_loopw [12] (fun v wr => ∃ q : Nat, v = .int .i64 q ∧ q ≤ 6 ∧ Below wc.heap.size wc wr) (fun v _ => 6 - (intOf v).toNat)
    case atStart => exact ⟨0, rfl, by omega, Below.refl _ _⟩
    case round =>
      obtain ⟨q, rfl, hq, hb⟩ := hrel
      have hY2 := HY2.out
      have HB : Hid (Below w.heap.size w wr) := HB2.out.trans (hb.mono HB2.out.size)
      have hsz := hb.size
      by_cases hlt : q < 6
      · have d0 : decide ((q : Int) < 6) = true := by simp; omega
        have hcell : wr.cell? ⟨w.heap.size + 3, q, none⟩ = some (.string (tR q)) := (World.cell?_of_block (w := wc) (hb.block (w.heap.size + 3) (by omega))).trans (HS.out q hlt)
        have hE2 := HE.out.low (hb.mono (by omega))
        have cO := HO.out q hlt _ _ _ hE2 (by omega) (HT.out.later HB.out)
        obtain ⟨B, hB⟩ : ∃ B, wR less same q = B := ⟨_, rfl⟩
        have HWQ : Hid (wc.cell? ⟨w.heap.size + 4, q, none⟩ = some (.bool B)) := by rw [← hB]; exact HW.out q hlt
        rw [hB] at cO
        have HBB : Hid (Below wc.heap.size wc wr) := hb
        clear hb hE2 hB
        go_wp2_with fail
        refine cO.mono ?_
        rintro e X1 ⟨hx, u, rfl, hfr⟩
        clear cO hcell
        have sx := hx.size
        have hinu := hfr.in
        obtain ⟨un, ul, uc, ua, ub, ud, hu⟩ := VRs.in_shape hinu
        have HX1 : Hid (Below w.heap.size w X1) := HB.out.trans (hx.mono HB.out.size)
        have HX2 : Hid (Below wc.heap.size wc X1) := HBB.out.trans (hx.mono HBB.out.size)
        clear hx hfr HB HBB
        have hu' : u = vl 2 B 0 ⟨#[]⟩ (.slice un ul uc) (.slice ua ub ud) := hu
        subst hu'
        have HIN : Hid (Base.In false _ X1 _ (vl 2 B 0 ⟨#[]⟩ (.slice un ul uc) (.slice ua ub ud)) (booC B)) := hinu
        clear hinu hu
        obtain ⟨Z, hZ⟩ : ∃ Z, X1.alloc (.cells #[.int .i64 0, .bool false, .int .i64 0, .string ⟨#[]⟩, .slice none 0 0, .slice none 0 0] 32) = Z := ⟨_, rfl⟩
        have hz : Z.heap[X1.heap.size]? = some (.cells #[.int .i64 0, .bool false, .int .i64 0, .string ⟨#[]⟩, .slice none 0 0, .slice none 0 0] 32 (0, 0)) := by rw [← hZ]; exact heap_alloc_new _ _
        have hbz : Below X1.heap.size X1 Z := by rw [← hZ]; exact (Below.refl _ _).alloc (Nat.le_refl _) _
        obtain ⟨n0, n1, n2, n3, n4, n5⟩ := six_box hz
        have nf0 := frozen_box hz 0
        have nf1 := frozen_box hz 1
        have nf2 := frozen_box hz 2
        have nf3 := frozen_box hz 3
        have nf4 := frozen_box hz 4
        have nf5 := frozen_box hz 5
        obtain ⟨V, hV⟩ : ∃ V, ((((((Z.setCell ⟨X1.heap.size, 0, none⟩ (.int .i64 2)).setCell ⟨X1.heap.size, 1, none⟩ (.bool B)).setCell ⟨X1.heap.size, 2, none⟩ (.int .i64 0)).setCell ⟨X1.heap.size, 3, none⟩ (.string ⟨#[]⟩)).setCell ⟨X1.heap.size, 4, none⟩ (.slice un ul uc)).setCell ⟨X1.heap.size, 5, none⟩ (.slice ua ub ud)) = V := ⟨_, rfl⟩
        obtain ⟨g1, g2, g3, g4⟩ := set6 _ _ _ _ _ _ hz hV
        have hbv : Below X1.heap.size X1 V := g4 _ _ (Nat.le_refl _) hbz
        obtain ⟨t0, t1, t2, t3, t4, t5⟩ := six_box g1
        have sv := hbv.size
        have hvl := (Array.getElem?_eq_some_iff.1 g1).1
        have HG : Hid (V.heap[X1.heap.size]? = some _) := g1
        have HV1 : Hid (Below w.heap.size w V) := HX1.out.trans (hbv.mono HX1.out.size)
        have HV2 : Hid (Below wc.heap.size wc V) := HX2.out.trans (hbv.mono HX2.out.size)
        have hi2 := HIN.out.keep (fun b' _ hlt' => hbv.block b' hlt')
        have HI2 : Hid (Base.In false All V 1 (vl 2 B 0 ⟨#[]⟩ (.slice un ul uc) (.slice ua ub ud)) (booC B)) := hi2.weak (S' := All) (fun _ _ => trivial) false id _ (Nat.le_refl _)
        have hwc := HWQ.out
        have wq : V.cell? ⟨w.heap.size + 4, q, none⟩ = some (.bool B) := (World.cell?_of_block (w := wc) (HV2.out.block (w.heap.size + 4) (by omega))).trans hwc
        clear hz hbz g1 g2 g3 g4 hbv HIN HX1 HX2 hi2 hwc
        go_upto_region 8 with fail
        clear n0 n1 n2 n3 n4 n5 nf0 nf1 nf2 nf3 nf4 nf5 hZ hV
        have hsd : V.drew.heap.size = V.heap.size := by simp
        have bi0 : (0 : Int) ≤ (q : Int) := by omega
        have bi1 : (q : Int) < 6 := by omega
        have bi2 : (q : Int) < ((6 : Nat) : Int) := by omega
        have cS := same_boo (Y := V.drew) HI2.out (VIn.bel_d (Below.refl _ _) (Below.refl _ _))
        go_cut [64] from 38 to 64 (fun x wy => x = .bool false ∧ Below w.heap.size w wy ∧ Below wc.heap.size wc wy)
        case first =>
          go_region_held3 (fun w' => w'.cell? ⟨X1.heap.size, 0, none⟩ = some (.int .i64 2) ∧ w'.cell? ⟨X1.heap.size, 1, none⟩ = some (.bool B) ∧ w'.cell? ⟨X1.heap.size, 2, none⟩ = some (.int .i64 0) ∧ w'.cell? ⟨X1.heap.size, 3, none⟩ = some (.string ⟨#[]⟩) ∧ w'.cell? ⟨X1.heap.size, 4, none⟩ = some (.slice un ul uc) ∧ w'.cell? ⟨X1.heap.size, 5, none⟩ = some (.slice ua ub ud) ∧ w'.cell? ⟨w.heap.size + 4, q, none⟩ = some (.bool B)) (go_keep) (first | (go_at_call 15; refine cS.mono ?_; rintro e Y2 ⟨rfl, hy2⟩; have GB : Below V.heap.size V Y2 := VIn.bel_d (Below.refl _ _) hy2; obtain ⟨r0, r1, r2, r3, r4, r5⟩ := six_box ((GB.block X1.heap.size (by omega)).trans HG.out); have wq2 : Y2.cell? ⟨w.heap.size + 4, q, none⟩ = some (.bool B) := (World.cell?_of_block (w := V) (GB.block (w.heap.size + 4) (by omega))).trans wq) | fail)
          all_goals
            go_wp2_with fail
            go_meet
            case rel => exact ⟨rfl, HV1.out.trans (GB.mono HV1.out.size), HV2.out.trans (GB.mono HV2.out.size)⟩
        case rest =>
          obtain ⟨rfl, h8, h9⟩ := hcut
          go_wp2_with fail
          go_roundw
          case rel => exact ⟨q + 1, by go_num, by omega, h9⟩
          case measure => simp only [intOf]; omega
      · have d0 : decide ((q : Int) < 6) = false := by simp; omega
        go_wp2_with fail
        go_ret
        exact ⟨rfl, HB.out⟩
end Go.Proofs.YtdeigdbnnbikgaaGreatDoor.WRr

/- For every input the law CodeChecks returns true and what came in reads as before; conditions: the tables of the library hold what they are laid with. -/
import Derived.Test.YtamocioljeaicaaGreatDoorMRu
import Derived.Test.YtamocioljeaicaaGreatDoorVPt
import Derived.Test.YtamocioljeaicaaGreatDoorCRc
import Derived.Test.YtamocioljeaicaaGreatDoorCIn
import Derived.Test.YtamocioljeaicaaGreatDoorRows
import Derived.Test.YtamocioljeaicaaGreatDoorDigits
import Derived.WalkKit
import Derived.ProofKit
import Derived.OpenShut
import Derived.Deep.DeepHandedRow
import Derived.Lib.LaidTab
import Derived.Stop.LaidErr
import Derived.Below
import Derived.Carry
import Derived.SizedLaws
import Derived.Test.YtamocioljeaicaaGreatDoorCards
import Derived.Test.YtamocioljeaicaaGreatDoorTie
import Derived.ShutString
namespace Go.Proofs.YtamocioljeaicaaGreatDoor.CAp
open Go.RowKit Go.Proofs.YtamocioljeaicaaGreatDoor.Base Go.Proofs.YtamocioljeaicaaGreatDoor.VSm Go.Proofs.YtamocioljeaicaaGreatDoor.VPk
open Go.Proofs.YtamocioljeaicaaGreatDoor.VPure
open Go.Proofs.YtamocioljeaicaaGreatDoor.CPu (Ins ck)
set_option linter.unusedVariables false

abbrev aT : ByteArray := ⟨#[97]⟩
def recC : C := .mk 6 false 0 ⟨#[]⟩ [aT] [intC 2]
def aL : List Ins := [(6, 0), (7, 0), (4, 1), (15, 0)]
def aP : Nat → List C
  | 0 => []
  | 1 => [recC]
  | 2 => [intC 2]
  | 3 => [intC 2, intC 1]
  | _ => [intC 3]
theorem ck1 : ck aL 1 1 = 0 := by decide +kernel
theorem ck0 : ck aL 0 1 = 2003 := by decide +kernel
theorem pr7 : pr2 7 recC (strC aT) = .ok (intC 2) := by kernel_rfl
theorem pr15 : pr2 15 (intC 2) (intC 1) = .ok (intC 3) := by rfl
theorem wfR : wf recC := ⟨fun _ => by simp [recC, C.n, C.l], by show wfL [intC 2]; rw [wfL_cons]; exact ⟨wf_one (by decide), by rw [wfL]; trivial⟩⟩
theorem wf2 : wf (intC 2) := wf_one (by decide)
theorem pair7 : PairOk 7 := by
  intro K m w va vb a b hK hT hva hvb hwf
  exact VPt.pair7 hK hva hvb hwf.1
theorem verA : UBase.verr aT = 0 := by decide +kernel
theorem tgA : STx.tg aT = true := by unfold STx.tg; rw [verA]; decide
theorem texA : ([aT].any fun s => !STx.tg s) = false := by simp [tgA]
theorem fmR : Fault.fm recC = true := by decide +kernel
theorem fm2 : Fault.fm (intC 2) = true := by decide +kernel
theorem plR : Walk.pl 1 recC = [(1, recC), (2, intC 2)] := by
  unfold recC
  rw [Walk.pl, Walk.plL_cons, Walk.plL_nil]
  unfold intC
  rw [Walk.pl, Walk.plL_nil]
  rfl
theorem bdR : MEi.bd recC = false := by
  have f1 : Fault.ft recC 1 1 = 0 := by unfold Fault.ft; rw [fmR]; decide
  have f2 : Fault.ft (intC 2) 2 2 = 0 := by unfold Fault.ft; rw [fm2]; decide
  unfold MEi.bd MEi.cd
  rw [plR]
  simp [Measure.ms, f1, f2]
theorem anyR : [recC].any MEi.bd = false := by simp [bdR]
end Go.Proofs.YtamocioljeaicaaGreatDoor.CAp

namespace Go.Proofs.YtamocioljeaicaaGreatDoor.CAr
open Go.RowKit Go.Proofs.YtamocioljeaicaaGreatDoor.Base Go.Proofs.YtamocioljeaicaaGreatDoor.VSm Go.Proofs.YtamocioljeaicaaGreatDoor.VJn Go.Proofs.YtamocioljeaicaaGreatDoor.VRs Go.Proofs.YtamocioljeaicaaGreatDoor.VPk Go.Proofs.YtamocioljeaicaaGreatDoor.MBx Go.Proofs.YtamocioljeaicaaGreatDoor.MSe Go.Proofs.YtamocioljeaicaaGreatDoor.MDo Go.Proofs.YtamocioljeaicaaGreatDoor.MCd Go.Proofs.YtamocioljeaicaaGreatDoor.CAp
open Go.Proofs.YtamocioljeaicaaGreatDoor.VPure
open Go.Proofs.YtamocioljeaicaaGreatDoor.CPu (Ins ck)
open Go.Proofs.YtamocioljeaicaaGreatDoor.CBx (Cx)
set_option linter.unusedVariables false

set_option maxHeartbeats 1600000 in
theorem arun {K : Nat} {w : World} {cv tv sv : Value} (hK : K ≤ w.heap.size) (hL : Cx K w cv aL) (hT : Tz K w tv [aT]) (hS : Base.InL false (fun b => b < K) w 2 sv [recC]) (hTb : Tb w) :
    Calls Tryz.prog 19 #[cv, tv, sv] w fun e w' => ∃ u, e = .returned (.tuple #[u, .int .i64 0]) ∧ Base.In false All w' 2 u (intC 3) ∧ Below w.heap.size w w' := by
  have hSA : Base.InL false All w 2 sv [recC] := hS.weak (fun _ _ => trivial) false id 2 (Nat.le_refl _)
  refine MRu.run_ok (m := 1) hL hT hSA hK texA ck1 anyR fun W hW => ?_
  have hz := hW.size
  have hL1 := (hL.below (hW.mono hK)).mono (K' := W.heap.size) (by omega)
  have hT1 : Tz W.heap.size W tv [aT] := by
    obtain ⟨a, cap, h1, h2, h3, h4⟩ := hT.below (hW.mono hK)
    refine ⟨a, cap, h1, h2, h3, h4.imp id fun ⟨g, o, ha, hg, hc⟩ => ⟨g, o, ha, by omega, hc⟩⟩
  have hS1 : Base.InL false (fun b => b < W.heap.size) W 2 sv [recC] := (hS.keep (w' := W) fun b hb hl => hW.block b hl).weak (fun b hb => by show b < W.heap.size; have : b < K := hb; omega) false id 2 (Nat.le_refl _)
  have hTK : TK W.heap.size W := hTb.below hW
  have hL0 := hL1
  have hT0 := hT1
  have hS0 := hS1
  obtain ⟨a1, c1, rfl, -⟩ := hL0
  obtain ⟨a2, c2, rfl, -⟩ := hT0
  obtain ⟨a3, c3, rfl, -⟩ := hS0
  refine MCo.code_ok (m := 2) (r := intC 3) fun W2 b2 m2 => ?_
  refine MRn.line_c (P := aP) (r := intC 3) (hL1.below b2) m2 (by decide) (fun q hq => ?_) (fun q hq W3 pv b3 m3 => ?_) rfl
  · have : q = 0 ∨ q = 1 ∨ q = 2 ∨ q = 3 := by simp [aL] at hq; omega
    rcases this with rfl | rfl | rfl | rfl
    · show (6 : Int) < 30; decide
    · show (7 : Int) < 30; decide
    · show (4 : Int) < 30; decide
    · show (15 : Int) < 30; decide
  · have b3' : Below W.heap.size W W3 := b2.trans (b3.mono (by omega))
    have hT3 := hT1.below b3'
    have hS3 : Base.InL false (fun b => b < W.heap.size) W3 2 _ [recC] := hS1.keep (w' := W3) fun b hb hl => b3'.block b hb
    have hq4 : q = 0 ∨ q = 1 ∨ q = 2 ∨ q = 3 := by simp [aL] at hq; omega
    rcases hq4 with rfl | rfl | rfl | rfl
    · exact do_var (k := 0) m3 (by decide) hS3 (by decide)
    · exact MDp.pair_ok (o := 7) (a := 0) (q := []) (x := recC) (y := strC aT) m3 (by decide) (hTK.below b3') pair7 (by decide) wfR pr7 fun W4 b4 => second_text (m := 1) (k := 0) (m3.below b4) (hT3.below (b4.mono (by have := b3'.size; omega))) (by decide)
    · exact do_int (m := 1) (a := 1) m3 (by decide) (by decide)
    · exact MDp.pair_ok (o := 15) (a := 0) (q := []) (x := intC 2) (y := intC 1) m3 (by decide) (hTK.below b3') VPk.pair15 (by decide) wf2 pr15 fun W4 b4 => second_take (o := 15) (a := 0) (p := [intC 2]) (m3.below b4) (by decide) (by decide)
end Go.Proofs.YtamocioljeaicaaGreatDoor.CAr

namespace Go.Proofs.YtamocioljeaicaaGreatDoor.CAw
open Go.RowKit Go.Proofs.YtamocioljeaicaaGreatDoor.Base Go.Proofs.YtamocioljeaicaaGreatDoor.VSm Go.Proofs.YtamocioljeaicaaGreatDoor.VJn Go.Proofs.YtamocioljeaicaaGreatDoor.VRs Go.Proofs.YtamocioljeaicaaGreatDoor.MBx Go.Proofs.YtamocioljeaicaaGreatDoor.MSe Go.Proofs.YtamocioljeaicaaGreatDoor.CAp Go.Proofs.YtamocioljeaicaaGreatDoor.CAr
open Go.Proofs.YtamocioljeaicaaGreatDoor.VPure
open Go.Proofs.YtamocioljeaicaaGreatDoor.CBx (Cx)
set_option linter.unusedVariables false

theorem num_c (x : Int) (w : World) : Calls Tryz.prog 6 #[.int .i64 x] w fun e w' => e = .returned (.int .i64 x) ∧ w = w' := by
  go_enter Tryz.func6, Tryz.ntmps6
  go_wp2_with fail
  go_ret
  exact ⟨rfl, rfl⟩
/-- The memory of awake, ahead of its call of Run. -/
abbrev cA : Array Value := #[.int .i64 6, .int .i64 0, .int .i64 7, .int .i64 0, .int .i64 4, .int .i64 1, .int .i64 15, .int .i64 0]
abbrev cI : Array Value := #[.int .i64 3, .bool false, .int .i64 2, .string ⟨#[]⟩, .slice none 0 0, .slice none 0 0]
abbrev cR (n : Nat) : Array Value := #[.int .i64 6, .bool false, .int .i64 0, .string ⟨#[]⟩, .slice (some ⟨n + 1, 0, none⟩) 1 1, .slice (some ⟨n + 1 + 1, 0, none⟩) 1 1]
theorem mem (w : World) : ∃ W, (((((w.alloc (.cells cA 32)).alloc (.cells #[.string ⟨#[97]⟩] 9)).alloc (.cells cI 49)).alloc (.cells (cR w.heap.size) 49)).alloc (.cells #[.string ⟨#[97]⟩] 9)).alloc (.cells (cR w.heap.size) 49) = W ∧ Below w.heap.size w W ∧ W.heap.size = w.heap.size + 6 ∧ W.heap[w.heap.size]? = some (.cells cA 32 (0, 0)) ∧ W.heap[w.heap.size + 1]? = some (.cells #[.string ⟨#[97]⟩] 9 (0, 0)) ∧ W.heap[w.heap.size + 2]? = some (.cells cI 49 (0, 0)) ∧ W.heap[w.heap.size + 4]? = some (.cells #[.string ⟨#[97]⟩] 9 (0, 0)) ∧ W.heap[w.heap.size + 5]? = some (.cells (cR w.heap.size) 49 (0, 0)) := by
  refine ⟨_, rfl, ?_, by simp, ?_, ?_, ?_, ?_, ?_⟩
  · exact ((((((Below.refl _ w).alloc (Nat.le_refl _) _).alloc (by simp) _).alloc (by simp <;> omega) _).alloc (by simp <;> omega) _).alloc (by simp <;> omega) _).alloc (by simp <;> omega) _
  all_goals
    show ((((((w.heap.push _).push _).push _).push _).push _).push _)[_]? = _
    simp only [Array.getElem?_push, Array.size_push]
    repeat (first | rw [if_pos trivial] | rw [if_pos (by omega)] | rw [if_neg (by omega)])
    try rfl
theorem cells8 {W : World} {g : Nat} (h : W.heap[g]? = some (.cells cA 32 (0, 0))) {K : Nat} (hg : g < K) : Cx K W (.slice (some ⟨g, 0, none⟩) 4 4) aL := by
  refine ⟨_, 4, rfl, by decide, by decide, (fun h => by cases h), .inr ⟨g, 0, rfl, hg, fun j hj => ?_⟩⟩
  have : j = 0 ∨ j = 1 ∨ j = 2 ∨ j = 3 := by simp [aL] at hj; omega
  rcases this with rfl | rfl | rfl | rfl <;> constructor <;> (simp [World.cell?, h]; rfl)
theorem text1 {W : World} {g : Nat} (h : W.heap[g]? = some (.cells #[.string ⟨#[97]⟩] 9 (0, 0))) {K : Nat} (hg : g < K) : Tz K W (.slice (some ⟨g, 0, none⟩) 1 1) [aT] := by
  refine ⟨_, 1, rfl, by decide, by decide, .inr ⟨g, 0, rfl, hg, fun j hj => ?_⟩⟩
  obtain rfl : j = 0 := by simpa using hj
  exact ⟨by simp [World.cell?, h], by show (1 : Nat) ≤ 140737488351232; decide⟩
theorem stack1 {W : World} {n : Nat} (h1 : W.heap[n + 1]? = some (.cells #[.string ⟨#[97]⟩] 9 (0, 0))) (h2 : W.heap[n + 2]? = some (.cells cI 49 (0, 0))) (h5 : W.heap[n + 5]? = some (.cells (cR n) 49 (0, 0))) {K : Nat} (hg : n + 5 < K) : Base.InL false (fun b => b < K) W 2 (.slice (some ⟨n + 5, 0, none⟩) 1 1) [recC] := by
  refine ⟨_, 1, rfl, by decide, by decide, by decide, (fun h => by cases h), .inr ⟨n + 5, 0, rfl, hg, fun j hj => ?_, (fun h => by cases h)⟩⟩
  obtain rfl : j = 0 := by simpa using hj
  obtain ⟨k0, k1, k2, k3, k4, k5⟩ := six_box h5
  refine ⟨_, ⟨_, _, _, _, _, _, rfl, k0, k1, k2, k3, k4, k5⟩, ?_⟩
  show Base.In false _ W 2 _ (.mk 6 false 0 ⟨#[]⟩ [aT] [intC 2])
  rw [in_iff]
  refine ⟨_, _, rfl, by decide, by decide, by decide, ⟨_, 1, rfl, by decide, by decide, by decide, by simp; decide, (fun h => by cases h), .inr ⟨n + 1, 0, rfl, by show n + 1 < K; omega, fun j hj => ?_, (fun h => by cases h)⟩⟩, ⟨_, 1, rfl, by decide, by decide, by decide, (fun h => by cases h), .inr ⟨n + 2, 0, rfl, by show n + 2 < K; omega, fun j hj => ?_, (fun h => by cases h)⟩⟩⟩
  · obtain rfl : j = 0 := by simpa using hj
    simp [World.cell?, h1]
  · obtain rfl : j = 0 := by simpa using hj
    obtain ⟨y0, y1, y2, y3, y4, y5⟩ := six_box h2
    exact ⟨_, ⟨_, _, _, _, _, _, rfl, y0, y1, y2, y3, y4, y5⟩, in_v0 _ W 0 false (by decide) (by decide) (by decide)⟩
set_option maxRecDepth 20000 in
set_option maxHeartbeats 3200000 in
theorem awake_c (w : World) (ht : Tb w) : Calls Tryz.prog 9 #[] w fun e w' => e = .returned (.bool true) ∧ Below w.heap.size w w' := by
  obtain ⟨W, hW, bW, sW, z0, z1, z2, z4, z5⟩ := mem w
  have cRun := arun (K := W.heap.size) (Nat.le_refl _) (cells8 z0 (by omega)) (text1 z4 (by omega)) (stack1 z1 z2 z5 (by omega)) (ht.below bW)
  have HW : Hid (_ = W) := hW
  have HB : Hid _ := bW
  have HC : Hid (∀ W', Below W.heap.size W W' → Cx W.heap.size W' (.slice (some ⟨w.heap.size, 0, none⟩) 4 4) aL) := fun W' hb => (cells8 z0 (by omega)).below hb
  clear hW bW z0 z1 z2 z4 z5 ht
  go_enter Tryz.func9, Tryz.ntmps9
  go_wp2_with fail
  rw [HW.out]
  refine cRun.mono ?_
  rintro e W1 ⟨u, rfl, hin, b1⟩
  obtain ⟨an, ln, cn, al, ll, cl, rfl⟩ : ∃ an ln cn al ll cl, u = vl 3 false 3 ⟨#[]⟩ (.slice an ln cn) (.slice al ll cl) := in_shape hin
  obtain ⟨W2, hW2⟩ : ∃ W2, W1.alloc (.cells #[.int .i64 3, .bool false, .int .i64 3, .string ⟨#[]⟩, .slice an ln cn, .slice al ll cl] 49) = W2 := ⟨_, rfl⟩
  have b2 : Below W1.heap.size W1 W2 := by rw [← hW2]; exact (Below.refl _ W1).alloc (Nat.le_refl _) _
  have x2 : W2.heap[W1.heap.size]? = some (.cells #[.int .i64 3, .bool false, .int .i64 3, .string ⟨#[]⟩, .slice an ln cn, .slice al ll cl] 49 (0, 0)) := by rw [← hW2]; exact heap_alloc_new W1 _
  have hb2 : Below W.heap.size W W2 := b1.trans (b2.mono b1.size)
  have hz1 := b1.size
  have hz2 := b2.size
  have cK := CCk.check_c (HC.out W2 hb2) (by omega) 1 1
  rw [ck1] at cK
  have HB2 : Hid _ := hb2
  have HX2 : Hid _ := x2
  have HW2 : Hid (_ = W2) := hW2
  have hl2 : W1.heap.size < W2.heap.size := by rw [← hW2]; simp
  clear cRun hin b1 b2 x2 hb2 hW2
  go_wp2_with fail
  rw [HW2.out]
  refine cK.mono ?_
  rintro e W3 ⟨rfl, b3⟩
  have hz3 := b3.size
  have hb3 : Below W.heap.size W W3 := HB2.out.trans (b3.mono (by omega))
  have cK2 := CCk.check_c (HC.out W3 hb3) (by omega) 0 1
  rw [ck0] at cK2
  have HX3 : Hid _ := (b3.block W1.heap.size hl2).trans HX2.out
  have HB3 : Hid _ := hb3
  clear cK b3 hb3
  go_wp2_with fail
  refine cK2.mono ?_
  rintro e W4 ⟨rfl, b4⟩
  have x4 := (b4.block W1.heap.size (by omega)).trans HX3.out
  obtain ⟨k0, -, k2, -, -, -⟩ := six_box x4
  have HB4 : Hid (Below w.heap.size w W4) := (HB.out.trans (HB3.out.mono (by omega))).trans (b4.mono (by omega))
  have cN : ∀ (x : Int) (W : World), Calls Tryz.prog 6 #[.int .i64 x] W fun e w' => e = .returned (.int .i64 x) ∧ W = w' := num_c
  clear cK2 b4 x4
  go_wp2_with fail
  refine (cN _ _).mono ?_
  rintro e w9 ⟨rfl, h9⟩
  obtain rfl := h9
  go_wp2_with fail
  refine (cN _ _).mono ?_
  rintro e w9 ⟨rfl, h9⟩
  obtain rfl := h9
  go_wp2_with fail
  refine (cN _ _).mono ?_
  rintro e w9 ⟨rfl, h9⟩
  obtain rfl := h9
  go_wp2_with fail
  go_ret
  exact ⟨rfl, HB4.out⟩
end Go.Proofs.YtamocioljeaicaaGreatDoor.CAw

namespace Go.Proofs.YtamocioljeaicaaGreatDoor.WCk
open Go.RowKit Go.Proofs.YtamocioljeaicaaGreatDoor.Base Go.Proofs.YtamocioljeaicaaGreatDoor.VJn
open Go.Proofs.YtamocioljeaicaaGreatDoor.CPu (Ins ck)
open Go.Proofs.YtamocioljeaicaaGreatDoor.CBx (Cx)
open Go.Proofs.YtamocioljeaicaaGreatDoor.CIn (OkL Lk)
set_option linter.unusedVariables false

set_option maxRecDepth 20000 in
set_option maxHeartbeats 3200000 in
theorem walk {w : World} {v : Value} {L : List Ins} {t d : Int} (hv : Cx w.heap.size w v L) (hk : OkL L) (hT : Tb w) :
    Calls Tryz.prog 3 #[v, .int .i64 t, .int .i64 d] w fun e w' => e = .returned (.bool true) ∧ Below w.heap.size w w' := by
  have c1 := CIn.lendI_c hv (Nat.le_refl _) hk.2
  have HV : Hid (Cx w.heap.size w v L) := hv
  have HK : Hid (OkL L) := hk
  have HT : Hid (Tb w) := hT
  obtain ⟨a, cap, rfl, hl, hm, -, -⟩ := hv
  clear hk hT
  obtain ⟨z, hz⟩ : ∃ z, ck L t d = z := ⟨_, rfl⟩
  have HZ : Hid (ck L t d = z) := hz
  clear hz
  go_enter Tryz.func3, Tryz.ntmps3
  go_wp2_with fail
  refine c1.mono ?_
  rintro e W1 ⟨u, rfl, hu, b1⟩
  have c2 := CCk.check_c hu.cx (Nat.le_refl _) t d
  rw [HZ.out] at c2
  have HU : Hid (Lk w.heap.size W1 u L) := hu
  obtain ⟨g, cap2, rfl, -⟩ := hu
  have HB1 : Hid _ := b1
  clear c1 b1
  go_wp2_with fail
  refine c2.mono ?_
  rintro e W2 ⟨rfl, b2⟩
  have hb2 : Below w.heap.size w W2 := HB1.out.trans (b2.mono HB1.out.size)
  have c3 := CAw.num_c z W2
  have c4 := CRc.rcheck_c (HV.out.below hb2) hb2.size t d
  rw [HZ.out] at c4
  have HU2 : Hid (Lk w.heap.size W2 (.slice (some ⟨g, 0, none⟩) L.length cap2) L) := HU.out.below b2
  have HB2 : Hid _ := hb2
  clear c2 b2 hb2
  go_wp2_with fail
  refine c3.mono ?_
  rintro e W3 ⟨rfl, rfl⟩
  go_wp2_with fail
  refine c4.mono ?_
  rintro e W4 ⟨rfl, b4⟩
  have hb4 : Below w.heap.size w W4 := HB2.out.trans (b4.mono HB2.out.size)
  have c5 := CIn.keptI_c (HU2.out.below b4) (HV.out.below hb4) hb4.size HK.out
  have HB4 : Hid _ := hb4
  clear c3 c4 b4 hb4
  go_wp2_with fail
  refine c5.mono ?_
  rintro e W5 ⟨rfl, b5⟩
  have hb5 : Below w.heap.size w W5 := HB4.out.trans (b5.mono HB4.out.size)
  have c6 := CAw.awake_c W5 (HT.out.below hb5)
  have HB5 : Hid _ := hb5
  clear c5 b5 hb5
  go_wp2_with fail
  refine c6.mono ?_
  rintro e W6 ⟨rfl, b6⟩
  have HB6 : Hid (Below w.heap.size w W6) := HB5.out.trans (b6.mono HB5.out.size)
  clear c6 b6
  go_wp2_with fail
  go_ret
  exact ⟨rfl, HB6.out⟩
end Go.Proofs.YtamocioljeaicaaGreatDoor.WCk

namespace Go.Proofs.YtamocioljeaicaaGreatDoor.CFr
open Go.ChangeShapes Go.WideShapes Go.ChangeAt Go.RowKit Go.Proofs.YtamocioljeaicaaGreatDoor.Digits
open Go.Proofs.YtamocioljeaicaaGreatDoor.CPu (Ins)
open Go.Proofs.YtamocioljeaicaaGreatDoor.CBx (Cx)
open Go.Proofs.YtamocioljeaicaaGreatDoor.CIn (OkL Ok cellsI cells3)
set_option linter.unusedVariables false

theorem own : ownKnob Tryz.prog.godebug = none := by kernel_rfl
theorem gTab : Tryz.prog.globalNamed "internal/strconv.uint64pow10" = some 1 := by kernel_rfl
theorem gTabType : (Tryz.prog.globals[1]?).map (·.type) = some 128 := by kernel_rfl
theorem cells95 : Tryz.prog.cellsOf 128 = 20 := by kernel_rfl
theorem cells73 : Tryz.prog.cellsOf 104 = 1 := by kernel_rfl

/-- What the rows' list gives: the table of powers of ten holds its numbers. -/
theorem tab_of {W : World} (h : laidMetH Tryz.prog Rows.codeChecksRow.laid W) : Tab W :=
  Lib.tabIs_of_head (rest := []) gTab gTabType Tryz.underlying128 Tryz.underlying104 cells73 cells95 (laidMet.tail (laidMet.tail h))

def lay (cs : Array Value) : Obj → Obj
  | .cells _ t frozen => .cells cs t frozen
  | o => o
/-- A world for the witness: the settled one, the three tables holding what their initialisers lay. -/
def laidW (w : World) : World :=
  { w with heap := ((w.heap.modify 1 (lay #[.int .u64 1, .int .u64 10, .int .u64 100, .int .u64 1000, .int .u64 10000, .int .u64 100000, .int .u64 1000000, .int .u64 10000000, .int .u64 100000000, .int .u64 1000000000, .int .u64 10000000000, .int .u64 100000000000, .int .u64 1000000000000, .int .u64 10000000000000, .int .u64 100000000000000, .int .u64 1000000000000000, .int .u64 10000000000000000, .int .u64 100000000000000000, .int .u64 1000000000000000000, .int .u64 10000000000000000000])).modify 2 (lay #[.int .u8 0, .int .u8 1, .int .u8 28, .int .u8 2, .int .u8 29, .int .u8 14, .int .u8 24, .int .u8 3, .int .u8 30, .int .u8 22, .int .u8 20, .int .u8 15, .int .u8 25, .int .u8 17, .int .u8 4, .int .u8 8, .int .u8 31, .int .u8 27, .int .u8 13, .int .u8 23, .int .u8 21, .int .u8 19, .int .u8 16, .int .u8 7, .int .u8 26, .int .u8 12, .int .u8 18, .int .u8 6, .int .u8 11, .int .u8 5, .int .u8 10, .int .u8 9])).modify 3 (lay #[.int .u8 0, .int .u8 1, .int .u8 56, .int .u8 2, .int .u8 57, .int .u8 49, .int .u8 28, .int .u8 3, .int .u8 61, .int .u8 58, .int .u8 42, .int .u8 50, .int .u8 38, .int .u8 29, .int .u8 17, .int .u8 4, .int .u8 62, .int .u8 47, .int .u8 59, .int .u8 36, .int .u8 45, .int .u8 43, .int .u8 51, .int .u8 22, .int .u8 53, .int .u8 39, .int .u8 33, .int .u8 30, .int .u8 24, .int .u8 18, .int .u8 12, .int .u8 5, .int .u8 63, .int .u8 55, .int .u8 48, .int .u8 27, .int .u8 60, .int .u8 41, .int .u8 37, .int .u8 16, .int .u8 46, .int .u8 35, .int .u8 44, .int .u8 21, .int .u8 52, .int .u8 32, .int .u8 23, .int .u8 11, .int .u8 54, .int .u8 26, .int .u8 40, .int .u8 15, .int .u8 34, .int .u8 20, .int .u8 31, .int .u8 10, .int .u8 25, .int .u8 14, .int .u8 19, .int .u8 9, .int .u8 13, .int .u8 8, .int .u8 7, .int .u8 6]) }
theorem laidOut : laidOutB Tryz.prog = true := by kernel_rfl
theorem bytesI : Tryz.prog.bytesOf 32 = 16 := by kernel_rfl
theorem cells_at {w : World} {a : Addr} {n : Nat} {cs : List Value} (h : w.cells? 0 a n = some cs) : cs.length = n ∧ ∀ j (hj : j < n), w.cell? (a.add j) = cs[j]? := by
  unfold World.cells? at h
  rw [if_pos (Nat.zero_le _)] at h
  have hl := mapM_some_length h
  refine ⟨by simpa using hl, fun j hj => ?_⟩
  have := mapM_some_get h j j (by simp [hj])
  exact this
theorem list_two {α : Type} {l : List α} (h : l.length = 2) : ∃ c0 c1, l = [c0, c1] := by
  match l, h with
  | [c0, c1], _ => exact ⟨c0, c1, rfl⟩
theorem spot_none {w : World} {a : Addr} {v : Value} (h : w.cell? (a.add 0) = some v) : ∃ g o, a = ⟨g, o, none⟩ := by
  obtain ⟨g, o, sp⟩ := a
  cases sp with
  | none => exact ⟨g, o, rfl⟩
  | some x =>
    simp only [Addr.add, if_true, World.cell?] at h
    split at h
    · simp at h
    · cases h
theorem weightsAll_mem {H : Type} {P : Program} {e : TypeId} {d : DataW H} {q : Nat} : ∀ {ds : List (DataW H)}, d ∈ ds → q ∈ DataW.weights P e d → q ∈ DataW.weightsAll P e ds
  | [], hd, _ => by cases hd
  | d' :: r, hd, hq => by
    rw [DataW.weightsAll, List.mem_append]
    rcases List.mem_cons.1 hd with rfl | h
    · exact .inl hq
    · exact .inr (weightsAll_mem h hq)
theorem open_ins {H : Type} {enc : TypeId × Value → H} {W : World} {fuel : Nat} {cs : List Value} {x : DataW H × List MemPlace} (h : DataW.trod enc Tryz.prog W 0 (fun _ => true) true fuel 22 cs = some x) (hw : ∀ q ∈ DataW.weights Tryz.prog 22 x.1, q ≤ reachBytes) :
    ∃ v L, cs = [v] ∧ Cx W.heap.size W v L ∧ L.length * 16 ≤ 140737488351232 ∧ ∀ y ∈ L, Ok y := by
  rcases DataW.trod_slice Tryz.underlying22 h with ⟨rfl, rfl⟩ | ⟨a, len, cap, els, rest, m, rfl, rfl, rfl, _, hl, hm, hlen, hel, -, -⟩
  · exact ⟨_, [], rfl, ⟨none, 0, rfl, by simp, by simp, fun _ => rfl, .inl rfl⟩, by simp, fun y hy => by cases hy⟩
  · have hone : ∀ j : Fin len, ∃ t : Ins, (W.cell? ((a.add (j.1 * 2)).add 0) = some (.int .i64 t.1) ∧ W.cell? ((a.add (j.1 * 2)).add 1) = some (.int .i64 t.2)) ∧ Ok t := by
      rintro ⟨j, hj⟩
      have hh := hel j hj
      rw [List.getElem?_eq_getElem (by omega), Option.bind_eq_some_iff] at hh
      obtain ⟨c', hc, ht⟩ := hh
      rw [cellsI] at hc
      obtain ⟨hl1, hcc⟩ := cells_at hc
      obtain ⟨xs, n', rfl, hx, hcl, hxl, hf⟩ := DataW.trod_struct Tryz.underlying32 ht
      obtain ⟨c0, c1, rfl⟩ := list_two hl1
      have hxl3 : xs.length = 2 := hxl
      obtain ⟨x0, x1, rfl⟩ := list_two hxl3
      have f0 := hf 0 _ rfl
      have f1 := hf 1 _ rfl
      simp [cells3] at f0
      simp [cells3] at f1
      obtain ⟨i0, e0, -, w0⟩ := DataW.trod_int Tryz.underlying3 f0
      obtain ⟨i1, e1, -, w1⟩ := DataW.trod_int Tryz.underlying3 f1
      simp only [List.cons.injEq, and_true] at e0 e1
      subst e0 e1
      exact ⟨(i0, i1), ⟨by have := hcc 0 (by omega); simpa using this, by have := hcc 1 (by omega); simpa using this⟩, w0, w1⟩
    have hb32 : len * 16 ≤ 140737488351232 := by
      have := hw ((els.length + rest.length) * 16) (by
        rw [DataW.weights, Tryz.underlying22]
        simp [bytesI])
      simp only [reachBytes] at this
      omega
    obtain ⟨f, hf⟩ := Classical.axiomOfChoice hone
    refine ⟨_, List.ofFn f, rfl, ⟨some a, cap, by simp, by simpa using hl, hm, (fun h => by cases h), ?_⟩, by simpa using hb32, ?_⟩
    · by_cases h0 : len = 0
      · subst h0
        exact .inl (by simp)
      · have h00 := (hf ⟨0, by omega⟩).1.1
        rw [show (a.add (0 * 2)).add 0 = a.add 0 from by simp [Addr.add]] at h00
        obtain ⟨g, o, rfl⟩ := spot_none h00
        rw [IBase.add_none] at h00
        refine .inr ⟨g, o, rfl, IBase.cell_lt h00, fun j hj => ?_⟩
        have hj' : j < len := by simpa using hj
        have h2 := (hf ⟨j, hj'⟩).1
        rw [IBase.add_none, IBase.add_none, IBase.add_none] at h2
        simpa using h2
    · intro y hy
      obtain ⟨j, rfl⟩ := List.mem_ofFn.1 hy
      exact (hf j).2
/-- A row of instructions that comes in, and that it reads the same behind whatever only adds. -/
theorem insts {H : Type} {enc : TypeId × Value → H} {W : World} {v : Value} {d : DataW H} {p : List MemPlace} {ts : List TypeId} {ds : List (DataW H)} {j : Nat}
    (h : DataW.Trod enc Tryz.prog W 0 (fun _ => true) true 22 v d p)
    (hsz : (DataW.weightsEach Tryz.prog ts ds).all (· ≤ reachBytes) = true) (ht : ts[j]? = some 22) (hd : ds[j]? = some d) (hv : v.cells.toList = [v]) :
    (∃ L, Cx W.heap.size W v L ∧ OkL L) ∧ ∀ W', Below W.heap.size W W' → DataW.Trod enc Tryz.prog W' 0 (fun b => decide (b < W.heap.size)) true 22 v d p := by
  have lt0 : ∀ x ∈ p, x.block < W.heap.size := by obtain ⟨m, hm⟩ := h; exact DataW.trod_lt m _ _ _ hm
  refine ⟨?_, fun W' bel => Below.trod laidOut (by kernel_rfl) (of_decide_eq_true (by kernel_rfl)) h bel lt0⟩
  obtain ⟨fuel, hf⟩ := h
  obtain ⟨v', L, hc, hin, hb, hok⟩ := open_ins hf fun q hq => by simpa using List.all_eq_true.1 hsz q (DataW.weights_mem_each ht hd q hq)
  rw [hv] at hc
  simp only [List.cons.injEq, and_true] at hc
  subst hc
  exact ⟨L, hin, hok, by omega⟩
end Go.Proofs.YtamocioljeaicaaGreatDoor.CFr

namespace Go.Proofs.YtamocioljeaicaaGreatDoor.codeChecks
set_option linter.unusedVariables false
open Go.ChangeShapes Go.WideShapes Go.ChangeAt Go.RowKit Go.Proofs.YtamocioljeaicaaGreatDoor.Base Go.Proofs.YtamocioljeaicaaGreatDoor.Digits Go.Proofs.YtamocioljeaicaaGreatDoor.CFr
open Go.ChangeMaps (open_string shut_string)

set_option maxRecDepth 1000000 in
/-- What the walk gives, for every argument and every world that holds the tables. -/
theorem contract (H : Type) (enc : TypeId × Value → H) (W : World) (base : Nat) (args : Array Value) (ds gs : List (DataW H)) (before : List MemPlace)
    (hval : ∀ (j : Nat) t v, Tryz.f3.params[j]? = some t → args[j]? = some v → Value.okWide Tryz.prog W .any base t v)
    (hW : DataW.Whole enc Tryz.prog Tryz.f3.params.toList Rows.codeChecksSpec.vars false W args.toList ds gs before)
    (hsz : (DataW.weightsEach Tryz.prog (Tryz.f3.params.toList ++ Rows.codeChecksSpec.plain.varTypes Tryz.prog) (ds ++ gs)).all (· ≤ reachBytes) = true) (hL : laidMetH Tryz.prog Rows.codeChecksRow.laid W) :
    Calls Tryz.prog 3 args W fun e W' => ∃ v, e = .returned v ∧ Rows.codeChecksSpec.post enc Tryz.prog Tryz.f3 false true false false W args v W' := by
  have hW' := hW
  obtain ⟨p, q, hA0, hV, rfl, hfz, hnd⟩ := hW
  have hA : DataW.TrodAll enc Tryz.prog W 0 (fun _ => true) true Tryz.f3.params.toList args.toList ds p := hA0
  rw [Tryz.params3] at hA hval hsz
  obtain ⟨v0, vs0, d0, ds0, p0, q0, hargs, rfl, rfl, h0, r0⟩ := trodAll_cons hA
  obtain ⟨v1, vs1, d1, ds1, p1, q1, rfl, rfl, rfl, h1, r1⟩ := trodAll_cons r0
  obtain ⟨v2, vs2, d2, ds2, p2, q2, rfl, rfl, rfl, h2, r2⟩ := trodAll_cons r1
  obtain ⟨rfl, rfl, rfl⟩ := trodAll_nil r2
  obtain rfl : args = #[v0, v1, v2] := by cases args; simp_all
  obtain ⟨rfl, rfl⟩ := trodVars_none hV
  obtain ⟨ca0, cl0, cc0, rfl⟩ := okWide_slice Tryz.underlying22 (hval 0 22 v0 rfl rfl)
  obtain ⟨⟨c0, g0, k0⟩, s0⟩ := CFr.insts h0 hsz (j := 0) rfl rfl rfl
  obtain ⟨a1, rfl, rfl, rfl, w1⟩ := open_int Tryz.underlying3 (hval 1 3 v1 rfl rfl) h1
  have bd1 : -9223372036854775808 ≤ a1 ∧ a1 ≤ 9223372036854775807 := bounds_i64 w1
  obtain ⟨a2, rfl, rfl, rfl, w2⟩ := open_int Tryz.underlying3 (hval 2 3 v2 rfl rfl) h2
  have bd2 : -9223372036854775808 ≤ a2 ∧ a2 ≤ 9223372036854775807 := bounds_i64 w2
  clear hA0
  simp only [List.append_nil] at hW'
  refine (WCk.walk g0 k0   (fun W hW => (tab_of hL).later hW)).mono fun e W' ⟨he, bel⟩ => ?_
  subst he
  exact ⟨_, rfl, _, _, _, [], _, [], hW', trodAll_mk1 (shut_bool Tryz.underlying4 _), (trodAll_cons_mk (s0 _ bel) (trodAll_cons_mk (shut_int Tryz.underlying3 w1) (trodAll_cons_mk (shut_int Tryz.underlying3 w2) trodAll_mk0))), rfl, bel.frame _, fun h => by cases h⟩

theorem laid_met (os : Os) : laidMet Tryz.prog Rows.codeChecksRow.laid ((laidW (World.holding Tryz.prog os ⟨#[], #[], []⟩)).forCall (fun _ _ => 0) ⟨#[], #[.slice none 0 0, .int .i64 0, .int .i64 0], []⟩).memory :=
  laidMet_of_run' 8 (by kernel_rfl) (by kernel_rfl)
theorem reads (os : Os) {H : Type} (enc : TypeId × Value → H) : ∃ places, DataW.whole enc Tryz.prog ((laidW (World.holding Tryz.prog os ⟨#[], #[], []⟩)).forCall (fun _ _ => 0) ⟨#[], #[.slice none 0 0, .int .i64 0, .int .i64 0], []⟩).memory Tryz.f3.params.toList Rows.codeChecksSpec.vars false #[Value.slice none 0 0, Value.int .i64 0, Value.int .i64 0].toList 8 = some ([.nil, .lit (.int .i64 0), .lit (.int .i64 0)], [], places) :=
  ⟨[], by kernel_rfl⟩

set_option maxRecDepth 100000 in
theorem lifted (os : Os) (started : os.Started) (H : Type) (enc : TypeId × Value → H) (F : Stop.Interp) :
    ReturnsInHanded {} Tryz.checked os 3 .any ((OpenSpec.ofChange Rows.codeChecksSpec).preRow enc Tryz.prog Tryz.f3 Rows.codeChecksRow.domain false Rows.codeChecksRow.laid) (((OpenSpec.ofChange Rows.codeChecksSpec).at F).post enc Tryz.prog Tryz.f3 false true false false) := by
  obtain ⟨places, hx⟩ := reads os enc
  refine returnsInHanded_of_row (C := Tryz.checked) (s := OpenSpec.ofChange Rows.codeChecksSpec) own started (by kernel_rfl) Tryz.func3
    (witness_row_at (enc := enc) (C := Tryz.checked) false (laidW (World.holding Tryz.prog os ⟨#[], #[], []⟩)) #[.slice none 0 0, .int .i64 0, .int .i64 0] rfl (by kernel_rfl) (by kernel_rfl) (by kernel_rfl)
      (OpenSpec.preRow_of_cond 8 hx (by kernel_rfl) (fun k hk => by cases hk) (by kernel_rfl) (laid_met os))) ?_
  intro W base args ds gs before hval hW _ _ hsz hL _ _
  exact contract H enc W base args ds gs before hval hW hsz hL

theorem said : Rows.CodeChecksSaid :=
  OpenClaim.holds_of_cond 3 Tryz.f3 rfl rfl rfl rfl rfl rfl rfl ⟨rfl, rfl, rfl, rfl, rfl⟩ rfl rfl rfl rfl rfl (by kernel_rfl) Tryz.func3 (by kernel_rfl)
    (of_decide_eq_true (by kernel_rfl)) (by unfold Func.isWrapper; first | (rw [if_pos (by decide +kernel)]; kernel_rfl) | (rw [if_neg (by decide +kernel)]; exact ⟨rfl, rfl⟩))
    (fun os started H enc _ F => by rw [OpenClaim.pre_eq_preRow]; exact lifted os started H enc F)

/-- No parameter wants a stand-in; the program's own looks are on. -/
theorem plain (f : FuncId) (fn : Func) (hf : Tryz.pinned.checked.prog.funcNamed "stencil/stencillaw20.CodeChecks" = some f) (hfn : Tryz.pinned.checked.prog.funcs[f]? = some fn) :
    true = Tryz.pinned.checked.prog.looks [] ∧ ∀ (j : Nat) t, fn.params[j]? = some t → Tryz.pinned.checked.prog.wantsStandIn t = false := by
  obtain rfl : f = 3 := Option.some.inj ((show Tryz.prog.funcNamed "stencil/stencillaw20.CodeChecks" = some 3 by kernel_rfl).symm.trans hf) |>.symm
  obtain rfl : fn = Tryz.f3 := (Option.some.inj (Tryz.func3.symm.trans hfn)).symm
  refine ⟨by kernel_rfl, fun j t ht => ?_⟩
  rw [Tryz.params3] at ht
  have hm := Array.mem_of_getElem? ht
  rcases (show t = 22 ∨ t = 3 by first | simpa using hm | (simp at hm; omega)) with h | h
  · rw [h]; exact (show Tryz.prog.wantsStandIn 22 = false by kernel_rfl)
  · rw [h]; exact (show Tryz.prog.wantsStandIn 3 = false by kernel_rfl)

/-- The given statement. -/
theorem card : Rows.CodeChecksCardSaid :=
  Claim7.holds_tied_plain_at .later [] _ _ _ _ said (fun _ h => by cases h) (by kernel_rfl) (fun _ h => by cases h) codeChecks_row_tie rfl ⟨rfl, rfl⟩ (by kernel_rfl) rfl plain (by kernel_rfl)
#print axioms card
end Go.Proofs.YtamocioljeaicaaGreatDoor.codeChecks

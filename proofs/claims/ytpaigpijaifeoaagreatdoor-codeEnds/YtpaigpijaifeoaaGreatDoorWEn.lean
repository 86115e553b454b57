/- The law CodeEnds gone through. -/
import Derived.Test.YtpaigpijaifeoaaGreatDoorMRu
import Derived.Test.YtpaigpijaifeoaaGreatDoorVPt
import Derived.Test.YtpaigpijaifeoaaGreatDoorMPl
import Derived.Test.YtpaigpijaifeoaaGreatDoorTak
import Derived.Test.YtpaigpijaifeoaaGreatDoorShallow
import Derived.Test.YtpaigpijaifeoaaGreatDoorEPure
import Derived.Lib.ItoaLen
import Derived.Deep.RegionHeld3
import Derived.Test.YtpaigpijaifeoaaGreatDoorJGd
import Derived.Test.YtpaigpijaifeoaaGreatDoorMRw
import Derived.Test.YtpaigpijaifeoaaGreatDoorMGd
import Derived.Test.YtpaigpijaifeoaaGreatDoorCIn
namespace Go.Proofs.YtpaigpijaifeoaaGreatDoor.CAp
open Go.RowKit Go.Proofs.YtpaigpijaifeoaaGreatDoor.Base Go.Proofs.YtpaigpijaifeoaaGreatDoor.VSm Go.Proofs.YtpaigpijaifeoaaGreatDoor.VPk
open Go.Proofs.YtpaigpijaifeoaaGreatDoor.VPure
open Go.Proofs.YtpaigpijaifeoaaGreatDoor.CPu (Ins ck)
set_option linter.unusedVariables false

abbrev aT : ByteArray := ⟨#[97]⟩
def recC : C := .mk 6 false 0 ⟨#[]⟩ [aT] [intC 2]
def aL : List Ins := [(6, 0), (7, 0), (4, 1), (15, 0)]
def aP : Nat → List C
  | 0 => []
  | 1 => [recC]
  | 2 => [intC 2]
  | 3 => [intC 2, intC 1]
  | _ => [intC 3]
theorem ck1 : ck aL 1 1 = 0 := by decide +kernel
theorem ck0 : ck aL 0 1 = 2003 := by decide +kernel
theorem pr7 : pr2 7 recC (strC aT) = .ok (intC 2) := by kernel_rfl
theorem pr15 : pr2 15 (intC 2) (intC 1) = .ok (intC 3) := by rfl
theorem wfR : wf recC := ⟨fun _ => by simp [recC, C.n, C.l], by show wfL [intC 2]; rw [wfL_cons]; exact ⟨wf_one (by decide), by rw [wfL]; trivial⟩⟩
theorem wf2 : wf (intC 2) := wf_one (by decide)
theorem pair7 : PairOk 7 := by
  intro K m w va vb a b hK hT hva hvb hwf
  exact VPt.pair7 hK hva hvb hwf.1
theorem verA : UBase.verr aT = 0 := by decide +kernel
theorem tgA : STx.tg aT = true := by unfold STx.tg; rw [verA]; decide
theorem texA : ([aT].any fun s => !STx.tg s) = false := by simp [tgA]
theorem fmR : Fault.fm recC = true := by decide +kernel
theorem fm2 : Fault.fm (intC 2) = true := by decide +kernel
theorem plR : Walk.pl 1 recC = [(1, recC), (2, intC 2)] := by
  unfold recC
  rw [Walk.pl, Walk.plL_cons, Walk.plL_nil]
  unfold intC
  rw [Walk.pl, Walk.plL_nil]
  rfl
theorem bdR : MEi.bd recC = false := by
  have f1 : Fault.ft recC 1 1 = 0 := by unfold Fault.ft; rw [fmR]; decide
  have f2 : Fault.ft (intC 2) 2 2 = 0 := by unfold Fault.ft; rw [fm2]; decide
  unfold MEi.bd MEi.cd
  rw [plR]
  simp [Measure.ms, f1, f2]
theorem anyR : [recC].any MEi.bd = false := by simp [bdR]
end Go.Proofs.YtpaigpijaifeoaaGreatDoor.CAp

namespace Go.Proofs.YtpaigpijaifeoaaGreatDoor.CAr
open Go.RowKit Go.Proofs.YtpaigpijaifeoaaGreatDoor.Base Go.Proofs.YtpaigpijaifeoaaGreatDoor.VSm Go.Proofs.YtpaigpijaifeoaaGreatDoor.VJn Go.Proofs.YtpaigpijaifeoaaGreatDoor.VRs Go.Proofs.YtpaigpijaifeoaaGreatDoor.VPk Go.Proofs.YtpaigpijaifeoaaGreatDoor.MBx Go.Proofs.YtpaigpijaifeoaaGreatDoor.MSe Go.Proofs.YtpaigpijaifeoaaGreatDoor.MDo Go.Proofs.YtpaigpijaifeoaaGreatDoor.MCd Go.Proofs.YtpaigpijaifeoaaGreatDoor.CAp
open Go.Proofs.YtpaigpijaifeoaaGreatDoor.VPure
open Go.Proofs.YtpaigpijaifeoaaGreatDoor.CPu (Ins ck)
open Go.Proofs.YtpaigpijaifeoaaGreatDoor.CBx (Cx)
set_option linter.unusedVariables false

set_option maxHeartbeats 1600000 in
theorem arun {K : Nat} {w : World} {cv tv sv : Value} (hK : K ≤ w.heap.size) (hL : Cx K w cv aL) (hT : Tz K w tv [aT]) (hS : Base.InL false (fun b => b < K) w 2 sv [recC]) (hTb : Tb w) :
    Calls Tryz.prog 21 #[cv, tv, sv] w fun e w' => ∃ u, e = .returned (.tuple #[u, .int .i64 0]) ∧ Base.In false All w' 2 u (intC 3) ∧ Below w.heap.size w w' := by
  have hSA : Base.InL false All w 2 sv [recC] := hS.weak (fun _ _ => trivial) false id 2 (Nat.le_refl _)
  refine MRu.run_ok (m := 1) hL hT hSA hK texA ck1 anyR fun W hW => ?_
  have hz := hW.size
  have hL1 := (hL.below (hW.mono hK)).mono (K' := W.heap.size) (by omega)
  have hT1 : Tz W.heap.size W tv [aT] := by
    obtain ⟨a, cap, h1, h2, h3, h4⟩ := hT.below (hW.mono hK)
    refine ⟨a, cap, h1, h2, h3, h4.imp id fun ⟨g, o, ha, hg, hc⟩ => ⟨g, o, ha, by omega, hc⟩⟩
  have hS1 : Base.InL false (fun b => b < W.heap.size) W 2 sv [recC] := (hS.keep (w' := W) fun b hb hl => hW.block b hl).weak (fun b hb => by show b < W.heap.size; have : b < K := hb; omega) false id 2 (Nat.le_refl _)
  have hTK : TK W.heap.size W := hTb.below hW
  have hL0 := hL1
  have hT0 := hT1
  have hS0 := hS1
  obtain ⟨a1, c1, rfl, -⟩ := hL0
  obtain ⟨a2, c2, rfl, -⟩ := hT0
  obtain ⟨a3, c3, rfl, -⟩ := hS0
  refine MCo.code_ok (m := 2) (r := intC 3) fun W2 b2 m2 => ?_
  refine MRn.line_c (P := aP) (r := intC 3) (hL1.below b2) m2 (by decide) (fun q hq => ?_) (fun q hq W3 pv b3 m3 => ?_) rfl
  · have : q = 0 ∨ q = 1 ∨ q = 2 ∨ q = 3 := by simp [aL] at hq; omega
    rcases this with rfl | rfl | rfl | rfl
    · show (6 : Int) < 30; decide
    · show (7 : Int) < 30; decide
    · show (4 : Int) < 30; decide
    · show (15 : Int) < 30; decide
  · have b3' : Below W.heap.size W W3 := b2.trans (b3.mono (by omega))
    have hT3 := hT1.below b3'
    have hS3 : Base.InL false (fun b => b < W.heap.size) W3 2 _ [recC] := hS1.keep (w' := W3) fun b hb hl => b3'.block b hb
    have hq4 : q = 0 ∨ q = 1 ∨ q = 2 ∨ q = 3 := by simp [aL] at hq; omega
    rcases hq4 with rfl | rfl | rfl | rfl
    · exact do_var (k := 0) m3 (by decide) hS3 (by decide)
    · exact MDp.pair_ok (o := 7) (a := 0) (q := []) (x := recC) (y := strC aT) m3 (by decide) (hTK.below b3') pair7 (by decide) wfR pr7 fun W4 b4 => second_text (m := 1) (k := 0) (m3.below b4) (hT3.below (b4.mono (by have := b3'.size; omega))) (by decide)
    · exact do_int (m := 1) (a := 1) m3 (by decide) (by decide)
    · exact MDp.pair_ok (o := 15) (a := 0) (q := []) (x := intC 2) (y := intC 1) m3 (by decide) (hTK.below b3') VPk.pair15 (by decide) wf2 pr15 fun W4 b4 => second_take (o := 15) (a := 0) (p := [intC 2]) (m3.below b4) (by decide) (by decide)
end Go.Proofs.YtpaigpijaifeoaaGreatDoor.CAr

namespace Go.Proofs.YtpaigpijaifeoaaGreatDoor.CAw
open Go.RowKit Go.Proofs.YtpaigpijaifeoaaGreatDoor.Base Go.Proofs.YtpaigpijaifeoaaGreatDoor.VSm Go.Proofs.YtpaigpijaifeoaaGreatDoor.VJn Go.Proofs.YtpaigpijaifeoaaGreatDoor.VRs Go.Proofs.YtpaigpijaifeoaaGreatDoor.MBx Go.Proofs.YtpaigpijaifeoaaGreatDoor.MSe Go.Proofs.YtpaigpijaifeoaaGreatDoor.CAp Go.Proofs.YtpaigpijaifeoaaGreatDoor.CAr
open Go.Proofs.YtpaigpijaifeoaaGreatDoor.VPure
open Go.Proofs.YtpaigpijaifeoaaGreatDoor.CBx (Cx)
set_option linter.unusedVariables false

theorem num_c (x : Int) (w : World) : Calls Tryz.prog 11 #[.int .i64 x] w fun e w' => e = .returned (.int .i64 x) ∧ w = w' := by
  go_enter Tryz.func11, Tryz.ntmps11
  go_wp2_with fail
  go_ret
  exact ⟨rfl, rfl⟩
/-- The memory of awake, ahead of its call of Run. -/
abbrev cA : Array Value := #[.int .i64 6, .int .i64 0, .int .i64 7, .int .i64 0, .int .i64 4, .int .i64 1, .int .i64 15, .int .i64 0]
abbrev cI : Array Value := #[.int .i64 3, .bool false, .int .i64 2, .string ⟨#[]⟩, .slice none 0 0, .slice none 0 0]
abbrev cR (n : Nat) : Array Value := #[.int .i64 6, .bool false, .int .i64 0, .string ⟨#[]⟩, .slice (some ⟨n + 1, 0, none⟩) 1 1, .slice (some ⟨n + 1 + 1, 0, none⟩) 1 1]
theorem mem (w : World) : ∃ W, (((((w.alloc (.cells cA 78)).alloc (.cells #[.string ⟨#[97]⟩] 9)).alloc (.cells cI 26)).alloc (.cells (cR w.heap.size) 26)).alloc (.cells #[.string ⟨#[97]⟩] 9)).alloc (.cells (cR w.heap.size) 26) = W ∧ Below w.heap.size w W ∧ W.heap.size = w.heap.size + 6 ∧ W.heap[w.heap.size]? = some (.cells cA 78 (0, 0)) ∧ W.heap[w.heap.size + 1]? = some (.cells #[.string ⟨#[97]⟩] 9 (0, 0)) ∧ W.heap[w.heap.size + 2]? = some (.cells cI 26 (0, 0)) ∧ W.heap[w.heap.size + 4]? = some (.cells #[.string ⟨#[97]⟩] 9 (0, 0)) ∧ W.heap[w.heap.size + 5]? = some (.cells (cR w.heap.size) 26 (0, 0)) := by
  refine ⟨_, rfl, ?_, by simp, ?_, ?_, ?_, ?_, ?_⟩
  · exact ((((((Below.refl _ w).alloc (Nat.le_refl _) _).alloc (by simp) _).alloc (by simp <;> omega) _).alloc (by simp <;> omega) _).alloc (by simp <;> omega) _).alloc (by simp <;> omega) _
  all_goals
    show ((((((w.heap.push _).push _).push _).push _).push _).push _)[_]? = _
    simp only [Array.getElem?_push, Array.size_push]
    repeat (first | rw [if_pos trivial] | rw [if_pos (by omega)] | rw [if_neg (by omega)])
    try rfl
theorem cells8 {W : World} {g : Nat} (h : W.heap[g]? = some (.cells cA 78 (0, 0))) {K : Nat} (hg : g < K) : Cx K W (.slice (some ⟨g, 0, none⟩) 4 4) aL := by
  refine ⟨_, 4, rfl, by decide, by decide, (fun h => by cases h), .inr ⟨g, 0, rfl, hg, fun j hj => ?_⟩⟩
  have : j = 0 ∨ j = 1 ∨ j = 2 ∨ j = 3 := by simp [aL] at hj; omega
  rcases this with rfl | rfl | rfl | rfl <;> constructor <;> (simp [World.cell?, h]; rfl)
theorem text1 {W : World} {g : Nat} (h : W.heap[g]? = some (.cells #[.string ⟨#[97]⟩] 9 (0, 0))) {K : Nat} (hg : g < K) : Tz K W (.slice (some ⟨g, 0, none⟩) 1 1) [aT] := by
  refine ⟨_, 1, rfl, by decide, by decide, .inr ⟨g, 0, rfl, hg, fun j hj => ?_⟩⟩
  obtain rfl : j = 0 := by simpa using hj
  exact ⟨by simp [World.cell?, h], by show (1 : Nat) ≤ 140737488351232; decide⟩
theorem stack1 {W : World} {n : Nat} (h1 : W.heap[n + 1]? = some (.cells #[.string ⟨#[97]⟩] 9 (0, 0))) (h2 : W.heap[n + 2]? = some (.cells cI 26 (0, 0))) (h5 : W.heap[n + 5]? = some (.cells (cR n) 26 (0, 0))) {K : Nat} (hg : n + 5 < K) : Base.InL false (fun b => b < K) W 2 (.slice (some ⟨n + 5, 0, none⟩) 1 1) [recC] := by
  refine ⟨_, 1, rfl, by decide, by decide, by decide, (fun h => by cases h), .inr ⟨n + 5, 0, rfl, hg, fun j hj => ?_, (fun h => by cases h)⟩⟩
  obtain rfl : j = 0 := by simpa using hj
  obtain ⟨k0, k1, k2, k3, k4, k5⟩ := six_box h5
  refine ⟨_, ⟨_, _, _, _, _, _, rfl, k0, k1, k2, k3, k4, k5⟩, ?_⟩
  show Base.In false _ W 2 _ (.mk 6 false 0 ⟨#[]⟩ [aT] [intC 2])
  rw [in_iff]
  refine ⟨_, _, rfl, by decide, by decide, by decide, ⟨_, 1, rfl, by decide, by decide, by decide, by simp; decide, (fun h => by cases h), .inr ⟨n + 1, 0, rfl, by show n + 1 < K; omega, fun j hj => ?_, (fun h => by cases h)⟩⟩, ⟨_, 1, rfl, by decide, by decide, by decide, (fun h => by cases h), .inr ⟨n + 2, 0, rfl, by show n + 2 < K; omega, fun j hj => ?_, (fun h => by cases h)⟩⟩⟩
  · obtain rfl : j = 0 := by simpa using hj
    simp [World.cell?, h1]
  · obtain rfl : j = 0 := by simpa using hj
    obtain ⟨y0, y1, y2, y3, y4, y5⟩ := six_box h2
    exact ⟨_, ⟨_, _, _, _, _, _, rfl, y0, y1, y2, y3, y4, y5⟩, in_v0 _ W 0 false (by decide) (by decide) (by decide)⟩
set_option maxRecDepth 20000 in
set_option maxHeartbeats 3200000 in
theorem awake_c (w : World) (ht : Tb w) : Calls Tryz.prog 14 #[] w fun e w' => e = .returned (.bool true) ∧ Below w.heap.size w w' := by
  obtain ⟨W, hW, bW, sW, z0, z1, z2, z4, z5⟩ := mem w
  have cRun := arun (K := W.heap.size) (Nat.le_refl _) (cells8 z0 (by omega)) (text1 z4 (by omega)) (stack1 z1 z2 z5 (by omega)) (ht.below bW)
  have HW : Hid (_ = W) := hW
  have HB : Hid _ := bW
  have HC : Hid (∀ W', Below W.heap.size W W' → Cx W.heap.size W' (.slice (some ⟨w.heap.size, 0, none⟩) 4 4) aL) := fun W' hb => (cells8 z0 (by omega)).below hb
  clear hW bW z0 z1 z2 z4 z5 ht
  go_enter Tryz.func14, Tryz.ntmps14
  go_wp2_with fail
  rw [HW.out]
  refine cRun.mono ?_
  rintro e W1 ⟨u, rfl, hin, b1⟩
  obtain ⟨an, ln, cn, al, ll, cl, rfl⟩ : ∃ an ln cn al ll cl, u = vl 3 false 3 ⟨#[]⟩ (.slice an ln cn) (.slice al ll cl) := in_shape hin
  obtain ⟨W2, hW2⟩ : ∃ W2, W1.alloc (.cells #[.int .i64 3, .bool false, .int .i64 3, .string ⟨#[]⟩, .slice an ln cn, .slice al ll cl] 26) = W2 := ⟨_, rfl⟩
  have b2 : Below W1.heap.size W1 W2 := by rw [← hW2]; exact (Below.refl _ W1).alloc (Nat.le_refl _) _
  have x2 : W2.heap[W1.heap.size]? = some (.cells #[.int .i64 3, .bool false, .int .i64 3, .string ⟨#[]⟩, .slice an ln cn, .slice al ll cl] 26 (0, 0)) := by rw [← hW2]; exact heap_alloc_new W1 _
  have hb2 : Below W.heap.size W W2 := b1.trans (b2.mono b1.size)
  have hz1 := b1.size
  have hz2 := b2.size
  have cK := CCk.check_c (HC.out W2 hb2) (by omega) 1 1
  rw [ck1] at cK
  have HB2 : Hid _ := hb2
  have HX2 : Hid _ := x2
  have HW2 : Hid (_ = W2) := hW2
  have hl2 : W1.heap.size < W2.heap.size := by rw [← hW2]; simp
  clear cRun hin b1 b2 x2 hb2 hW2
  go_wp2_with fail
  rw [HW2.out]
  refine cK.mono ?_
  rintro e W3 ⟨rfl, b3⟩
  have hz3 := b3.size
  have hb3 : Below W.heap.size W W3 := HB2.out.trans (b3.mono (by omega))
  have cK2 := CCk.check_c (HC.out W3 hb3) (by omega) 0 1
  rw [ck0] at cK2
  have HX3 : Hid _ := (b3.block W1.heap.size hl2).trans HX2.out
  have HB3 : Hid _ := hb3
  clear cK b3 hb3
  go_wp2_with fail
  refine cK2.mono ?_
  rintro e W4 ⟨rfl, b4⟩
  have x4 := (b4.block W1.heap.size (by omega)).trans HX3.out
  obtain ⟨k0, -, k2, -, -, -⟩ := six_box x4
  have HB4 : Hid (Below w.heap.size w W4) := (HB.out.trans (HB3.out.mono (by omega))).trans (b4.mono (by omega))
  have cN : ∀ (x : Int) (W : World), Calls Tryz.prog 11 #[.int .i64 x] W fun e w' => e = .returned (.int .i64 x) ∧ W = w' := num_c
  clear cK2 b4 x4
  go_wp2_with fail
  refine (cN _ _).mono ?_
  rintro e w9 ⟨rfl, h9⟩
  obtain rfl := h9
  go_wp2_with fail
  refine (cN _ _).mono ?_
  rintro e w9 ⟨rfl, h9⟩
  obtain rfl := h9
  go_wp2_with fail
  refine (cN _ _).mono ?_
  rintro e w9 ⟨rfl, h9⟩
  obtain rfl := h9
  go_wp2_with fail
  go_ret
  exact ⟨rfl, HB4.out⟩
end Go.Proofs.YtpaigpijaifeoaaGreatDoor.CAw

namespace Go.Proofs.YtpaigpijaifeoaaGreatDoor.MEr
open Go.RowKit Go.Proofs.YtpaigpijaifeoaaGreatDoor.Base Go.Proofs.YtpaigpijaifeoaaGreatDoor.EPure Go.Proofs.YtpaigpijaifeoaaGreatDoor.VPure Go.Proofs.YtpaigpijaifeoaaGreatDoor.MPl
open Go.Proofs.YtpaigpijaifeoaaGreatDoor.CPu (Ins)
set_option linter.unusedVariables false

def N0 {α : Type} (x : Except Nat α) : Prop := ∀ e, x = .error e → (1100 ≤ e ∧ e ≤ 1107)
theorem ok0 {α : Type} (a : α) : N0 (.ok a) := fun e h => by cases h
theorem er0 {α : Type} {e : Nat} (h : (1100 ≤ e ∧ e ≤ 1107)) : N0 (.error e : Except Nat α) := fun e q => by injection q with q; rw [← q]; exact h
theorem bnd0 {α β : Type} {x : Except Nat α} {f : α → Except Nat β} (h : N0 x) (hf : ∀ a, N0 (f a)) : N0 (bnd x f) := by
  cases x with
  | error e => exact er0 (h _ rfl)
  | ok a => exact hf a
theorem isT0 (c : C) : N0 (isT c) := by unfold isT; split <;> first | exact ok0 _ | exact er0 (by decide)
theorem chk0 (x e : Int) : N0 (chkI x e) := by unfold chkI; (repeat' split) <;> first | exact ok0 _ | exact er0 (by decide)
theorem mapI0 {x : Except Nat Int} (h : N0 x) : N0 (mapI x) := by
  cases x with
  | error e => exact er0 (h _ rfl)
  | ok a => exact ok0 _
theorem mapS0 {x : Except Nat ByteArray} (h : N0 x) : N0 (mapS x) := by
  cases x with
  | error e => exact er0 (h _ rfl)
  | ok a => exact ok0 _
theorem mapB0 {x : Except Nat Bool} (h : N0 x) : N0 (mapB x) := by
  cases x with
  | error e => exact er0 (h _ rfl)
  | ok a => exact ok0 _
theorem txt0 (c : C) : N0 (txt c) := by unfold txt; split <;> first | exact ok0 _ | exact er0 (by decide)
theorem ord0 (k1 i1 : Int) (s1 : ByteArray) (k2 i2 : Int) (s2 : ByteArray) : N0 (ord k1 i1 s1 k2 i2 s2) := by unfold ord; (repeat' split) <;> first | exact ok0 _ | exact er0 (by decide)
theorem numb0 (o : Int) (a b : C) : N0 (numb o a b) := by
  refine mapI0 ?_
  unfold twI
  (repeat' split) <;> first | exact chk0 _ _ | exact er0 (by decide)
theorem pr20 (o : Int) (a b : C) : N0 (pr2 o a b) := by
  unfold pr2
  by_cases q : o = 17
  · rw [if_pos q]
    exact bnd0 (txt0 a) fun x => bnd0 (txt0 b) fun y => by split <;> first | exact er0 (by decide) | exact ok0 _
  rw [if_neg q]
  clear q
  by_cases q : o = 10
  · rw [if_pos q]; exact numb0 _ _ _
  rw [if_neg q]
  clear q
  by_cases q : o = 23
  · rw [if_pos q]; exact bnd0 (ord0 _ _ _ _ _ _) fun _ => ok0 _
  rw [if_neg q]
  clear q
  by_cases q : o = 24
  · rw [if_pos q]; exact bnd0 (ord0 _ _ _ _ _ _) fun _ => ok0 _
  rw [if_neg q]
  clear q
  by_cases q : o = 25
  · rw [if_pos q]; exact bnd0 (ord0 _ _ _ _ _ _) fun _ => ok0 _
  rw [if_neg q]
  clear q
  by_cases q : o = 26
  · rw [if_pos q]; exact bnd0 (ord0 _ _ _ _ _ _) fun _ => ok0 _
  rw [if_neg q]
  clear q
  by_cases q : o = 27
  · rw [if_pos q]; exact ok0 _
  rw [if_neg q]
  clear q
  by_cases q : o = 28
  · rw [if_pos q]; exact ok0 _
  rw [if_neg q]
  clear q
  by_cases q : o = 7 ∨ o = 8
  · rw [if_pos q]
    unfold VPure.prt prtR
    by_cases q5 : a.k = 5
    · rw [if_pos q5]
      (repeat' split) <;> first | exact er0 (by decide) | exact ok0 _
    · rw [if_neg q5]
      by_cases q6 : a.k = 6 ∧ b.k = 4
      · rw [if_pos q6]
        cases Part.fi a.n b.s with
        | none => exact er0 (by decide)
        | some q => exact ok0 _
      · rw [if_neg q6]; exact er0 (by decide)
  rw [if_neg q]
  clear q
  by_cases q : o = 9
  · rw [if_pos q]
    unfold cal
    by_cases q1 : b.i = 1
    · rw [if_pos q1]
      refine mapI0 ?_
      unfold lenI
      (repeat' split) <;> first | exact er0 (by decide) | exact ok0 _
    rw [if_neg q1]
    by_cases q2 : b.i = 2
    · rw [if_pos q2]; exact mapS0 (txt0 a)
    · rw [if_neg q2]
      refine mapI0 ?_
      unfold tunI
      split <;> first | exact er0 (by decide) | exact ok0 _
  rw [if_neg q]
  clear q
  by_cases q : o = 11
  · rw [if_pos q]
    refine mapB0 ?_
    unfold notT
    split <;> first | exact er0 (by decide) | exact ok0 _
  rw [if_neg q]
  clear q
  by_cases q : o = 20 ∨ o = 21 ∨ o = 22
  · rw [if_pos q]
    refine mapI0 ?_
    unfold twX
    (repeat' split) <;> first | exact er0 (by decide) | exact ok0 _
  rw [if_neg q]
  clear q
  exact numb0 _ _ _
theorem dop0 (T : List ByteArray) (S : List C) (o a : Int) (p : List C) : N0 (dop T S o a p) := by
  unfold dop
  split
  · exact ok0 _
  split
  · exact ok0 _
  split
  · exact ok0 _
  split
  · exact ok0 _
  split
  · exact ok0 _
  split
  · split
    · exact ok0 _
    · exact er0 (by decide)
  · exact bnd0 (pr20 _ _ _) fun _ => ok0 _
theorem ins0 (T : List ByteArray) (S : List C) (i : Nat) (x : Ins) (p : List C) : N0 (ins T S i x p) := by
  unfold ins
  split
  · split
    · split <;> exact ok0 _
    · exact er0 (by decide)
  split
  · split
    · exact ok0 _
    · exact er0 (by decide)
  split
  · exact ok0 _
  · exact bnd0 (dop0 _ _ _ _ _) fun _ => ok0 _
theorem mrun0 (L : List Ins) (T : List ByteArray) (S : List C) : ∀ (f i : Nat) (p : List C), N0 (mrun L T S f i p)
  | 0, i, p => by rw [mrun]; exact ok0 _
  | f + 1, i, p => by
    rw [mrun]
    split
    · exact ok0 _
    · exact bnd0 (ins0 _ _ _ _ _) fun r => mrun0 L T S f r.1 r.2
end Go.Proofs.YtpaigpijaifeoaaGreatDoor.MEr

namespace Go.Proofs.YtpaigpijaifeoaaGreatDoor.GDe
open Go.Proofs.YtpaigpijaifeoaaGreatDoor.Tak
open Go.RowKit Go.Proofs.YtpaigpijaifeoaaGreatDoor.Base Go.Proofs.YtpaigpijaifeoaaGreatDoor.Shallow
set_option linter.unusedVariables false

set_option maxRecDepth 20000 in
theorem shallows_c {m : Nat} {v : Value} {l : List C} {w : World} (h : InL false All w m v l) :
    Calls Tryz.prog 16 #[v] w fun r w' => r = .returned (.bool (decide (depL l ≤ 4096))) ∧ Below w.heap.size w w' := by
  obtain ⟨a, cap, rfl, hl, hcap, hlen, ha, hL⟩ := h.out
  clear h
  go_enter Tryz.func16, Tryz.ntmps16
  go_wp2_with fail
  go_loopw [3] (fun i' wr => ∃ q : Nat, q ≤ l.length ∧ i' = .int .i64 q ∧ (∀ j (h : j < l.length), j < q → dep l[j] ≤ 4096) ∧ Below w.heap.size w wr) (fun i' _ => l.length - (intOf i').toNat)
  case atStart => exact ⟨0, by omega, rfl, fun j _ h => by omega, Below.refl _ _⟩
  case round =>
    obtain ⟨q, hq, rfl, hall, hb⟩ := hrel
    by_cases hlt : q < l.length
    · obtain ⟨g, o, u, rfl, -, hu, hin⟩ := elem_at hL hlt
      have hu := six_below hu hb
      have hin := hin.below hb
      obtain ⟨v0, v1, v2, v3, v4, v5, rfl, d0, d1, d2, d3, d4, d5⟩ := hu
      have cV := value_c _ _ _ 4096 wr (by omega) hin
      have HA : Hid _ := hall
      clear hin hall
      go_wp2_with fail
      refine cV.mono ?_
      rintro e w2 ⟨rfl, b2⟩
      cases hd : decide (dep l[q] ≤ 4096) with
      | true =>
        go_wp2_with fail
        go_roundw
        case rel =>
          refine ⟨q + 1, by omega, by go_num, fun j hj hjq => ?_, nx hb b2⟩
          by_cases e : j = q
          · subst e
            exact of_decide_eq_true hd
          · exact HA.out j hj (by omega)
        case measure => simp only [intOf]; omega
      | false =>
        go_wp2_with fail
        go_ret
        refine ⟨?_, nx hb b2⟩
        have h1 : ¬ dep l[q] ≤ 4096 := of_decide_eq_false hd
        have : ¬ depL l ≤ 4096 := fun h => h1 (depL_le.1 h q hlt)
        simp [this]
    · have hlt' : decide ((q : Int) < (l.length : Int)) = false := by simp; omega
      go_wp2_with fail
      go_ret
      refine ⟨?_, hb⟩
      have : depL l ≤ 4096 := depL_le.2 fun j hj => hall j hj (by omega)
      simp [this]
theorem conv1 {W : World} {g : Nat} {D : Int} {x : Nat} (hx : x < 10) (hD : D = 48 + (x : Int)) (h : W.heap[g]? = some (.cells #[.int .u8 D] 5 (0, 0))) :
    (convert 194 9 (.slice (some ⟨g, 0, none⟩) 1 1)).run Tryz.prog W = .ok (.string ⟨#[UInt8.ofNat (48 + x)]⟩) W := by
  subst hD
  refine run_convert_bytes_back (P := Tryz.prog) W 194 9 5 ⟨g, 0, none⟩ 1 [UInt8.ofNat (48 + x)] Tryz.underlying194 Tryz.underlying5 Tryz.underlying9 fun j hj => ?_
  obtain rfl : j = 0 := by simpa using hj
  have : (48 + x) % 256 = 48 + x := by omega
  simp [World.cell?, Addr.add, h, UInt8.toNat_ofNat, this]
end Go.Proofs.YtpaigpijaifeoaaGreatDoor.GDe

namespace Go.Proofs.YtpaigpijaifeoaaGreatDoor.MIr
open Go.RowKit Go.Proofs.YtpaigpijaifeoaaGreatDoor.Base Go.Proofs.YtpaigpijaifeoaaGreatDoor.Walk Go.Proofs.YtpaigpijaifeoaaGreatDoor.JGd
set_option linter.unusedVariables false

theorem in_rg {S : Nat → Prop} {w : World} : ∀ (m : Nat) (v : Value) (c : C) (d : Nat), Base.In false S w m v c → ∀ p ∈ pl d c, rg p.2.i := by
  intro m
  induction m with
  | zero => intro v c d h; rw [Base.In] at h; exact h.elim
  | succ m ih =>
    intro v c d h p hp
    obtain ⟨k, b, i, s, n, l⟩ := c
    obtain ⟨nv, lv, -, -, hi, -, -, a, cap, -, -, -, -, -, hL⟩ := in_iff.1 h
    rw [pl] at hp
    rcases List.mem_cons.1 hp with rfl | hp
    · exact hi
    · have hl : ∀ (t : List C), (∀ c ∈ t, c ∈ l) → ∀ p ∈ plL (d + 1) t, rg p.2.i := by
        intro t
        induction t with
        | nil => intro _ p hp; rw [plL] at hp; cases hp
        | cons c t iht =>
          intro ht p hp
          rw [Walk.plL_cons] at hp
          rcases List.mem_append.1 hp with hp | hp
          · obtain ⟨j, hj, e⟩ := List.mem_iff_getElem.1 (ht c (by simp))
            obtain ⟨g, o, u, -, -, -, hin⟩ := elem_at hL hj
            rw [e] at hin
            exact ih u c (d + 1) hin p hp
          · exact iht (fun c hc => ht c (by simp [hc])) p hp
      exact hl l (fun _ h => h) p hp
theorem in_gd {S : Nat → Prop} {w : World} {m : Nat} {v : Value} {c : C} (h : Base.In false S w m v c) (hc : code c = 0) : Gd c := ⟨hc, in_rg m v c 1 h⟩
end Go.Proofs.YtpaigpijaifeoaaGreatDoor.MIr

namespace Go.Proofs.YtpaigpijaifeoaaGreatDoor.WEn
open Go.RowKit Go.Proofs.YtpaigpijaifeoaaGreatDoor.Base Go.Proofs.YtpaigpijaifeoaaGreatDoor.VSm Go.Proofs.YtpaigpijaifeoaaGreatDoor.VJn Go.Proofs.YtpaigpijaifeoaaGreatDoor.VRs Go.Proofs.YtpaigpijaifeoaaGreatDoor.MSe Go.Proofs.YtpaigpijaifeoaaGreatDoor.MRv
open Go.Proofs.YtpaigpijaifeoaaGreatDoor.CPu (Ins ck)
open Go.Proofs.YtpaigpijaifeoaaGreatDoor.CBx (Cx)
open Go.Proofs.YtpaigpijaifeoaaGreatDoor.CIn (OkL)
set_option linter.unusedVariables false

theorem ok_rg {L : List Ins} (h : OkL L) : ∀ x ∈ L, -9223372036854775808 ≤ x.2 ∧ x.2 ≤ 9223372036854775807 := fun x hx => bounds_i64 (h.1 x hx).2
/-- What Run tells, beside what Check tells. -/
theorem tells {L : List Ins} {T : List ByteArray} {S : List C} {w : World} {m : Nat} {sv : Value} (hS : Base.InL false All w m sv S) (hk : OkL L) :
    (∃ n, rn L T S = .error n ∧ (n = 2000 ∨ (ck L T.length S.length ≠ 0 ∧ n = ck L T.length S.length) ∨ (ck L T.length S.length = 0 ∧ 1100 ≤ n ∧ n ≤ 1108))) ∨ ∃ r, rn L T S = .ok r ∧ ck L T.length S.length = 0 ∧ (Measure.ms 0 0 (Walk.pl 1 r)).2.2 = 0 := by
  unfold rn
  by_cases h1 : (T.any fun s => !STx.tg s) = true
  · exact .inl ⟨2000, by rw [if_pos h1], .inl rfl⟩
  rw [if_neg h1]
  by_cases h2 : ck L T.length S.length ≠ 0
  · exact .inl ⟨_, by rw [if_pos h2], .inr (.inl ⟨h2, rfl⟩)⟩
  rw [if_neg h2]
  have h2 : ck L T.length S.length = 0 := Decidable.not_not.1 h2
  by_cases h3 : S.any MEi.bd = true
  · exact .inl ⟨1108, by rw [if_pos h3], .inr (.inr ⟨h2, by decide, by decide⟩)⟩
  rw [if_neg h3]
  cases hX : MPl.mrun L T S L.length 0 [] with
  | error n =>
    have := MEr.mrun0 L T S L.length 0 [] n hX
    exact .inl ⟨(n : Nat), rfl, .inr (.inr ⟨h2, by omega, by omega⟩)⟩
  | ok r =>
    refine .inr ⟨r, rfl, h2, ?_⟩
    obtain ⟨hn, H, hh0, hh1, hst⟩ := MHt.ck_st h2
    have hT : ∀ s ∈ T, Pure.tg s = true := fun s hs => by
      have hh : STx.tg s = true := by
        cases e : STx.tg s with
        | true => rfl
        | false => exact absurd (List.any_eq_true.2 ⟨s, hs, by rw [e]; rfl⟩) h1
      exact hh
    have hG : ∀ c ∈ S, JGd.Gd c := fun c hc => by
      obtain ⟨j, hj, rfl⟩ := List.mem_iff_getElem.1 hc
      obtain ⟨a, cap, -, -, -, -, -, hL⟩ := hS
      obtain ⟨g, o, u, -, -, -, hin⟩ := elem_at hL hj
      refine ⟨?_, MIr.in_rg _ _ _ 1 hin⟩
      have : MEi.bd S[j] = false := by
        cases e : MEi.bd S[j] with
        | false => rfl
        | true => exact absurd (List.any_eq_true.2 ⟨_, hc, e⟩) h3
      unfold MEi.bd MEi.cd at this
      unfold JGd.code
      simpa using this
    exact (MGd.mrun_gd hst hh1 (fun x hx => ok_rg hk x hx) hT hG L.length 0 [] (by omega) (by omega) (by rw [hh0]; rfl) (fun c hc => by cases hc) r hX).1
set_option maxRecDepth 20000 in
set_option maxHeartbeats 6400000 in
theorem walk {m : Nat} {w : World} {cv tv sv : Value} {L : List Ins} {T : List ByteArray} {S : List C} (hL : Cx w.heap.size w cv L) (hk : OkL L) (hT : Tz w.heap.size w tv T) (hS : Base.InL false (fun b => b < w.heap.size) w (m + 1) sv S) (hTb : Tb w) :
    Calls Tryz.prog 5 #[cv, tv, sv] w fun e w' => e = .returned (.bool true) ∧ Below w.heap.size w w' := by
  have c1 := CAw.awake_c w hTb
  have hSA : Base.InL false All w (m + 1) sv S := hS.weak (fun _ _ => trivial) false id _ (Nat.le_refl _)
  have HTE : Hid _ := tells hSA hk (T := T)
  have HL : Hid (Cx w.heap.size w cv L) := hL
  have HK : Hid (OkL L) := hk
  have HTT : Hid (Tz w.heap.size w tv T) := hT
  have HS : Hid (Base.InL false (fun b => b < w.heap.size) w (m + 1) sv S) := hS
  have HSA : Hid (Base.InL false All w (m + 1) sv S) := hSA
  have HTB : Hid (Tb w) := hTb
  obtain ⟨a1, p1, rfl, hl1, hl2, -⟩ := hL
  obtain ⟨a2, p2, rfl, ht1, ht2, -⟩ := hT
  obtain ⟨a3, p3, rfl, hs1, hs2, -⟩ := hS
  clear hk hTb hSA
  go_enter Tryz.func5, Tryz.ntmps5
  go_wp2_with fail
  refine c1.mono ?_
  rintro e W1 ⟨rfl, b1⟩
  have c2 := GDe.shallows_c (HSA.out.below b1)
  have HB1 : Hid _ := b1
  clear c1 b1
  go_wp2_with fail
  refine c2.mono ?_
  rintro e W2 ⟨rfl, b2⟩
  have hb2 : Below w.heap.size w W2 := HB1.out.trans (b2.mono HB1.out.size)
  have c3 := CCk.check_c (HL.out.below hb2) hb2.size (T.length : Int) (S.length : Int)
  obtain ⟨z, hz⟩ : ∃ z, ck L T.length S.length = z := ⟨_, rfl⟩
  rw [hz] at c3
  have HZ : Hid (ck L T.length S.length = z) := hz
  have HB2 : Hid _ := hb2
  clear c2 b2 hb2 hz
  cases hd : decide (Shallow.depL S ≤ 4096) with
  | false =>
    clear c3
    go_wp2_with fail
    go_ret
    exact ⟨rfl, HB2.out⟩
  | true =>
  go_wp2_with fail
  refine c3.mono ?_
  rintro e W3 ⟨rfl, b3⟩
  have hb3 : Below w.heap.size w W3 := HB2.out.trans (b3.mono HB2.out.size)
  have c4 := MRw.run_g (HL.out.below hb3) (HTT.out.below hb3) (HS.out.keep (w' := W3) fun b hb _ => hb3.block b hb) hb3.size (ok_rg HK.out) (HTB.out.below hb3)
  have HB3 : Hid _ := hb3
  clear c3 b3 hb3 hd
  go_wp2_with fail
  refine c4.mono ?_
  rintro e W4 ⟨b4, hA⟩
  have HB4 : Hid (Below w.heap.size w W4) := HB3.out.trans (b4.mono HB3.out.size)
  obtain ⟨k, b, i, s, an, ln, cn, al, ll, cl, y, rfl, hq⟩ : ∃ (k : Int) (b : Bool) (i : Int) (s : ByteArray) (an : Option Addr) (ln cn : Nat) (al : Option Addr) (ll cl : Nat) (y : Int), e = .returned (.tuple #[vl k b i s (.slice an ln cn) (.slice al ll cl), .int .i64 y]) ∧ (y = 2000 ∨ (z ≠ 0 ∧ y = z) ∨ (z = 0 ∧ 1100 ≤ y ∧ y ≤ 1108) ∨ (z = 0 ∧ y = 0 ∧ ∃ r, Base.In false All W4 (m + 1) (vl k b i s (.slice an ln cn) (.slice al ll cl)) r ∧ (Measure.ms 0 0 (Walk.pl 1 r)).2.2 = 0)) := by
    have hte := HTE.out
    rw [HZ.out] at hte
    rcases hte with ⟨n, hn, hn2⟩ | ⟨r, hr, hr1, hr2⟩
    · rw [hn] at hA
      obtain ⟨an, ln, cn, al, ll, cl, he⟩ := hA
      exact ⟨0, false, 0, ⟨#[]⟩, an, ln, cn, al, ll, cl, n, he, by rcases hn2 with h | h | h; exact .inl h; exact .inr (.inl h); exact .inr (.inr (.inl h))⟩
    · rw [hr] at hA
      obtain ⟨u, he, hin⟩ := hA
      obtain ⟨an, ln, cn, al, ll, cl, rfl⟩ := in_shape hin
      exact ⟨r.k, r.b, r.i, r.s, an, ln, cn, al, ll, cl, 0, he, .inr (.inr (.inr ⟨hr1, rfl, r, hin, hr2⟩))⟩
  obtain ⟨W5, hW5⟩ : ∃ W5, W4.alloc (.cells #[.int .i64 k, .bool b, .int .i64 i, .string s, .slice an ln cn, .slice al ll cl] 26) = W5 := ⟨_, rfl⟩
  have b5 : Below W4.heap.size W4 W5 := by rw [← hW5]; exact (Below.refl _ W4).alloc (Nat.le_refl _) _
  have x5 : W5.heap[W4.heap.size]? = some (.cells #[.int .i64 k, .bool b, .int .i64 i, .string s, .slice an ln cn, .slice al ll cl] 26 (0, 0)) := by rw [← hW5]; exact heap_alloc_new W4 _
  obtain ⟨z0, z1, z2, z3, z4, z5⟩ := six_box x5
  have HB5 : Hid (Below w.heap.size w W5) := HB4.out.trans (b5.mono HB4.out.size)
  have HB45 : Hid (Below W4.heap.size W4 W5) := b5
  have HW5 : Hid (_ = W5) := hW5
  have cN : ∀ (x : Int) (W : World), Calls Tryz.prog 11 #[.int .i64 x] W fun e w' => e = .returned (.int .i64 x) ∧ W = w' := CAw.num_c
  clear c4 b4 hA b5 x5 hW5 HTE HZ
  rcases hq with rfl | ⟨hz0, rfl⟩ | ⟨rfl, hy1, hy2⟩ | ⟨rfl, rfl, r, hin, hr⟩
  · go_wp2_with fail
    rw [HW5.out]
    refine (cN _ _).mono ?_
    rintro e w9 ⟨rfl, h9⟩
    obtain rfl := h9
    go_wp2_with fail
    go_ret
    exact ⟨rfl, HB5.out⟩
  · have d0 : (y == 0) = false := by simp [hz0]
    cases d2 : (y == 2000) with
    | true =>
      clear hz0
      go_wp2_with fail
      rw [HW5.out]
      refine (cN _ _).mono ?_
      rintro e w9 ⟨rfl, h9⟩
      obtain rfl := h9
      go_wp2_with fail
      go_ret
      exact ⟨rfl, HB5.out⟩
    | false =>
      clear hz0
      go_wp2_with fail
      rw [HW5.out]
      refine (cN _ _).mono ?_
      rintro e w9 ⟨rfl, h9⟩
      obtain rfl := h9
      go_wp2_with fail
      refine (cN _ _).mono ?_
      rintro e w9 ⟨rfl, h9⟩
      obtain rfl := h9
      go_wp2_with fail
      refine (cN _ _).mono ?_
      rintro e w9 ⟨rfl, h9⟩
      obtain rfl := h9
      go_wp2_with fail
      refine (cN _ _).mono ?_
      rintro e w9 ⟨rfl, h9⟩
      obtain rfl := h9
      go_wp2_with fail
      go_ret
      exact ⟨by simp, HB5.out⟩
  · have d0 : (y == 0) = false := by simp; omega
    have d2 : (y == 2000) = false := by simp; omega
    have d3 : decide (1100 ≤ y) = true := by simp [hy1]
    have d4 : decide (y ≤ 1108) = true := by simp [hy2]
    clear hy1 hy2
    go_wp2_with fail
    rw [HW5.out]
    refine (cN _ _).mono ?_
    rintro e w9 ⟨rfl, h9⟩
    obtain rfl := h9
    go_wp2_with fail
    refine (cN _ _).mono ?_
    rintro e w9 ⟨rfl, h9⟩
    obtain rfl := h9
    go_wp2_with fail
    refine (cN _ _).mono ?_
    rintro e w9 ⟨rfl, h9⟩
    obtain rfl := h9
    go_wp2_with fail
    refine (cN _ _).mono ?_
    rintro e w9 ⟨rfl, h9⟩
    obtain rfl := h9
    go_wp2_with fail
    refine (cN _ _).mono ?_
    rintro e w9 ⟨rfl, h9⟩
    obtain rfl := h9
    go_wp2_with fail
    go_ret
    exact ⟨rfl, HB5.out⟩
  · have cV := GMw.check_all (hin.below HB45.out)
    rw [hr] at cV
    clear hin hr
    go_wp2_with fail
    rw [HW5.out]
    refine (cN _ _).mono ?_
    rintro e w9 ⟨rfl, h9⟩
    obtain rfl := h9
    go_wp2_with fail
    refine (cN _ _).mono ?_
    rintro e w9 ⟨rfl, h9⟩
    obtain rfl := h9
    go_wp2_with fail
    refine (cN _ _).mono ?_
    rintro e w9 ⟨rfl, h9⟩
    obtain rfl := h9
    go_wp2_with fail
    refine cV.mono ?_
    rintro e W6 ⟨rfl, b6⟩
    have HB6 : Hid (Below w.heap.size w W6) := HB5.out.trans (b6.mono HB5.out.size)
    clear cV b6
    go_wp2_with fail
    refine (cN _ _).mono ?_
    rintro e w9 ⟨rfl, h9⟩
    obtain rfl := h9
    go_wp2_with fail
    go_ret
    exact ⟨rfl, HB6.out⟩
end Go.Proofs.YtpaigpijaifeoaaGreatDoor.WEn

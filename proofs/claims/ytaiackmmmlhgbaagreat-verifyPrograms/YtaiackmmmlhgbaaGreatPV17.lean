import Derived.BigQuiet
import Derived.Test.YtaiackmmmlhgbaaGreatPV13
import Derived.Test.YtaiackmmmlhgbaaGreatPV16
open Go.Proofs.Tryz
set_option linter.unusedVariables false
set_option maxRecDepth 20000
set_option maxHeartbeats 3200000
namespace Go.Proofs.YtaiackmmmlhgbaaGreat.BPt
open Go.RowKit BPl YRr BBx BSm BIn BPs BGd
open YPl (Oq Bk Pg)
open CBx (w64)
theorem hid {p : Prop} (h : p) : Hid p := h
theorem own_last {w : World} {lo : Nat} {v : Value} {l : List Int} {x : Int} (h : w.ownsRow lo 3 1 v (l ++ [x]).length ((l ++ [x]).map (Value.int .i64))) : ∃ g cap, v = .slice (some ⟨g, 0, none⟩) (l.length + 1) cap /\ l.length + 1 <= cap /\ cap <= 9223372036854775807 /\ lo <= g /\ w.cell? ⟨g, l.length, none⟩ = some (.int .i64 x) /\ w.ownsRow lo 3 1 (.slice (some ⟨g, 0, none⟩) l.length cap) l.length (l.map (Value.int .i64)) := by
 have hn : (l ++ [x]).length = l.length + 1 := by simp
 rw [hn, List.map_append] at h
 rcases h.2 with ⟨-, e⟩ | ⟨g, cap, cur, rfl, hb, hc, hle, hm, hsz, htk⟩
 ·omega
 ·refine ⟨g, cap, rfl, hle, by unfold maxLen at hm; omega, hb, ?_, by simp, .inr ⟨g, cap, cur, rfl, hb, hc, by omega, hm, hsz, ?_⟩⟩
  ·rw [h.cellAt l.length (by omega)]
   simp
  ·have e2 := congrArg (List.take (l.length * 1)) htk
   rw [List.take_take, Nat.min_eq_left (by omega), List.take_append_of_le_length (by simp)] at e2
   rw [e2]
   exact List.take_of_length_le (by simp)
theorem leave_c {w : World} {B L P : Nat} {A : Ar} {nb : Nat} {ov : Value} {lt : Int} {l : List Int} {x cl : Int} (h : Bs w B L P ⟨A, lt, l ++ [x], cl⟩ nb ov) (hBL : B < L) (hL : L <= w.heap.size) (p : Nat) (hl : l.length <= 8192) (he : 0 <= A.el /\ A.el <= 64) :
  Calls prog 146 #[.pointer (some ⟨B, 0, none⟩), .int .i64 p] w fun e w' => (∃ v, e = .returned v) /\ Bs w' B L P ⟨{ A with el := A.el - 1 }, x, l, if l.length = 0 /\ cl = 0 then p else cl⟩ nb ov /\ Xl B L w w' := by
 obtain ⟨uv, hB, hU⟩ := h
 dsimp only at hB hU
 obtain ⟨g, cap, rfl, hc, hm, hg, k0, hF⟩ := own_last hU
 have hlt := hB.lt
 have c4 := cell_of hB 4 _ rfl
 have c8 := cell_of hB 8 _ rfl
 have c9 := cell_of hB 9 _ rfl
 have c10 := cell_of hB 10 _ rfl
 have r4 := frz hB 4
 have r8 := frz hB 8
 have r9 := frz hB 9
 have r10 := frz hB 10
 have HB : Hid (Bw w B P A nb ov lt (.slice (some ⟨g, 0, none⟩) (l.length + 1) cap) cl) := hB
 have HF : Hid (w.ownsRow L 3 1 (.slice (some ⟨g, 0, none⟩) l.length cap) l.length (l.map (Value.int .i64))) := hF
 have hgB : g ≠ B := by omega
 have HK : Hid (∀ w' : World, (∀ q, q ≠ B -> w'.heap[q]? = w.heap[q]?) -> w'.ownsRow L 3 1 (.slice (some ⟨g, 0, none⟩) l.length cap) l.length (l.map (Value.int .i64))) := fun w' h => own_keep HF.out fun q hq => h q (by have e : g = q := Option.some.inj hq; omega)
 obtain ⟨Y, hY⟩ : ∃ Y, (if l.length = 0 /\ cl = 0 then (p : Int) else cl) = Y := ⟨_, rfl⟩
 rw [hY]
 have HY : Hid ((if l.length = 0 /\ cl = 0 then (p : Int) else cl) = Y) := hY
 have hw0 : IntKind.i64.wrap ((l.length : Int) + 1 - 1) = (l.length : Int) := by rw [w64 (by omega) (by omega)]; omega
 have hw1 : IntKind.i64.wrap (A.el - 1) = A.el - 1 := w64 (by omega) (by omega)
 have i0 : (0 : Int) <= (l.length : Int) := by omega
 have i1 : (l.length : Int) < ((l.length + 1 : Nat) : Int) := by omega
 have i2 : (l.length : Int) <= (cap : Int) := by omega
 clear hB hF hU hY
 go_enter func146, ntmps146
 go_wp2_with fail
 go_region
 obtain ⟨W, hW⟩ : ∃ W, ((w.setCell ⟨B, 8, none⟩ (.int .i64 x)).setCell ⟨B, 9, none⟩ (.slice (some ⟨g, 0, none⟩) l.length cap)).drew = W := ⟨_, rfl⟩
 rw [hW]
 have hBW : Bw W B P A nb ov x (.slice (some ⟨g, 0, none⟩) l.length cap) cl := by rw [<- hW]; exact Bw.set9 (Bw.set8 HB.out _) _
 have HBW := hid hBW
 have HKW : Hid (∀ q, q ≠ B -> W.heap[q]? = w.heap[q]?) := by
  rw [<- hW]
  intro q hq
  exact (Below.heap_setCell _ _ _ _ hq).trans (Below.heap_setCell _ _ _ _ hq)
 have HLW : Hid (Below B w W) := by rw [<- hW]; exact (((Below.refl B w).setCell (p := ⟨B, 8, none⟩) (Nat.le_refl _) _).setCell (p := ⟨B, 9, none⟩) (Nat.le_refl _) _).drew
 clear hW c4 c8 c9 c10 r4 r8 r9 r10 k0
 have c4 := cell_of hBW 4 _ rfl
 have c10 := cell_of hBW 10 _ rfl
 have r4 := frz hBW 4
 have r10 := frz hBW 10
 clear hBW
 by_cases e1 : l.length = 0
 ·have d1 : ((l.length : Int) == 0) = true := by simp [e1]
  by_cases e2 : cl = 0
  ·have hY := HY.out
   rw [if_pos ⟨e1, e2⟩] at hY
   have d2 : (cl == 0) = true := by simp [e2]
   have HY2 := hid hY
   clear e1 e2 hY HY
   go_wp2_with fail
   go_end0
   rw [<- HY2.out]
   refine ⟨⟨_, rfl⟩, ⟨_, Bw.set10 (Bw.set4 HBW.out _) _, HK.out _ fun q hq => ?_⟩, (HLW.out.setCell (p := ⟨B, 4, none⟩) (Nat.le_refl _) _).setCell (p := ⟨B, 10, none⟩) (Nat.le_refl _) _, fun q _ hq => ?_⟩
   all_goals (
    rw [Below.heap_setCell _ _ _ _ hq, Below.heap_setCell _ _ _ _ hq]
    exact HKW.out q hq)
  ·have hY := HY.out
   rw [if_neg (fun h => e2 h.2)] at hY
   have d2 : (cl == 0) = false := by simp [e2]
   have HY2 := hid hY
   clear e1 e2 hY HY
   go_wp2_with fail
   go_end0
   rw [<- HY2.out]
   refine ⟨⟨_, rfl⟩, ⟨_, Bw.set4 HBW.out _, HK.out _ fun q hq => ?_⟩, HLW.out.setCell (p := ⟨B, 4, none⟩) (Nat.le_refl _) _, fun q _ hq => ?_⟩
   all_goals (
    rw [Below.heap_setCell _ _ _ _ hq]
    exact HKW.out q hq)
 ·have d1 : ((l.length : Int) == 0) = false := by rw [beq_eq_false_iff_ne]; omega
  have hY := HY.out
  rw [if_neg (fun h => e1 h.1)] at hY
  have HY2 := hid hY
  clear e1 hY HY
  go_wp2_with fail
  go_end0
  rw [<- HY2.out]
  refine ⟨⟨_, rfl⟩, ⟨_, Bw.set4 HBW.out _, HK.out _ fun q hq => ?_⟩, HLW.out.setCell (p := ⟨B, 4, none⟩) (Nat.le_refl _) _, fun q _ hq => ?_⟩
  all_goals (
   rw [Below.heap_setCell _ _ _ _ hq]
   exact HKW.out q hq)
theorem Bs.box {w w' : World} {B L P : Nat} {b b' : Bd} {nb : Nat} {ov uv : Value} (hU : w.ownsRow L 3 1 uv b.ou.length (b.ou.map (Value.int .i64))) (hBL : B < L) (hk : ∀ q, q ≠ B -> w'.heap[q]? = w.heap[q]?) (ho : b'.ou = b.ou) (hB : Bw w' B P b'.ar nb ov b'.lt uv b'.cl) : Bs w' B L P b' nb ov := by
 refine ⟨uv, hB, ?_⟩
 rw [ho]
 exact own_keep hU fun q hq => hk q (by have := (World.ownsRow.lt hU q hq).1; omega)
theorem pass_c {w : World} {B L P : Nat} {b : Bd} {nb : Nat} {ov : Value} (h : Bs w B L P b nb ov) (hBL : B < L) (hL : L <= w.heap.size) (p : Nat) (o : Oq) (a : Option Addr) (cap : Nat) (hou : b.ou.length <= 8192) (he : 0 <= b.ar.el /\ b.ar.el <= 64) (hst : 0 <= b.ar.st /\ b.ar.st <= 64) (hlt : 0 <= b.lt /\ b.lt <= 64) (h6 : o.k = 6 -> b.ou ≠ []) (h12 : o.k = 12 -> 1 <= o.a /\ o.a <= b.lt) :
  Calls prog 92 #[.pointer (some ⟨B, 0, none⟩), .int .i64 p, opv o (.slice a o.l.length cap)] w fun e w' => (∃ v, e = .returned v) /\ Bs w' B L P (pass b p o) nb ov /\ Xl B L w w' := by
 by_cases k3 : o.k = 3
 ·exact pass3 h hBL hL p o a cap k3 hou he
 obtain ⟨W, hW, b0, hs, hx⟩ := box5 w (.int .i64 o.k) (.int .i64 o.a) (.int .i64 o.b) (.int .i64 o.c) (.slice a o.l.length cap) 127
 have hBl : B < w.heap.size := by obtain ⟨uv, hB, -⟩ := h; exact hB.lt
 have c0 := cell_of hx 0 _ rfl
 have c1 := cell_of hx 1 _ rfl
 have HLW : Hid (Below B w W) := b0.mono (by omega)
 have HGW : Hid (∀ g, g < L -> W.heap[g]? = w.heap[g]?) := fun g hg => b0.block g (by omega)
 by_cases k6 : o.k = 6
 ·obtain ⟨l, x, e⟩ := snoc _ (h6 k6)
  rw [pass_6 k6 e]
  have hS := h.below b0
  obtain ⟨A, lt, ou, cl⟩ := b
  dsimp only at *
  subst e
  have cL := leave_c hS hBL (by omega) p (by simp at hou; omega) he
  generalize (if l.length = 0 /\ cl = 0 then (p : Int) else cl) = Y at *
  obtain ⟨k, x1, x2, x3, x4⟩ := o
  dsimp only at *
  subst k6
  generalize x4.length = n at *
  clear hS h hx b0 h6 h12
  go_enter func92, ntmps92
  go_wp2_with fail
  refine cL.mono ?_
  rintro e W1 ⟨⟨v, rfl⟩, h1, h2⟩
  have H1 := hid h1
  have H2 := hid h2
  clear cL h1 h2
  go_wp2_with fail
  go_end0
  exact ⟨⟨_, rfl⟩, H1.out, HLW.out.trans H2.out.1, fun g hg hq => (H2.out.2 g hg hq).trans (HGW.out g hg)⟩
 obtain ⟨uv, hB, hU⟩ := h
 obtain ⟨ua, uc, rfl, huc, hum⟩ := own_shape hU
 have hB0 := hB.keep b0
 have e3 := cell_of hB0 3 _ rfl
 have e8 := cell_of hB0 8 _ rfl
 have r3 := frz hB0 3
 have r8 := frz hB0 8
 have HBW := hid hB0
 have HU := hid (own_keep hU fun g hg => b0.block g (World.ownsRow.lt hU g hg).2 : W.ownsRow L 3 1 (.slice ua b.ou.length uc) b.ou.length (b.ou.map (Value.int .i64)))
 have hBx : w.heap.size ≠ B := by omega
 clear hB hU hB0 b0 hx
 by_cases k11 : o.k = 11
 ·rw [pass_11 k11]
  obtain ⟨A, lt, ou, cl⟩ := b
  obtain ⟨k, x1, x2, x3, x4⟩ := o
  dsimp only at *
  subst k11
  have hw1 : IntKind.i64.wrap (lt + 1) = lt + 1 := w64 (by omega) (by omega)
  have hw2 : IntKind.i64.wrap (A.st + 1) = A.st + 1 := w64 (by omega) (by omega)
  generalize x4.length = n at *
  clear h6 h12
  go_enter func92, ntmps92
  go_wp2_with fail
  go_end0
  refine ⟨⟨_, rfl⟩, Bs.box HU.out hBL (fun q hq => ?_) rfl (Bw.set3 (Bw.set8 HBW.out _) _), (HLW.out.setCell (p := ⟨B, 8, none⟩) (Nat.le_refl _) _).setCell (p := ⟨B, 3, none⟩) (Nat.le_refl _) _, fun q hg hq => ?_⟩
  ·rw [Below.heap_setCell _ _ _ _ hq, Below.heap_setCell _ _ _ _ hq]
  ·rw [Below.heap_setCell _ _ _ _ hq, Below.heap_setCell _ _ _ _ hq]
   exact HGW.out q hg
 by_cases k12 : o.k = 12
 ·rw [pass_12 k12]
  have h12 := h12 k12
  obtain ⟨A, lt, ou, cl⟩ := b
  obtain ⟨k, x1, x2, x3, x4⟩ := o
  dsimp only at *
  subst k12
  have hw1 : IntKind.i64.wrap (lt - x1) = lt - x1 := w64 (by omega) (by omega)
  have hw2 : IntKind.i64.wrap (A.st - x1) = A.st - x1 := w64 (by omega) (by omega)
  generalize x4.length = n at *
  clear h6
  go_enter func92, ntmps92
  go_wp2_with fail
  go_region
  go_wp2_with fail
  go_region
  go_wp2_with fail
  go_end0
  refine ⟨⟨_, rfl⟩, Bs.box HU.out hBL (fun q hq => ?_) rfl (Bw.set3 (Bw.set8 HBW.out _) _), (((HLW.out.setCell (p := ⟨B, 8, none⟩) (Nat.le_refl _) _).setCell (p := ⟨B, 3, none⟩) (Nat.le_refl _) _).drew).drew, fun q hg hq => ?_⟩
  ·exact (Below.heap_setCell _ _ _ _ hq).trans (Below.heap_setCell _ _ _ _ hq)
  ·exact ((Below.heap_setCell _ _ _ _ hq).trans (Below.heap_setCell _ _ _ _ hq)).trans (HGW.out q hg)
 rw [pass_0 k3 k6 k11 k12]
 have d3 : (o.k == 3) = false := by simp [k3]
 have d6 : (o.k == 6) = false := by simp [k6]
 have d11 : (o.k == 11) = false := by simp [k11]
 have d12 : (o.k == 12) = false := by simp [k12]
 obtain ⟨k, x1, x2, x3, x4⟩ := o
 dsimp only at *
 generalize x4.length = n at *
 clear h6 h12
 go_enter func92, ntmps92
 go_wp2_with fail
 go_end0
 exact ⟨⟨_, rfl⟩, ⟨_, HBW.out, HU.out⟩, HLW.out, fun g hg _ => HGW.out g hg⟩
end Go.Proofs.YtaiackmmmlhgbaaGreat.BPt
namespace Go.Proofs.YtaiackmmmlhgbaaGreat.BBf
open Go.RowKit BPl YRr YRs BBx BSm BOp BSt BHm BOf BPs BGd BPt
open YPl (Oq Bk Pg)
open TBase (T Keep heap_alloc_new)
open CBx (w64)
def Fq (Q B L : Nat) (w w' : World) : Prop := Below Q w w' /\ ∀ g, g < L -> g ≠ Q -> g ≠ B -> w'.heap[g]? = w.heap[g]?
theorem Fq.refl (Q B L : Nat) (w : World) : Fq Q B L w w := ⟨Below.refl _ _, fun _ _ _ _ => rfl⟩
theorem Fq.xb {Q B L : Nat} {a b c : World} (h : Fq Q B L a b) (hL : L <= b.heap.size) (k : Xb Q b c) : Fq Q B L a c := ⟨h.1.trans k.1, fun g hg hq hB => (k.2 g (by omega) hq).trans (h.2 g hg hq hB)⟩
theorem Fq.xl {Q B L : Nat} {a b c : World} (h : Fq Q B L a b) (hQ : Q <= B) (k : Xl B L b c) : Fq Q B L a c := ⟨h.1.trans (k.1.mono hQ), fun g hg hq hB => (k.2 g hg hB).trans (h.2 g hg hq hB)⟩
theorem Fq.below {Q B L : Nat} {a b c : World} (h : Fq Q B L a b) (hL : L <= b.heap.size) (hQ : Q <= b.heap.size) (k : Below b.heap.size b c) : Fq Q B L a c := ⟨h.1.trans (k.mono hQ), fun g hg hq hB => (k.block g (by omega)).trans (h.2 g hg hq hB)⟩
def BR (Q B : Nat) (n : Nat) (X : Except (Int × Int) (List Ar)) (w : World) (e : Ending) (w' : World) : Prop := (Below Q w w' /\ ∀ g, g < B -> g ≠ Q -> w'.heap[g]? = w.heap[g]?) /\ match X with
 | .error q => e = .returned (.tuple #[.int .i64 q.1, .int .i64 q.2])
 | .ok H' => e = .returned (.tuple #[.int .i64 0, .int .i64 0]) /\ Hw w' Q H' /\ H'.length = n /\ Gh H'
def bkv (k : Bk) (ov uv : Value) : Value := .agg #[.int .i64 k.d, ov, uv]
def btl (k : Bk) : Except (Int × Int) (Bd × List Ar) -> Except (Int × Int) (List Ar)
 | .error q => .error q
 | .ok (b, H') =>
   if b.ou ≠ [] \/ 0 < b.lt then .error ((k.o.length : Int), 2204)
   else if b.ar.lp = true /\ item k.o b.cl = false then .error (0, 2206)
   else if (upd k.o.length 0 0 k.u).2 ≠ 0 then .error (upd k.o.length 0 0 k.u) else .ok H'
theorem blf_tl {S : Sh} {nb : Nat} {k : Bk} {H : List Ar} {A : Ar} (hA : H.getD nb ar0 = A) (h1 : ¬ A.ow = false) (h2 : k.d = A.st) : blf S nb k H = btl k (gos S nb k.o 0 (k.o.drop 0) ⟨A, 0, [], 0⟩ H) := by
 unfold blf
 rw [hA, if_neg h1, if_neg (fun e => e h2), List.drop_zero]
 cases gos S nb k.o 0 k.o ⟨A, 0, [], 0⟩ H <;> rfl
theorem upd_zero (n : Nat) : ∀ (l : List Int) (m : Int) (i : Nat), (upd n m i l).2 = 0 -> upd n m i l = (0, 0)
 | [], m, i, h => by rw [upd]
 | x :: r, m, i, h => by
  rw [upd] at h ⊢
  split at h
  ·cases h
  ·rename_i hn
   rw [if_neg hn]
   exact upd_zero n r _ _ h
theorem Bs.xb {w w' : World} {B L P Q : Nat} {b : Bd} {nb : Nat} {ov : Value} (h : Bs w B L P b nb ov) (hx : Xb Q w w') (hBQ : B ≠ Q) (hQ : Q < L) : Bs w' B L P b nb ov := by
 obtain ⟨uv, h1, h2⟩ := h
 refine ⟨uv, (hx.2 B h1.lt hBQ).trans h1, own_keep h2 fun g hg => ?_⟩
 have := World.ownsRow.lt h2 g hg
 exact hx.2 g this.2 (by omega)
theorem block_c {R : Nat -> Prop} {w : World} {B P Q : Nat} {S : Sh} {hcap : Nat} {A : Ar} {nb : Nat} {ov uv : Value} {H : List Ar} {k : Bk} (h : Pw R w P S (.slice (some ⟨Q, 0, none⟩) H.length hcap)) (hR : ∀ g, R g -> g < B) (hRQ : ∀ g, R g -> g ≠ Q) (hB : Bw w B P A nb ov 0 (.slice none 0 0) 0) (hQB : Q < B) (hH : Hw w Q H) (hc : H.length <= hcap) (hH4 : H.length <= 140737488351232) (hO : RrS 5 (LyOs R) R w ov k.o) (hU : RrS 1 LyI R w uv k.u) (hG : Gh H) (hA : H.getD nb ar0 = A) (hGA : A.ow = true -> Ga A) (hd : ∀ i, 0 <= dpa S i /\ dpa S i <= 140737488351232) :
  Calls prog 46 #[.pointer (some ⟨B, 0, none⟩), bkv k ov uv] w fun e w' => BR Q B H.length (blf S nb k H) w e w' := by
 have hBl := hB.lt
 have HO := hid hO
 have HU := hid hU
 obtain ⟨oa, oc, rfl, hoc1, hoc2, ho47, -⟩ := hO
 obtain ⟨ua, uc, rfl, huc1, huc2, hu47, -⟩ := hU
 obtain ⟨W, hW⟩ : ∃ W, w.alloc (.cells #[.int .i64 k.d, .slice oa k.o.length oc, .slice ua k.u.length uc] 74) = W := ⟨_, rfl⟩
 have b0 : Below w.heap.size w W := by rw [<- hW]; exact (Below.refl _ w).alloc (Nat.le_refl _) _
 have hs : w.heap.size + 1 <= W.heap.size := by rw [<- hW]; simp
 have hx : W.heap[w.heap.size]? = some (.cells #[.int .i64 k.d, .slice oa k.o.length oc, .slice ua k.u.length uc] 74 (0, 0)) := by rw [<- hW]; exact heap_alloc_new w _
 have HX := hid hx
 have c0 := cell_of hx 0 _ rfl
 have c1 := cell_of hx 1 _ rfl
 have c2 := cell_of hx 2 _ rfl
 have hBW := hB.keep b0
 have e1 := cell_of hBW 1 _ rfl
 have e3 := cell_of hBW 3 _ rfl
 have e7 := cell_of hBW 7 _ rfl
 have HB := hid hBW
 -- what is read stays, whatever the walk does
 have HK : Hid (∀ W', Fq Q B (w.heap.size + 1) W W' -> Pw R W' P S (.slice (some ⟨Q, 0, none⟩) H.length hcap) /\ RrS 5 (LyOs R) R W' (.slice oa k.o.length oc) k.o /\ RrS 1 LyI R W' (.slice ua k.u.length uc) k.u /\ W'.heap[w.heap.size]? = some (.cells #[.int .i64 k.d, .slice oa k.o.length oc, .slice ua k.u.length uc] 74 (0, 0))) := by
  intro W' hf
  have hk : Keep R w W' := fun g hg _ => by
   have h1 := hR g hg
   exact (hf.2 g (by omega) (hRQ g hg) (by omega)).trans (b0.block g (by omega))
  exact ⟨h.keep hk, HO.out.keep (fun _ h => h) fun g o x _ hg h => kO hk (fun _ h => h) hg h, HU.out.keep (fun _ h => h) fun g o x _ hg h => kI hk hg h, (hf.2 w.heap.size (by omega) (by omega) (by omega)).trans HX.out⟩
 have HE : Hid (∀ W', Fq Q B (w.heap.size + 1) W W' -> Below Q w W' /\ ∀ g, g < B -> g ≠ Q -> W'.heap[g]? = w.heap[g]?) := fun W' hf => ⟨(b0.mono (by omega)).trans hf.1, fun g hg hq => (hf.2 g (by omega) hq (by omega)).trans (b0.block g (by omega))⟩
 have HF0 := hid (Fq.refl Q B (w.heap.size + 1) W)
 have HH := hid ((b0.block Q (by omega)).trans hH : Hw W Q H)
 have HR := hid hR
 have HRQ := hid hRQ
 have HD := hid hd
 have HG := hid hG
 obtain ⟨X, hX⟩ : ∃ X, blf S nb k H = X := ⟨_, rfl⟩
 rw [hX]
 have HXX := hid hX
 clear h hR hRQ hB hH hx hBW hd hG hX b0
 unfold bkv
 cases how : A.ow with
 | false =>
  have hX := HXX.out
  unfold blf at hX
  rw [hA, if_pos how] at hX
  subst hX
  rw [how] at e1
  go_enter func46, ntmps46
  go_wp2_with fail
  go_ret2
  exact ⟨HE.out _ HF0.out, rfl⟩
 | true =>
 have hga := hGA how
 rw [how] at e1
 have how' : ¬ A.ow = false := by rw [how]; decide
 have HOW := hid how
 clear hGA how
 by_cases hdp : k.d = A.st
 ·have dd : (k.d != A.st) = false := by simp [hdp]
  obtain ⟨G, hGG⟩ : ∃ G, gos S nb k.o 0 (k.o.drop 0) ⟨A, 0, [], 0⟩ H = G := ⟨_, rfl⟩
  have HX2 := hid (by have := HXX.out; rw [blf_tl hA how' hdp, hGG] at this; exact this : btl k G = X)
  have HGG := hid hGG
  obtain ⟨n, hn⟩ : ∃ n, H.length = n := ⟨_, rfl⟩
  have HN := hid hn
  rw [hn] at HK hc hH4 ⊢
  have HGA := hid hga
  clear hdp HXX how' hGG hn hga hA
  go_enter func46, ntmps46
  go_wp2_with fail
  go_quiet (fail)
  go_wp2_with fail
  rename_i nq K0 hK0
  obtain ⟨V, hV⟩ : ∃ V, W.drewN nq = V := ⟨_, rfl⟩
  rw [hV]
  have bV : Below W.heap.size W V := by rw [<- hV]; exact IBase.below_drewN (Below.refl _ _)
  have HFV := hid (Fq.below HF0.out hs (by omega) bV)
  have HBV := hid ((HB.out : Bw W B P A nb _ 0 _ 0).keep bV)
  have HHV := hid ((bV.block Q (by omega)).trans HH.out : Hw V Q H)
  clear hV bV c0 c1 c2 e1 e3 e7
  go_loopw [30] (fun i wr => ∃ (q : Nat) (b : Bd) (Hq : List Ar), q <= k.o.length /\ q <= 8192 /\ i = .int .i64 q /\ gos S nb k.o q (k.o.drop q) b Hq = G /\ Gb b /\ Gh Hq /\ Hq.length = n /\ (∀ j (hj : j < k.o.length), j < q -> fits S k.o[j] = true) /\ Bs wr B (w.heap.size + 1) P b nb (.slice oa k.o.length oc) /\ Hw wr Q Hq /\ Fq Q B (w.heap.size + 1) W wr) (fun i _ => k.o.length - (intOf i).toNat)
  case atStart => exact ⟨0, ⟨A, 0, [], 0⟩, H, by omega, by omega, rfl, HGG.out, ⟨HGA.out, Int.le_refl 0, (by simp), by simpa using HGA.out.1, by simpa using HGA.out.2.2.1⟩, HG.out, HN.out, (fun j hj h0 => by omega), ⟨_, HBV.out, World.ownsRow_nil _ _ _ _⟩, HHV.out, HFV.out⟩
  case round =>
   clear HGG HHV HBV HFV
   obtain ⟨q, b, Hq, hq, hq8, rfl, hM, hgb, hgh, hHl, hfit, hBs, hHq, hFq⟩ := hrel
   obtain ⟨kP, kO', kU, kX⟩ := HK.out wr hFq
   have HKP := hid kP
   have HKO := hid kO'
   have HKU := hid kU
   have HKX := hid kX
   have HBS := hid hBs
   have HHQ := hid hHq
   have HFQ := hid hFq
   have HGB := hid hgb
   have HGH := hid hgh
   have HHL := hid hHl
   have HFT := hid hfit
   have hsz : w.heap.size + 1 <= wr.heap.size := by have := hFq.1.size; omega
   have HM := hid hM
   obtain ⟨uv2, hBw, hOwn⟩ := hBs
   obtain ⟨u2, uc2, rfl, -, -⟩ := own_shape hOwn
   have HBw := hid hBw
   clear kP kO' kU hHq hFq hgh hHl hfit hOwn hM
   by_cases hlt : q < k.o.length
   ·have d0 : decide ((q : Int) < (k.o.length : Int)) = true := by simp; omega
    have i0 : (0 : Int) <= (q : Int) := by omega
    have i1 : (q : Int) < (k.o.length : Int) := by omega
    obtain ⟨g, o, cap', lv, hsl, hl, hm, hg, k0, k1, k2, k3, k4, ⟨hik, hia, hib, hic⟩, hrl⟩ := kind_at HKO.out hlt
    cases hsl
    have HRL := hid hrl
    obtain ⟨la, lc, rfl, -⟩ := hrl
    obtain ⟨W1, hW1, b1, hs1, hx1⟩ := box5 wr (.int .i64 k.o[q].k) (.int .i64 k.o[q].a) (.int .i64 k.o[q].b) (.int .i64 k.o[q].c) (.slice la k.o[q].l.length lc) 127
    have hk1 : Keep R wr W1 := fun g hg hl => b1.block g hl
    have hah : q ≠ 0 -> ((ahd k.o q).k = 4 \/ (ahd k.o q).k = 5) -> isN (ahd k.o q).a S.t.length = true := by
     intro hq0 hk45
     have e : ahd k.o q = k.o[q - 1] := by unfold ahd; rw [List.getD_eq_getElem?_getD, List.getElem?_eq_getElem (by omega), Option.getD_some]
     rw [e] at hk45 ⊢
     exact fits_tag (HFT.out (q - 1) (by omega) (by omega)) hk45
    have hga := HGB.out.1
    have cO := opFault_c (H := Hq) (hcap := hcap) (by rw [HHL.out]; exact HKP.out.keep hk1) (fun g hg => by have := HR.out g hg; omega) HRQ.out (HBw.out.keep b1) (by omega) ((b1.block Q (by omega)).trans HHQ.out) (by rw [HHL.out]; exact hc) (by rw [HHL.out]; exact hH4) (HKO.out.keep (fun _ h => h) fun g o x _ hg h => kO hk1 (fun _ h => h) hg h) hlt k.o[q] (HRL.out.keep (fun _ h => h) fun g o x _ hg h => kI hk1 hg h) ⟨hga.1, hga.2.1⟩ ⟨hga.2.2.2.2.1, by have := hga.2.2.2.2.2; omega⟩ ⟨hga.2.2.1, by have := hga.2.2.2.1; omega⟩ hib hic hah HD.out
    rw [HHL.out] at cO
    obtain ⟨Y, hY⟩ : ∃ Y, opf S nb k.o b Hq q k.o[q] = Y := ⟨_, rfl⟩
    rw [hY] at cO
    have HY := hid hY
    have HMY := hid (by have := HM.out; rw [gos_step hlt, hY] at this; exact this)
    have c0 := cell_of hx1 0 _ rfl
    have c1 := cell_of hx1 1 _ rfl
    have c2 := cell_of hx1 2 _ rfl
    have c3 := cell_of hx1 3 _ rfl
    have c4 := cell_of hx1 4 _ rfl
    have HX1 := hid hx1
    have HS1 := hid hs1
    have HB1 := hid b1
    have hfq1 := HFQ.out.below hsz (by omega) b1
    have HFQ1 := hid hfq1
    have hsz1 : wr.heap.size < W1.heap.size := by omega
    unfold opv at cO
    clear hY hx1 hs1 b1 hfq1 hk1 hah hga HM hBw hgb
    cases Y with
    | error c =>
     have hG : Except.error ((q : Int), c) = G := HMY.out
     have hX : btl k (Except.error ((q : Int), c)) = X := by rw [hG]; exact HX2.out
     have hX : Except.error ((q : Int), c) = X := hX
     have hc0 := opf_ne HY.out
     have dc : (c != 0) = true := by simp [hc0]
     subst hX
     clear hG hc0 HMY HY HX2
     go_wp2_with fail
     refine cO.mono ?_
     intro e W2 h2
     obtain ⟨x2, h3⟩ := h2
     have h3 : e = .returned (.int .i64 c) := h3
     subst h3
     have HF2 := hid (HFQ1.out.xb (by omega) x2)
     clear cO x2
     go_wp2_with fail
     go_ret2
     exact ⟨HE.out _ HF2.out, rfl⟩
    | ok H' =>
     have HP := hid (gb_pass HY.out HGB.out)
     have HQ := hid (opf_gh HY.out HGB.out HGH.out)
     obtain ⟨f1, f2, f3, f4, f5, f6, f7⟩ := opf_ok HY.out
     have hgg := HGB.out
     have hl64 := hgg.lt64
     obtain ⟨⟨a1, a2, a3, a4, a5, a6⟩, a7, a8, a9, a10⟩ := hgg
     have HPre := hid (⟨by omega, ⟨a3, by omega⟩, ⟨a1, a2⟩, ⟨a7, hl64⟩, fun e6 => (stands_close f4 e6).1, fun e12 => ⟨fits_drop f2 e12, stands_drop f4 e12⟩⟩ : b.ou.length <= 8192 /\ (0 <= b.ar.el /\ b.ar.el <= 64) /\ (0 <= b.ar.st /\ b.ar.st <= 64) /\ (0 <= b.lt /\ b.lt <= 64) /\ (k.o[q].k = 6 -> b.ou ≠ []) /\ (k.o[q].k = 12 -> 1 <= k.o[q].a /\ k.o[q].a <= b.lt))
     have hq8' : q + 1 <= 8192 := by omega
     have HFN := hid (fun j (hj : j < k.o.length) (hjq : j < q + 1) => by
      rcases Nat.lt_or_ge j q with h | h
      ·exact HFT.out j hj h
      ·have e : j = q := by omega
       subst e
       exact f2 : ∀ j (hj : j < k.o.length), j < q + 1 -> fits S k.o[j] = true)
     clear f1 f2 f3 f4 f5 f6 f7 a1 a2 a3 a4 a5 a6 a7 a8 a9 a10 hl64 HFT
     go_wp2_with fail
     refine cO.mono ?_
     intro e W2 h2
     obtain ⟨x2, h3, h4, h5⟩ := h2
     have h3 : e = .returned (.int .i64 0) := h3
     subst h3
     have HF2 := hid (HFQ1.out.xb (by omega) x2)
     have hs2 : W1.heap.size <= W2.heap.size := x2.1.size
     have hBs2 := Bs.xb (HBS.out.below HB1.out) x2 (by omega) (by omega)
     have hx2 := (x2.2 wr.heap.size (by omega) (by omega)).trans HX1.out
     have HH2 := hid h4
     have cP := pass_c hBs2 (by omega) (by omega) q k.o[q] la lc HPre.out.1 HPre.out.2.1 HPre.out.2.2.1 HPre.out.2.2.2.1 HPre.out.2.2.2.2.1 HPre.out.2.2.2.2.2
     unfold opv at cP
     have HL2 := hid h5
     clear cO x2 h4 h5 hBs2 c0 c1 c2 c3 c4
     have c0 := cell_of hx2 0 _ rfl
     have c1 := cell_of hx2 1 _ rfl
     have c2 := cell_of hx2 2 _ rfl
     have c3 := cell_of hx2 3 _ rfl
     have c4 := cell_of hx2 4 _ rfl
     clear hx2
     go_wp2_with fail
     refine cP.mono ?_
     rintro e W3 ⟨⟨v3, rfl⟩, h6, h7⟩
     have HBS3 := hid h6
     have HF3 := hid (HF2.out.xl (by omega) h7)
     have HH3 := hid ((h7.2 Q (by omega) (by omega)).trans HH2.out : Hw W3 Q H')
     clear cP h6 h7 c0 c1 c2 c3 c4
     go_wp2_with fail
     go_roundw
     case rel => exact ⟨q + 1, _, H', by omega, hq8', by go_num, HMY.out, HP.out, HQ.out.1, HL2.out, HFN.out, HBS3.out, HH3.out, HF3.out⟩
     case measure => simp only [intOf]; omega
   ·have d0 : decide ((q : Int) < (k.o.length : Int)) = false := by simp; omega
    have hqe : q = k.o.length := by omega
    have hG : Except.ok (b, Hq) = G := by have := HM.out; rw [hqe, gos_end] at this; exact this
    have hX : btl k (Except.ok (b, Hq)) = X := by rw [hG]; exact HX2.out
    have HXE := hid hX
    clear hX hG HM HX2 hqe
    have e2 := cell_of HBw.out 2 _ rfl
    have e7 := cell_of HBw.out 7 _ rfl
    have e8 := cell_of HBw.out 8 _ rfl
    have e9 := cell_of HBw.out 9 _ rfl
    have x0 := cell_of HKX.out 0 _ rfl
    have x1 := cell_of HKX.out 1 _ rfl
    have x2 := cell_of HKX.out 2 _ rfl
    clear kX hBw hgb
    by_cases hou : b.ou = []
    ·have l0 : b.ou.length = 0 := by rw [hou]; rfl
     rw [l0] at e9
     by_cases hlt0 : 0 < b.lt
     ·have dl : decide (0 < b.lt) = true := by simp [hlt0]
      have hX := HXE.out
      rw [btl, if_pos (.inr hlt0)] at hX
      subst hX
      clear hou l0 hlt0
      go_wp2_with fail
      go_ret2
      exact ⟨HE.out _ HFQ.out, rfl⟩
     ·have dl : decide (0 < b.lt) = false := by simp [hlt0]
      have hX := HXE.out
      rw [btl, if_neg (by rintro (h | h) <;> first | exact h hou | exact hlt0 h)] at hX
      have HXF := hid hX
      have cU := update_c (w := wr.drew) (HKU.out.keep (fun _ h => h) fun g o x _ hg h => kI (fun _ _ _ => rfl) hg h) k.o.length ho47
      have HUZ := hid (upd_zero k.o.length k.u 0 0)
      clear hou l0 hlt0 hX HXE
      cases hlp : b.ar.lp with
      | false =>
       rw [hlp] at e2
       have hX := HXF.out
       rw [if_neg (by rw [hlp]; simp)] at hX
       have HXG := hid hX
       clear hX HXF hlp
       generalize upd k.o.length 0 0 k.u = U at *
       go_wp2_with fail
       go_region_held3 (fun w' => w'.cell? ⟨w.heap.size, 2, none⟩ = some (.slice ua k.u.length uc) /\ w'.cell? ⟨B, 7, none⟩ = some (.slice oa k.o.length oc)) (go_keep) (first | (go_at_call 94; refine cU.mono ?_; rintro e w9 ⟨rfl, h9⟩; obtain rfl := h9.symm; clear cU) | fail)
       all_goals
        rename_i hHeld
        clear hHeld
        go_wp2_with fail
        go_ret2
        by_cases hu : U.2 = 0
        ·have hz := HUZ.out hu
         have hX := HXG.out
         rw [if_neg (fun h => h hu)] at hX
         subst hX
         rw [hz]
         exact ⟨HE.out _ (HFQ.out.below (by omega) (by omega) ((Below.refl _ _).drew)), rfl, HHQ.out, HHL.out, HGH.out⟩
        ·have hX := HXG.out
         rw [if_pos hu] at hX
         subst hX
         exact ⟨HE.out _ (HFQ.out.below (by omega) (by omega) ((Below.refl _ _).drew)), rfl⟩
      | true =>
       rw [hlp] at e2
       have cI := item_c HBw.out HKO.out
       obtain ⟨Z, hZ⟩ : ∃ Z, item k.o b.cl = Z := ⟨_, rfl⟩
       rw [hZ] at cI
       have hX := HXF.out
       rw [hZ] at hX
       have HXH := hid hX
       have HLP := hid hlp
       clear hX HXF hlp hZ
       go_wp2_with fail
       refine cI.mono ?_
       rintro e W2 ⟨rfl, b2⟩
       have HF2 := hid (HFQ.out.below (by omega) (by omega) b2)
       have HH2 := hid ((b2.block Q (by omega)).trans HHQ.out : Hw W2 Q Hq)
       have hs2 : wr.heap.size <= W2.heap.size := b2.size
       have HBw2 := hid (HBw.out.keep b2)
       have HKX2 := hid ((b2.block w.heap.size (by omega)).trans HKX.out)
       have cU2 := update_c (w := W2.drew) (HKU.out.keep (fun _ h => h) fun g o x _ hg h => kI (keep_of b2.drew) hg h) k.o.length ho47
       clear cI b2 cU e2 e7 e8 e9 x0 x1 x2
       have e7 := cell_of HBw2.out 7 _ rfl
       have x2 := cell_of HKX2.out 2 _ rfl
       cases Z with
       | false =>
        have hX := HXH.out
        rw [if_pos ⟨HLP.out, rfl⟩] at hX
        subst hX
        go_wp2_with fail
        go_ret2
        exact ⟨HE.out _ HF2.out, rfl⟩
       | true =>
        have hX := HXH.out
        rw [if_neg (by simp)] at hX
        have HXG := hid hX
        clear hX HXH
        generalize upd k.o.length 0 0 k.u = U at *
        go_wp2_with fail
        go_region_held3 (fun w' => w'.cell? ⟨w.heap.size, 2, none⟩ = some (.slice ua k.u.length uc) /\ w'.cell? ⟨B, 7, none⟩ = some (.slice oa k.o.length oc)) (go_keep) (first | (go_at_call 94; refine cU2.mono ?_; rintro e w9 ⟨rfl, h9⟩; obtain rfl := h9.symm; clear cU2) | fail)
        all_goals
         rename_i hHeld
         clear hHeld
         go_wp2_with fail
         go_ret2
         by_cases hu : U.2 = 0
         ·have hz := HUZ.out hu
          have hX := HXG.out
          rw [if_neg (fun h => h hu)] at hX
          subst hX
          rw [hz]
          exact ⟨HE.out _ (HF2.out.below (by omega) (by omega) ((Below.refl _ _).drew)), rfl, HH2.out, HHL.out, HGH.out⟩
         ·have hX := HXG.out
          rw [if_pos hu] at hX
          subst hX
          exact ⟨HE.out _ (HF2.out.below (by omega) (by omega) ((Below.refl _ _).drew)), rfl⟩
    ·have l0 : 0 < b.ou.length := List.length_pos_iff.2 hou
     have dn : decide (0 < b.ou.length) = true := by simpa using l0
     have dn2 : decide ((0 : Int) < (b.ou.length : Int)) = true := by simpa using l0
     have hX := HXE.out
     rw [btl, if_pos (.inl hou)] at hX
     subst hX
     clear hou l0 HXE
     generalize b.ou.length = ol at *
     go_wp2_with fail
     go_ret2
     exact ⟨HE.out _ HFQ.out, rfl⟩
 ·have dd : (k.d != A.st) = true := by simp [hdp]
  have hX := HXX.out
  unfold blf at hX
  rw [hA, if_neg how', if_pos hdp] at hX
  subst hX
  clear hdp how'
  go_enter func46, ntmps46
  go_wp2_with fail
  go_quiet (fail)
  go_wp2_with fail
  go_ret2
  exact ⟨HE.out _ (Fq.below HF0.out hs (by omega) (IBase.below_drewN (Below.refl _ _))), rfl⟩
end Go.Proofs.YtaiackmmmlhgbaaGreat.BBf

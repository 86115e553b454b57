import Derived.Test.YtaiackmmmlhgbaaGreatPV00
import Derived.Test.YtaiackmmmlhgbaaGreatPV21
import Derived.Test.YtaiackmmmlhgbaaGreatPV36
open Go.Proofs.Tryz
set_option linter.unusedVariables false
set_option maxRecDepth 20000
set_option maxHeartbeats 3200000
namespace Go.Proofs.YtaiackmmmlhgbaaGreat.BLd
open Go.RowKit YRr YRs YRl BBx BIx BCp BLa BLc
open YPl (Oq Bk Pg)
open BSf (hid)
open BVf (cell_set)
open TBase (T Keep heap_alloc_new frozen_box)
open CPu (Ins)
theorem lendB1_c {S : Nat -> Prop} {w : World} {k : Bk} {oa ua : Option Addr} {oc uc : Nat} (ho : RrS 5 (LyOs S) S w (.slice oa k.o.length oc) k.o) (hu : RrS 1 LyI S w (.slice ua k.u.length uc) k.u) (hS : ∀ g, S g -> g < w.heap.size) (hpos : 0 < w.heap.size) (n1 : szB k) :
  Calls prog 81 #[.agg #[.int .i64 k.d, .slice oa k.o.length oc, .slice ua k.u.length uc]] w fun e w' => ∃ ra rc sa sc, e = .returned (.agg #[.int .i64 k.d, .slice ra k.o.length rc, .slice sa k.u.length sc]) /\ LtR HdLO 5 mO (Nw w w') w' (.slice ra k.o.length rc) k.o /\ LxS (Nw w w') w' (.slice sa k.u.length sc) k.u /\ Below w.heap.size w w' := by
 obtain ⟨W0, hW0⟩ : ∃ W, (w.alloc (.cells #[.int .i64 k.d, .slice oa k.o.length oc, .slice ua k.u.length uc] 74)).alloc (.cells #[.int .i64 0, .slice none 0 0, .slice none 0 0] 74) = W := ⟨_, rfl⟩
 have b0 : Below w.heap.size w W0 := by rw [<- hW0]; exact ((Below.refl _ w).alloc (Nat.le_refl _) _).alloc (by simp) _
 have s0 : w.heap.size + 2 <= W0.heap.size := by rw [<- hW0]; simp
 have x0 : W0.heap[w.heap.size]? = some (.cells #[.int .i64 k.d, .slice oa k.o.length oc, .slice ua k.u.length uc] 74 (0, 0)) := by rw [<- hW0, Below.heap_alloc _ _ _ (by simp), heap_alloc_new]
 have x1 : W0.heap[w.heap.size + 1]? = some (.cells #[.int .i64 0, .slice none 0 0, .slice none 0 0] 74 (0, 0)) := by
  have := heap_alloc_new (w.alloc (.cells #[.int .i64 k.d, .slice oa k.o.length oc, .slice ua k.u.length uc] 74)) (.cells #[.int .i64 0, .slice none 0 0, .slice none 0 0] 74)
  rwa [hW0, World.size_alloc] at this
 have kp : Keep S w W0 := fun b hb' hl => b0.block b (hS b hb')
 have c1 := lendO_c (ho.keep (S' := S) (fun _ h => h) fun g o x _ hg h => kO kp (fun _ h => h) hg h) (fun g hg => by have := hS g hg; omega) (by omega) n1.1 n1.2.1
 have B0 := hid b0
 have X0 := hid (And.intro x0 x1)
 have HU := hid hu
 have HS := hid hS
 have p1 := cell_of x0 1 _ rfl
 clear ho hu b0 x0 x1 kp hS
 go_enter func81, ntmps81
 go_wp2_with fail
 refine c1.mono ?_
 rintro e W1 ⟨u, rfl, hr, b1⟩
 have HR := hid hr
 obtain ⟨ra, rc, rfl⟩ := hr.slice
 have y0 := (b1.block w.heap.size (by omega)).trans X0.out.1
 have y1 := (b1.block (w.heap.size + 1) (by omega)).trans X0.out.2
 have s1 := b1.size
 have B1 := hid (B0.out.trans (b1.mono (by omega)) : Below w.heap.size w W1)
 have f1 := frozen_box y0 1
 have q1 := cell_of y0 1 _ rfl
 obtain ⟨W2, hW2⟩ : ∃ W, W1.setCell ⟨w.heap.size, 1, none⟩ (.slice ra k.o.length rc) = W := ⟨_, rfl⟩
 have z0 : W2.heap[w.heap.size]? = some (.cells #[.int .i64 k.d, .slice ra k.o.length rc, .slice ua k.u.length uc] 74 (0, 0)) := by rw [<- hW2]; exact cell_set y0 1 _
 have z1 : W2.heap[w.heap.size + 1]? = some (.cells #[.int .i64 0, .slice none 0 0, .slice none 0 0] 74 (0, 0)) := by rw [<- hW2, Below.heap_setCell _ _ _ _ (by simp)]; exact y1
 have s2 : W2.heap.size = W1.heap.size := by rw [<- hW2]; simp [World.setCell]
 have B2 := hid (show Below w.heap.size w W2 by rw [<- hW2]; exact B1.out.setCell (p := ⟨w.heap.size, 1, none⟩) (Nat.le_refl _) _)
 have K2 := hid (show ∀ b, b ≠ w.heap.size -> W2.heap[b]? = W1.heap[b]? from fun b hb => by rw [<- hW2]; exact Below.heap_setCell _ _ _ _ hb)
 have c2 := lendI1_c (HU.out.keep (S' := S) (w' := W2) (fun _ h => h) fun g o x _ hg h => kI (fun b hb' hl => B2.out.block b (HS.out b hb')) hg h) n1.2.2
 have Z2 := hid (And.intro z0 z1)
 have p2 := cell_of z0 2 _ rfl
 have s2' : W1.heap.size <= W2.heap.size := by omega
 clear c1 y0 y1 b1 z0 z1 p1 hr s2
 go_wp2_with fail
 refine c2.mono ?_
 rintro e W3 ⟨u, rfl, hr, b3⟩
 have HQ := hid hr
 obtain ⟨sa, sc, rfl⟩ := hr.slice
 have y0 := (b3.block w.heap.size (by omega)).trans Z2.out.1
 have y1 := (b3.block (w.heap.size + 1) (by omega)).trans Z2.out.2
 have s3 := b3.size
 have B3 := hid (B2.out.trans (b3.mono (by omega)) : Below w.heap.size w W3)
 have HB3 := hid b3
 have f2 := frozen_box y0 2
 have q2 := cell_of y0 2 _ rfl
 obtain ⟨W4, hW4⟩ : ∃ W, W3.setCell ⟨w.heap.size, 2, none⟩ (.slice sa k.u.length sc) = W := ⟨_, rfl⟩
 have z0 : W4.heap[w.heap.size]? = some (.cells #[.int .i64 k.d, .slice ra k.o.length rc, .slice sa k.u.length sc] 74 (0, 0)) := by rw [<- hW4]; exact cell_set y0 2 _
 have z1 : W4.heap[w.heap.size + 1]? = some (.cells #[.int .i64 0, .slice none 0 0, .slice none 0 0] 74 (0, 0)) := by rw [<- hW4, Below.heap_setCell _ _ _ _ (by simp)]; exact y1
 have s4 : W4.heap.size = W3.heap.size := by rw [<- hW4]; simp [World.setCell]
 have S4 := hid s4
 have HW4 := hid hW4
 have Z1 := hid z1
 have k0 := cell_of z0 0 _ rfl
 have k1 := cell_of z0 1 _ rfl
 have k2 := cell_of z0 2 _ rfl
 have e0 := cell_of z1 0 _ rfl
 have e1 := cell_of z1 1 _ rfl
 have e2 := cell_of z1 2 _ rfl
 have g0 := frozen_box z1 0
 have g1 := frozen_box z1 1
 have g2 := frozen_box z1 2
 clear c2 y0 y1 b3 z0 z1 p2 s4 f1 q1 hW2
 go_wp2_with fail
 obtain ⟨W5, hW5⟩ : ∃ W, ((W4.setCell ⟨w.heap.size + 1, 0, none⟩ (.int .i64 k.d)).setCell ⟨w.heap.size + 1, 1, none⟩ (.slice ra k.o.length rc)).setCell ⟨w.heap.size + 1, 2, none⟩ (.slice sa k.u.length sc) = W := ⟨_, rfl⟩
 try rw [hW5]
 obtain ⟨m5, r5⟩ := YRg.set3 _ _ _ Z1.out hW5
 refine bodyPost_ret (results_cell_row rfl _ W5 (w.heap.size + 1) 74 _ (0, 0) _ rfl m5 underlying74 rfl (by kernel_rfl)) rfl ?_
 have s5 := r5.size
 have s4 := S4.out
 have kb3 : ∀ b, b ≠ w.heap.size -> b ≠ w.heap.size + 1 -> b < W3.heap.size -> W5.heap[b]? = W3.heap[b]? := fun b h1 h2 h3 => (r5.block b (by omega) (fun e => by cases e; exact h2 rfl)).trans (by rw [<- HW4.out]; exact Below.heap_setCell _ _ _ _ h1)
 have kb1 : ∀ b, b ≠ w.heap.size -> b ≠ w.heap.size + 1 -> b < W1.heap.size -> W5.heap[b]? = W1.heap[b]? := fun b h1 h2 h3 => (kb3 b h1 h2 (by omega)).trans ((HB3.out.block b (by omega)).trans (K2.out b h1))
 refine ⟨ra, rc, sa, sc, rfl, HR.out.keep sLO (fun b hb hl => kb1 b (by have := hb.1; omega) (by have := hb.1; omega) hb.2) (fun b hb => ⟨by have := hb.1; omega, by have := hb.2; omega⟩), HQ.out.keep (fun b hb hl => kb3 b (by have := hb.1; omega) (by have := hb.1; omega) hb.2) (fun b hb => ⟨by have := hb.1; omega, by have := hb.2; omega⟩), ?_⟩
 have hB4 : Below w.heap.size w W4 := by rw [<- HW4.out]; exact B3.out.setCell (p := ⟨w.heap.size, 2, none⟩) (Nat.le_refl _) _
 exact hB4.grown r5 (by omega) (fun r hr => by cases hr; omega)
theorem lendB_c {S : Nat -> Prop} {w : World} {v : Value} {l : List (Bk)} (h : RrS 3 (LyBs S) S w v l) (hS : ∀ g, S g -> g < w.heap.size) (hpos : 0 < w.heap.size) (hlen : l.length * 56 <= 140737488351232) (hin : ∀ L ∈ l, szB L) :
  Calls prog 43 #[v] w fun e w' => ∃ u, e = .returned u /\ LtR HdLB 3 mB (Nw w w') w' u l /\ Below w.heap.size w w' := by
 obtain ⟨i0, hi, hz0, hz1, hz2⟩ := info_parts YRf.info_b
 have HIN := hid h
 have HS := hid hS
 obtain ⟨a, cap, rfl, hlc, hcm, h47, hnil, -⟩ := h
 clear hS hnil
 go_enter func43, ntmps43
 go_wp2_with fail
 go_loopw [3, 4] (fun out i wr => ∃ (q : Nat) (xs : List (Bk)), q <= l.length /\ i = .int .i64 q /\ xs.length = q /\ Hid (xs = l.take q /\ Below w.heap.size w wr /\ RowI HdLB 74 3 w.heap.size wr out xs)) (fun _ i _ => l.length - (intOf i).toNat)
 case atStart => exact ⟨0, [], by omega, rfl, rfl, ⟨by simp, Below.refl _ _, RowI.nil _ _ _ _ _⟩⟩
 case round =>
  obtain ⟨q, xs, hq, rfl, hxl, HG⟩ := hrel
  have hsw := HG.out.2.1.size
  by_cases hlt : q < l.length
  ·have d0 : decide ((q : Int) < (l.length : Int)) = true := by simp; omega
   have i00 : (0 : Int) <= (q : Int) := by omega
   have i01 : (q : Int) < (l.length : Int) := by omega
   obtain ⟨g, o, cap', hsl, hl, hm, hg, ov, uv, y0, y1, y2, hi1, hr, hr2⟩ := RrS.at HIN.out hlt
   cases hsl
   have y0 := below_cell (HS.out g hg) y0 HG.out.2.1
   have y1 := below_cell (HS.out g hg) y1 HG.out.2.1
   have y2 := below_cell (HS.out g hg) y2 HG.out.2.1
   have kp : Keep S w wr := fun b hb' hl => HG.out.2.1.block b (HS.out b hb')
   have hr := hr.keep (S' := S) (fun _ h => h) fun g o x _ hg h => kO kp (fun _ h => h) hg h
   have hr2 := hr2.keep (S' := S) (fun _ h => h) fun g o x _ hg h => kI kp hg h
   have hll := hin l[q] (List.getElem_mem hlt)
   obtain ⟨ua, uc, rfl, -⟩ : ∃ a c, ov = .slice a l[q].o.length c /\ True := by obtain ⟨a, c, e, -⟩ := hr; exact ⟨a, c, e, trivial⟩
   obtain ⟨ub, ud, rfl, -⟩ : ∃ a c, uv = .slice a l[q].u.length c /\ True := by obtain ⟨a, c, e, -⟩ := hr2; exact ⟨a, c, e, trivial⟩
   have cI := lendB1_c hr hr2 (fun g hg => Nat.lt_of_lt_of_le (HS.out g hg) hsw) (by omega) hll
   have HI := hid hi1
   have HTK := hid (List.take_succ_eq_append_getElem hlt)
   generalize l[q] = L at *
   clear hr hr2 hi1 kp
   go_wp2_with fail
   refine cI.mono ?_
   rintro e W2 ⟨ra, rc, sa, sc, rfl, hrr, hrs, b2⟩
   have HRR := hid (And.intro hrr hrs)
   obtain ⟨W3, hW3⟩ : ∃ W, W2.alloc (.cells #[.int .i64 L.d, .slice ra L.o.length rc, .slice sa L.u.length sc] 74) = W := ⟨_, rfl⟩
   have b3 : Below W2.heap.size W2 W3 := by rw [<- hW3]; exact (Below.refl _ W2).alloc (Nat.le_refl _) _
   have n3 : W3.heap[W2.heap.size]? = some (.cells ([.int .i64 L.d, .slice ra L.o.length rc, .slice sa L.u.length sc] : List Value).toArray 74 (0, 0)) := by rw [<- hW3]; exact heap_alloc_new W2 _
   obtain ⟨css, k1, k2, k3, k4, k5⟩ := RowI.push sLB HG.out.2.2 hpos hsw (Gx.of (R := 0) b2) (c := [.int .i64 L.d, .slice ra L.o.length rc, .slice sa L.u.length sc]) (x := L) ⟨_, _, rfl, HI.out, HRR.out.1, HRR.out.2⟩ b3
   have HP := hid (And.intro k2 (And.intro k3 (And.intro k4 k5)))
   have HB3 := hid (HG.out.2.1.trans ((b2.mono hsw).trans (b3.mono (by have := b2.size; omega))) : Below w.heap.size w W3)
   have hsz := HB3.out.size
   have hcl := src_of n3
   have hxq := HG.out.1
   have HXQ := hid hxq
   have hl3 := k1.1
   clear hrr hrs b2 b3 n3 k2 k3 k4 k5 cI hxq
   go_wp2_with (first
    | (at_builtin; (try rw [hW3]); refine YAp.app_seen rfl _ _ 27 rfl w.heap.size 74 i0 (.agg #[.int .i64 0, .slice none 0 0, .slice none 0 0]) 3 56 underlying27 hi hz0 hz1 hz2 rfl (by decide) _ _ _ rfl k1 _ 1 _ [.int .i64 L.d, .slice ra L.o.length rc, .slice sa L.u.length sc] rfl hcl rfl (by intro u hu; simp only [List.mem_cons, List.not_mem_nil, or_false] at hu; rcases hu with rfl | rfl | rfl <;> rfl) (by unfold maxLen; omega) (by omega) hsz ?_))
   intro v' W4 hown hgrow hnb
   have HF : Hid (xs ++ [L] = l.take (q + 1) /\ Below w.heap.size w W4 /\ RowI HdLB 74 3 w.heap.size W4 v' (xs ++ [L])) := ⟨by rw [HTK.out, HXQ.out], HB3.out.grown hgrow (by omega) (fun r hr => (World.ownsRow.lt k1 r hr).1), RowI.snoc sLB k1 HP.out.1 HP.out.2.1 HP.out.2.2.1 HP.out.2.2.2 rfl hgrow (by rw [hxl]; exact hown) hnb⟩
   clear hown hgrow hnb HP k1 hcl HB3 hsz
   go_wp2_with fail
   go_roundw
   case rel => exact ⟨q + 1, xs ++ [L], by omega, by go_num, by simp [hxl], HF⟩
   case measure => simp only [intOf]; omega
  ·have hqe : q = l.length := by omega
   subst hqe
   have d0 : decide ((l.length : Int) < (l.length : Int)) = false := by simp
   have hx := HG.out.1
   rw [List.take_length] at hx
   obtain ⟨W3, hW3⟩ : ∃ W, wr.alloc (.cells #[.int .i64 (-7), .slice none 0 0, .slice none 0 0, .int .i64 (-7), .slice none 0 0, .slice none 0 0] 74) = W := ⟨_, rfl⟩
   have b3 : Below wr.heap.size wr W3 := by rw [<- hW3]; exact (Below.refl _ wr).alloc (Nat.le_refl _) _
   have n3 : W3.heap[wr.heap.size]? = some (.cells (mB ++ mB : List Value).toArray 74 (0, 0)) := by rw [<- hW3]; exact heap_alloc_new wr _
   obtain ⟨css, k1, k2, k3, k4⟩ := rowi_below sLB HG.out.2.2 b3
   have HP := hid (And.intro k1 (And.intro k2 (And.intro k3 k4)))
   have HB3 := hid (HG.out.2.1.trans (b3.mono hsw) : Below w.heap.size w W3)
   have hsz := HB3.out.size
   have hcl0 := (src_of n3).resolve_left (by rintro ⟨h, -⟩; cases h)
   have hcl : ((some ⟨wr.heap.size, 0, none⟩ : Option Addr) = none /\ 2 = 0 /\ 2 = 0) \/ _ := Or.inr hcl0
   have hl3 := k1.1
   have HX := hid hx
   have HXL := hid hxl
   clear hlt hq b3 n3 k2 k3 k4 hx hcl0
   rw [hxl] at k1
   go_wp2_with (first
    | (at_builtin; (try rw [hW3]); refine YAp.app_seen rfl _ _ 27 rfl w.heap.size 74 i0 (.agg #[.int .i64 0, .slice none 0 0, .slice none 0 0]) 3 56 underlying27 hi hz0 hz1 hz2 rfl (by decide) _ _ _ rfl k1 _ 2 _ (mB ++ mB) rfl hcl rfl (by decide) (by unfold maxLen; omega) (by omega) hsz ?_))
   intro v' W4 hown hgrow hnb
   have hown2 : W4.ownsRow w.heap.size 74 3 v' (xs.length + 2) (css.flatten ++ (mB ++ mB)) := by rw [HXL.out]; exact hown
   obtain ⟨g4, c4, rfl, hc4, hlt4⟩ := lent_of sLB (m := mB) rfl HP.out.1 HP.out.2.1 HP.out.2.2.1 HP.out.2.2.2 hgrow hown2 hnb (S := Nw w W4) (fun b h1 h2 => ⟨h1, h2⟩)
   have HLT := hid hlt4
   have HB4 := hid (HB3.out.grown hgrow (by omega) (fun r hr => (World.ownsRow.lt HP.out.1 r hr).1) : Below w.heap.size w W4)
   rw [hxl] at hc4
   rw [hxl]
   have v0 : (l.length : Int) <= (c4 : Int) := by omega
   clear hown hown2 hgrow hnb k1 hcl hsz hlt4
   go_wp2_with fail
   go_ret
   refine ⟨_, rfl, ?_, HB4.out⟩
   have := HLT.out
   rw [HXL.out, HX.out] at this
   exact this
end Go.Proofs.YtaiackmmmlhgbaaGreat.BLd
namespace Go.Proofs.YtaiackmmmlhgbaaGreat.BAw
open Go.RowKit BPl YRr BIn BVf
open BSf (hid)
open YPl (Oq Bk Pg)
open YEn (InPg)
open TBase (heap_alloc_new)
def ta : ByteArray := ⟨#[97]⟩
def tp : ByteArray := ⟨#[112]⟩
def smo : List Oq := [⟨3, 1, 0, 0, []⟩, ⟨1, 0, 0, 0, []⟩, ⟨6, 0, 0, 0, []⟩]
def smP (n : Nat) : Pg := ⟨[ta, tp], [], [], [⟨1, smo.take n, [1]⟩]⟩
theorem vf_3 : vf (smP 3) = (0, 0, 0) := by decide +kernel
theorem vf_2 : vf (smP 2) = (0, 2, 2204) := by decide +kernel
theorem vf_0 : vf ⟨[], [], [], []⟩ = (0, 0, 2205) := by decide +kernel
def Sm (w : World) (n g1 g2 g3 g4 : Nat) : Prop :=
 w.heap[g1]? = some (.cells #[.string ta, .string tp] 9 (0, 0)) /\
 w.heap[g2]? = some (.cells #[.int .i64 3, .int .i64 1, .int .i64 0, .int .i64 0, .slice none 0 0, .int .i64 1, .int .i64 0, .int .i64 0, .int .i64 0, .slice none 0 0, .int .i64 6, .int .i64 0, .int .i64 0, .int .i64 0, .slice none 0 0] 127 (0, 0)) /\
 w.heap[g3]? = some (.cells #[.int .i64 1] 3 (0, 0)) /\
 w.heap[g4]? = some (.cells #[.int .i64 1, .slice (some ⟨g2, 0, none⟩) n 3, .slice (some ⟨g3, 0, none⟩) 1 1] 74 (0, 0))
theorem Sm.lt {w : World} {n g1 g2 g3 g4 : Nat} (h : Sm w n g1 g2 g3 g4) : g1 < w.heap.size /\ g2 < w.heap.size /\ g3 < w.heap.size /\ g4 < w.heap.size :=
 ⟨(Array.getElem?_eq_some_iff.1 h.1).1, (Array.getElem?_eq_some_iff.1 h.2.1).1, (Array.getElem?_eq_some_iff.1 h.2.2.1).1, (Array.getElem?_eq_some_iff.1 h.2.2.2).1⟩
theorem Sm.keep {w w' : World} {n g1 g2 g3 g4 : Nat} (h : Sm w n g1 g2 g3 g4) (hb : Below w.heap.size w w') : Sm w' n g1 g2 g3 g4 :=
 ⟨(hb.block g1 h.lt.1).trans h.1, (hb.block g2 h.lt.2.1).trans h.2.1, (hb.block g3 h.lt.2.2.1).trans h.2.2.1, (hb.block g4 h.lt.2.2.2).trans h.2.2.2⟩
theorem rr_nil {α : Type} {n K : Nat} {Ly : World -> Nat -> Nat -> α -> Prop} {w : World} : Rr n Ly K w (.slice none 0 0) ([] : List α) := ⟨none, 0, rfl, Nat.le_refl _, by omega, by simp, fun _ => rfl, .inl rfl⟩
theorem sm_in {w : World} {n g1 g2 g3 g4 : Nat} (h : Sm w n g1 g2 g3 g4) (hn : n <= 3) : InPg w.heap.size 1 w (.agg #[.slice (some ⟨g1, 0, none⟩) 2 2, .slice none 0 0, .slice none 0 0, .slice (some ⟨g4, 0, none⟩) 1 1]) (smP n) := by
 have hl := h.lt
 obtain ⟨h1, h2, h3, h4⟩ := h
 refine ⟨_, _, _, _, _, _, _, _, _, _, _, _, rfl, ⟨some ⟨g1, 0, none⟩, 2, rfl, Nat.le_refl _, by omega, by simp [smP], (by intro e; cases e), .inr ⟨g1, 0, rfl, hl.1, fun j hj => ?_⟩⟩, rr_nil, ⟨none, 0, rfl, Nat.le_refl _, by omega, by simp [smP], (fun _ => rfl), .inl ⟨rfl, rfl⟩⟩, ⟨some ⟨g4, 0, none⟩, 1, rfl, Nat.le_refl _, by omega, by simp [smP], (by intro e; cases e), .inr ⟨g4, 0, rfl, hl.2.2.2, fun j hj => ?_⟩⟩⟩
 ·have hj2 : j < 2 := hj
  match j, hj2 with
  | 0, _ => exact ⟨cell_of h1 0 _ rfl, (by decide : ta.size <= 140737488351232)⟩
  | 1, _ => exact ⟨cell_of h1 1 _ rfl, (by decide : tp.size <= 140737488351232)⟩
 ·have hj1 : j < 1 := hj
  match j, hj1 with
  | 0, _ =>
   have hlen : (smo.take n).length = n := by rw [List.length_take]; show min n 3 = n; omega
   refine ⟨.slice (some ⟨g2, 0, none⟩) n 3, .slice (some ⟨g3, 0, none⟩) 1 1, cell_of h4 0 _ rfl, cell_of h4 1 _ rfl, cell_of h4 2 _ rfl, (⟨by decide, by decide⟩ : i64 1), ⟨some ⟨g2, 0, none⟩, 3, ?_, ?_, by omega, ?_, (by intro e; cases e), .inr ⟨g2, 0, rfl, hl.2.1, fun i hi => ?_⟩⟩, ⟨some ⟨g3, 0, none⟩, 1, rfl, Nat.le_refl _, by omega, by simp [smP], (by intro e; cases e), .inr ⟨g3, 0, rfl, hl.2.2.1, fun i hi => ?_⟩⟩⟩
   ·show _ = Value.slice _ (smo.take n).length 3
    rw [hlen]
   ·show (smo.take n).length <= 3
    omega
   ·show (smo.take n).length <= _
    omega
   ·have hi' : i < (smo.take n).length := hi
    have hi3 : i < 3 := by omega
    show LyO _ w g2 (0 + i * 5) (smo.take n)[i]
    rw [List.getElem_take]
    match i, hi3 with
    | 0, _ => exact ⟨.slice none 0 0, cell_of h2 0 _ rfl, cell_of h2 1 _ rfl, cell_of h2 2 _ rfl, cell_of h2 3 _ rfl, cell_of h2 4 _ rfl, (⟨⟨by decide, by decide⟩, ⟨by decide, by decide⟩, ⟨by decide, by decide⟩, ⟨by decide, by decide⟩⟩ : i64 3 /\ i64 1 /\ i64 0 /\ i64 0), rr_nil⟩
    | 1, _ => exact ⟨.slice none 0 0, cell_of h2 5 _ rfl, cell_of h2 6 _ rfl, cell_of h2 7 _ rfl, cell_of h2 8 _ rfl, cell_of h2 9 _ rfl, (⟨⟨by decide, by decide⟩, ⟨by decide, by decide⟩, ⟨by decide, by decide⟩, ⟨by decide, by decide⟩⟩ : i64 1 /\ i64 0 /\ i64 0 /\ i64 0), rr_nil⟩
    | 2, _ => exact ⟨.slice none 0 0, cell_of h2 10 _ rfl, cell_of h2 11 _ rfl, cell_of h2 12 _ rfl, cell_of h2 13 _ rfl, cell_of h2 14 _ rfl, (⟨⟨by decide, by decide⟩, ⟨by decide, by decide⟩, ⟨by decide, by decide⟩, ⟨by decide, by decide⟩⟩ : i64 6 /\ i64 0 /\ i64 0 /\ i64 0), rr_nil⟩
   ·have hi' : i < 1 := hi
    match i, hi' with
    | 0, _ => exact ⟨cell_of h3 0 _ rfl, (⟨by decide, by decide⟩ : i64 1)⟩
theorem em_in (w : World) : InPg w.heap.size 1 w (.agg #[.slice none 0 0, .slice none 0 0, .slice none 0 0, .slice none 0 0]) ⟨[], [], [], []⟩ :=
 ⟨_, _, _, _, _, _, _, _, _, _, _, _, rfl, rr_nil, rr_nil, ⟨none, 0, rfl, Nat.le_refl _, by omega, by simp, (fun _ => rfl), .inl ⟨rfl, rfl⟩⟩, rr_nil⟩
theorem five (w : World) (c1 c2 c3 c4 c5 : Array Value) (t1 t2 t3 t4 t5 : TypeId) : ∃ W, ((((w.alloc (.cells c1 t1)).alloc (.cells c2 t2)).alloc (.cells c3 t3)).alloc (.cells c4 t4)).alloc (.cells c5 t5) = W /\ Below w.heap.size w W /\ W.heap[w.heap.size]? = some (.cells c1 t1 (0, 0)) /\ W.heap[w.heap.size + 1]? = some (.cells c2 t2 (0, 0)) /\ W.heap[w.heap.size + 1 + 1]? = some (.cells c3 t3 (0, 0)) /\ W.heap[w.heap.size + 1 + 1 + 1]? = some (.cells c4 t4 (0, 0)) /\ W.heap[w.heap.size + 1 + 1 + 1 + 1]? = some (.cells c5 t5 (0, 0)) := by
 obtain ⟨W, hW, b, hs, h1, h2, h3⟩ := three w c1 c2 c3 t1 t2 t3
 rw [hW]
 have b4 := (Below.refl W.heap.size W).alloc (Nat.le_refl _) (.cells c4 t4)
 have s4 : (W.alloc (.cells c4 t4)).heap.size = W.heap.size + 1 := by simp
 have b5 := (Below.refl (W.alloc (.cells c4 t4)).heap.size (W.alloc (.cells c4 t4))).alloc (Nat.le_refl _) (.cells c5 t5)
 have n4 := heap_alloc_new W (.cells c4 t4)
 have n5 := heap_alloc_new (W.alloc (.cells c4 t4)) (.cells c5 t5)
 have bb := b4.trans (b5.mono (by omega))
 refine ⟨_, rfl, b.trans (bb.mono (by omega)), (bb.block _ (by omega)).trans h1, (bb.block _ (by omega)).trans h2, (bb.block _ (by omega)).trans h3, ?_, ?_⟩
 ·have e : w.heap.size + 1 + 1 + 1 = W.heap.size := by omega
  rw [e]
  exact (b5.block _ (by omega)).trans n4
 ·have e : w.heap.size + 1 + 1 + 1 + 1 = (W.alloc (.cells c4 t4)).heap.size := by omega
  rw [e]
  exact n5
theorem small_c (w : World) :
  Calls prog 54 #[] w fun e w' => ∃ g1 g2 g3 g4, e = .returned (.agg #[.slice (some ⟨g1, 0, none⟩) 2 2, .slice none 0 0, .slice none 0 0, .slice (some ⟨g4, 0, none⟩) 1 1]) /\ Sm w' 3 g1 g2 g3 g4 /\ (w.heap.size <= g1 /\ w.heap.size <= g4 /\ g4 ≠ g1 /\ g4 ≠ g2 /\ g4 ≠ g3) /\ Below w.heap.size w w' := by
 obtain ⟨W, hW, b0, x0, x1, x2, x3, x4⟩ := five w #[.slice (some ⟨w.heap.size + 1, 0, none⟩) 2 2, .slice none 0 0, .slice none 0 0, .slice (some ⟨w.heap.size + 1 + 1 + 1 + 1, 0, none⟩) 1 1] #[.string ta, .string tp] #[.int .i64 3, .int .i64 1, .int .i64 0, .int .i64 0, .slice none 0 0, .int .i64 1, .int .i64 0, .int .i64 0, .int .i64 0, .slice none 0 0, .int .i64 6, .int .i64 0, .int .i64 0, .int .i64 0, .slice none 0 0] #[.int .i64 1] #[.int .i64 1, .slice (some ⟨w.heap.size + 1 + 1, 0, none⟩) 3 3, .slice (some ⟨w.heap.size + 1 + 1 + 1, 0, none⟩) 1 1] 29 9 127 3 74
 have HW := hid hW
 have HB := hid b0
 have H0 := hid x0
 have HS := hid (⟨x1, x2, x3, x4⟩ : Sm W 3 (w.heap.size + 1) (w.heap.size + 1 + 1) (w.heap.size + 1 + 1 + 1) (w.heap.size + 1 + 1 + 1 + 1))
 clear hW b0 x0 x1 x2 x3 x4
 unfold ta tp at HW
 go_enter func54, ntmps54
 go_wp2_with fail
 rw [HW.out]
 refine bodyPost_ret (results_cell_row rfl _ W w.heap.size 29 _ (0, 0) _ rfl H0.out underlying29 rfl (by kernel_rfl)) rfl ?_
 exact ⟨_, _, _, _, rfl, HS.out, ⟨by omega, by omega, by omega, by omega, by omega⟩, HB.out⟩
theorem awake_c (w : World) : Calls prog 18 #[] w fun e w' => e = .returned (.bool true) /\ Below w.heap.size w w' := by
 have cS := small_c w
 go_enter func18, ntmps18
 go_wp2_with fail
 refine cS.mono ?_
 rintro e W1 ⟨j1, j2, j3, j4, rfl, hS, -, b1⟩
 have cV := verify_c (sm_in hS (by omega)) (Nat.le_refl _)
 rw [vf_3] at cV
 have HB1 := hid b1
 clear cS hS b1
 go_wp2_with fail
 refine cV.mono ?_
 rintro e W2 ⟨rfl, b2⟩
 have HB2 := hid (HB1.out.trans (b2.mono HB1.out.size) : Below w.heap.size w W2)
 have cS2 := small_c W2
 clear cV b2 HB1
 go_wp2_with fail
 refine cS2.mono ?_
 rintro e W3 ⟨g1, g2, g3, g4, rfl, hS, ⟨hg1, hg4, hn1, hn2, hn3⟩, b3⟩
 have HB3 := hid (HB2.out.trans (b3.mono HB2.out.size) : Below w.heap.size w W3)
 have HS3 := hid hS
 have hl := hS.lt
 obtain ⟨W4, hW4⟩ : ∃ W4, W3.alloc (.cells #[.slice (some ⟨g1, 0, none⟩) 2 2, .slice none 0 0, .slice none 0 0, .slice (some ⟨g4, 0, none⟩) 1 1] 29) = W4 := ⟨_, rfl⟩
 have b4 : Below W3.heap.size W3 W4 := by rw [<- hW4]; exact (Below.refl _ _).alloc (Nat.le_refl _) _
 have x4 : W4.heap[W3.heap.size]? = some (.cells #[.slice (some ⟨g1, 0, none⟩) 2 2, .slice none 0 0, .slice none 0 0, .slice (some ⟨g4, 0, none⟩) 1 1] 29 (0, 0)) := by rw [<- hW4]; exact heap_alloc_new W3 _
 have hS4 := hS.keep b4
 obtain ⟨p0, p1, p2, p3⟩ := TBase.four_box x4
 have q1 := cell_of hS4.2.2.2 1 _ rfl
 have f1 := frz hS4.2.2.2 1
 obtain ⟨W5, hW5⟩ : ∃ W5, (W4.setCell ⟨g4, 1, none⟩ (.slice (some ⟨g2, 0, none⟩) 2 3)).drew = W5 := ⟨_, rfl⟩
 have k5 : ∀ k, k ≠ g4 -> W5.heap[k]? = W4.heap[k]? := fun k hk => by rw [<- hW5]; exact Below.heap_setCell _ _ _ _ hk
 have hS5 : Sm W5 2 g1 g2 g3 g4 := ⟨(k5 g1 hn1.symm).trans hS4.1, (k5 g2 hn2.symm).trans hS4.2.1, (k5 g3 hn3.symm).trans hS4.2.2.1, by rw [<- hW5]; exact cell_set hS4.2.2.2 1 _⟩
 have x5 := (k5 W3.heap.size (by omega)).trans x4
 have b5 : Below w.heap.size w W5 := by
  have h1 := HB3.out.trans (b4.mono HB3.out.size)
  have h2 := HB2.out.size
  rw [<- hW5]
  exact (h1.setCell (p := ⟨g4, 1, none⟩) (show w.heap.size <= g4 by omega) _).drew
 have HB5 := hid b5
 have cV2 := verify_c (sm_in hS5 (by omega)) (Nat.le_refl _)
 rw [vf_2] at cV2
 obtain ⟨r0, r1, r2, r3⟩ := TBase.four_box x5
 have HR := hid (⟨r0, r1, r2, r3⟩ : _ /\ _ /\ _ /\ _)
 have HW5 := hid hW5
 clear cS2 hS b3 b4 x4 hS4 k5 hS5 x5 b5 r0 r1 r2 r3 hW5 hl hn1 hn2 hn3 HS3
 go_wp2_with fail
 go_region
 rw [HW5.out]
 obtain ⟨r0, r1, r2, r3⟩ := HR.out
 clear p0 p1 p2 p3 q1 f1 hW4
 go_wp2_with fail
 refine cV2.mono ?_
 rintro e W6 ⟨rfl, b6⟩
 have HB6 := hid (HB5.out.trans (b6.mono HB5.out.size) : Below w.heap.size w W6)
 have cV3 := verify_c (em_in W6) (Nat.le_refl _)
 rw [vf_0] at cV3
 clear cV2 b6 r0 r1 r2 r3
 go_wp2_with fail
 refine cV3.mono ?_
 rintro e W7 ⟨rfl, b7⟩
 have HB7 := hid (HB6.out.trans (b7.mono HB6.out.size) : Below w.heap.size w W7)
 have cN (k : Int) : Calls prog 8 #[.int .i64 k] W7 fun e w' => e = .returned (.int .i64 k) /\ W7 = w' := (Leb.num_c k W7).mono fun e w' h => ⟨h.1, h.2.symm⟩
 clear cV3 b7
 go_wp2_with (first | (go_at_call 8; refine (cN _).mono ?_; rintro e w9 ⟨rfl, h9⟩; obtain rfl := h9))
 go_ret
 exact ⟨rfl, HB7.out⟩
end Go.Proofs.YtaiackmmmlhgbaaGreat.BAw

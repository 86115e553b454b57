import Derived.Deep.RegionHeld3
import Derived.Test.YtaiackmmmlhgbaaGreatPR14
import Derived.Test.YtaiackmmmlhgbaaGreatPR15
import Derived.Test.YtaiackmmmlhgbaaGreatPR16
open Go.Proofs.Tryz
set_option linter.unusedVariables false
set_option maxRecDepth 20000
set_option maxHeartbeats 6400000
namespace Go.Proofs.YtaiackmmmlhgbaaGreat.ZQf
open Go.RowKit YPl YRd YWr YRr YRs YRb YRl ZQa ZQe
open TBase (T Keep heap_alloc_new frozen_box)
open Tak
abbrev Kb (W : World) (B : Nat) (d : Int) (ov uv : Value) : Prop := W.heap[B]? = some (.cells #[.int .i64 d, ov, uv] 74 (0, 0))
abbrev Ob (W : World) (B : Nat) (k x y z : Int) (lv : Value) : Prop := W.heap[B]? = some (.cells #[.int .i64 k, .int .i64 x, .int .i64 y, .int .i64 z, lv] 127 (0, 0))
theorem gx_new {R : Nat} {w W W' : World} (h : Gx R w W) {B : Nat} (hB : w.heap.size <= B) (hg : W.grownBy W' (some B)) : Gx R w W' := gx_row h hg (fun r hr => by cases hr; exact hB)
theorem rowi_own {α : Type} {Hd : Hdt α} (hs : Stays Hd) {ty : TypeId} {n lo B : Nat} {w w' : World} {v : Value} {l : List α} (h : RowI Hd ty n lo w v l) (hB : B < lo) (hg : w.grownBy w' (some B)) : RowI Hd ty n lo w' v l := h.other hs hB hg
theorem Hid.mk' {p : Prop} (h : p) : Hid p := h
theorem gb_set (W : World) (O j : Nat) (u : Value) : W.grownBy (W.setCell ⟨O, j, none⟩ u) (some O) := ⟨rfl, rfl, rfl, by simp [World.setCell], fun k hk hne => Below.heap_setCell _ _ _ _ (fun e => hne (by rw [e]))⟩
theorem Ob.set1 {W : World} {O : Nat} {k x y z : Int} {lv : Value} (h : Ob W O k x y z lv) (v : Int) : Ob (W.setCell ⟨O, 1, none⟩ (.int .i64 v)) O k v y z lv := by unfold Ob; rw [YCb.block_set h]; rfl
theorem Ob.set2 {W : World} {O : Nat} {k x y z : Int} {lv : Value} (h : Ob W O k x y z lv) (v : Int) : Ob (W.setCell ⟨O, 2, none⟩ (.int .i64 v)) O k x v z lv := by unfold Ob; rw [YCb.block_set h]; rfl
theorem Ob.set3 {W : World} {O : Nat} {k x y z : Int} {lv : Value} (h : Ob W O k x y z lv) (v : Int) : Ob (W.setCell ⟨O, 3, none⟩ (.int .i64 v)) O k x y v lv := by unfold Ob; rw [YCb.block_set h]; rfl
theorem Ob.set4 {W : World} {O : Nat} {k x y z : Int} {lv : Value} (h : Ob W O k x y z lv) (v : Value) : Ob (W.setCell ⟨O, 4, none⟩ v) O k x y z v := by unfold Ob; rw [YCb.block_set h]; rfl
theorem Kb.set1 {W : World} {B : Nat} {d : Int} {ov uv : Value} (h : Kb W B d ov uv) (v : Value) : Kb (W.setCell ⟨B, 1, none⟩ v) B d v uv := by unfold Kb; rw [YCb.block_set h]; rfl
theorem Kb.set2 {W : World} {B : Nat} {d : Int} {ov uv : Value} (h : Kb W B d ov uv) (v : Value) : Kb (W.setCell ⟨B, 2, none⟩ v) B d ov v := by unfold Kb; rw [YCb.block_set h]; rfl
theorem block_c {K R : Nat} {w : World} {b : By} {s : Except Nat Nat} (h : Qs K w R b s) :
    Calls prog 28 #[ptw R] w fun e w' => RS K R b (VA HdB) (lf (rblk b) s) w e w' := by
  have hRlt := h.lt
  obtain ⟨i0, hi, hz0, hz1, hz2⟩ := info_parts YRe.info_i
  obtain ⟨j0, hj, hy0, hy1, hy2⟩ := info_parts YRf.info_o
  obtain ⟨W0, hW0⟩ : ∃ W, w.alloc (.cells #[.int .i64 0, .slice none 0 0, .slice none 0 0] 74) = W := ⟨_, rfl⟩
  have b0 : Below w.heap.size w W0 := by rw [<- hW0]; exact (Below.refl _ w).alloc (Nat.le_refl _) _
  have s0 : W0.heap.size = w.heap.size + 1 := by rw [<- hW0]; simp
  have g0 : Kb W0 w.heap.size 0 (.slice none 0 0) (.slice none 0 0) := by rw [<- hW0]; exact heap_alloc_new w _
  obtain ⟨B0, hB0⟩ : ∃ B0, w.heap.size = B0 := ⟨_, rfl⟩
  have HB0 : Hid (w.heap.size = B0) := hB0
  have HQ0 : Hid (Gx R w W0 /\ Qs K W0 R b s) := ⟨Gx.of b0, h.below b0⟩
  have HZ0 : Hid (∀ W, Gx R W0 W -> Kb W B0 0 (.slice none 0 0) (.slice none 0 0)) := fun W hg => (hg.block _ (by omega) (fun e => by cases e; omega)).trans (by rw [<- hB0]; exact g0)
  have c1 := count_s 64 (by omega) HQ0.out.2
  rw [hB0] at s0
  clear h b0 g0
  go_enter func28, ntmps28
  go_wp2_with fail
  try rw [hW0]
  refine c1.mono ?_
  rintro e W1 ⟨g1, v, d, rfl, ⟨rfl, hd⟩, q1, x1⟩
  obtain ⟨S1, hS1⟩ : ∃ S1, st (lf (rcnt 64 b) s) = S1 := ⟨_, rfl⟩
  rw [hS1] at q1
  have HS1 : Hid (S1 = st (lf (rcnt 64 b) s)) := hS1.symm
  have HX1 : Hid (∀ y q, lf (rcnt 64 b) s = .ok (y, q) -> d = y) := x1
  have HD : Hid (d <= 64) := hd
  have hs1 : B0 + 1 <= W1.heap.size := by have := g1.size; omega
  have HZ1 : Hid (Kb W1 B0 0 (.slice none 0 0) (.slice none 0 0)) := HZ0.out W1 g1
  have HQ1 : Hid (Gx R w W1 /\ Qs K W1 R b S1) := ⟨Gx.trans HQ0.out.1 g1, q1⟩
  obtain ⟨B1, hB1⟩ : ∃ B1, W1.heap.size = B1 := ⟨_, rfl⟩
  obtain ⟨V1, hV1⟩ : ∃ W, W1.alloc (.cells #[.int .i64 0, .slice none 0 0, .slice none 0 0] 74) = W := ⟨_, rfl⟩
  have gV : Kb V1 B1 0 (.slice none 0 0) (.slice none 0 0) := by rw [<- hV1, <- hB1]; exact heap_alloc_new W1 _
  have bV : Below W1.heap.size W1 V1 := by rw [<- hV1]; exact (Below.refl _ _).alloc (Nat.le_refl _) _
  have sV : V1.heap.size = B1 + 1 := by rw [<- hV1, <- hB1]; simp
  obtain ⟨V2, hV2⟩ : ∃ W, ((V1.setCell ⟨B1, 0, none⟩ (.int .i64 d)).setCell ⟨B1, 1, none⟩ (.slice none 0 0)).setCell ⟨B1, 2, none⟩ (.slice none 0 0) = W := ⟨_, rfl⟩
  obtain ⟨m2, g2⟩ := YRg.set3 _ _ _ gV hV2
  have z0 := cell_of gV 0 _ rfl
  have z1 := cell_of gV 1 _ rfl
  have z2 := cell_of gV 2 _ rfl
  have f0 := frozen_box gV 0
  have f1 := frozen_box gV 1
  have f2 := frozen_box gV 2
  have HB1 : Hid (W1.heap.size = B1 /\ B0 < B1 /\ R < B0) := ⟨hB1, by omega, by have := HB0.out; omega⟩
  have GV2 : Gx R w V2 := gx_new (Gx.trans HQ1.out.1 (Gx.of bV)) (B := B1) (by have := HB0.out; omega) g2
  have HQ2 : Hid (Gx R w V2 /\ Qs K V2 R b S1) := ⟨GV2, (HQ1.out.2.below bV).row (lo := B1) g2 (by have := HB1.out; omega) (fun r hr => by cases hr; exact Nat.le_refl _)⟩
  have HV2 : Hid (Kb V2 B0 0 (.slice none 0 0) (.slice none 0 0) /\ Kb V2 B1 d (.slice none 0 0) (.slice none 0 0) /\ B1 < V2.heap.size) := ⟨(g2.block B0 (by have := HB1.out; omega) (fun e => by cases e; have := HB1.out; omega)).trans ((bV.block B0 (by have := HB1.out; omega)).trans HZ1.out), m2, (Array.getElem?_eq_some_iff.1 m2).1⟩
  have c2 := count_s 8192 (by omega) HQ2.out.2
  rw [hB1] at bV
  clear g1 q1 x1 hd c1 hS1 gV bV sV m2 g2 GV2 hB0 HZ0 HZ1 hW0
  go_wp2_with fail
  try rw [hV2]
  refine c2.mono ?_
  rintro e W3 ⟨g3, v, n, rfl, ⟨rfl, hn⟩, q3, x3⟩
  obtain ⟨S2, hS2⟩ : ∃ S2, st (lf (rcnt 8192 b) S1) = S2 := ⟨_, rfl⟩
  rw [hS2] at q3
  have HS2 : Hid (S2 = st (lf (rcnt 8192 b) S1)) := hS2.symm
  have HN : Hid (n <= 8192) := hn
  have HX2 : Hid (∀ y q, lf (rcnt 8192 b) S1 = .ok (y, q) -> n = y) := x3
  have HQ3 : Hid (Gx R w W3 /\ Qs K W3 R b S2) := ⟨Gx.trans HQ2.out.1 g3, q3⟩
  have HV3 : Hid (Kb W3 B0 0 (.slice none 0 0) (.slice none 0 0) /\ Kb W3 B1 d (.slice none 0 0) (.slice none 0 0) /\ B1 < W3.heap.size) := by
    have l2 := HV2.out
    have l1 := HB1.out
    exact ⟨(g3.block B0 (by omega) (fun e => by cases e; omega)).trans l2.1, (g3.block B1 (by omega) (fun e => by cases e; omega)).trans l2.2.1, by have := g3.size; omega⟩
  clear g3 q3 x3 c2 hS2 z0 z1 z2 f0 f1 f2 hV1 hV2 hB1
  obtain ⟨aO, haO⟩ : ∃ a, lf (rmany (ropc b) n) S2 = a := ⟨_, rfl⟩
  have HAO : Hid (lf (rmany (ropc b) n) S2 = aO) := haO
  clear haO
  go_upto_block 0 with fail
  go_cut [] from 15 to 65 (fun wx => ∃ (ov : Value) (xs : List Oq), xs.length <= n /\ Gx R w wx /\ Kb wx B0 0 (.slice none 0 0) (.slice none 0 0) /\ Kb wx B1 d ov (.slice none 0 0) /\ RowI HdO 127 5 (B1 + 1) wx ov xs /\ Qs K wx R b (st aO) /\ ∀ y q, aO = .ok (y, q) -> xs = y)
  case first =>
    go_wp2_with fail
    go_loopw [5, 6, 7, 8] (fun i _ _ _ wr => ∃ (q : Nat) (ov : Value) (xs : List Oq) (s' : Except Nat Nat), i = .int .i64 q /\ q <= n /\ xs.length = q /\ Hid (Gx R w wr /\ Kb wr B0 0 (.slice none 0 0) (.slice none 0 0) /\ Kb wr B1 d ov (.slice none 0 0) /\ RowI HdO 127 5 (B1 + 1) wr ov xs /\ Qs K wr R b s') /\ Hid (LI (ropc b) n q xs s' aO)) (fun i _ _ _ _ => n - (intOf i).toNat)
    case atStart => exact ⟨0, _, [], S2, rfl, by omega, rfl, ⟨HQ3.out.1, HV3.out.1, HV3.out.2.1, RowI.nil _ _ _ _ _, HQ3.out.2⟩, by rw [<- HAO.out]; exact li_0⟩
    case round =>
      obtain ⟨q, ov, xs, s', rfl, hq, hxl, HG, HS⟩ := hrel
      obtain ⟨va, vm, vc, rfl⟩ := RowI.slice HG.out.2.2.2.1
      obtain ⟨ja, jn, jc, jp, jl, hx, -, -⟩ := HG.out.2.2.2.2.cells
      obtain ⟨BB, hBB⟩ : ∃ B, bad s' = B := ⟨_, rfl⟩
      rw [hBB] at hx
      have zf := cell_of hx 2 _ rfl
      clear hx
      by_cases hgo : q < n /\ BB = false
      · obtain ⟨hlt, rfl⟩ := hgo
        obtain ⟨p, rfl⟩ : ∃ p, s' = .ok p := by cases s' with | ok p => exact ⟨p, rfl⟩ | error z => cases hBB
        obtain ⟨Wr, hWr⟩ : ∃ W, W = wr := ⟨_, rfl⟩
        subst hWr
        have HWR : Hid (B1 < Wr.heap.size /\ R < Wr.heap.size) := ⟨(Array.getElem?_eq_some_iff.1 HG.out.2.2.1).1, HG.out.2.2.2.2.lt⟩
        have c6 := byte_s HG.out.2.2.2.2
        clear hBB
        go_wp2_with fail
        refine c6.mono ?_
        rintro e u0 ⟨g, v, kk, rfl, ⟨rfl, hk⟩, q0, x0⟩
        change Qs K u0 R b (st (roct b p)) at q0
        obtain ⟨s0', hs0'⟩ : ∃ S, st (roct b p) = S := ⟨_, rfl⟩
        rw [hs0'] at q0
        have HE0 : Hid (s0' = st (lf (roct b) (.ok p))) := hs0'.symm
        have HI0 : Hid (i64 kk) := hk
        have HF0 : Hid (∀ y q, lf (roct b) (.ok p) = .ok (y, q) -> kk = y) := x0
        obtain ⟨O, hO⟩ : ∃ O, u0.heap.size = O := ⟨_, rfl⟩
        obtain ⟨V1, hV1⟩ : ∃ W, u0.alloc (.cells #[.int .i64 0, .int .i64 0, .int .i64 0, .int .i64 0, .slice none 0 0] 127) = W := ⟨_, rfl⟩
        have gV : Ob V1 O 0 0 0 0 (.slice none 0 0) := by rw [<- hV1, <- hO]; exact heap_alloc_new u0 _
        have bV : Below u0.heap.size u0 V1 := by rw [<- hV1]; exact (Below.refl _ _).alloc (Nat.le_refl _) _
        obtain ⟨V2, hV2⟩ : ∃ W, ((((V1.setCell ⟨O, 0, none⟩ (.int .i64 kk)).setCell ⟨O, 1, none⟩ (.int .i64 0)).setCell ⟨O, 2, none⟩ (.int .i64 0)).setCell ⟨O, 3, none⟩ (.int .i64 0)).setCell ⟨O, 4, none⟩ (.slice none 0 0) = W := ⟨_, rfl⟩
        obtain ⟨m2, g2⟩ := YRg.set5 _ _ _ _ _ gV hV2
        have y0 := cell_of gV 0 _ rfl
        have y1 := cell_of gV 1 _ rfl
        have y2 := cell_of gV 2 _ rfl
        have y3 := cell_of gV 3 _ rfl
        have y4 := cell_of gV 4 _ rfl
        have r0 := frozen_box gV 0
        have r1 := frozen_box gV 1
        have r2 := frozen_box gV 2
        have r3 := frozen_box gV 3
        have r4 := frozen_box gV 4
        have HO : Hid (Wr.heap.size <= O /\ R < O) := by have := g.size; have := HWR.out; exact ⟨by omega, by omega⟩
        have HA0 : Hid (Gx R Wr V2 /\ Qs K V2 R b s0' /\ Ob V2 O kk 0 0 0 (.slice none 0 0) /\ O < V2.heap.size) := by
          have h1 := HO.out
          exact ⟨gx_new (Gx.trans g (Gx.of bV)) h1.1 g2, (q0.below bV).row (lo := O) g2 h1.2 (fun r hr => by cases hr; exact Nat.le_refl _), m2, (Array.getElem?_eq_some_iff.1 m2).1⟩
        clear g hk q0 x0 hs0' c6 gV bV m2 g2 zf
        go_wp2_with fail
        try rw [hV2]
        clear hV2 hV1 y0 y1 y2 y3 y4 r0 r1 r2 r3 r4 hO
        have cw1 := whole_s HA0.out.2.1
        go_wp2_with fail
        refine cw1.mono ?_
        rintro e u1 ⟨g, v, o1, rfl, ⟨rfl, hx⟩, q, x⟩
        obtain ⟨s1', hsn⟩ : ∃ S, st (lf (rwhl b) s0') = S := ⟨_, rfl⟩
        rw [hsn] at q
        have HE1 : Hid (s1' = st (lf (rwhl b) s0')) := hsn.symm
        have HI1 : Hid (i64 o1) := hx
        have HF1 : Hid (∀ y q, lf (rwhl b) s0' = .ok (y, q) -> o1 = y) := x
        have ho := (g.block O HA0.out.2.2.2 (fun e => by cases e; have := HO.out; omega)).trans HA0.out.2.2.1
        have HA1 : Hid (Gx R Wr (u1.setCell ⟨O, 1, none⟩ (.int .i64 o1)) /\ Qs K (u1.setCell ⟨O, 1, none⟩ (.int .i64 o1)) R b s1' /\ Ob (u1.setCell ⟨O, 1, none⟩ (.int .i64 o1)) O kk o1 0 0 (.slice none 0 0) /\ O < (u1.setCell ⟨O, 1, none⟩ (.int .i64 o1)).heap.size) := by
          have h1 := HO.out
          exact ⟨gx_new (Gx.trans HA0.out.1 g) h1.1 (gb_set _ _ _ _), q.row (lo := O) (gb_set _ _ _ _) h1.2 (fun r hr => by cases hr; exact Nat.le_refl _), Ob.set1 ho _, by have := g.size; have := HA0.out.2.2.2; simp [World.setCell]; omega⟩
        have zo1 := cell_of ho 1 _ rfl
        have fo1 := frozen_box ho 1
        clear g q x hx hsn ho cw1
        have cw2 := whole_s HA1.out.2.1
        go_wp2_with fail
        refine cw2.mono ?_
        rintro e u2 ⟨g, v, o2, rfl, ⟨rfl, hx⟩, q, x⟩
        obtain ⟨s2', hsn⟩ : ∃ S, st (lf (rwhl b) s1') = S := ⟨_, rfl⟩
        rw [hsn] at q
        have HE2 : Hid (s2' = st (lf (rwhl b) s1')) := hsn.symm
        have HI2 : Hid (i64 o2) := hx
        have HF2 : Hid (∀ y q, lf (rwhl b) s1' = .ok (y, q) -> o2 = y) := x
        have ho := (g.block O HA1.out.2.2.2 (fun e => by cases e; have := HO.out; omega)).trans HA1.out.2.2.1
        have HA2 : Hid (Gx R Wr (u2.setCell ⟨O, 2, none⟩ (.int .i64 o2)) /\ Qs K (u2.setCell ⟨O, 2, none⟩ (.int .i64 o2)) R b s2' /\ Ob (u2.setCell ⟨O, 2, none⟩ (.int .i64 o2)) O kk o1 o2 0 (.slice none 0 0) /\ O < (u2.setCell ⟨O, 2, none⟩ (.int .i64 o2)).heap.size) := by
          have h1 := HO.out
          exact ⟨gx_new (Gx.trans HA1.out.1 g) h1.1 (gb_set _ _ _ _), q.row (lo := O) (gb_set _ _ _ _) h1.2 (fun r hr => by cases hr; exact Nat.le_refl _), Ob.set2 ho _, by have := g.size; have := HA1.out.2.2.2; simp [World.setCell]; omega⟩
        have zo2 := cell_of ho 2 _ rfl
        have fo2 := frozen_box ho 2
        clear g q x hx hsn ho cw2
        have cw3 := whole_s HA2.out.2.1
        go_wp2_with fail
        refine cw3.mono ?_
        rintro e u3 ⟨g, v, o3, rfl, ⟨rfl, hx⟩, q, x⟩
        obtain ⟨s3', hsn⟩ : ∃ S, st (lf (rwhl b) s2') = S := ⟨_, rfl⟩
        rw [hsn] at q
        have HE3 : Hid (s3' = st (lf (rwhl b) s2')) := hsn.symm
        have HI3 : Hid (i64 o3) := hx
        have HF3 : Hid (∀ y q, lf (rwhl b) s2' = .ok (y, q) -> o3 = y) := x
        have ho := (g.block O HA2.out.2.2.2 (fun e => by cases e; have := HO.out; omega)).trans HA2.out.2.2.1
        have HA3 : Hid (Gx R Wr (u3.setCell ⟨O, 3, none⟩ (.int .i64 o3)) /\ Qs K (u3.setCell ⟨O, 3, none⟩ (.int .i64 o3)) R b s3' /\ Ob (u3.setCell ⟨O, 3, none⟩ (.int .i64 o3)) O kk o1 o2 o3 (.slice none 0 0) /\ O < (u3.setCell ⟨O, 3, none⟩ (.int .i64 o3)).heap.size) := by
          have h1 := HO.out
          exact ⟨gx_new (Gx.trans HA2.out.1 g) h1.1 (gb_set _ _ _ _), q.row (lo := O) (gb_set _ _ _ _) h1.2 (fun r hr => by cases hr; exact Nat.le_refl _), Ob.set3 ho _, by have := g.size; have := HA2.out.2.2.2; simp [World.setCell]; omega⟩
        have zo3 := cell_of ho 3 _ rfl
        have fo3 := frozen_box ho 3
        clear g q x hx hsn ho cw3
        have hs3x := HA3.out
        have c10 := count_s 64 (by omega) HA3.out.2.1
        go_wp2_with fail
        refine c10.mono ?_
        rintro e u4 ⟨g, v, m, rfl, ⟨rfl, hm⟩, q4, x4⟩
        obtain ⟨s4', hs4'⟩ : ∃ S, st (lf (rcnt 64 b) s3') = S := ⟨_, rfl⟩
        rw [hs4'] at q4
        have HE4 : Hid (s4' = st (lf (rcnt 64 b) s3')) := hs4'.symm
        have HF4 : Hid (∀ y q, lf (rcnt 64 b) s3' = .ok (y, q) -> m = y) := x4
        have ho := (g.block O HA3.out.2.2.2 (fun e => by cases e; have := HO.out; omega)).trans HA3.out.2.2.1
        have HA4 : Hid (Gx R Wr u4 /\ Qs K u4 R b s4' /\ Ob u4 O kk o1 o2 o3 (.slice none 0 0) /\ O < u4.heap.size) := ⟨Gx.trans HA3.out.1 g, q4, ho, by have := g.size; have := HA3.out.2.2.2; omega⟩
        obtain ⟨aI, haI⟩ : ∃ a, lf (rmany (rwhl b) m) s4' = a := ⟨_, rfl⟩
        have HAI : Hid (lf (rmany (rwhl b) m) s4' = aI) := haI
        have HM : Hid (m <= 64) := hm
        clear g q4 x4 hs4' ho c10 haI hs3x zo1 zo2 zo3 fo1 fo2 fo3
        go_upto_block 2 with fail
        go_cut [] from 41 to 59 (fun wx => ∃ (lv : Value) (ys : List Int), ys.length <= m /\ Gx R Wr wx /\ Ob wx O kk o1 o2 o3 lv /\ RowI HdI 3 1 (O + 1) wx lv ys /\ Qs K wx R b (st aI) /\ ∀ y q, aI = .ok (y, q) -> ys = y)
        case first =>
          have HOF : Hid (Wr.heap.size <= O /\ R < O /\ O < O + 1) := ⟨HO.out.1, HO.out.2, by omega⟩
          go_wp2_with fail
          go_loopw [8] (fun i wx => ∃ (q : Nat) (lv : Value) (ys : List Int) (s' : Except Nat Nat), i = .int .i64 q /\ q <= m /\ ys.length = q /\ Hid (Gx R Wr wx /\ Ob wx O kk o1 o2 o3 lv /\ RowI HdI 3 1 (O + 1) wx lv ys /\ Qs K wx R b s' /\ True) /\ Hid (LI (rwhl b) m q ys s' aI)) (fun i _ => m - (intOf i).toNat)
          case atStart => exact ⟨0, _, [], s4', rfl, by omega, rfl, ⟨HA4.out.1, HA4.out.2.2.1, RowI.nil _ _ _ _ _, HA4.out.2.1, trivial⟩, by rw [<- HAI.out]; exact li_0⟩
          case round =>
            obtain ⟨q', lv, ys, s', rfl, hq', hyl, HGI, HSI⟩ := hrel
            obtain ⟨va', vm', vc', rfl⟩ := RowI.slice HGI.out.2.2.1
            obtain ⟨ja', jn', jc', jp', jl', hx', -, -⟩ := HGI.out.2.2.2.1.cells
            obtain ⟨BI, hBI⟩ : ∃ B, bad s' = B := ⟨_, rfl⟩
            rw [hBI] at hx'
            have zf' := cell_of hx' 2 _ rfl
            clear hx'
            by_cases hgo' : q' < m /\ BI = false
            · obtain ⟨hlt', rfl⟩ := hgo'
              obtain ⟨p', rfl⟩ : ∃ p, s' = .ok p := by cases s' with | ok p => exact ⟨p, rfl⟩ | error z => cases hBI
              have HXI : Hid (O < wr.heap.size /\ R < wr.heap.size /\ (O + 1) <= wr.heap.size) := ⟨(Array.getElem?_eq_some_iff.1 HGI.out.2.1).1, HGI.out.2.2.2.1.lt, (Array.getElem?_eq_some_iff.1 HGI.out.2.1).1⟩
              have cx := whole_s (Qs.drew HGI.out.2.2.2.1)
              have zl := cell_of HGI.out.2.1 4 _ rfl
              have hm64 : m <= 8192 := by have := HM.out; omega
              clear hBI
              go_wp2_with fail
              refine wp_region_held_drew (S := fun _ => True) (by kernel_rfl) trivial (fun hHeld => ?_)
              refine tkH 0 rfl ?_; try simp only [ptH]
              refine tkH 2 rfl ?_; try simp only [ptH]
              refine rdH [1, 3] ?_
              refine AllReadyH.cons rfl (fun K0 hK => ?_) (AllReadyH.cons rfl (fun K0 hK => ?_) (AllReadyH.nil))
              · skip
                go_simp
                refine hK.out _ _ trivial (fun hHeld => ?_)
                clear hK K0
                try simp only [ptH]
                refine rdH [3] ?_
                refine alH rfl fun K0 hK => ?_
                go_simp
                refine cx.mono ?_
                rintro e w2 ⟨g2, ve, x, rfl, ⟨rfl, hxb⟩, q2, x2⟩
                have g2' := Gx.trans (Gx.of (Below.refl wr.heap.size wr).drew : Gx R wr wr.drew) g2
                have HP2 : Hid (Gx R wr w2 /\ Qs K w2 R b (st (rwhl b p')) /\ (∀ y r, rwhl b p' = .ok (y, r) -> x = y)) := ⟨g2', q2, x2⟩
                obtain ⟨W3, hW3⟩ : ∃ W, w2.alloc (.cells #[.int .i64 x] 3) = W := ⟨_, rfl⟩
                have b3 : Below w2.heap.size w2 W3 := by rw [<- hW3]; exact (Below.refl _ w2).alloc (Nat.le_refl _) _
                have n3 : W3.heap[w2.heap.size]? = some (.cells #[.int .i64 x] 3 (0, 0)) := by rw [<- hW3]; exact heap_alloc_new w2 _
                obtain ⟨css, k1, k2, k3, k4, k5⟩ := RowI.push sI HGI.out.2.2.1 (by have := HOF.out; omega) HXI.out.2.2 g2' (c := [.int .i64 x]) (x := x) ⟨rfl, hxb⟩ b3
                have HK1 := Hid.mk' k1
                have HK2 : Hid (_ /\ _ /\ _ /\ _) := And.intro k2 (And.intro k3 (And.intro k4 k5))
                have HN3 : Hid (W3.heap[w2.heap.size]? = some (.cells #[.int .i64 x] 3 (0, 0))) := n3
                have g3 : Gx R wr W3 := Gx.trans g2' (Gx.of b3)
                have HP3 : Hid (Gx R wr W3 /\ Qs K W3 R b (st (rwhl b p')) /\ (O + 1) <= W3.heap.size) := ⟨g3, q2.below b3, by have := g3.size; have := HXI.out.2.2; omega⟩
                have hb2 := (g2'.block O HXI.out.1 (fun e => by cases e; have := HOF.out; omega)).trans HGI.out.2.1
                have HB3 : Hid (Ob W3 O kk o1 o2 o3 (.slice va' vm' vc')) := (g3.block O HXI.out.1 (fun e => by cases e; have := HOF.out; omega)).trans HGI.out.2.1
                have y0 := cell_of hb2 4 _ rfl
                have y1 := cell_of HB3.out 4 _ rfl
                clear g2 g2' q2 x2 hxb b3 n3 k1 k2 k3 k4 k5 g3 hb2
                refine hK.out _ _ trivial (fun hHeld => ?_)
                clear hK K0
                try simp only [ptH]
                refine rdH [4] ?_
                refine alH rfl fun K0 hK => ?_
                go_simp
                try rw [hW3]
                refine hK.out _ _ trivial (fun hHeld => ?_)
                clear hK K0
                try simp only [ptH]
                refine rdH [5] ?_
                refine alH rfl fun K0 hK => ?_
                refine ZQd.step_any rfl _ _ 72 rfl (O + 1) 3 i0 (.int .i64 0) 1 8 underlying72 hi hz0 hz1 hz2 rfl (by decide) _ _ _ rfl HK1.out _ _ [.int .i64 x] rfl rfl (ZQd.src_cells HN3.out) (by intro u hu; simp only [List.mem_cons, List.not_mem_nil, or_false] at hu; rcases hu with rfl; rfl) (by unfold maxLen; omega) (by omega) HP3.out.2.2 ?_
                intro v' W4 hown hgrow hnb
                have HF : Hid (W3.grownBy W4 (Value.slice va' vm' vc').ownBlock /\ RowI HdI 3 1 (O + 1) W4 v' (ys ++ [x])) := ⟨hgrow, RowI.snoc sI HK1.out HK2.out.1 HK2.out.2.1 HK2.out.2.2.1 HK2.out.2.2.2 rfl hgrow hown hnb⟩
                obtain ⟨va2, vm2, vc2, rfl⟩ := RowI.slice HF.out.2
                have HB4 : Hid (Ob W4 O kk o1 o2 o3 (.slice va' vm' vc')) := (hgrow.block O (by have := HP3.out.2.2; have := HOF.out; omega) (fun e => by have := (World.ownsRow.lt HK1.out _ e.symm).1; have := HOF.out; omega)).trans HB3.out
                have y2 := cell_of HB4.out 4 _ rfl
                have r2 := frozen_box HB4.out 4
                clear hown hgrow hnb
                refine hK.out _ _ trivial (fun hHeld => ?_)
                clear hK K0
                try simp only [ptH]
                refine tkH 6 rfl ?_; try simp only [ptH]
                refine rdH [7] ?_
                refine alH rfl fun K0 hK => ?_
                go_simp
                refine hK.out _ _ trivial (fun hHeld => ?_)
                clear hK K0 hHeld
                try simp only [ptH]
                refine dnH ?_
                go_wp2_with fail
                go_roundw
                case rel =>
                  have hg4 : Gx R Wr W4 := gx_row (Gx.trans HGI.out.1 HP3.out.1) HF.out.1 (fun r hr => by have h1 := (World.ownsRow.lt HK1.out r hr).1; have h2 := HOF.out; omega)
                  have hq4 : Qs K W4 R b (st (rwhl b p')) := HP3.out.2.1.row (lo := (O + 1)) HF.out.1 (by have := HOF.out; omega) (fun r hr => (World.ownsRow.lt HK1.out r hr).1)
                  exact ⟨q' + 1, _, ys ++ [x], st (rwhl b p'), by go_num, by omega, by simp [hyl], ⟨gx_new hg4 HOF.out.1 (gb_set _ _ _ _), Ob.set4 HB4.out _, rowi_own sI HF.out.2 HOF.out.2.2 (gb_set _ _ _ _), hq4.row (lo := O) (gb_set _ _ _ _) HOF.out.2.1 (fun r hr => by cases hr; exact Nat.le_refl _), trivial⟩, li_step hlt' HSI.out HP2.out.2.2⟩
                case measure => simp only [intOf]; omega
              · skip
                go_simp
                refine cx.mono ?_
                rintro e w2 ⟨g2, ve, x, rfl, ⟨rfl, hxb⟩, q2, x2⟩
                have g2' := Gx.trans (Gx.of (Below.refl wr.heap.size wr).drew : Gx R wr wr.drew) g2
                have HP2 : Hid (Gx R wr w2 /\ Qs K w2 R b (st (rwhl b p')) /\ (∀ y r, rwhl b p' = .ok (y, r) -> x = y)) := ⟨g2', q2, x2⟩
                obtain ⟨W3, hW3⟩ : ∃ W, w2.alloc (.cells #[.int .i64 x] 3) = W := ⟨_, rfl⟩
                have b3 : Below w2.heap.size w2 W3 := by rw [<- hW3]; exact (Below.refl _ w2).alloc (Nat.le_refl _) _
                have n3 : W3.heap[w2.heap.size]? = some (.cells #[.int .i64 x] 3 (0, 0)) := by rw [<- hW3]; exact heap_alloc_new w2 _
                obtain ⟨css, k1, k2, k3, k4, k5⟩ := RowI.push sI HGI.out.2.2.1 (by have := HOF.out; omega) HXI.out.2.2 g2' (c := [.int .i64 x]) (x := x) ⟨rfl, hxb⟩ b3
                have HK1 := Hid.mk' k1
                have HK2 : Hid (_ /\ _ /\ _ /\ _) := And.intro k2 (And.intro k3 (And.intro k4 k5))
                have HN3 : Hid (W3.heap[w2.heap.size]? = some (.cells #[.int .i64 x] 3 (0, 0))) := n3
                have g3 : Gx R wr W3 := Gx.trans g2' (Gx.of b3)
                have HP3 : Hid (Gx R wr W3 /\ Qs K W3 R b (st (rwhl b p')) /\ (O + 1) <= W3.heap.size) := ⟨g3, q2.below b3, by have := g3.size; have := HXI.out.2.2; omega⟩
                have hb2 := (g2'.block O HXI.out.1 (fun e => by cases e; have := HOF.out; omega)).trans HGI.out.2.1
                have HB3 : Hid (Ob W3 O kk o1 o2 o3 (.slice va' vm' vc')) := (g3.block O HXI.out.1 (fun e => by cases e; have := HOF.out; omega)).trans HGI.out.2.1
                have y0 := cell_of hb2 4 _ rfl
                have y1 := cell_of HB3.out 4 _ rfl
                clear g2 g2' q2 x2 hxb b3 n3 k1 k2 k3 k4 k5 g3 hb2
                refine hK.out _ _ trivial (fun hHeld => ?_)
                clear hK K0
                try simp only [ptH]
                refine rdH [1, 4] ?_
                refine AllReadyH.cons rfl (fun K0 hK => ?_) (AllReadyH.cons rfl (fun K0 hK => ?_) (AllReadyH.nil))
                · skip
                  go_simp
                  refine hK.out _ _ trivial (fun hHeld => ?_)
                  clear hK K0
                  try simp only [ptH]
                  refine rdH [4] ?_
                  refine alH rfl fun K0 hK => ?_
                  go_simp
                  try rw [hW3]
                  refine hK.out _ _ trivial (fun hHeld => ?_)
                  clear hK K0
                  try simp only [ptH]
                  refine rdH [5] ?_
                  refine alH rfl fun K0 hK => ?_
                  refine ZQd.step_any rfl _ _ 72 rfl (O + 1) 3 i0 (.int .i64 0) 1 8 underlying72 hi hz0 hz1 hz2 rfl (by decide) _ _ _ rfl HK1.out _ _ [.int .i64 x] rfl rfl (ZQd.src_cells HN3.out) (by intro u hu; simp only [List.mem_cons, List.not_mem_nil, or_false] at hu; rcases hu with rfl; rfl) (by unfold maxLen; omega) (by omega) HP3.out.2.2 ?_
                  intro v' W4 hown hgrow hnb
                  have HF : Hid (W3.grownBy W4 (Value.slice va' vm' vc').ownBlock /\ RowI HdI 3 1 (O + 1) W4 v' (ys ++ [x])) := ⟨hgrow, RowI.snoc sI HK1.out HK2.out.1 HK2.out.2.1 HK2.out.2.2.1 HK2.out.2.2.2 rfl hgrow hown hnb⟩
                  obtain ⟨va2, vm2, vc2, rfl⟩ := RowI.slice HF.out.2
                  have HB4 : Hid (Ob W4 O kk o1 o2 o3 (.slice va' vm' vc')) := (hgrow.block O (by have := HP3.out.2.2; have := HOF.out; omega) (fun e => by have := (World.ownsRow.lt HK1.out _ e.symm).1; have := HOF.out; omega)).trans HB3.out
                  have y2 := cell_of HB4.out 4 _ rfl
                  have r2 := frozen_box HB4.out 4
                  clear hown hgrow hnb
                  refine hK.out _ _ trivial (fun hHeld => ?_)
                  clear hK K0
                  try simp only [ptH]
                  refine tkH 6 rfl ?_; try simp only [ptH]
                  refine rdH [7] ?_
                  refine alH rfl fun K0 hK => ?_
                  go_simp
                  refine hK.out _ _ trivial (fun hHeld => ?_)
                  clear hK K0 hHeld
                  try simp only [ptH]
                  refine dnH ?_
                  go_wp2_with fail
                  go_roundw
                  case rel =>
                    have hg4 : Gx R Wr W4 := gx_row (Gx.trans HGI.out.1 HP3.out.1) HF.out.1 (fun r hr => by have h1 := (World.ownsRow.lt HK1.out r hr).1; have h2 := HOF.out; omega)
                    have hq4 : Qs K W4 R b (st (rwhl b p')) := HP3.out.2.1.row (lo := (O + 1)) HF.out.1 (by have := HOF.out; omega) (fun r hr => (World.ownsRow.lt HK1.out r hr).1)
                    exact ⟨q' + 1, _, ys ++ [x], st (rwhl b p'), by go_num, by omega, by simp [hyl], ⟨gx_new hg4 HOF.out.1 (gb_set _ _ _ _), Ob.set4 HB4.out _, rowi_own sI HF.out.2 HOF.out.2.2 (gb_set _ _ _ _), hq4.row (lo := O) (gb_set _ _ _ _) HOF.out.2.1 (fun r hr => by cases hr; exact Nat.le_refl _), trivial⟩, li_step hlt' HSI.out HP2.out.2.2⟩
                  case measure => simp only [intOf]; omega
                · skip
                  go_simp
                  try rw [hW3]
                  refine hK.out _ _ trivial (fun hHeld => ?_)
                  clear hK K0
                  try simp only [ptH]
                  refine rdH [1] ?_
                  refine alH rfl fun K0 hK => ?_
                  go_simp
                  refine hK.out _ _ trivial (fun hHeld => ?_)
                  clear hK K0
                  try simp only [ptH]
                  refine rdH [5] ?_
                  refine alH rfl fun K0 hK => ?_
                  refine ZQd.step_any rfl _ _ 72 rfl (O + 1) 3 i0 (.int .i64 0) 1 8 underlying72 hi hz0 hz1 hz2 rfl (by decide) _ _ _ rfl HK1.out _ _ [.int .i64 x] rfl rfl (ZQd.src_cells HN3.out) (by intro u hu; simp only [List.mem_cons, List.not_mem_nil, or_false] at hu; rcases hu with rfl; rfl) (by unfold maxLen; omega) (by omega) HP3.out.2.2 ?_
                  intro v' W4 hown hgrow hnb
                  have HF : Hid (W3.grownBy W4 (Value.slice va' vm' vc').ownBlock /\ RowI HdI 3 1 (O + 1) W4 v' (ys ++ [x])) := ⟨hgrow, RowI.snoc sI HK1.out HK2.out.1 HK2.out.2.1 HK2.out.2.2.1 HK2.out.2.2.2 rfl hgrow hown hnb⟩
                  obtain ⟨va2, vm2, vc2, rfl⟩ := RowI.slice HF.out.2
                  have HB4 : Hid (Ob W4 O kk o1 o2 o3 (.slice va' vm' vc')) := (hgrow.block O (by have := HP3.out.2.2; have := HOF.out; omega) (fun e => by have := (World.ownsRow.lt HK1.out _ e.symm).1; have := HOF.out; omega)).trans HB3.out
                  have y2 := cell_of HB4.out 4 _ rfl
                  have r2 := frozen_box HB4.out 4
                  clear hown hgrow hnb
                  refine hK.out _ _ trivial (fun hHeld => ?_)
                  clear hK K0
                  try simp only [ptH]
                  refine tkH 6 rfl ?_; try simp only [ptH]
                  refine rdH [7] ?_
                  refine alH rfl fun K0 hK => ?_
                  go_simp
                  refine hK.out _ _ trivial (fun hHeld => ?_)
                  clear hK K0 hHeld
                  try simp only [ptH]
                  refine dnH ?_
                  go_wp2_with fail
                  go_roundw
                  case rel =>
                    have hg4 : Gx R Wr W4 := gx_row (Gx.trans HGI.out.1 HP3.out.1) HF.out.1 (fun r hr => by have h1 := (World.ownsRow.lt HK1.out r hr).1; have h2 := HOF.out; omega)
                    have hq4 : Qs K W4 R b (st (rwhl b p')) := HP3.out.2.1.row (lo := (O + 1)) HF.out.1 (by have := HOF.out; omega) (fun r hr => (World.ownsRow.lt HK1.out r hr).1)
                    exact ⟨q' + 1, _, ys ++ [x], st (rwhl b p'), by go_num, by omega, by simp [hyl], ⟨gx_new hg4 HOF.out.1 (gb_set _ _ _ _), Ob.set4 HB4.out _, rowi_own sI HF.out.2 HOF.out.2.2 (gb_set _ _ _ _), hq4.row (lo := O) (gb_set _ _ _ _) HOF.out.2.1 (fun r hr => by cases hr; exact Nat.le_refl _), trivial⟩, li_step hlt' HSI.out HP2.out.2.2⟩
                  case measure => simp only [intOf]; omega
            · have HEND := li_end HSI.out (fun h => by cases BI with | true => exact hBI | false => exact (hgo' ⟨h, rfl⟩).elim) hq'
              have HEN : Hid _ := HEND
              clear HEND hBI
              by_cases hlt' : q' < m
              · obtain rfl : BI = true := by cases BI with | true => rfl | false => exact (hgo' ⟨hlt', rfl⟩).elim
                clear hgo'
                go_wp2_with fail
                go_meet
                exact ⟨_, ys, by omega, HGI.out.1, HGI.out.2.1, HGI.out.2.2.1, by rw [HEN.out.1]; exact HGI.out.2.2.2.1, HEN.out.2⟩
              · have d0 : decide ((q' : Int) < (m : Int)) = false := by simp; omega
                clear hgo'
                go_wp2_with fail
                go_meet
                exact ⟨_, ys, by omega, HGI.out.1, HGI.out.2.1, HGI.out.2.2.1, by rw [HEN.out.1]; exact HGI.out.2.2.2.1, HEN.out.2⟩
        case rest =>
        obtain ⟨lv, ys, hyl, hgw, hob, hrow, hqs, hye⟩ := hcut
        obtain ⟨W5, hW5⟩ : ∃ W5, W5 = wc := ⟨_, rfl⟩
        subst hW5
        obtain ⟨la, lm, lc, rfl⟩ := RowI.slice hrow
        have hrr : RrS 1 LyI (fun g => Wr.heap.size <= g /\ g < W5.heap.size) W5 (.slice la lm lc) ys := RowI.rr hrow (by have := HM.out; omega) (fun b h1 h2 => ⟨by have := HO.out.1; omega, h2⟩) (YRe.ly_i (fun b hb => ⟨by have := hb.1; have := HO.out.1; omega, hb.2.1⟩))
        have hLS : lf (rlst 64 (rwhl b) b) s3' = aI := by rw [lst_eq HF4.out, <- HE4.out, HAI.out]
        obtain ⟨e5, e6⟩ := op_end HE0.out HF0.out HE1.out HF1.out HE2.out HF2.out HE3.out HF3.out (s5 := st aI) (l := ys) (by rw [hLS]) (by rw [hLS]; exact hye)
        change st aI = st (ropc b p) at e5
        have HLI : Hid (LI (ropc b) n (q + 1) (xs ++ [⟨kk, o1, o2, o3, ys⟩]) (st (ropc b p)) aO) := li_step hlt HS.out e6
        have hb0 := (hgw.block B0 (by have := HWR.out; have := HB1.out; omega) (fun e => by cases e; have := HB1.out; omega)).trans HG.out.2.1
        have hb1 := (hgw.block B1 HWR.out.1 (fun e => by cases e; have := HB1.out; omega)).trans HG.out.2.2.1
        obtain ⟨W6, hW6⟩ : ∃ W, W5.alloc (.cells #[.int .i64 kk, .int .i64 o1, .int .i64 o2, .int .i64 o3, .slice la lm lc] 127) = W := ⟨_, rfl⟩
        have b6 : Below W5.heap.size W5 W6 := by rw [<- hW6]; exact (Below.refl _ W5).alloc (Nat.le_refl _) _
        have n6 : W6.heap[W5.heap.size]? = some (.cells #[.int .i64 kk, .int .i64 o1, .int .i64 o2, .int .i64 o3, .slice la lm lc] 127 (0, 0)) := by rw [<- hW6]; exact heap_alloc_new W5 _
        obtain ⟨css, k1, k2, k3, k4, k5⟩ := RowI.push sO HG.out.2.2.2.1 (by have := HB1.out; omega) HWR.out.1 hgw (c := [.int .i64 kk, .int .i64 o1, .int .i64 o2, .int .i64 o3, .slice la lm lc]) (x := ⟨kk, o1, o2, o3, ys⟩) ⟨_, rfl, ⟨HI0.out, HI1.out, HI2.out, HI3.out⟩, hrr⟩ b6
        have HK2 : Hid (_ /\ _ /\ _ /\ _) := And.intro k2 (And.intro k3 (And.intro k4 k5))
        have HQ6 : Hid (Gx R w W6 /\ Qs K W6 R b (st (ropc b p)) /\ Kb W6 B0 0 (.slice none 0 0) (.slice none 0 0) /\ Kb W6 B1 d (.slice va vm vc) (.slice none 0 0)) := by
          have hq := hqs.below b6
          rw [e5] at hq
          have h5 := hgw.size
          have h6 := HWR.out
          have h7 := HB1.out
          exact ⟨Gx.trans HG.out.1 (Gx.trans hgw (Gx.of b6)), hq, (b6.block B0 (by omega)).trans hb0, (b6.block B1 (by omega)).trans hb1⟩
        obtain ⟨t0, t1, t2, t3, t4⟩ : W5.cell? ⟨O, 0, none⟩ = some (.int .i64 kk) /\ W5.cell? ⟨O, 1, none⟩ = some (.int .i64 o1) /\ W5.cell? ⟨O, 2, none⟩ = some (.int .i64 o2) /\ W5.cell? ⟨O, 3, none⟩ = some (.int .i64 o3) /\ W5.cell? ⟨O, 4, none⟩ = some (.slice la lm lc) := ⟨cell_of hob 0 _ rfl, cell_of hob 1 _ rfl, cell_of hob 2 _ rfl, cell_of hob 3 _ rfl, cell_of hob 4 _ rfl⟩
        have yb := cell_of hb1 1 _ rfl
        have hcl := src_of n6
        have hsz : B1 + 1 <= W6.heap.size := by have := b6.size; have := hgw.size; have := HWR.out.1; omega
        have hl3 := k1.1
        have hn8 : n <= 8192 := HN.out
        clear hyl hgw hob hrow hqs hye hrr hLS e5 e6 hb0 hb1 b6 n6 k2 k3 k4 k5
        go_wp2_with (first
          | (at_builtin; (try rw [hW6]); refine YAp.app_seen rfl _ _ 71 rfl (B1 + 1) 127 j0 (.agg #[.int .i64 0, .int .i64 0, .int .i64 0, .int .i64 0, .slice none 0 0]) 5 56 underlying71 hj hy0 hy1 hy2 rfl (by decide) _ _ _ rfl k1 _ 1 _ [.int .i64 kk, .int .i64 o1, .int .i64 o2, .int .i64 o3, .slice la lm lc] rfl hcl rfl (by intro u hu; simp only [List.mem_cons, List.not_mem_nil, or_false] at hu; rcases hu with rfl | rfl | rfl | rfl | rfl <;> rfl) (by unfold maxLen; omega) (by omega) hsz ?_))
        intro v' W7 hown hgrow hnb
        have HF7 : Hid (Gx R w W7 /\ RowI HdO 127 5 (B1 + 1) W7 v' (xs ++ [⟨kk, o1, o2, o3, ys⟩]) /\ Qs K W7 R b (st (ropc b p)) /\ Kb W7 B0 0 (.slice none 0 0) (.slice none 0 0) /\ Kb W7 B1 d (.slice va vm vc) (.slice none 0 0)) := by
          have h7 := HB1.out
          have h8 := HB0.out
          exact ⟨gx_row HQ6.out.1 hgrow (fun r hr => by have := (World.ownsRow.lt k1 r hr).1; omega), RowI.snoc sO k1 HK2.out.1 HK2.out.2.1 HK2.out.2.2.1 HK2.out.2.2.2 rfl hgrow (by rw [hxl]; exact hown) hnb, HQ6.out.2.1.row (lo := B1 + 1) hgrow (by omega) (fun r hr => (World.ownsRow.lt k1 r hr).1), (hgrow.block B0 (by omega) (fun e => by have := (World.ownsRow.lt k1 _ e.symm).1; omega)).trans HQ6.out.2.2.1, (hgrow.block B1 (by omega) (fun e => by have := (World.ownsRow.lt k1 _ e.symm).1; omega)).trans HQ6.out.2.2.2⟩
        obtain ⟨va2, vm2, vc2, rfl⟩ := RowI.slice HF7.out.2.1
        have yc := cell_of HF7.out.2.2.2.2 1 _ rfl
        have rc := frozen_box HF7.out.2.2.2.2 1
        clear hown hgrow hnb k1 hcl
        go_wp2_with fail
        go_roundw
        case rel => exact ⟨q + 1, _, xs ++ [⟨kk, o1, o2, o3, ys⟩], st (ropc b p), by go_num, by omega, by simp [hxl], ⟨gx_new HF7.out.1 (by have := HB0.out; have := HB1.out; omega) (gb_set _ B1 _ _), ((gb_set W7 B1 1 _).block B0 (Array.getElem?_eq_some_iff.1 HF7.out.2.2.2.1).1 (fun e => by cases e; have := HB1.out; omega)).trans HF7.out.2.2.2.1, Kb.set1 HF7.out.2.2.2.2 _, rowi_own sO HF7.out.2.1 (by omega) (gb_set _ B1 _ _), HF7.out.2.2.1.row (lo := B1) (gb_set _ B1 _ _) (by have := HB1.out; omega) (fun r hr => by cases hr; exact Nat.le_refl _)⟩, HLI⟩
        case measure => simp only [intOf]; omega
      · have HEND := li_end HS.out (fun h => by cases BB with | true => exact hBB | false => exact (hgo ⟨h, rfl⟩).elim) hq
        have HEN : Hid _ := HEND
        clear HEND hBB
        by_cases hlt : q < n
        · obtain rfl : BB = true := by cases BB with | true => rfl | false => exact (hgo ⟨hlt, rfl⟩).elim
          clear hgo
          go_wp2_with fail
          go_meet
          exact ⟨_, xs, by omega, HG.out.1, HG.out.2.1, HG.out.2.2.1, HG.out.2.2.2.1, by rw [HEN.out.1]; exact HG.out.2.2.2.2, HEN.out.2⟩
        · have d0 : decide ((q : Int) < (n : Int)) = false := by simp; omega
          clear hgo
          go_wp2_with fail
          go_meet
          exact ⟨_, xs, by omega, HG.out.1, HG.out.2.1, HG.out.2.2.1, HG.out.2.2.2.1, by rw [HEN.out.1]; exact HG.out.2.2.2.2, HEN.out.2⟩
  case rest =>
  obtain ⟨ov, xs, hxl, hgx, hk0, hk1, hrow, hqs, hxe⟩ := hcut
  obtain ⟨X1, hX1⟩ : ∃ X1, X1 = wc := ⟨_, rfl⟩
  subst hX1
  obtain ⟨oa, om, oc, rfl⟩ := RowI.slice hrow
  have hLO : lf (rlst 8192 (ropc b) b) S1 = aO := by rw [lst_eq HX2.out, <- HS2.out, HAO.out]
  have HLO : Hid (lf (rlst 8192 (ropc b) b) S1 = aO) := hLO
  have HXE : Hid (∀ y q, aO = .ok (y, q) -> xs = y) := hxe
  have HXL : Hid (xs.length <= 8192) := by show _ <= _; have := HN.out; omega
  have HC1 : Hid (Gx R w X1 /\ Kb X1 B0 0 (.slice none 0 0) (.slice none 0 0) /\ Kb X1 B1 d (.slice oa om oc) (.slice none 0 0) /\ RowI HdO 127 5 (B1 + 1) X1 (.slice oa om oc) xs /\ Qs K X1 R b (st aO)) := ⟨hgx, hk0, hk1, hrow, hqs⟩
  have c16 := count_s 8192 (by omega) hqs
  clear hxl hgx hk0 hk1 hrow hqs hxe hLO
  go_wp2_with fail
  refine c16.mono ?_
  rintro e X2 ⟨g, v, m, rfl, ⟨rfl, hm⟩, q3, x3⟩
  obtain ⟨S3, hS3⟩ : ∃ S, st (lf (rcnt 8192 b) (st aO)) = S := ⟨_, rfl⟩
  rw [hS3] at q3
  have HS3 : Hid (S3 = st (lf (rcnt 8192 b) (st aO))) := hS3.symm
  have HX3 : Hid (∀ y q, lf (rcnt 8192 b) (st aO) = .ok (y, q) -> m = y) := x3
  have HM : Hid (m <= 8192) := hm
  obtain ⟨LO, hLO⟩ : ∃ L, X2.heap.size = L := ⟨_, rfl⟩
  have HD1 : Hid (Gx R w X2 /\ Kb X2 B0 0 (.slice none 0 0) (.slice none 0 0) /\ Kb X2 B1 d (.slice oa om oc) (.slice none 0 0) /\ RowI HdO 127 5 (B1 + 1) X2 (.slice oa om oc) xs /\ Qs K X2 R b S3) := by
    have h1 := HB1.out
    exact ⟨Gx.trans HC1.out.1 g, (g.block B0 (Array.getElem?_eq_some_iff.1 HC1.out.2.1).1 (fun e => by cases e; omega)).trans HC1.out.2.1, (g.block B1 (Array.getElem?_eq_some_iff.1 HC1.out.2.2.1).1 (fun e => by cases e; omega)).trans HC1.out.2.2.1, HC1.out.2.2.2.1.other sO (by omega) g, q3⟩
  have HOF : Hid (w.heap.size <= B1 /\ R < B1 /\ B1 < LO) := by
    have h1 := HB1.out
    have h2 := HB0.out
    exact ⟨by omega, by omega, by rw [<- hLO]; exact (Array.getElem?_eq_some_iff.1 HD1.out.2.2.1).1⟩
  have HLO2 : Hid (X2.heap.size = LO) := hLO
  clear g q3 x3 hm c16 hS3 hLO
  obtain ⟨aU, haU⟩ : ∃ a, lf (rmany (rwhl b) m) S3 = a := ⟨_, rfl⟩
  have HAU : Hid (lf (rmany (rwhl b) m) S3 = aU) := haU
  clear haU
  go_upto_block 4 with fail
  go_cut [] from 68 to 86 (fun wx => ∃ (lv : Value) (ys : List Int), ys.length <= m /\ Gx R w wx /\ Kb wx B1 d (.slice oa om oc) lv /\ RowI HdI 3 1 LO wx lv ys /\ Qs K wx R b (st aU) /\ (∀ y q, aU = .ok (y, q) -> ys = y) /\ LO <= wx.heap.size /\ ∀ k, R < k -> k ≠ B1 -> k < LO -> wx.heap[k]? = X2.heap[k]?)
  case first =>
    go_wp2_with fail
    go_loopw [9] (fun i wx => ∃ (q : Nat) (lv : Value) (ys : List Int) (s' : Except Nat Nat), i = .int .i64 q /\ q <= m /\ ys.length = q /\ Hid (Gx R w wx /\ Kb wx B1 d (.slice oa om oc) lv /\ RowI HdI 3 1 LO wx lv ys /\ Qs K wx R b s' /\ LO <= wx.heap.size /\ ∀ k, R < k -> k ≠ B1 -> k < LO -> wx.heap[k]? = X2.heap[k]?) /\ Hid (LI (rwhl b) m q ys s' aU)) (fun i _ => m - (intOf i).toNat)
    case atStart => exact ⟨0, _, [], S3, rfl, by omega, rfl, ⟨HD1.out.1, HD1.out.2.2.1, RowI.nil _ _ _ _ _, HD1.out.2.2.2.2, by rw [HLO2.out]; exact Nat.le_refl _, fun _ _ _ _ => rfl⟩, by rw [<- HAU.out]; exact li_0⟩
    case round =>
      obtain ⟨q', lv, ys, s', rfl, hq', hyl, HGI, HSI⟩ := hrel
      obtain ⟨va', vm', vc', rfl⟩ := RowI.slice HGI.out.2.2.1
      obtain ⟨ja', jn', jc', jp', jl', hx', -, -⟩ := HGI.out.2.2.2.1.cells
      obtain ⟨BI, hBI⟩ : ∃ B, bad s' = B := ⟨_, rfl⟩
      rw [hBI] at hx'
      have zf' := cell_of hx' 2 _ rfl
      clear hx'
      by_cases hgo' : q' < m /\ BI = false
      · obtain ⟨hlt', rfl⟩ := hgo'
        obtain ⟨p', rfl⟩ : ∃ p, s' = .ok p := by cases s' with | ok p => exact ⟨p, rfl⟩ | error z => cases hBI
        have HXI : Hid (B1 < wr.heap.size /\ R < wr.heap.size /\ LO <= wr.heap.size) := ⟨(Array.getElem?_eq_some_iff.1 HGI.out.2.1).1, HGI.out.2.2.2.1.lt, HGI.out.2.2.2.2.1⟩
        have cx := whole_s (Qs.drew HGI.out.2.2.2.1)
        have zl := cell_of HGI.out.2.1 2 _ rfl
        have hm64 : m <= 8192 := by have := HM.out; omega
        clear hBI
        go_wp2_with fail
        refine wp_region_held_drew (S := fun _ => True) (by kernel_rfl) trivial (fun hHeld => ?_)
        refine tkH 0 rfl ?_; try simp only [ptH]
        refine tkH 2 rfl ?_; try simp only [ptH]
        refine rdH [1, 3] ?_
        refine AllReadyH.cons rfl (fun K0 hK => ?_) (AllReadyH.cons rfl (fun K0 hK => ?_) (AllReadyH.nil))
        · skip
          go_simp
          refine hK.out _ _ trivial (fun hHeld => ?_)
          clear hK K0
          try simp only [ptH]
          refine rdH [3] ?_
          refine alH rfl fun K0 hK => ?_
          go_simp
          refine cx.mono ?_
          rintro e w2 ⟨g2, ve, x, rfl, ⟨rfl, hxb⟩, q2, x2⟩
          have g2' := Gx.trans (Gx.of (Below.refl wr.heap.size wr).drew : Gx R wr wr.drew) g2
          have HP2 : Hid (Gx R wr w2 /\ Qs K w2 R b (st (rwhl b p')) /\ (∀ y r, rwhl b p' = .ok (y, r) -> x = y)) := ⟨g2', q2, x2⟩
          obtain ⟨W3, hW3⟩ : ∃ W, w2.alloc (.cells #[.int .i64 x] 3) = W := ⟨_, rfl⟩
          have b3 : Below w2.heap.size w2 W3 := by rw [<- hW3]; exact (Below.refl _ w2).alloc (Nat.le_refl _) _
          have n3 : W3.heap[w2.heap.size]? = some (.cells #[.int .i64 x] 3 (0, 0)) := by rw [<- hW3]; exact heap_alloc_new w2 _
          obtain ⟨css, k1, k2, k3, k4, k5⟩ := RowI.push sI HGI.out.2.2.1 (by have := HOF.out; omega) HXI.out.2.2 g2' (c := [.int .i64 x]) (x := x) ⟨rfl, hxb⟩ b3
          have HK1 := Hid.mk' k1
          have HK2 : Hid (_ /\ _ /\ _ /\ _) := And.intro k2 (And.intro k3 (And.intro k4 k5))
          have HN3 : Hid (W3.heap[w2.heap.size]? = some (.cells #[.int .i64 x] 3 (0, 0))) := n3
          have g3 : Gx R wr W3 := Gx.trans g2' (Gx.of b3)
          have HP3 : Hid (Gx R wr W3 /\ Qs K W3 R b (st (rwhl b p')) /\ LO <= W3.heap.size) := ⟨g3, q2.below b3, by have := g3.size; have := HXI.out.2.2; omega⟩
          have hb2 := (g2'.block B1 HXI.out.1 (fun e => by cases e; have := HOF.out; omega)).trans HGI.out.2.1
          have HB3 : Hid (Kb W3 B1 d (.slice oa om oc) (.slice va' vm' vc')) := (g3.block B1 HXI.out.1 (fun e => by cases e; have := HOF.out; omega)).trans HGI.out.2.1
          have y0 := cell_of hb2 2 _ rfl
          have y1 := cell_of HB3.out 2 _ rfl
          clear g2 g2' q2 x2 hxb b3 n3 k1 k2 k3 k4 k5 g3 hb2
          refine hK.out _ _ trivial (fun hHeld => ?_)
          clear hK K0
          try simp only [ptH]
          refine rdH [4] ?_
          refine alH rfl fun K0 hK => ?_
          go_simp
          try rw [hW3]
          refine hK.out _ _ trivial (fun hHeld => ?_)
          clear hK K0
          try simp only [ptH]
          refine rdH [5] ?_
          refine alH rfl fun K0 hK => ?_
          refine ZQd.step_any rfl _ _ 72 rfl LO 3 i0 (.int .i64 0) 1 8 underlying72 hi hz0 hz1 hz2 rfl (by decide) _ _ _ rfl HK1.out _ _ [.int .i64 x] rfl rfl (ZQd.src_cells HN3.out) (by intro u hu; simp only [List.mem_cons, List.not_mem_nil, or_false] at hu; rcases hu with rfl; rfl) (by unfold maxLen; omega) (by omega) HP3.out.2.2 ?_
          intro v' W4 hown hgrow hnb
          have HF : Hid (W3.grownBy W4 (Value.slice va' vm' vc').ownBlock /\ RowI HdI 3 1 LO W4 v' (ys ++ [x])) := ⟨hgrow, RowI.snoc sI HK1.out HK2.out.1 HK2.out.2.1 HK2.out.2.2.1 HK2.out.2.2.2 rfl hgrow hown hnb⟩
          obtain ⟨va2, vm2, vc2, rfl⟩ := RowI.slice HF.out.2
          have HB4 : Hid (Kb W4 B1 d (.slice oa om oc) (.slice va' vm' vc')) := (hgrow.block B1 (by have := HP3.out.2.2; have := HOF.out; omega) (fun e => by have := (World.ownsRow.lt HK1.out _ e.symm).1; have := HOF.out; omega)).trans HB3.out
          have y2 := cell_of HB4.out 2 _ rfl
          have r2 := frozen_box HB4.out 2
          clear hown hgrow hnb
          refine hK.out _ _ trivial (fun hHeld => ?_)
          clear hK K0
          try simp only [ptH]
          refine tkH 6 rfl ?_; try simp only [ptH]
          refine rdH [7] ?_
          refine alH rfl fun K0 hK => ?_
          go_simp
          refine hK.out _ _ trivial (fun hHeld => ?_)
          clear hK K0 hHeld
          try simp only [ptH]
          refine dnH ?_
          go_wp2_with fail
          go_roundw
          case rel =>
            have hg4 : Gx R w W4 := gx_row (Gx.trans HGI.out.1 HP3.out.1) HF.out.1 (fun r hr => by have h1 := (World.ownsRow.lt HK1.out r hr).1; have h2 := HOF.out; omega)
            have hq4 : Qs K W4 R b (st (rwhl b p')) := HP3.out.2.1.row (lo := LO) HF.out.1 (by have := HOF.out; omega) (fun r hr => (World.ownsRow.lt HK1.out r hr).1)
            exact ⟨q' + 1, _, ys ++ [x], st (rwhl b p'), by go_num, by omega, by simp [hyl], ⟨gx_new hg4 HOF.out.1 (gb_set _ _ _ _), Kb.set2 HB4.out _, rowi_own sI HF.out.2 HOF.out.2.2 (gb_set _ _ _ _), hq4.row (lo := B1) (gb_set _ _ _ _) HOF.out.2.1 (fun r hr => by cases hr; exact Nat.le_refl _), by have h1 := HOF.out; have h2 := HP3.out.1.size; have h3 := HF.out.1.size; have h4 := HGI.out.2.2.2.2.1; refine ⟨by simp [World.setCell]; omega, fun k hk1 hk2 hk3 => ?_⟩; rw [(gb_set W4 B1 2 _).block k (by omega) (fun e => hk2 (Option.some.inj e)), HF.out.1.block k (by omega) (fun e => by have := (World.ownsRow.lt HK1.out k e.symm).1; omega), HP3.out.1.block k (by omega) (fun e => by cases e; omega)]; exact HGI.out.2.2.2.2.2 k hk1 hk2 hk3⟩, li_step hlt' HSI.out HP2.out.2.2⟩
          case measure => simp only [intOf]; omega
        · skip
          go_simp
          refine cx.mono ?_
          rintro e w2 ⟨g2, ve, x, rfl, ⟨rfl, hxb⟩, q2, x2⟩
          have g2' := Gx.trans (Gx.of (Below.refl wr.heap.size wr).drew : Gx R wr wr.drew) g2
          have HP2 : Hid (Gx R wr w2 /\ Qs K w2 R b (st (rwhl b p')) /\ (∀ y r, rwhl b p' = .ok (y, r) -> x = y)) := ⟨g2', q2, x2⟩
          obtain ⟨W3, hW3⟩ : ∃ W, w2.alloc (.cells #[.int .i64 x] 3) = W := ⟨_, rfl⟩
          have b3 : Below w2.heap.size w2 W3 := by rw [<- hW3]; exact (Below.refl _ w2).alloc (Nat.le_refl _) _
          have n3 : W3.heap[w2.heap.size]? = some (.cells #[.int .i64 x] 3 (0, 0)) := by rw [<- hW3]; exact heap_alloc_new w2 _
          obtain ⟨css, k1, k2, k3, k4, k5⟩ := RowI.push sI HGI.out.2.2.1 (by have := HOF.out; omega) HXI.out.2.2 g2' (c := [.int .i64 x]) (x := x) ⟨rfl, hxb⟩ b3
          have HK1 := Hid.mk' k1
          have HK2 : Hid (_ /\ _ /\ _ /\ _) := And.intro k2 (And.intro k3 (And.intro k4 k5))
          have HN3 : Hid (W3.heap[w2.heap.size]? = some (.cells #[.int .i64 x] 3 (0, 0))) := n3
          have g3 : Gx R wr W3 := Gx.trans g2' (Gx.of b3)
          have HP3 : Hid (Gx R wr W3 /\ Qs K W3 R b (st (rwhl b p')) /\ LO <= W3.heap.size) := ⟨g3, q2.below b3, by have := g3.size; have := HXI.out.2.2; omega⟩
          have hb2 := (g2'.block B1 HXI.out.1 (fun e => by cases e; have := HOF.out; omega)).trans HGI.out.2.1
          have HB3 : Hid (Kb W3 B1 d (.slice oa om oc) (.slice va' vm' vc')) := (g3.block B1 HXI.out.1 (fun e => by cases e; have := HOF.out; omega)).trans HGI.out.2.1
          have y0 := cell_of hb2 2 _ rfl
          have y1 := cell_of HB3.out 2 _ rfl
          clear g2 g2' q2 x2 hxb b3 n3 k1 k2 k3 k4 k5 g3 hb2
          refine hK.out _ _ trivial (fun hHeld => ?_)
          clear hK K0
          try simp only [ptH]
          refine rdH [1, 4] ?_
          refine AllReadyH.cons rfl (fun K0 hK => ?_) (AllReadyH.cons rfl (fun K0 hK => ?_) (AllReadyH.nil))
          · skip
            go_simp
            refine hK.out _ _ trivial (fun hHeld => ?_)
            clear hK K0
            try simp only [ptH]
            refine rdH [4] ?_
            refine alH rfl fun K0 hK => ?_
            go_simp
            try rw [hW3]
            refine hK.out _ _ trivial (fun hHeld => ?_)
            clear hK K0
            try simp only [ptH]
            refine rdH [5] ?_
            refine alH rfl fun K0 hK => ?_
            refine ZQd.step_any rfl _ _ 72 rfl LO 3 i0 (.int .i64 0) 1 8 underlying72 hi hz0 hz1 hz2 rfl (by decide) _ _ _ rfl HK1.out _ _ [.int .i64 x] rfl rfl (ZQd.src_cells HN3.out) (by intro u hu; simp only [List.mem_cons, List.not_mem_nil, or_false] at hu; rcases hu with rfl; rfl) (by unfold maxLen; omega) (by omega) HP3.out.2.2 ?_
            intro v' W4 hown hgrow hnb
            have HF : Hid (W3.grownBy W4 (Value.slice va' vm' vc').ownBlock /\ RowI HdI 3 1 LO W4 v' (ys ++ [x])) := ⟨hgrow, RowI.snoc sI HK1.out HK2.out.1 HK2.out.2.1 HK2.out.2.2.1 HK2.out.2.2.2 rfl hgrow hown hnb⟩
            obtain ⟨va2, vm2, vc2, rfl⟩ := RowI.slice HF.out.2
            have HB4 : Hid (Kb W4 B1 d (.slice oa om oc) (.slice va' vm' vc')) := (hgrow.block B1 (by have := HP3.out.2.2; have := HOF.out; omega) (fun e => by have := (World.ownsRow.lt HK1.out _ e.symm).1; have := HOF.out; omega)).trans HB3.out
            have y2 := cell_of HB4.out 2 _ rfl
            have r2 := frozen_box HB4.out 2
            clear hown hgrow hnb
            refine hK.out _ _ trivial (fun hHeld => ?_)
            clear hK K0
            try simp only [ptH]
            refine tkH 6 rfl ?_; try simp only [ptH]
            refine rdH [7] ?_
            refine alH rfl fun K0 hK => ?_
            go_simp
            refine hK.out _ _ trivial (fun hHeld => ?_)
            clear hK K0 hHeld
            try simp only [ptH]
            refine dnH ?_
            go_wp2_with fail
            go_roundw
            case rel =>
              have hg4 : Gx R w W4 := gx_row (Gx.trans HGI.out.1 HP3.out.1) HF.out.1 (fun r hr => by have h1 := (World.ownsRow.lt HK1.out r hr).1; have h2 := HOF.out; omega)
              have hq4 : Qs K W4 R b (st (rwhl b p')) := HP3.out.2.1.row (lo := LO) HF.out.1 (by have := HOF.out; omega) (fun r hr => (World.ownsRow.lt HK1.out r hr).1)
              exact ⟨q' + 1, _, ys ++ [x], st (rwhl b p'), by go_num, by omega, by simp [hyl], ⟨gx_new hg4 HOF.out.1 (gb_set _ _ _ _), Kb.set2 HB4.out _, rowi_own sI HF.out.2 HOF.out.2.2 (gb_set _ _ _ _), hq4.row (lo := B1) (gb_set _ _ _ _) HOF.out.2.1 (fun r hr => by cases hr; exact Nat.le_refl _), by have h1 := HOF.out; have h2 := HP3.out.1.size; have h3 := HF.out.1.size; have h4 := HGI.out.2.2.2.2.1; refine ⟨by simp [World.setCell]; omega, fun k hk1 hk2 hk3 => ?_⟩; rw [(gb_set W4 B1 2 _).block k (by omega) (fun e => hk2 (Option.some.inj e)), HF.out.1.block k (by omega) (fun e => by have := (World.ownsRow.lt HK1.out k e.symm).1; omega), HP3.out.1.block k (by omega) (fun e => by cases e; omega)]; exact HGI.out.2.2.2.2.2 k hk1 hk2 hk3⟩, li_step hlt' HSI.out HP2.out.2.2⟩
            case measure => simp only [intOf]; omega
          · skip
            go_simp
            try rw [hW3]
            refine hK.out _ _ trivial (fun hHeld => ?_)
            clear hK K0
            try simp only [ptH]
            refine rdH [1] ?_
            refine alH rfl fun K0 hK => ?_
            go_simp
            refine hK.out _ _ trivial (fun hHeld => ?_)
            clear hK K0
            try simp only [ptH]
            refine rdH [5] ?_
            refine alH rfl fun K0 hK => ?_
            refine ZQd.step_any rfl _ _ 72 rfl LO 3 i0 (.int .i64 0) 1 8 underlying72 hi hz0 hz1 hz2 rfl (by decide) _ _ _ rfl HK1.out _ _ [.int .i64 x] rfl rfl (ZQd.src_cells HN3.out) (by intro u hu; simp only [List.mem_cons, List.not_mem_nil, or_false] at hu; rcases hu with rfl; rfl) (by unfold maxLen; omega) (by omega) HP3.out.2.2 ?_
            intro v' W4 hown hgrow hnb
            have HF : Hid (W3.grownBy W4 (Value.slice va' vm' vc').ownBlock /\ RowI HdI 3 1 LO W4 v' (ys ++ [x])) := ⟨hgrow, RowI.snoc sI HK1.out HK2.out.1 HK2.out.2.1 HK2.out.2.2.1 HK2.out.2.2.2 rfl hgrow hown hnb⟩
            obtain ⟨va2, vm2, vc2, rfl⟩ := RowI.slice HF.out.2
            have HB4 : Hid (Kb W4 B1 d (.slice oa om oc) (.slice va' vm' vc')) := (hgrow.block B1 (by have := HP3.out.2.2; have := HOF.out; omega) (fun e => by have := (World.ownsRow.lt HK1.out _ e.symm).1; have := HOF.out; omega)).trans HB3.out
            have y2 := cell_of HB4.out 2 _ rfl
            have r2 := frozen_box HB4.out 2
            clear hown hgrow hnb
            refine hK.out _ _ trivial (fun hHeld => ?_)
            clear hK K0
            try simp only [ptH]
            refine tkH 6 rfl ?_; try simp only [ptH]
            refine rdH [7] ?_
            refine alH rfl fun K0 hK => ?_
            go_simp
            refine hK.out _ _ trivial (fun hHeld => ?_)
            clear hK K0 hHeld
            try simp only [ptH]
            refine dnH ?_
            go_wp2_with fail
            go_roundw
            case rel =>
              have hg4 : Gx R w W4 := gx_row (Gx.trans HGI.out.1 HP3.out.1) HF.out.1 (fun r hr => by have h1 := (World.ownsRow.lt HK1.out r hr).1; have h2 := HOF.out; omega)
              have hq4 : Qs K W4 R b (st (rwhl b p')) := HP3.out.2.1.row (lo := LO) HF.out.1 (by have := HOF.out; omega) (fun r hr => (World.ownsRow.lt HK1.out r hr).1)
              exact ⟨q' + 1, _, ys ++ [x], st (rwhl b p'), by go_num, by omega, by simp [hyl], ⟨gx_new hg4 HOF.out.1 (gb_set _ _ _ _), Kb.set2 HB4.out _, rowi_own sI HF.out.2 HOF.out.2.2 (gb_set _ _ _ _), hq4.row (lo := B1) (gb_set _ _ _ _) HOF.out.2.1 (fun r hr => by cases hr; exact Nat.le_refl _), by have h1 := HOF.out; have h2 := HP3.out.1.size; have h3 := HF.out.1.size; have h4 := HGI.out.2.2.2.2.1; refine ⟨by simp [World.setCell]; omega, fun k hk1 hk2 hk3 => ?_⟩; rw [(gb_set W4 B1 2 _).block k (by omega) (fun e => hk2 (Option.some.inj e)), HF.out.1.block k (by omega) (fun e => by have := (World.ownsRow.lt HK1.out k e.symm).1; omega), HP3.out.1.block k (by omega) (fun e => by cases e; omega)]; exact HGI.out.2.2.2.2.2 k hk1 hk2 hk3⟩, li_step hlt' HSI.out HP2.out.2.2⟩
            case measure => simp only [intOf]; omega
      · have HEND := li_end HSI.out (fun h => by cases BI with | true => exact hBI | false => exact (hgo' ⟨h, rfl⟩).elim) hq'
        have HEN : Hid _ := HEND
        clear HEND hBI
        by_cases hlt' : q' < m
        · obtain rfl : BI = true := by cases BI with | true => rfl | false => exact (hgo' ⟨hlt', rfl⟩).elim
          clear hgo'
          go_wp2_with fail
          go_meet
          exact ⟨_, ys, by omega, HGI.out.1, HGI.out.2.1, HGI.out.2.2.1, by rw [HEN.out.1]; exact HGI.out.2.2.2.1, HEN.out.2, HGI.out.2.2.2.2⟩
        · have d0 : decide ((q' : Int) < (m : Int)) = false := by simp; omega
          clear hgo'
          go_wp2_with fail
          go_meet
          exact ⟨_, ys, by omega, HGI.out.1, HGI.out.2.1, HGI.out.2.2.1, by rw [HEN.out.1]; exact HGI.out.2.2.2.1, HEN.out.2, HGI.out.2.2.2.2⟩
  case rest =>
  obtain ⟨lv, ys, hyl, hgx, hk1, hrow, hqs, hye, hlo, hkeep⟩ := hcut
  obtain ⟨X3, hX3⟩ : ∃ X3, X3 = wc := ⟨_, rfl⟩
  subst hX3
  obtain ⟨ua, um, uc, rfl⟩ := RowI.slice hrow
  have h1 := HB1.out
  have h0 := HB0.out
  have hL2 := HLO2.out
  have hOF := HOF.out
  have hb0 := (hkeep B0 (by omega) (by omega) (by have := (Array.getElem?_eq_some_iff.1 HD1.out.2.1).1; omega)).trans HD1.out.2.1
  have hrr : RrS 1 LyI (fun g => w.heap.size <= g /\ g < X3.heap.size) X3 (.slice ua um uc) ys := RowI.rr hrow (by have := HM.out; omega) (fun b h1 h2 => ⟨by omega, h2⟩) (YRe.ly_i (fun b hb => ⟨by have := hb.1; omega, hb.2.1⟩))
  have kp : TBase.Keep (fun g => B1 + 1 <= g /\ g < X2.heap.size) X2 X3 := fun g hg hl => hkeep g (by omega) (by omega) (by omega)
  have hro : RrS 5 (LyOs (fun g => w.heap.size <= g /\ g < X3.heap.size)) (fun g => w.heap.size <= g /\ g < X3.heap.size) X3 (.slice oa om oc) xs :=
    RrS.keep (RowI.rr (Ly := LyOs (fun g => B1 + 1 <= g /\ g < X2.heap.size)) (S := fun g => B1 + 1 <= g /\ g < X2.heap.size) HD1.out.2.2.2.1 (by have := HXL.out; omega) (fun b h1 h2 => ⟨h1, h2⟩) (YRf.ly_o (fun b hb => ⟨hb.1, hb.2.1⟩))) (fun g hg => ⟨by omega, by omega⟩) fun g o x _ hg h => kO (S := fun g => B1 + 1 <= g /\ g < X2.heap.size) kp (fun g hg => ⟨by omega, by omega⟩) hg h
  have hLU : lf (rlst 8192 (rwhl b) b) (st aO) = aU := by rw [lst_eq HX3.out, <- HS3.out, HAU.out]
  obtain ⟨e5, e6⟩ := blk_end (s := s) (d := d) (o := xs) (u := ys) (s1 := S1) (s2 := st aO) (s3 := st aU) HS1.out HX1.out (by rw [HLO.out]) (by rw [HLO.out]; exact HXE.out) (by rw [hLU]) (by rw [hLU]; exact hye)
  obtain ⟨X4, hX4⟩ : ∃ W, ((X3.setCell ⟨B0, 0, none⟩ (.int .i64 d)).setCell ⟨B0, 1, none⟩ (.slice oa om oc)).setCell ⟨B0, 2, none⟩ (.slice ua um uc) = W := ⟨_, rfl⟩
  obtain ⟨m4, g4⟩ := YRg.set3 _ _ _ hb0 hX4
  have y0 := cell_of hk1 0 _ rfl
  have y1 := cell_of hk1 1 _ rfl
  have y2 := cell_of hk1 2 _ rfl
  have t0 := cell_of hb0 0 _ rfl
  have t1 := cell_of hb0 1 _ rfl
  have t2 := cell_of hb0 2 _ rfl
  have r0 := frozen_box hb0 0
  have r1 := frozen_box hb0 1
  have r2 := frozen_box hb0 2
  have HM4 : Hid _ := m4
  have HFIN : Hid (Gx R w X4 /\ (VA HdB) (fun g => w.heap.size <= g /\ g < X4.heap.size) X4 (.agg #[.int .i64 d, .slice oa om oc, .slice ua um uc]) ⟨d, xs, ys⟩ /\ Qs K X4 R b (st (lf (rblk b) s))) := by
    have hs4 := g4.size
    have hB0l := (Array.getElem?_eq_some_iff.1 hb0).1
    rw [<- e5]
    -- the rows lie behind B1, so that the store into B0 leaves them
    have kp1 : TBase.Keep (fun g => B1 + 1 <= g /\ g < X3.heap.size) X3 X4 := fun g hg hl => g4.block g hl (fun e => by cases e; omega)
    have hro' : RrS 5 (LyOs (fun g => w.heap.size <= g /\ g < X4.heap.size)) (fun g => w.heap.size <= g /\ g < X4.heap.size) X4 (.slice oa om oc) xs :=
      RrS.keep (RrS.keep (RowI.rr (Ly := LyOs (fun g => B1 + 1 <= g /\ g < X2.heap.size)) (S := fun g => B1 + 1 <= g /\ g < X2.heap.size) HD1.out.2.2.2.1 (by have := HXL.out; omega) (fun b h1 h2 => ⟨h1, h2⟩) (YRf.ly_o (fun b hb => ⟨hb.1, hb.2.1⟩))) (S' := fun g => B1 + 1 <= g /\ g < X3.heap.size) (Ly' := LyOs (fun g => B1 + 1 <= g /\ g < X3.heap.size)) (fun g hg => ⟨by omega, by omega⟩) fun g o x _ hg h => kO (S := fun g => B1 + 1 <= g /\ g < X2.heap.size) kp (fun g hg => ⟨by omega, by omega⟩) hg h) (fun g hg => ⟨by omega, by omega⟩) fun g o x _ hg h => kO (S := fun g => B1 + 1 <= g /\ g < X3.heap.size) kp1 (fun g hg => ⟨by omega, by omega⟩) hg h
    have hrr' : RrS 1 LyI (fun g => w.heap.size <= g /\ g < X4.heap.size) X4 (.slice ua um uc) ys :=
      RrS.keep (RowI.rr (S := fun g => B1 + 1 <= g /\ g < X3.heap.size) hrow (by have := HM.out; omega) (fun b h1 h2 => ⟨by omega, h2⟩) (YRe.ly_i (fun b hb => ⟨by have := hb.1; omega, hb.2.1⟩))) (fun g hg => ⟨by omega, by omega⟩) fun g o x _ hg h => kI (S := fun g => B1 + 1 <= g /\ g < X3.heap.size) kp1 hg h
    exact ⟨gx_new hgx (by omega) g4, ⟨_, rfl, _, _, rfl, (show i64 (d : Int) by have := HD.out; constructor <;> omega), hro', hrr'⟩, hqs.row (lo := B0) g4 (by omega) (fun r hr => by cases hr; exact Nat.le_refl _)⟩
  have HEQ : Hid (∀ y q, lf (rblk b) s = .ok (y, q) -> (⟨d, xs, ys⟩ : Bk) = y) := e6
  clear hyl hgx hk1 hrow hqs hye hlo hkeep hb0 hrr kp hro hLU e5 e6 m4 g4 h1 h0 hL2 hOF
  go_wp2_with fail
  try rw [hX4]
  refine bodyPost_ret (results_cell_row rfl _ X4 B0 74 _ (0, 0) _ rfl HM4.out underlying74 rfl (by kernel_rfl)) rfl ?_
  exact ⟨HFIN.out.1, _, _, rfl, HFIN.out.2.1, HFIN.out.2.2, HEQ.out⟩
end Go.Proofs.YtaiackmmmlhgbaaGreat.ZQf

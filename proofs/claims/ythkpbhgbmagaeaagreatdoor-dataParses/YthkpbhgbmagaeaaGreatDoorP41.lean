import Derived.Deep.CutRange
import Derived.Deep.RegionHeld3
import Derived.Test.YthkpbhgbmagaeaaGreatDoorP38
import Derived.Test.YthkpbhgbmagaeaaGreatDoorP40
namespace Go.Proofs.YthkpbhgbmagaeaaGreatDoor.RLis
open Go.RowKit Go.Proofs.YthkpbhgbmagaeaaGreatDoor.Base Go.Proofs.YthkpbhgbmagaeaaGreatDoor.UBase Go.Proofs.YthkpbhgbmagaeaaGreatDoor.Spec Go.Proofs.YthkpbhgbmagaeaaGreatDoor.Rdr Go.Proofs.YthkpbhgbmagaeaaGreatDoor.RowR Go.Proofs.YthkpbhgbmagaeaaGreatDoor.Own Go.Proofs.YthkpbhgbmagaeaaGreatDoor.LState Go.Proofs.YthkpbhgbmagaeaaGreatDoor.RRd Go.Proofs.YthkpbhgbmagaeaaGreatDoor.RWd Go.Proofs.YthkpbhgbmagaeaaGreatDoor.RSt Go.Proofs.YthkpbhgbmagaeaaGreatDoor.RVal Go.Proofs.YthkpbhgbmagaeaaGreatDoor.RJx
set_option linter.unusedVariables false
theorem one6 (k : Int) (b : Bool) (i : Int) (s : ByteArray) (an : Option Addr) (ln cn : Nat) (al : Option Addr) (ll cl : Nat) : ∀ x ∈ [Value.int .i64 k, .bool b, .int .i64 i, .string s, .slice an ln cn, .slice al ll cl], x.oneCell' = true := by
 intro x hx
 simp only [List.mem_cons, List.not_mem_nil, or_false] at hx
 rcases hx with rfl | rfl | rfl | rfl | rfl | rfl <;> rfl
theorem six_alloc {w : World} {B : Nat} {o : Obj} (h : w.heap[B]? = some o) (cs : Array Value) : (w.alloc (.cells cs 27)).heap[B]? = some o := by
 rw [Below.heap_alloc _ _ _ (Array.getElem?_eq_some_iff.1 h).1]
 exact h
theorem vl_blk (s : ByteArray) (n i b : Nat) : vl s n (blk s i) b = vl s n i b := by
 cases n <;> simp only [vl, blk_blk]
theorem kr_kb' {R : Nat} {a b c : World} (h : Kr R a b) (k : Kb R a.heap.size b c) : Kr R a c := ⟨h.below.trans k.below, fun n hn hs => (k.other n hn hs).trans (h.other n hn hs)⟩
theorem lst_ok {s : ByteArray} {v : V} {f q b j b' : Nat} {acc : List C} {c : C} (h : v q b = .ok (c, j, b')) : lst v s (f + 1) q b acc = if at' s (blk s j) = 93 then .ok (acc ++ [c], blk s j + 1, b') else if at' s (blk s j) = 44 then lst v s f (blk s (blk s j + 1)) b' (acc ++ [c]) else .error (600, blk s j) := by
 rw [lst, h]
theorem lst_err {s : ByteArray} {v : V} {f q b : Nat} {acc : List C} {x : F} (h : v q b = .error x) : lst v s (f + 1) q b acc = .error x := by
 rw [lst, h]
def lsd : Except F (List C × Nat × Nat) → Except F (C × Nat × Nat)
 | .error e => .error e
 | .ok (l, j, b') => .ok (.mk 5 false 0 ⟨#[]⟩ [] l, j, b')
theorem lis_of (v : V) (s : ByteArray) (i b : Nat) : lis v s i b = if at' s (blk s (i + 1)) = 93 then .ok (.mk 5 false 0 ⟨#[]⟩ [] [], blk s (i + 1) + 1, b) else lsd (lst v s (s.size + 1) (blk s (i + 1)) b []) := by
 unfold lis lsd
 rfl
set_option maxRecDepth 40000 in
set_option maxHeartbeats 12800000 in
theorem list_of (n d : Nat) (hd : d ≤ 24) (hv : RVs n (d + 1) n) : RLs n d := by
 intro w R s i b hi h
 obtain ⟨U, hU⟩ : ∃ U, lis (vl s n) s i b = U := ⟨_, rfl⟩
 rw [hU]
 rw [lis_of] at hU
 have hRlt := h.lt
 have hsz := h.sz
 have hin : i < s.size := at_in (by omega)
 have hwr : IntKind.i64.wrap ((d : Int) + 1) = (d : Int) + 1 := LOne.wrap_small (by omega) (by omega)
 obtain ⟨k0, k1, k2, k3, k4⟩ := h.cells
 have f1 := h.free 1
 have h0 := h.go (i + 1) (by omega)
 rw [show ((i + 1 : Nat) : Int) = (i : Int) + 1 from by omega] at h0
 have kr0 := (Kr.refl R w).set 1 (.int .i64 ((i : Int) + 1))
 have sz0 : (w.setCell ⟨R, 1, none⟩ (.int .i64 ((i : Int) + 1))).heap.size = w.heap.size := by simp [World.setCell]
 obtain ⟨W1, hW1⟩ : ∃ W1, ((w.setCell ⟨R, 1, none⟩ (.int .i64 ((i : Int) + 1))).alloc (.cells #[.int .i64 0, .bool false, .int .i64 0, .string ⟨#[]⟩, .slice none 0 0, .slice none 0 0] 27)).alloc (.cells #[.int .i64 5, .bool false, .int .i64 0, .string ⟨#[]⟩, .slice none 0 0, .slice none 0 0] 27) = W1 := ⟨_, rfl⟩
 have HW1 : Hid (((w.setCell ⟨R, 1, none⟩ (.int .i64 ((i : Int) + 1))).alloc (.cells #[.int .i64 0, .bool false, .int .i64 0, .string ⟨#[]⟩, .slice none 0 0, .slice none 0 0] 27)).alloc (.cells #[.int .i64 5, .bool false, .int .i64 0, .string ⟨#[]⟩, .slice none 0 0, .slice none 0 0] 27) = W1) := hW1
 obtain ⟨W0, hW0⟩ : ∃ W0, w.setCell ⟨R, 1, none⟩ (.int .i64 ((i : Int) + 1)) = W0 := ⟨_, rfl⟩
 rw [hW0] at h0 kr0 sz0 hW1
 have b0 : Below w.heap.size W0 W1 := by rw [← hW1]; exact ((Below.refl _ W0).alloc (by omega) _).alloc (by simp; omega) _
 have s1 : W1.heap.size = w.heap.size + 2 := by rw [← hW1]; simp [sz0]
 have J1 : Jx W1 R w.heap.size n 5 s (i + 1) b (.slice none 0 0) (.slice none 0 0) [] (fun _ _ => False) [] [] := by
  refine ⟨h0.keep (b0.block R hRlt), hRlt, ?_, ?_, World.ownsRow_nil _ _ _ _, Els.nil _ _ _, (fun g hg => by cases hg), (fun j hj => by simp at hj)⟩
  ·rw [← hW1, Below.heap_alloc _ _ _ (by simp; omega)]
   have := heap_alloc_new W0 (.cells #[.int .i64 0, .bool false, .int .i64 0, .string ⟨#[]⟩, .slice none 0 0, .slice none 0 0] 27)
   rwa [sz0] at this
  ·have := heap_alloc_new (W0.alloc (.cells #[.int .i64 0, .bool false, .int .i64 0, .string ⟨#[]⟩, .slice none 0 0, .slice none 0 0] 27)) (.cells #[.int .i64 5, .bool false, .int .i64 0, .string ⟨#[]⟩, .slice none 0 0, .slice none 0 0] 27)
   rw [World.size_alloc, sz0] at this
   rw [← hW1]
   exact this
 have kr1 : Kr R w W1 := kr0.trans ⟨b0.mono (Nat.le_of_lt hRlt), fun k _ hk => b0.block k (by omega)⟩
 have cB := blanks_c J1.rr
 unfold ptr at cB ⊢
 have HJ1 : Hid (Jx W1 R w.heap.size n 5 s (i + 1) b (.slice none 0 0) (.slice none 0 0) [] (fun _ _ => False) [] []) := J1
 have HK1 : Hid (Kr R w W1) := kr1
 have HU : Hid ((if at' s (blk s (i + 1)) = 93 then .ok (.mk 5 false 0 ⟨#[]⟩ [] [], blk s (i + 1) + 1, b) else lsd (lst (vl s n) s (s.size + 1) (blk s (i + 1)) b [])) = U) := hU
 have HV : Hid (RVs n (d + 1) n) := hv
 clear h hU hv hW1 hW0 J1 kr0 kr1 b0 h0 sz0
 go_enter Tryz.func31, Tryz.ntmps31
 go_wp2_with fail
 rw [HW1.out]
 refine cB.mono ?_
 rintro e w2 ⟨rfl, hr2, kr2⟩
 have hJ2 := HJ1.out.kr kr2 hr2
 have hk2 := HK1.out.trans kr2
 clear cB HW1 HJ1 HK1 k0 k1 k2 k3 k4 f1 kr2 hr2
 obtain ⟨q, hq⟩ : ∃ q, blk s (i + 1) = q := ⟨_, rfl⟩
 have hqs := blk_in (show i + 1 ≤ s.size by omega)
 have hqn := blk_blk s (i + 1)
 rw [hq] at hJ2 HU hqs hqn
 clear hq
 have hrr := hJ2.rr
 have HJ2 : Hid (Jx w2 R w.heap.size n 5 s q b (.slice none 0 0) (.slice none 0 0) [] (fun _ _ => False) [] []) := hJ2
 obtain ⟨k0, k1, k2, k3, k4⟩ := hJ2.rr.cells
 have hP := fun k => peekQ hrr k
 have hs2 := hk2.below.size
 have hy256 : at' s q < 256 := at_lt s q
 clear hJ2 hrr
 go_wp2_with fail
 go_cut [30] from 16 to 37 (fun t wx => t = .bool (decide (at' s q = 93)) ∧ ∃ kq, wx = w2.drewN kq)
 case first =>
  by_cases hqlt : q < s.size
  ·have d0 : decide (q < s.size) = true := decide_eq_true hqlt
   obtain ⟨y, hy⟩ : ∃ y, at' s q = y := ⟨_, rfl⟩
   rw [hy] at hP hy256
   have HY : Hid (at' s q = y) := hy
   have e1 : ((y : Int) == 93) = decide (y = 93) := by rw [Bool.eq_iff_iff]; simp; omega
   clear hy
   go_quiet (first | (go_at_call 27; exact hP _))
   go_wp2_with fail
   go_meet
   case rel => exact ⟨by rw [HY.out], nq, rfl⟩
  ·have d0 : decide (q < s.size) = false := decide_eq_false hqlt
   have e2 : decide (at' s q = 93) = false := decide_eq_false (by rw [at_out s q hqlt]; omega)
   have E2 : Hid (decide (at' s q = 93) = false) := e2
   clear e2
   go_quiet (first | (go_at_call 27; exact hP _))
   go_wp2_with fail
   go_meet
   case rel => exact ⟨by rw [E2.out], nq, rfl⟩
 case rest =>
  obtain ⟨rfl, kq, rfl⟩ := hcut
  have hJ3 := HJ2.out.kr ((Kr.refl R w2).drewN kq) (HJ2.out.rr.drewN kq)
  have hk3 := hk2.drewN kq
  clear HJ2 hk2 hP hs2 k0 k1 k2 k3 k4
  generalize w2.drewN kq = W2 at *
  by_cases h93 : at' s q = 93
  ·have hqlt : q < s.size := at_in (by omega)
   have dd : decide (at' s q = 93) = true := decide_eq_true h93
   rw [if_pos h93] at HU
   rw [dd]
   clear h93 HV dd
   have hJ4 := hJ3.kr ((Kr.refl R _).set 1 (.int .i64 ((q + 1 : Nat) : Int))) (hJ3.rr.go (q + 1) (by omega))
   rw [show ((q + 1 : Nat) : Int) = (q : Int) + 1 from by omega] at hJ4
   have hk4 := hk3.set 1 (.int .i64 ((q : Int) + 1))
   obtain ⟨k0, k1, k2, k3, k4⟩ := hJ3.rr.cells
   have f1 := hJ3.rr.free 1
   have hbx := hJ4.box
   have hrs := hJ4.res
   have HJ4 : Hid (Jx (W2.setCell ⟨R, 1, none⟩ (.int .i64 ((q : Int) + 1))) R w.heap.size n 5 s (q + 1) b (.slice none 0 0) (.slice none 0 0) [] (fun _ _ => False) [] []) := hJ4
   obtain ⟨c0, c1, c2, c3, c4, c5⟩ := six_box hbx
   obtain ⟨r0, r1, r2, r3, r4, r5⟩ := six_box hrs
   have g0 := frozen_box hrs 0
   have g1 := frozen_box hrs 1
   have g2 := frozen_box hrs 2
   have g3 := frozen_box hrs 3
   have g4 := frozen_box hrs 4
   have g5 := frozen_box hrs 5
   have ne1 : ¬ R = w.heap.size + 1 := by omega
   have ne2 : ¬ R = w.heap.size := by omega
   have HRS : Hid ((W2.setCell ⟨R, 1, none⟩ (.int .i64 ((q : Int) + 1))).heap[w.heap.size]? = some (.cells #[.int .i64 0, .bool false, .int .i64 0, .string ⟨#[]⟩, .slice none 0 0, .slice none 0 0] 27 (0, 0))) := hrs
   clear hJ3 hJ4 hbx hrs
   go_wp2_with fail
   obtain ⟨W6, hW6⟩ : ∃ W6, (((((((W2.setCell ⟨R, 1, none⟩ (.int .i64 ((q : Int) + 1))).setCell ⟨w.heap.size, 0, none⟩ (.int .i64 5)).setCell ⟨w.heap.size, 1, none⟩ (.bool false)).setCell ⟨w.heap.size, 2, none⟩ (.int .i64 0)).setCell ⟨w.heap.size, 3, none⟩ (.string ⟨#[]⟩)).setCell ⟨w.heap.size, 4, none⟩ (.slice none 0 0)).setCell ⟨w.heap.size, 5, none⟩ (.slice none 0 0)) = W6 := ⟨_, rfl⟩
   rw [hW6]
   obtain ⟨q1, q2, q3, q4⟩ := set6 _ _ _ _ _ _ HRS.out hW6
   obtain ⟨v0, v1, v2, v3, v4, v5⟩ := six_box q1
   refine bodyPost_ret (v := .agg #[.int .i64 5, .bool false, .int .i64 0, .string ⟨#[]⟩, .slice none 0 0, .slice none 0 0]) (by simp [results, Tryz.results31, go_sem, v0, v1, v2, v3, v4, v5]) rfl ?_
   rw [← HU.out]
   exact ⟨⟨⟨_, rfl, HJ4.out.fs (by decide) (by simp) (by simp) (by simp) q2 q3⟩, HJ4.out.rr.keep (q2 R (by omega))⟩, ⟨q4 _ _ (Nat.le_of_lt hRlt) hk4.below, fun k hk hs => (q2 k (by omega)).trans (hk4.other k hk hs)⟩⟩
  ·have dd : decide (at' s q = 93) = false := decide_eq_false h93
   rw [if_neg h93] at HU
   rw [dd]
   obtain ⟨T0, hT0⟩ : ∃ T0, lst (vl s n) s (s.size + 1) q b [] = T0 := ⟨_, rfl⟩
   rw [hT0] at HU
   rw [← hqn] at hT0
   have HT0 : Hid (lst (vl s n) s (s.size + 1) (blk s q) b [] = T0) := hT0
   have HJ3 : Hid (Jx W2 R w.heap.size n 5 s q b (.slice none 0 0) (.slice none 0 0) [] (fun _ _ => False) [] []) := hJ3
   have HK3 : Hid (Kr R w W2) := hk3
   clear hT0 h93 dd hJ3 hk3 hy256
   go_wp2_with fail
   go_loopw [] (fun wr => ∃ q' b' lv us T acc f, Jx wr R w.heap.size n 5 s q' b' (.slice none 0 0) lv us T [] acc ∧ Kr R w wr ∧ q' ≤ s.size ∧ acc.length ≤ q' ∧ lst (vl s n) s f (blk s q') b' acc = T0 ∧ s.size < q' + f) (fun wr => RTex.fm R s.size wr)
   case atStart => exact ⟨q, b, _, _, _, [], s.size + 1, HJ3.out, HK3.out, hqs, by simp, HT0.out, by omega⟩
   case round =>
    clear HJ3 HK3 HT0 hqs hqn
    obtain ⟨q', b', lv, us, T, acc, f, hJ, hk, hq', hacc, hT, hf⟩ := hrel
    obtain ⟨f, rfl⟩ : ∃ f', f = f' + 1 := ⟨f - 1, by omega⟩
    have HM : Hid (RTex.fm R s.size wr = s.size + 1 - q') := RTex.fm0 hJ.rr _
    obtain ⟨k0, k1, k2, k3, k4⟩ := hJ.rr.cells
    have hJb := hJ.box
    have hlt := hJ.lt
    have hul : us.length ≤ 65536 := by have := hJ.els.len; omega
    obtain ⟨⟨al0, cl0, elv⟩, -⟩ := hJ.shape
    subst elv
    have HJ : Hid (Jx wr R w.heap.size n 5 s q' b' (.slice none 0 0) (.slice al0 us.length cl0) us T [] acc) := hJ
    have hrr := hJ.rr
    have HB : Hid (q' < blk s q' ∨ q' ≤ blk s q') := .inr (blk_ge s q')
    obtain ⟨X, hX⟩ : ∃ X, vl s n q' b' = X := ⟨_, rfl⟩
    have CV : Hid (∀ W', Below wr.heap.size wr W' → Calls Tryz.prog 14 #[.pointer (some ⟨R, 0, none⟩), .int .i64 ((d : Int) + 1)] W' fun e w' => RvR W' w' R s n e X ∧ Kr R W' w') := fun W' hW' => by
     have := HV.out W' R s q' b' hq' (hrr.below hW')
     rw [hX] at this
     exact this
    have hX2 : vl s n (blk s q') b' = X := by rw [vl_blk, hX]
    have HXI : Hid (∀ c j bb, X = .ok (c, j, bb) → q' < j ∧ j ≤ s.size) := fun c j bb e => by rw [← hX] at e; have := SpecIn.vl_in s n q' b' c j bb hq' e; omega
    have HX2 : Hid (vl s n (blk s q') b' = X) := hX2
    have HT : Hid (lst (vl s n) s (f + 1) (blk s q') b' acc = T0) := hT
    obtain ⟨y0, y1, y2, y3, y4, y5⟩ := six_box hJb
    obtain ⟨d0, d1, d2, d3, d4, d5⟩ := six_box (w := wr.drew) hJb
    clear hJ hrr hX hX2 hT
    cases X with
    | error x =>
     have HU2 : Hid (U = .error x) := by
      show _ = _
      rw [← HU.out, ← HT.out, lst_err HX2.out]
      rfl
     clear HU HT HX2 HXI
     go_wp2_with fail
     refine wp_region_held_drew (S := fun _ => True) (by kernel_rfl) trivial (fun hHeld => ?_)
     refine wpAnyH_take (i := 0) (v := ?_) rfl (by kernel_rfl) (by kernel_rfl) (by kernel_rfl) (fun _ _ _ h => h) (Or.inl ⟨by rfl, ?_⟩) (by assumption) ?_
     rotate_left 1
     ·intro w hSw; (try dsimp only at hSw); go_simp; first | done | with_reducible rfl
     try simp only [Act.put, zA, zB, zD, zE, zF]
     refine wpAnyH_take (i := 2) (v := ?_) rfl (by kernel_rfl) (by kernel_rfl) (by kernel_rfl) (fun _ _ _ h => h) (Or.inl ⟨by rfl, ?_⟩) (by assumption) ?_
     rotate_left 1
     ·intro w hSw; (try dsimp only at hSw); go_simp; first | done | with_reducible rfl
     try simp only [Act.put, zA, zB, zC, zD, zE, zF]
     refine wpAnyH_take (i := 3) (v := ?_) rfl (by kernel_rfl) (by kernel_rfl) (by kernel_rfl) (fun _ _ _ h => h) (Or.inl ⟨by rfl, ?_⟩) (by assumption) ?_
     rotate_left 1
     ·intro w hSw; (try dsimp only at hSw); go_simp; first | done | with_reducible rfl
     try simp only [Act.put, zA, zB, zC, zD, zE, zF]
     refine wpAnyH_take (i := 4) (v := ?_) rfl (by kernel_rfl) (by kernel_rfl) (by kernel_rfl) (fun _ _ _ h => h) (Or.inl ⟨by rfl, ?_⟩) (by assumption) ?_
     rotate_left 1
     ·intro w hSw; (try dsimp only at hSw); go_simp; first | done | with_reducible rfl
     try simp only [Act.put, zA, zB, zC, zD, zE, zF]
     refine wpAnyH_ready (rs := [1, 5]) (by kernel_rfl) (by simp) ?_
     refine AllReadyH.cons rfl (fun K hK => ?_) (AllReadyH.cons rfl (fun K hK => ?_) (AllReadyH.nil))
     ·go_simp
      refine hK.out _ _ trivial (fun hHeld => ?_)
      clear hK K
      try simp only [Act.put, zA, zB, zC, zD, zE, zF]
      refine wpAnyH_ready (rs := [5]) (by kernel_rfl) (by simp) ?_
      refine AllReadyH.cons rfl (fun K hK => ?_) (AllReadyH.nil)
      go_simp
      refine (CV.out _ ((Below.refl _ wr).drew)).mono ?_
      rintro e w1 ⟨⟨⟨kx, bo, xx, tx, an, ln, cn, al, ll, cl, rfl⟩, hfl⟩, k1⟩
      have hk1 : Kr R wr w1 := ((Kr.refl R wr).drew).trans k1
      obtain ⟨g, cap, w3, hrun, hap⟩ := HJ.out.app hk1 hul _ _ _ _ _ _ (one6 kx bo xx tx an ln cn al ll cl)
      obtain ⟨B3, S3, R3⟩ := hap.keep HJ.out hk1
      have b1 := (hk1.other (w.heap.size + 1) (by omega) (by omega)).trans hJb
      have b2 := six_alloc b1 #[.int .i64 kx, .bool bo, .int .i64 xx, .string tx, .slice an ln cn, .slice al ll cl]
      obtain ⟨m0, m1, m2, m3, m4, m5⟩ := six_box b1
      obtain ⟨n0, n1, n2, n3, n4, n5⟩ := six_box b2
      obtain ⟨o0, o1, o2, o3, o4, o5⟩ := six_box B3
      have of := frozen_box B3 5
      go_wp2_with fail
      refine hK.out _ _ trivial (fun hHeld => ?_)
      clear hK K
      try simp only [Act.put, zA, zB, zC, zD, zE, zF]
      refine wpAnyH_ready (rs := [6]) (by kernel_rfl) (by simp) ?_
      refine AllReadyH.cons rfl (fun K hK => ?_) (AllReadyH.nil)
      go_simp
      refine hK.out _ _ trivial (fun hHeld => ?_)
      clear hK K
      try simp only [Act.put, zA, zB, zC, zD, zE, zF]
      refine wpAnyH_ready (rs := [7]) (by kernel_rfl) (by simp) ?_
      refine AllReadyH.cons rfl (fun K hK => ?_) (AllReadyH.nil)
      refine op_append rfl (Operand.tmp 45) (Operand.tmp 50) 25 rfl rfl rfl hrun ?_
      refine hK.out _ _ trivial (fun hHeld => ?_)
      clear hK K hrun
      try simp only [Act.put, zA, zB, zC, zD, zE, zF]
      refine wpAnyH_take (i := 8) (v := ?_) rfl (by kernel_rfl) (by kernel_rfl) (by kernel_rfl) (fun _ _ _ h => h) (Or.inl ⟨by rfl, ?_⟩) (by assumption) ?_
      rotate_left 1
      ·intro w hSw; (try dsimp only at hSw); go_simp; first | done | with_reducible rfl
      try simp only [Act.put, zA, zB, zC, zD, zE, zF]
      refine wpAnyH_ready (rs := [9]) (by kernel_rfl) (by simp) ?_
      refine AllReadyH.cons rfl (fun K hK => ?_) (AllReadyH.nil)
      go_simp
      refine hK.out _ _ trivial (fun hHeld => ?_)
      clear hK K
      try simp only [Act.put, zA, zB, zC, zD, zE, zF]
      refine wpAnyH_done (by kernel_rfl) ?_ _
      have kb4 := hap.kb HJ.out hk1 (.slice (some ⟨g, 0, none⟩) (us.length + 1) cap)
      obtain ⟨B4, S4, R4⟩ := hap.box HJ.out hk1 (.slice (some ⟨g, 0, none⟩) (us.length + 1) cap)
      have hk4 := kr_kb' hk kb4
      have hfl4 : Flt (w3.setCell ⟨w.heap.size + 1, 5, none⟩ (.slice (some ⟨g, 0, none⟩) (us.length + 1) cap)) R s x := by
       obtain ⟨hne, jj, bb, hr⟩ := hfl
       exact ⟨hne, jj, bb, hr.keep R4⟩
      generalize w3.setCell ⟨w.heap.size + 1, 5, none⟩ (.slice (some ⟨g, 0, none⟩) (us.length + 1) cap) = W4 at *
      clear m0 m1 m2 m3 m4 m5 n0 n1 n2 n3 n4 n5 o0 o1 o2 o3 o4 o5 of B3 S3 R3 b1 b2 hHeld y0 y1 y2 y3 y4 y5 d0 d1 d2 d3 d4 d5 k0 k1 k2 k3 k4
      have HFL : Hid (Flt W4 R s x) := hfl4
      obtain ⟨hne, jj, bb, hr4⟩ := hfl4
      obtain ⟨k0, k1, k2, k3, k4⟩ := hr4.cells
      have e0 : ((x.1 : Int) == 0) = false := by simp; omega
      obtain ⟨c0, c1, c2, c3, c4, c5⟩ := six_box B4
      obtain ⟨r0, r1, r2, r3, r4, r5⟩ := six_box S4
      have g0 := frozen_box S4 0
      have g1 := frozen_box S4 1
      have g2 := frozen_box S4 2
      have g3 := frozen_box S4 3
      have g4 := frozen_box S4 4
      have g5 := frozen_box S4 5
      have HS4 : Hid (W4.heap[w.heap.size]? = some (.cells #[.int .i64 0, .bool false, .int .i64 0, .string ⟨#[]⟩, .slice none 0 0, .slice none 0 0] 27 (0, 0))) := S4
      clear S4 B4 hr4
      go_wp2_with fail
      obtain ⟨W6, hW6⟩ : ∃ W6, ((((((W4.setCell ⟨w.heap.size, 0, none⟩ (.int .i64 5)).setCell ⟨w.heap.size, 1, none⟩ (.bool false)).setCell ⟨w.heap.size, 2, none⟩ (.int .i64 0)).setCell ⟨w.heap.size, 3, none⟩ (.string ⟨#[]⟩)).setCell ⟨w.heap.size, 4, none⟩ (.slice none 0 0)).setCell ⟨w.heap.size, 5, none⟩ (.slice (some ⟨g, 0, none⟩) (us.length + 1) cap)) = W6 := ⟨_, rfl⟩
      rw [hW6]
      obtain ⟨q1, q2, q3, q4⟩ := set6 _ _ _ _ _ _ HS4.out hW6
      obtain ⟨v0, v1, v2, v3, v4, v5⟩ := six_box q1
      refine bodyPost_ret (v := .agg #[.int .i64 5, .bool false, .int .i64 0, .string ⟨#[]⟩, .slice none 0 0, .slice (some ⟨g, 0, none⟩) (us.length + 1) cap]) (by simp [results, Tryz.results31, go_sem, v0, v1, v2, v3, v4, v5]) rfl ?_
      rw [HU2.out]
      obtain ⟨hne, jj, bb, hr4⟩ := HFL.out
      exact ⟨⟨⟨_, _, _, _, _, _, _, _, _, _, rfl⟩, hne, jj, bb, hr4.keep (q2 R (by omega))⟩, ⟨q4 _ _ (Nat.le_of_lt hRlt) hk4.below, fun k hk hs => (q2 k (by omega)).trans (hk4.other k hk hs)⟩⟩
     ·go_simp
      refine (CV.out _ ((Below.refl _ wr).drew)).mono ?_
      rintro e w1 ⟨⟨⟨kx, bo, xx, tx, an, ln, cn, al, ll, cl, rfl⟩, hfl⟩, k1⟩
      have hk1 : Kr R wr w1 := ((Kr.refl R wr).drew).trans k1
      obtain ⟨g, cap, w3, hrun, hap⟩ := HJ.out.app hk1 hul _ _ _ _ _ _ (one6 kx bo xx tx an ln cn al ll cl)
      obtain ⟨B3, S3, R3⟩ := hap.keep HJ.out hk1
      have b1 := (hk1.other (w.heap.size + 1) (by omega) (by omega)).trans hJb
      have b2 := six_alloc b1 #[.int .i64 kx, .bool bo, .int .i64 xx, .string tx, .slice an ln cn, .slice al ll cl]
      obtain ⟨m0, m1, m2, m3, m4, m5⟩ := six_box b1
      obtain ⟨n0, n1, n2, n3, n4, n5⟩ := six_box b2
      obtain ⟨o0, o1, o2, o3, o4, o5⟩ := six_box B3
      have of := frozen_box B3 5
      go_wp2_with fail
      refine hK.out _ _ trivial (fun hHeld => ?_)
      clear hK K
      try simp only [Act.put, zA, zB, zC, zD, zE, zF]
      refine wpAnyH_ready (rs := [1, 6]) (by kernel_rfl) (by simp) ?_
      refine AllReadyH.cons rfl (fun K hK => ?_) (AllReadyH.cons rfl (fun K hK => ?_) (AllReadyH.nil))
      ·go_simp
       refine hK.out _ _ trivial (fun hHeld => ?_)
       clear hK K
       try simp only [Act.put, zA, zB, zC, zD, zE, zF]
       refine wpAnyH_ready (rs := [6]) (by kernel_rfl) (by simp) ?_
       refine AllReadyH.cons rfl (fun K hK => ?_) (AllReadyH.nil)
       go_simp
       refine hK.out _ _ trivial (fun hHeld => ?_)
       clear hK K
       try simp only [Act.put, zA, zB, zC, zD, zE, zF]
       refine wpAnyH_ready (rs := [7]) (by kernel_rfl) (by simp) ?_
       refine AllReadyH.cons rfl (fun K hK => ?_) (AllReadyH.nil)
       refine op_append rfl (Operand.tmp 45) (Operand.tmp 50) 25 rfl rfl rfl hrun ?_
       refine hK.out _ _ trivial (fun hHeld => ?_)
       clear hK K hrun
       try simp only [Act.put, zA, zB, zC, zD, zE, zF]
       refine wpAnyH_take (i := 8) (v := ?_) rfl (by kernel_rfl) (by kernel_rfl) (by kernel_rfl) (fun _ _ _ h => h) (Or.inl ⟨by rfl, ?_⟩) (by assumption) ?_
       rotate_left 1
       ·intro w hSw; (try dsimp only at hSw); go_simp; first | done | with_reducible rfl
       try simp only [Act.put, zA, zB, zC, zD, zE, zF]
       refine wpAnyH_ready (rs := [9]) (by kernel_rfl) (by simp) ?_
       refine AllReadyH.cons rfl (fun K hK => ?_) (AllReadyH.nil)
       go_simp
       refine hK.out _ _ trivial (fun hHeld => ?_)
       clear hK K
       try simp only [Act.put, zA, zB, zC, zD, zE, zF]
       refine wpAnyH_done (by kernel_rfl) ?_ _
       have kb4 := hap.kb HJ.out hk1 (.slice (some ⟨g, 0, none⟩) (us.length + 1) cap)
       obtain ⟨B4, S4, R4⟩ := hap.box HJ.out hk1 (.slice (some ⟨g, 0, none⟩) (us.length + 1) cap)
       have hk4 := kr_kb' hk kb4
       have hfl4 : Flt (w3.setCell ⟨w.heap.size + 1, 5, none⟩ (.slice (some ⟨g, 0, none⟩) (us.length + 1) cap)) R s x := by
        obtain ⟨hne, jj, bb, hr⟩ := hfl
        exact ⟨hne, jj, bb, hr.keep R4⟩
       generalize w3.setCell ⟨w.heap.size + 1, 5, none⟩ (.slice (some ⟨g, 0, none⟩) (us.length + 1) cap) = W4 at *
       clear m0 m1 m2 m3 m4 m5 n0 n1 n2 n3 n4 n5 o0 o1 o2 o3 o4 o5 of B3 S3 R3 b1 b2 hHeld y0 y1 y2 y3 y4 y5 d0 d1 d2 d3 d4 d5 k0 k1 k2 k3 k4
       have HFL : Hid (Flt W4 R s x) := hfl4
       obtain ⟨hne, jj, bb, hr4⟩ := hfl4
       obtain ⟨k0, k1, k2, k3, k4⟩ := hr4.cells
       have e0 : ((x.1 : Int) == 0) = false := by simp; omega
       obtain ⟨c0, c1, c2, c3, c4, c5⟩ := six_box B4
       obtain ⟨r0, r1, r2, r3, r4, r5⟩ := six_box S4
       have g0 := frozen_box S4 0
       have g1 := frozen_box S4 1
       have g2 := frozen_box S4 2
       have g3 := frozen_box S4 3
       have g4 := frozen_box S4 4
       have g5 := frozen_box S4 5
       have HS4 : Hid (W4.heap[w.heap.size]? = some (.cells #[.int .i64 0, .bool false, .int .i64 0, .string ⟨#[]⟩, .slice none 0 0, .slice none 0 0] 27 (0, 0))) := S4
       clear S4 B4 hr4
       go_wp2_with fail
       obtain ⟨W6, hW6⟩ : ∃ W6, ((((((W4.setCell ⟨w.heap.size, 0, none⟩ (.int .i64 5)).setCell ⟨w.heap.size, 1, none⟩ (.bool false)).setCell ⟨w.heap.size, 2, none⟩ (.int .i64 0)).setCell ⟨w.heap.size, 3, none⟩ (.string ⟨#[]⟩)).setCell ⟨w.heap.size, 4, none⟩ (.slice none 0 0)).setCell ⟨w.heap.size, 5, none⟩ (.slice (some ⟨g, 0, none⟩) (us.length + 1) cap)) = W6 := ⟨_, rfl⟩
       rw [hW6]
       obtain ⟨q1, q2, q3, q4⟩ := set6 _ _ _ _ _ _ HS4.out hW6
       obtain ⟨v0, v1, v2, v3, v4, v5⟩ := six_box q1
       refine bodyPost_ret (v := .agg #[.int .i64 5, .bool false, .int .i64 0, .string ⟨#[]⟩, .slice none 0 0, .slice (some ⟨g, 0, none⟩) (us.length + 1) cap]) (by simp [results, Tryz.results31, go_sem, v0, v1, v2, v3, v4, v5]) rfl ?_
       rw [HU2.out]
       obtain ⟨hne, jj, bb, hr4⟩ := HFL.out
       exact ⟨⟨⟨_, _, _, _, _, _, _, _, _, _, rfl⟩, hne, jj, bb, hr4.keep (q2 R (by omega))⟩, ⟨q4 _ _ (Nat.le_of_lt hRlt) hk4.below, fun k hk hs => (q2 k (by omega)).trans (hk4.other k hk hs)⟩⟩
      ·go_simp
       refine hK.out _ _ trivial (fun hHeld => ?_)
       clear hK K
       try simp only [Act.put, zA, zB, zC, zD, zE, zF]
       refine wpAnyH_ready (rs := [1]) (by kernel_rfl) (by simp) ?_
       refine AllReadyH.cons rfl (fun K hK => ?_) (AllReadyH.nil)
       go_simp
       refine hK.out _ _ trivial (fun hHeld => ?_)
       clear hK K
       try simp only [Act.put, zA, zB, zC, zD, zE, zF]
       refine wpAnyH_ready (rs := [7]) (by kernel_rfl) (by simp) ?_
       refine AllReadyH.cons rfl (fun K hK => ?_) (AllReadyH.nil)
       refine op_append rfl (Operand.tmp 45) (Operand.tmp 50) 25 rfl rfl rfl hrun ?_
       refine hK.out _ _ trivial (fun hHeld => ?_)
       clear hK K hrun
       try simp only [Act.put, zA, zB, zC, zD, zE, zF]
       refine wpAnyH_take (i := 8) (v := ?_) rfl (by kernel_rfl) (by kernel_rfl) (by kernel_rfl) (fun _ _ _ h => h) (Or.inl ⟨by rfl, ?_⟩) (by assumption) ?_
       rotate_left 1
       ·intro w hSw; (try dsimp only at hSw); go_simp; first | done | with_reducible rfl
       try simp only [Act.put, zA, zB, zC, zD, zE, zF]
       refine wpAnyH_ready (rs := [9]) (by kernel_rfl) (by simp) ?_
       refine AllReadyH.cons rfl (fun K hK => ?_) (AllReadyH.nil)
       go_simp
       refine hK.out _ _ trivial (fun hHeld => ?_)
       clear hK K
       try simp only [Act.put, zA, zB, zC, zD, zE, zF]
       refine wpAnyH_done (by kernel_rfl) ?_ _
       have kb4 := hap.kb HJ.out hk1 (.slice (some ⟨g, 0, none⟩) (us.length + 1) cap)
       obtain ⟨B4, S4, R4⟩ := hap.box HJ.out hk1 (.slice (some ⟨g, 0, none⟩) (us.length + 1) cap)
       have hk4 := kr_kb' hk kb4
       have hfl4 : Flt (w3.setCell ⟨w.heap.size + 1, 5, none⟩ (.slice (some ⟨g, 0, none⟩) (us.length + 1) cap)) R s x := by
        obtain ⟨hne, jj, bb, hr⟩ := hfl
        exact ⟨hne, jj, bb, hr.keep R4⟩
       generalize w3.setCell ⟨w.heap.size + 1, 5, none⟩ (.slice (some ⟨g, 0, none⟩) (us.length + 1) cap) = W4 at *
       clear m0 m1 m2 m3 m4 m5 n0 n1 n2 n3 n4 n5 o0 o1 o2 o3 o4 o5 of B3 S3 R3 b1 b2 hHeld y0 y1 y2 y3 y4 y5 d0 d1 d2 d3 d4 d5 k0 k1 k2 k3 k4
       have HFL : Hid (Flt W4 R s x) := hfl4
       obtain ⟨hne, jj, bb, hr4⟩ := hfl4
       obtain ⟨k0, k1, k2, k3, k4⟩ := hr4.cells
       have e0 : ((x.1 : Int) == 0) = false := by simp; omega
       obtain ⟨c0, c1, c2, c3, c4, c5⟩ := six_box B4
       obtain ⟨r0, r1, r2, r3, r4, r5⟩ := six_box S4
       have g0 := frozen_box S4 0
       have g1 := frozen_box S4 1
       have g2 := frozen_box S4 2
       have g3 := frozen_box S4 3
       have g4 := frozen_box S4 4
       have g5 := frozen_box S4 5
       have HS4 : Hid (W4.heap[w.heap.size]? = some (.cells #[.int .i64 0, .bool false, .int .i64 0, .string ⟨#[]⟩, .slice none 0 0, .slice none 0 0] 27 (0, 0))) := S4
       clear S4 B4 hr4
       go_wp2_with fail
       obtain ⟨W6, hW6⟩ : ∃ W6, ((((((W4.setCell ⟨w.heap.size, 0, none⟩ (.int .i64 5)).setCell ⟨w.heap.size, 1, none⟩ (.bool false)).setCell ⟨w.heap.size, 2, none⟩ (.int .i64 0)).setCell ⟨w.heap.size, 3, none⟩ (.string ⟨#[]⟩)).setCell ⟨w.heap.size, 4, none⟩ (.slice none 0 0)).setCell ⟨w.heap.size, 5, none⟩ (.slice (some ⟨g, 0, none⟩) (us.length + 1) cap)) = W6 := ⟨_, rfl⟩
       rw [hW6]
       obtain ⟨q1, q2, q3, q4⟩ := set6 _ _ _ _ _ _ HS4.out hW6
       obtain ⟨v0, v1, v2, v3, v4, v5⟩ := six_box q1
       refine bodyPost_ret (v := .agg #[.int .i64 5, .bool false, .int .i64 0, .string ⟨#[]⟩, .slice none 0 0, .slice (some ⟨g, 0, none⟩) (us.length + 1) cap]) (by simp [results, Tryz.results31, go_sem, v0, v1, v2, v3, v4, v5]) rfl ?_
       rw [HU2.out]
       obtain ⟨hne, jj, bb, hr4⟩ := HFL.out
       exact ⟨⟨⟨_, _, _, _, _, _, _, _, _, _, rfl⟩, hne, jj, bb, hr4.keep (q2 R (by omega))⟩, ⟨q4 _ _ (Nat.le_of_lt hRlt) hk4.below, fun k hk hs => (q2 k (by omega)).trans (hk4.other k hk hs)⟩⟩
    | ok z =>
     obtain ⟨⟨ck, cb, ci, cs, cnn, cll⟩, j, bb⟩ := z
     have hj := HXI.out _ j bb rfl
     obtain ⟨cx, hcx⟩ : ∃ cx, C.mk ck cb ci cs cnn cll = cx := ⟨_, rfl⟩
     obtain ⟨hj1, hj2⟩ := hj
     have HT2 : Hid (T0 = if at' s (blk s j) = 93 then .ok (acc ++ [cx], blk s j + 1, bb) else if at' s (blk s j) = 44 then lst (vl s n) s f (blk s (blk s j + 1)) bb (acc ++ [cx]) else .error (600, blk s j)) := by
      show _ = _
      rw [← HT.out, lst_ok HX2.out, hcx]
     clear HT HX2 HXI
     go_wp2_with fail
     refine wp_region_held_drew (S := fun _ => True) (by kernel_rfl) trivial (fun hHeld => ?_)
     refine wpAnyH_take (i := 0) (v := ?_) rfl (by kernel_rfl) (by kernel_rfl) (by kernel_rfl) (fun _ _ _ h => h) (Or.inl ⟨by rfl, ?_⟩) (by assumption) ?_
     rotate_left 1
     ·intro w hSw; (try dsimp only at hSw); go_simp; first | done | with_reducible rfl
     try simp only [Act.put, zA, zB, zD, zE, zF]
     refine wpAnyH_take (i := 2) (v := ?_) rfl (by kernel_rfl) (by kernel_rfl) (by kernel_rfl) (fun _ _ _ h => h) (Or.inl ⟨by rfl, ?_⟩) (by assumption) ?_
     rotate_left 1
     ·intro w hSw; (try dsimp only at hSw); go_simp; first | done | with_reducible rfl
     try simp only [Act.put, zA, zB, zC, zD, zE, zF]
     refine wpAnyH_take (i := 3) (v := ?_) rfl (by kernel_rfl) (by kernel_rfl) (by kernel_rfl) (fun _ _ _ h => h) (Or.inl ⟨by rfl, ?_⟩) (by assumption) ?_
     rotate_left 1
     ·intro w hSw; (try dsimp only at hSw); go_simp; first | done | with_reducible rfl
     try simp only [Act.put, zA, zB, zC, zD, zE, zF]
     refine wpAnyH_take (i := 4) (v := ?_) rfl (by kernel_rfl) (by kernel_rfl) (by kernel_rfl) (fun _ _ _ h => h) (Or.inl ⟨by rfl, ?_⟩) (by assumption) ?_
     rotate_left 1
     ·intro w hSw; (try dsimp only at hSw); go_simp; first | done | with_reducible rfl
     try simp only [Act.put, zA, zB, zC, zD, zE, zF]
     refine wpAnyH_ready (rs := [1, 5]) (by kernel_rfl) (by simp) ?_
     refine AllReadyH.cons rfl (fun K hK => ?_) (AllReadyH.cons rfl (fun K hK => ?_) (AllReadyH.nil))
     ·go_simp
      refine hK.out _ _ trivial (fun hHeld => ?_)
      clear hK K
      try simp only [Act.put, zA, zB, zC, zD, zE, zF]
      refine wpAnyH_ready (rs := [5]) (by kernel_rfl) (by simp) ?_
      refine AllReadyH.cons rfl (fun K hK => ?_) (AllReadyH.nil)
      go_simp
      refine (CV.out _ ((Below.refl _ wr).drew)).mono ?_
      rintro e w1 ⟨⟨⟨u, rfl, hu⟩, hr1⟩, k1⟩
      obtain ⟨an, ln, cn, al, ll, cl, rfl⟩ := Val.fs_shape hu
      have hk1 : Kr R wr w1 := ((Kr.refl R wr).drew).trans k1
      obtain ⟨g, cap, w3, hrun, hap⟩ := HJ.out.app hk1 hul _ _ _ _ _ _ (one6 ck cb ci cs an ln cn al ll cl)
      obtain ⟨B3, S3, R3⟩ := hap.keep HJ.out hk1
      have b1 := (hk1.other (w.heap.size + 1) (by omega) (by omega)).trans hJb
      have b2 := six_alloc b1 #[.int .i64 ck, .bool cb, .int .i64 ci, .string cs, .slice an ln cn, .slice al ll cl]
      obtain ⟨m0, m1, m2, m3, m4, m5⟩ := six_box b1
      obtain ⟨n0, n1, n2, n3, n4, n5⟩ := six_box b2
      obtain ⟨o0, o1, o2, o3, o4, o5⟩ := six_box B3
      have of := frozen_box B3 5
      go_wp2_with fail
      refine hK.out _ _ trivial (fun hHeld => ?_)
      clear hK K
      try simp only [Act.put, zA, zB, zC, zD, zE, zF]
      refine wpAnyH_ready (rs := [6]) (by kernel_rfl) (by simp) ?_
      refine AllReadyH.cons rfl (fun K hK => ?_) (AllReadyH.nil)
      go_simp
      refine hK.out _ _ trivial (fun hHeld => ?_)
      clear hK K
      try simp only [Act.put, zA, zB, zC, zD, zE, zF]
      refine wpAnyH_ready (rs := [7]) (by kernel_rfl) (by simp) ?_
      refine AllReadyH.cons rfl (fun K hK => ?_) (AllReadyH.nil)
      refine op_append rfl (Operand.tmp 45) (Operand.tmp 50) 25 rfl rfl rfl hrun ?_
      refine hK.out _ _ trivial (fun hHeld => ?_)
      clear hK K hrun
      try simp only [Act.put, zA, zB, zC, zD, zE, zF]
      refine wpAnyH_take (i := 8) (v := ?_) rfl (by kernel_rfl) (by kernel_rfl) (by kernel_rfl) (fun _ _ _ h => h) (Or.inl ⟨by rfl, ?_⟩) (by assumption) ?_
      rotate_left 1
      ·intro w hSw; (try dsimp only at hSw); go_simp; first | done | with_reducible rfl
      try simp only [Act.put, zA, zB, zC, zD, zE, zF]
      refine wpAnyH_ready (rs := [9]) (by kernel_rfl) (by simp) ?_
      refine AllReadyH.cons rfl (fun K hK => ?_) (AllReadyH.nil)
      go_simp
      refine hK.out _ _ trivial (fun hHeld => ?_)
      clear hK K
      try simp only [Act.put, zA, zB, zC, zD, zE, zF]
      refine wpAnyH_done (by kernel_rfl) ?_ _
      have kb4 := hap.kb HJ.out hk1 (.slice (some ⟨g, 0, none⟩) (us.length + 1) cap)
      have hJ4 := hap.jx HJ.out hk1 (Nat.le_refl wr.heap.size : wr.heap.size ≤ wr.drew.heap.size) hu hr1
      rw [hcx] at hJ4
      have hk4 := kr_kb' hk kb4
      clear hap B3 S3 R3
      generalize w3.setCell ⟨w.heap.size + 1, 5, none⟩ (.slice (some ⟨g, 0, none⟩) (us.length + 1) cap) = W4 at *
      clear m0 m1 m2 m3 m4 m5 n0 n1 n2 n3 n4 n5 o0 o1 o2 o3 o4 o5 of b1 b2 hHeld y0 y1 y2 y3 y4 y5 d0 d1 d2 d3 d4 d5 k0 k1 k2 k3 k4
      obtain ⟨k0, k1, k2, k3, k4⟩ := hJ4.rr.cells
      have cE := ends_c 93 (by omega) (by omega) hj2 hJ4.rr
      unfold ptr at cE
      have hbj := blk_ge s j
      have hbs := blk_in hj2
      have HJ4 : Hid (Jx W4 R w.heap.size n 5 s j bb (.slice none 0 0) (.slice (some ⟨g, 0, none⟩) (us.length + 1) cap) (us ++ [.agg #[.int .i64 ck, .bool cb, .int .i64 ci, .string cs, .slice an ln cn, .slice al ll cl]]) (fun q => if q < acc.length then T q else Rg wr.drew.heap.size w1.heap.size) [] (acc ++ [cx])) := hJ4
      have HM4 : Hid (∀ w5, Rr w5 R s (blk s j + 1) 0 0 bb → RTex.fm R s.size w5 < RTex.fm R s.size wr) := fun w5 h5 => by rw [RTex.fm0 h5, HM.out]; omega
      have hlen4 := hJ4.els.len
      have hac4 : (acc ++ [cx]).length ≤ blk s j + 1 := by rw [List.length_append]; simp; omega
      clear hJ4 hu hcx
      have ne2 : ¬ R = w.heap.size := by omega
      by_cases h1 : at' s (blk s j) = 93
      ·have hen : en s 93 j = .ok (true, blk s j + 1) := by unfold en; rw [if_pos h1]
       have hb1 : blk s j < s.size := at_in (by omega)
       rw [hen] at cE
       have HU2 : Hid (U = .ok (.mk 5 false 0 ⟨#[]⟩ [] (acc ++ [cx]), blk s j + 1, bb)) := by
        show _ = _
        rw [← HU.out, HT2.out, if_pos h1]
        rfl
       clear HT2 HU h1 hen
       go_wp2_with fail
       refine cE.mono ?_
       rintro e w5 ⟨⟨rfl, hr5⟩, k5⟩
       have hJ5 := HJ4.out.kr k5 hr5
       have hk5 := hk4.trans k5
       have hbx5 := hJ5.box
       have hrs5 := hJ5.res
       clear cE k0 k1 k2 k3 k4
       obtain ⟨c0, c1, c2, c3, c4, c5⟩ := six_box hbx5
       obtain ⟨r0, r1, r2, r3, r4, r5⟩ := six_box hrs5
       have g0 := frozen_box hrs5 0
       have g1 := frozen_box hrs5 1
       have g2 := frozen_box hrs5 2
       have g3 := frozen_box hrs5 3
       have g4 := frozen_box hrs5 4
       have g5 := frozen_box hrs5 5
       have HRS5 : Hid (w5.heap[w.heap.size]? = some (.cells #[.int .i64 0, .bool false, .int .i64 0, .string ⟨#[]⟩, .slice none 0 0, .slice none 0 0] 27 (0, 0))) := hrs5
       clear hbx5 hrs5
       go_wp2_with fail
       obtain ⟨W6, hW6⟩ : ∃ W6, ((((((w5.setCell ⟨w.heap.size, 0, none⟩ (.int .i64 5)).setCell ⟨w.heap.size, 1, none⟩ (.bool false)).setCell ⟨w.heap.size, 2, none⟩ (.int .i64 0)).setCell ⟨w.heap.size, 3, none⟩ (.string ⟨#[]⟩)).setCell ⟨w.heap.size, 4, none⟩ (.slice none 0 0)).setCell ⟨w.heap.size, 5, none⟩ (.slice (some ⟨g, 0, none⟩) (us.length + 1) cap)) = W6 := ⟨_, rfl⟩
       rw [hW6]
       obtain ⟨q1, q2, q3, q4⟩ := set6 _ _ _ _ _ _ HRS5.out hW6
       obtain ⟨v0, v1, v2, v3, v4, v5⟩ := six_box q1
       refine bodyPost_ret (v := .agg #[.int .i64 5, .bool false, .int .i64 0, .string ⟨#[]⟩, .slice none 0 0, .slice (some ⟨g, 0, none⟩) (us.length + 1) cap]) (by simp [results, Tryz.results31, go_sem, v0, v1, v2, v3, v4, v5]) rfl ?_
       rw [HU2.out]
       exact ⟨⟨⟨_, rfl, hJ5.fs (by decide) (by simp) (by simp) (by omega) q2 q3⟩, hJ5.rr.keep (q2 R (by omega))⟩, ⟨q4 _ _ (Nat.le_of_lt hRlt) hk5.below, fun k hk hs => (q2 k (by omega)).trans (hk5.other k hk hs)⟩⟩
      ·by_cases h2 : at' s (blk s j) = 44
       ·have hen : en s 93 j = .ok (false, blk s j + 1) := by unfold en; rw [if_neg h1, if_pos h2]
        have hb1 : blk s j < s.size := at_in (by omega)
        rw [hen] at cE
        have HT3 : Hid (lst (vl s n) s f (blk s (blk s j + 1)) bb (acc ++ [cx]) = T0) := by
         show _ = _
         rw [HT2.out, if_neg h1, if_pos h2]
        clear HT2 h1 h2 hen
        go_wp2_with fail
        refine cE.mono ?_
        rintro e w5 ⟨⟨rfl, hr5⟩, k5⟩
        clear cE k0 k1 k2 k3 k4
        go_wp2_with fail
        go_roundw
        case rel => exact ⟨blk s j + 1, bb, _, _, _, acc ++ [cx], f, HJ4.out.kr k5 hr5, hk4.trans k5, by omega, hac4, HT3.out, by omega⟩
        case measure => exact HM4.out w5 hr5
       ·have hen : en s 93 j = .error (600, blk s j) := by unfold en; rw [if_neg h1, if_neg h2]
        rw [hen] at cE
        have HU2 : Hid (U = .error (600, blk s j)) := by
         show _ = _
         rw [← HU.out, HT2.out, if_neg h1, if_neg h2]
         rfl
        clear HT2 HU h1 h2 hen
        go_wp2_with fail
        refine cE.mono ?_
        rintro e w5 ⟨⟨rfl, hfl5⟩, k5⟩
        have hlt4 := HJ4.out.lt
        have hbx5 := (k5.other (w.heap.size + 1) (by omega) (by omega)).trans HJ4.out.box
        have hrs5 := (k5.other w.heap.size (by omega) (by omega)).trans HJ4.out.res
        have hk5 := hk4.trans k5
        clear cE k0 k1 k2 k3 k4
        obtain ⟨c0, c1, c2, c3, c4, c5⟩ := six_box hbx5
        obtain ⟨r0, r1, r2, r3, r4, r5⟩ := six_box hrs5
        have g0 := frozen_box hrs5 0
        have g1 := frozen_box hrs5 1
        have g2 := frozen_box hrs5 2
        have g3 := frozen_box hrs5 3
        have g4 := frozen_box hrs5 4
        have g5 := frozen_box hrs5 5
        have HRS5 : Hid (w5.heap[w.heap.size]? = some (.cells #[.int .i64 0, .bool false, .int .i64 0, .string ⟨#[]⟩, .slice none 0 0, .slice none 0 0] 27 (0, 0))) := hrs5
        have HFL : Hid (Flt w5 R s (600, blk s j)) := hfl5
        clear hbx5 hrs5 hfl5
        go_wp2_with fail
        obtain ⟨W6, hW6⟩ : ∃ W6, ((((((w5.setCell ⟨w.heap.size, 0, none⟩ (.int .i64 5)).setCell ⟨w.heap.size, 1, none⟩ (.bool false)).setCell ⟨w.heap.size, 2, none⟩ (.int .i64 0)).setCell ⟨w.heap.size, 3, none⟩ (.string ⟨#[]⟩)).setCell ⟨w.heap.size, 4, none⟩ (.slice none 0 0)).setCell ⟨w.heap.size, 5, none⟩ (.slice (some ⟨g, 0, none⟩) (us.length + 1) cap)) = W6 := ⟨_, rfl⟩
        rw [hW6]
        obtain ⟨q1, q2, q3, q4⟩ := set6 _ _ _ _ _ _ HRS5.out hW6
        obtain ⟨v0, v1, v2, v3, v4, v5⟩ := six_box q1
        refine bodyPost_ret (v := .agg #[.int .i64 5, .bool false, .int .i64 0, .string ⟨#[]⟩, .slice none 0 0, .slice (some ⟨g, 0, none⟩) (us.length + 1) cap]) (by simp [results, Tryz.results31, go_sem, v0, v1, v2, v3, v4, v5]) rfl ?_
        rw [HU2.out]
        obtain ⟨hne, jj, bx, hr5⟩ := HFL.out
        exact ⟨⟨⟨_, _, _, _, _, _, _, _, _, _, rfl⟩, hne, jj, bx, hr5.keep (q2 R (by omega))⟩, ⟨q4 _ _ (Nat.le_of_lt hRlt) hk5.below, fun k hk hs => (q2 k (by omega)).trans (hk5.other k hk hs)⟩⟩
      
     ·go_simp
      refine (CV.out _ ((Below.refl _ wr).drew)).mono ?_
      rintro e w1 ⟨⟨⟨u, rfl, hu⟩, hr1⟩, k1⟩
      obtain ⟨an, ln, cn, al, ll, cl, rfl⟩ := Val.fs_shape hu
      have hk1 : Kr R wr w1 := ((Kr.refl R wr).drew).trans k1
      obtain ⟨g, cap, w3, hrun, hap⟩ := HJ.out.app hk1 hul _ _ _ _ _ _ (one6 ck cb ci cs an ln cn al ll cl)
      obtain ⟨B3, S3, R3⟩ := hap.keep HJ.out hk1
      have b1 := (hk1.other (w.heap.size + 1) (by omega) (by omega)).trans hJb
      have b2 := six_alloc b1 #[.int .i64 ck, .bool cb, .int .i64 ci, .string cs, .slice an ln cn, .slice al ll cl]
      obtain ⟨m0, m1, m2, m3, m4, m5⟩ := six_box b1
      obtain ⟨n0, n1, n2, n3, n4, n5⟩ := six_box b2
      obtain ⟨o0, o1, o2, o3, o4, o5⟩ := six_box B3
      have of := frozen_box B3 5
      go_wp2_with fail
      refine hK.out _ _ trivial (fun hHeld => ?_)
      clear hK K
      try simp only [Act.put, zA, zB, zC, zD, zE, zF]
      refine wpAnyH_ready (rs := [1, 6]) (by kernel_rfl) (by simp) ?_
      refine AllReadyH.cons rfl (fun K hK => ?_) (AllReadyH.cons rfl (fun K hK => ?_) (AllReadyH.nil))
      ·go_simp
       refine hK.out _ _ trivial (fun hHeld => ?_)
       clear hK K
       try simp only [Act.put, zA, zB, zC, zD, zE, zF]
       refine wpAnyH_ready (rs := [6]) (by kernel_rfl) (by simp) ?_
       refine AllReadyH.cons rfl (fun K hK => ?_) (AllReadyH.nil)
       go_simp
       refine hK.out _ _ trivial (fun hHeld => ?_)
       clear hK K
       try simp only [Act.put, zA, zB, zC, zD, zE, zF]
       refine wpAnyH_ready (rs := [7]) (by kernel_rfl) (by simp) ?_
       refine AllReadyH.cons rfl (fun K hK => ?_) (AllReadyH.nil)
       refine op_append rfl (Operand.tmp 45) (Operand.tmp 50) 25 rfl rfl rfl hrun ?_
       refine hK.out _ _ trivial (fun hHeld => ?_)
       clear hK K hrun
       try simp only [Act.put, zA, zB, zC, zD, zE, zF]
       refine wpAnyH_take (i := 8) (v := ?_) rfl (by kernel_rfl) (by kernel_rfl) (by kernel_rfl) (fun _ _ _ h => h) (Or.inl ⟨by rfl, ?_⟩) (by assumption) ?_
       rotate_left 1
       ·intro w hSw; (try dsimp only at hSw); go_simp; first | done | with_reducible rfl
       try simp only [Act.put, zA, zB, zC, zD, zE, zF]
       refine wpAnyH_ready (rs := [9]) (by kernel_rfl) (by simp) ?_
       refine AllReadyH.cons rfl (fun K hK => ?_) (AllReadyH.nil)
       go_simp
       refine hK.out _ _ trivial (fun hHeld => ?_)
       clear hK K
       try simp only [Act.put, zA, zB, zC, zD, zE, zF]
       refine wpAnyH_done (by kernel_rfl) ?_ _
       have kb4 := hap.kb HJ.out hk1 (.slice (some ⟨g, 0, none⟩) (us.length + 1) cap)
       have hJ4 := hap.jx HJ.out hk1 (Nat.le_refl wr.heap.size : wr.heap.size ≤ wr.drew.heap.size) hu hr1
       rw [hcx] at hJ4
       have hk4 := kr_kb' hk kb4
       clear hap B3 S3 R3
       generalize w3.setCell ⟨w.heap.size + 1, 5, none⟩ (.slice (some ⟨g, 0, none⟩) (us.length + 1) cap) = W4 at *
       clear m0 m1 m2 m3 m4 m5 n0 n1 n2 n3 n4 n5 o0 o1 o2 o3 o4 o5 of b1 b2 hHeld y0 y1 y2 y3 y4 y5 d0 d1 d2 d3 d4 d5 k0 k1 k2 k3 k4
       obtain ⟨k0, k1, k2, k3, k4⟩ := hJ4.rr.cells
       have cE := ends_c 93 (by omega) (by omega) hj2 hJ4.rr
       unfold ptr at cE
       have hbj := blk_ge s j
       have hbs := blk_in hj2
       have HJ4 : Hid (Jx W4 R w.heap.size n 5 s j bb (.slice none 0 0) (.slice (some ⟨g, 0, none⟩) (us.length + 1) cap) (us ++ [.agg #[.int .i64 ck, .bool cb, .int .i64 ci, .string cs, .slice an ln cn, .slice al ll cl]]) (fun q => if q < acc.length then T q else Rg wr.drew.heap.size w1.heap.size) [] (acc ++ [cx])) := hJ4
       have HM4 : Hid (∀ w5, Rr w5 R s (blk s j + 1) 0 0 bb → RTex.fm R s.size w5 < RTex.fm R s.size wr) := fun w5 h5 => by rw [RTex.fm0 h5, HM.out]; omega
       have hlen4 := hJ4.els.len
       have hac4 : (acc ++ [cx]).length ≤ blk s j + 1 := by rw [List.length_append]; simp; omega
       clear hJ4 hu hcx
       have ne2 : ¬ R = w.heap.size := by omega
       by_cases h1 : at' s (blk s j) = 93
       ·have hen : en s 93 j = .ok (true, blk s j + 1) := by unfold en; rw [if_pos h1]
        have hb1 : blk s j < s.size := at_in (by omega)
        rw [hen] at cE
        have HU2 : Hid (U = .ok (.mk 5 false 0 ⟨#[]⟩ [] (acc ++ [cx]), blk s j + 1, bb)) := by
         show _ = _
         rw [← HU.out, HT2.out, if_pos h1]
         rfl
        clear HT2 HU h1 hen
        go_wp2_with fail
        refine cE.mono ?_
        rintro e w5 ⟨⟨rfl, hr5⟩, k5⟩
        have hJ5 := HJ4.out.kr k5 hr5
        have hk5 := hk4.trans k5
        have hbx5 := hJ5.box
        have hrs5 := hJ5.res
        clear cE k0 k1 k2 k3 k4
        obtain ⟨c0, c1, c2, c3, c4, c5⟩ := six_box hbx5
        obtain ⟨r0, r1, r2, r3, r4, r5⟩ := six_box hrs5
        have g0 := frozen_box hrs5 0
        have g1 := frozen_box hrs5 1
        have g2 := frozen_box hrs5 2
        have g3 := frozen_box hrs5 3
        have g4 := frozen_box hrs5 4
        have g5 := frozen_box hrs5 5
        have HRS5 : Hid (w5.heap[w.heap.size]? = some (.cells #[.int .i64 0, .bool false, .int .i64 0, .string ⟨#[]⟩, .slice none 0 0, .slice none 0 0] 27 (0, 0))) := hrs5
        clear hbx5 hrs5
        go_wp2_with fail
        obtain ⟨W6, hW6⟩ : ∃ W6, ((((((w5.setCell ⟨w.heap.size, 0, none⟩ (.int .i64 5)).setCell ⟨w.heap.size, 1, none⟩ (.bool false)).setCell ⟨w.heap.size, 2, none⟩ (.int .i64 0)).setCell ⟨w.heap.size, 3, none⟩ (.string ⟨#[]⟩)).setCell ⟨w.heap.size, 4, none⟩ (.slice none 0 0)).setCell ⟨w.heap.size, 5, none⟩ (.slice (some ⟨g, 0, none⟩) (us.length + 1) cap)) = W6 := ⟨_, rfl⟩
        rw [hW6]
        obtain ⟨q1, q2, q3, q4⟩ := set6 _ _ _ _ _ _ HRS5.out hW6
        obtain ⟨v0, v1, v2, v3, v4, v5⟩ := six_box q1
        refine bodyPost_ret (v := .agg #[.int .i64 5, .bool false, .int .i64 0, .string ⟨#[]⟩, .slice none 0 0, .slice (some ⟨g, 0, none⟩) (us.length + 1) cap]) (by simp [results, Tryz.results31, go_sem, v0, v1, v2, v3, v4, v5]) rfl ?_
        rw [HU2.out]
        exact ⟨⟨⟨_, rfl, hJ5.fs (by decide) (by simp) (by simp) (by omega) q2 q3⟩, hJ5.rr.keep (q2 R (by omega))⟩, ⟨q4 _ _ (Nat.le_of_lt hRlt) hk5.below, fun k hk hs => (q2 k (by omega)).trans (hk5.other k hk hs)⟩⟩
       ·by_cases h2 : at' s (blk s j) = 44
        ·have hen : en s 93 j = .ok (false, blk s j + 1) := by unfold en; rw [if_neg h1, if_pos h2]
         have hb1 : blk s j < s.size := at_in (by omega)
         rw [hen] at cE
         have HT3 : Hid (lst (vl s n) s f (blk s (blk s j + 1)) bb (acc ++ [cx]) = T0) := by
          show _ = _
          rw [HT2.out, if_neg h1, if_pos h2]
         clear HT2 h1 h2 hen
         go_wp2_with fail
         refine cE.mono ?_
         rintro e w5 ⟨⟨rfl, hr5⟩, k5⟩
         clear cE k0 k1 k2 k3 k4
         go_wp2_with fail
         go_roundw
         case rel => exact ⟨blk s j + 1, bb, _, _, _, acc ++ [cx], f, HJ4.out.kr k5 hr5, hk4.trans k5, by omega, hac4, HT3.out, by omega⟩
         case measure => exact HM4.out w5 hr5
        ·have hen : en s 93 j = .error (600, blk s j) := by unfold en; rw [if_neg h1, if_neg h2]
         rw [hen] at cE
         have HU2 : Hid (U = .error (600, blk s j)) := by
          show _ = _
          rw [← HU.out, HT2.out, if_neg h1, if_neg h2]
          rfl
         clear HT2 HU h1 h2 hen
         go_wp2_with fail
         refine cE.mono ?_
         rintro e w5 ⟨⟨rfl, hfl5⟩, k5⟩
         have hlt4 := HJ4.out.lt
         have hbx5 := (k5.other (w.heap.size + 1) (by omega) (by omega)).trans HJ4.out.box
         have hrs5 := (k5.other w.heap.size (by omega) (by omega)).trans HJ4.out.res
         have hk5 := hk4.trans k5
         clear cE k0 k1 k2 k3 k4
         obtain ⟨c0, c1, c2, c3, c4, c5⟩ := six_box hbx5
         obtain ⟨r0, r1, r2, r3, r4, r5⟩ := six_box hrs5
         have g0 := frozen_box hrs5 0
         have g1 := frozen_box hrs5 1
         have g2 := frozen_box hrs5 2
         have g3 := frozen_box hrs5 3
         have g4 := frozen_box hrs5 4
         have g5 := frozen_box hrs5 5
         have HRS5 : Hid (w5.heap[w.heap.size]? = some (.cells #[.int .i64 0, .bool false, .int .i64 0, .string ⟨#[]⟩, .slice none 0 0, .slice none 0 0] 27 (0, 0))) := hrs5
         have HFL : Hid (Flt w5 R s (600, blk s j)) := hfl5
         clear hbx5 hrs5 hfl5
         go_wp2_with fail
         obtain ⟨W6, hW6⟩ : ∃ W6, ((((((w5.setCell ⟨w.heap.size, 0, none⟩ (.int .i64 5)).setCell ⟨w.heap.size, 1, none⟩ (.bool false)).setCell ⟨w.heap.size, 2, none⟩ (.int .i64 0)).setCell ⟨w.heap.size, 3, none⟩ (.string ⟨#[]⟩)).setCell ⟨w.heap.size, 4, none⟩ (.slice none 0 0)).setCell ⟨w.heap.size, 5, none⟩ (.slice (some ⟨g, 0, none⟩) (us.length + 1) cap)) = W6 := ⟨_, rfl⟩
         rw [hW6]
         obtain ⟨q1, q2, q3, q4⟩ := set6 _ _ _ _ _ _ HRS5.out hW6
         obtain ⟨v0, v1, v2, v3, v4, v5⟩ := six_box q1
         refine bodyPost_ret (v := .agg #[.int .i64 5, .bool false, .int .i64 0, .string ⟨#[]⟩, .slice none 0 0, .slice (some ⟨g, 0, none⟩) (us.length + 1) cap]) (by simp [results, Tryz.results31, go_sem, v0, v1, v2, v3, v4, v5]) rfl ?_
         rw [HU2.out]
         obtain ⟨hne, jj, bx, hr5⟩ := HFL.out
         exact ⟨⟨⟨_, _, _, _, _, _, _, _, _, _, rfl⟩, hne, jj, bx, hr5.keep (q2 R (by omega))⟩, ⟨q4 _ _ (Nat.le_of_lt hRlt) hk5.below, fun k hk hs => (q2 k (by omega)).trans (hk5.other k hk hs)⟩⟩
       
      ·go_simp
       refine hK.out _ _ trivial (fun hHeld => ?_)
       clear hK K
       try simp only [Act.put, zA, zB, zC, zD, zE, zF]
       refine wpAnyH_ready (rs := [1]) (by kernel_rfl) (by simp) ?_
       refine AllReadyH.cons rfl (fun K hK => ?_) (AllReadyH.nil)
       go_simp
       refine hK.out _ _ trivial (fun hHeld => ?_)
       clear hK K
       try simp only [Act.put, zA, zB, zC, zD, zE, zF]
       refine wpAnyH_ready (rs := [7]) (by kernel_rfl) (by simp) ?_
       refine AllReadyH.cons rfl (fun K hK => ?_) (AllReadyH.nil)
       refine op_append rfl (Operand.tmp 45) (Operand.tmp 50) 25 rfl rfl rfl hrun ?_
       refine hK.out _ _ trivial (fun hHeld => ?_)
       clear hK K hrun
       try simp only [Act.put, zA, zB, zC, zD, zE, zF]
       refine wpAnyH_take (i := 8) (v := ?_) rfl (by kernel_rfl) (by kernel_rfl) (by kernel_rfl) (fun _ _ _ h => h) (Or.inl ⟨by rfl, ?_⟩) (by assumption) ?_
       rotate_left 1
       ·intro w hSw; (try dsimp only at hSw); go_simp; first | done | with_reducible rfl
       try simp only [Act.put, zA, zB, zC, zD, zE, zF]
       refine wpAnyH_ready (rs := [9]) (by kernel_rfl) (by simp) ?_
       refine AllReadyH.cons rfl (fun K hK => ?_) (AllReadyH.nil)
       go_simp
       refine hK.out _ _ trivial (fun hHeld => ?_)
       clear hK K
       try simp only [Act.put, zA, zB, zC, zD, zE, zF]
       refine wpAnyH_done (by kernel_rfl) ?_ _
       have kb4 := hap.kb HJ.out hk1 (.slice (some ⟨g, 0, none⟩) (us.length + 1) cap)
       have hJ4 := hap.jx HJ.out hk1 (Nat.le_refl wr.heap.size : wr.heap.size ≤ wr.drew.heap.size) hu hr1
       rw [hcx] at hJ4
       have hk4 := kr_kb' hk kb4
       clear hap B3 S3 R3
       generalize w3.setCell ⟨w.heap.size + 1, 5, none⟩ (.slice (some ⟨g, 0, none⟩) (us.length + 1) cap) = W4 at *
       clear m0 m1 m2 m3 m4 m5 n0 n1 n2 n3 n4 n5 o0 o1 o2 o3 o4 o5 of b1 b2 hHeld y0 y1 y2 y3 y4 y5 d0 d1 d2 d3 d4 d5 k0 k1 k2 k3 k4
       obtain ⟨k0, k1, k2, k3, k4⟩ := hJ4.rr.cells
       have cE := ends_c 93 (by omega) (by omega) hj2 hJ4.rr
       unfold ptr at cE
       have hbj := blk_ge s j
       have hbs := blk_in hj2
       have HJ4 : Hid (Jx W4 R w.heap.size n 5 s j bb (.slice none 0 0) (.slice (some ⟨g, 0, none⟩) (us.length + 1) cap) (us ++ [.agg #[.int .i64 ck, .bool cb, .int .i64 ci, .string cs, .slice an ln cn, .slice al ll cl]]) (fun q => if q < acc.length then T q else Rg wr.drew.heap.size w1.heap.size) [] (acc ++ [cx])) := hJ4
       have HM4 : Hid (∀ w5, Rr w5 R s (blk s j + 1) 0 0 bb → RTex.fm R s.size w5 < RTex.fm R s.size wr) := fun w5 h5 => by rw [RTex.fm0 h5, HM.out]; omega
       have hlen4 := hJ4.els.len
       have hac4 : (acc ++ [cx]).length ≤ blk s j + 1 := by rw [List.length_append]; simp; omega
       clear hJ4 hu hcx
       have ne2 : ¬ R = w.heap.size := by omega
       by_cases h1 : at' s (blk s j) = 93
       ·have hen : en s 93 j = .ok (true, blk s j + 1) := by unfold en; rw [if_pos h1]
        have hb1 : blk s j < s.size := at_in (by omega)
        rw [hen] at cE
        have HU2 : Hid (U = .ok (.mk 5 false 0 ⟨#[]⟩ [] (acc ++ [cx]), blk s j + 1, bb)) := by
         show _ = _
         rw [← HU.out, HT2.out, if_pos h1]
         rfl
        clear HT2 HU h1 hen
        go_wp2_with fail
        refine cE.mono ?_
        rintro e w5 ⟨⟨rfl, hr5⟩, k5⟩
        have hJ5 := HJ4.out.kr k5 hr5
        have hk5 := hk4.trans k5
        have hbx5 := hJ5.box
        have hrs5 := hJ5.res
        clear cE k0 k1 k2 k3 k4
        obtain ⟨c0, c1, c2, c3, c4, c5⟩ := six_box hbx5
        obtain ⟨r0, r1, r2, r3, r4, r5⟩ := six_box hrs5
        have g0 := frozen_box hrs5 0
        have g1 := frozen_box hrs5 1
        have g2 := frozen_box hrs5 2
        have g3 := frozen_box hrs5 3
        have g4 := frozen_box hrs5 4
        have g5 := frozen_box hrs5 5
        have HRS5 : Hid (w5.heap[w.heap.size]? = some (.cells #[.int .i64 0, .bool false, .int .i64 0, .string ⟨#[]⟩, .slice none 0 0, .slice none 0 0] 27 (0, 0))) := hrs5
        clear hbx5 hrs5
        go_wp2_with fail
        obtain ⟨W6, hW6⟩ : ∃ W6, ((((((w5.setCell ⟨w.heap.size, 0, none⟩ (.int .i64 5)).setCell ⟨w.heap.size, 1, none⟩ (.bool false)).setCell ⟨w.heap.size, 2, none⟩ (.int .i64 0)).setCell ⟨w.heap.size, 3, none⟩ (.string ⟨#[]⟩)).setCell ⟨w.heap.size, 4, none⟩ (.slice none 0 0)).setCell ⟨w.heap.size, 5, none⟩ (.slice (some ⟨g, 0, none⟩) (us.length + 1) cap)) = W6 := ⟨_, rfl⟩
        rw [hW6]
        obtain ⟨q1, q2, q3, q4⟩ := set6 _ _ _ _ _ _ HRS5.out hW6
        obtain ⟨v0, v1, v2, v3, v4, v5⟩ := six_box q1
        refine bodyPost_ret (v := .agg #[.int .i64 5, .bool false, .int .i64 0, .string ⟨#[]⟩, .slice none 0 0, .slice (some ⟨g, 0, none⟩) (us.length + 1) cap]) (by simp [results, Tryz.results31, go_sem, v0, v1, v2, v3, v4, v5]) rfl ?_
        rw [HU2.out]
        exact ⟨⟨⟨_, rfl, hJ5.fs (by decide) (by simp) (by simp) (by omega) q2 q3⟩, hJ5.rr.keep (q2 R (by omega))⟩, ⟨q4 _ _ (Nat.le_of_lt hRlt) hk5.below, fun k hk hs => (q2 k (by omega)).trans (hk5.other k hk hs)⟩⟩
       ·by_cases h2 : at' s (blk s j) = 44
        ·have hen : en s 93 j = .ok (false, blk s j + 1) := by unfold en; rw [if_neg h1, if_pos h2]
         have hb1 : blk s j < s.size := at_in (by omega)
         rw [hen] at cE
         have HT3 : Hid (lst (vl s n) s f (blk s (blk s j + 1)) bb (acc ++ [cx]) = T0) := by
          show _ = _
          rw [HT2.out, if_neg h1, if_pos h2]
         clear HT2 h1 h2 hen
         go_wp2_with fail
         refine cE.mono ?_
         rintro e w5 ⟨⟨rfl, hr5⟩, k5⟩
         clear cE k0 k1 k2 k3 k4
         go_wp2_with fail
         go_roundw
         case rel => exact ⟨blk s j + 1, bb, _, _, _, acc ++ [cx], f, HJ4.out.kr k5 hr5, hk4.trans k5, by omega, hac4, HT3.out, by omega⟩
         case measure => exact HM4.out w5 hr5
        ·have hen : en s 93 j = .error (600, blk s j) := by unfold en; rw [if_neg h1, if_neg h2]
         rw [hen] at cE
         have HU2 : Hid (U = .error (600, blk s j)) := by
          show _ = _
          rw [← HU.out, HT2.out, if_neg h1, if_neg h2]
          rfl
         clear HT2 HU h1 h2 hen
         go_wp2_with fail
         refine cE.mono ?_
         rintro e w5 ⟨⟨rfl, hfl5⟩, k5⟩
         have hlt4 := HJ4.out.lt
         have hbx5 := (k5.other (w.heap.size + 1) (by omega) (by omega)).trans HJ4.out.box
         have hrs5 := (k5.other w.heap.size (by omega) (by omega)).trans HJ4.out.res
         have hk5 := hk4.trans k5
         clear cE k0 k1 k2 k3 k4
         obtain ⟨c0, c1, c2, c3, c4, c5⟩ := six_box hbx5
         obtain ⟨r0, r1, r2, r3, r4, r5⟩ := six_box hrs5
         have g0 := frozen_box hrs5 0
         have g1 := frozen_box hrs5 1
         have g2 := frozen_box hrs5 2
         have g3 := frozen_box hrs5 3
         have g4 := frozen_box hrs5 4
         have g5 := frozen_box hrs5 5
         have HRS5 : Hid (w5.heap[w.heap.size]? = some (.cells #[.int .i64 0, .bool false, .int .i64 0, .string ⟨#[]⟩, .slice none 0 0, .slice none 0 0] 27 (0, 0))) := hrs5
         have HFL : Hid (Flt w5 R s (600, blk s j)) := hfl5
         clear hbx5 hrs5 hfl5
         go_wp2_with fail
         obtain ⟨W6, hW6⟩ : ∃ W6, ((((((w5.setCell ⟨w.heap.size, 0, none⟩ (.int .i64 5)).setCell ⟨w.heap.size, 1, none⟩ (.bool false)).setCell ⟨w.heap.size, 2, none⟩ (.int .i64 0)).setCell ⟨w.heap.size, 3, none⟩ (.string ⟨#[]⟩)).setCell ⟨w.heap.size, 4, none⟩ (.slice none 0 0)).setCell ⟨w.heap.size, 5, none⟩ (.slice (some ⟨g, 0, none⟩) (us.length + 1) cap)) = W6 := ⟨_, rfl⟩
         rw [hW6]
         obtain ⟨q1, q2, q3, q4⟩ := set6 _ _ _ _ _ _ HRS5.out hW6
         obtain ⟨v0, v1, v2, v3, v4, v5⟩ := six_box q1
         refine bodyPost_ret (v := .agg #[.int .i64 5, .bool false, .int .i64 0, .string ⟨#[]⟩, .slice none 0 0, .slice (some ⟨g, 0, none⟩) (us.length + 1) cap]) (by simp [results, Tryz.results31, go_sem, v0, v1, v2, v3, v4, v5]) rfl ?_
         rw [HU2.out]
         obtain ⟨hne, jj, bx, hr5⟩ := HFL.out
         exact ⟨⟨⟨_, _, _, _, _, _, _, _, _, _, rfl⟩, hne, jj, bx, hr5.keep (q2 R (by omega))⟩, ⟨q4 _ _ (Nat.le_of_lt hRlt) hk5.below, fun k hk hs => (q2 k (by omega)).trans (hk5.other k hk hs)⟩⟩
       
end Go.Proofs.YthkpbhgbmagaeaaGreatDoor.RLis

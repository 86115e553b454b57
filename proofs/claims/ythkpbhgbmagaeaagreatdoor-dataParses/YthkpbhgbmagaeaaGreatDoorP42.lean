import Derived.Deep.CutRange
import Derived.Deep.RegionHeld3
import Derived.Test.YthkpbhgbmagaeaaGreatDoorP38
import Derived.Test.YthkpbhgbmagaeaaGreatDoorP40
import Derived.Test.YthkpbhgbmagaeaaGreatDoorP41
namespace Go.Proofs.YthkpbhgbmagaeaaGreatDoor.RRec
open Go.RowKit Go.Proofs.YthkpbhgbmagaeaaGreatDoor.Base Go.Proofs.YthkpbhgbmagaeaaGreatDoor.UBase Go.Proofs.YthkpbhgbmagaeaaGreatDoor.Spec Go.Proofs.YthkpbhgbmagaeaaGreatDoor.Rdr Go.Proofs.YthkpbhgbmagaeaaGreatDoor.RowR Go.Proofs.YthkpbhgbmagaeaaGreatDoor.Own Go.Proofs.YthkpbhgbmagaeaaGreatDoor.LState Go.Proofs.YthkpbhgbmagaeaaGreatDoor.RRd Go.Proofs.YthkpbhgbmagaeaaGreatDoor.RWd Go.Proofs.YthkpbhgbmagaeaaGreatDoor.RSt Go.Proofs.YthkpbhgbmagaeaaGreatDoor.RVal Go.Proofs.YthkpbhgbmagaeaaGreatDoor.RJx Go.Proofs.YthkpbhgbmagaeaaGreatDoor.RJn Go.Proofs.YthkpbhgbmagaeaaGreatDoor.RLis
set_option linter.unusedVariables false
/-- How a text's answer leaves the reader. -/
theorem txr_all {w : World} {R : Nat} {s : ByteArray} {b p : Nat} {e : Ending} (h : RTex.TxR w R s b e (txt s p)) : ∃ t j F P bb, e = .returned (.string t) ∧ Rr w R s j F P bb ∧ (F ≠ 0 → txt s p = .error (F, P)) ∧ (F = 0 → P = 0 ∧ bb = b ∧ txt s p = .ok (t, j)) := by
 cases hX : txt s p with
 | error x =>
  rw [hX] at h
  obtain ⟨⟨t, rfl⟩, hne, j, bb, hr⟩ := h
  exact ⟨t, j, x.1, x.2, bb, rfl, hr, fun _ => rfl, fun h0 => absurd h0 hne⟩
 | ok z =>
  obtain ⟨t, j⟩ := z
  rw [hX] at h
  obtain ⟨rfl, hr⟩ := h
  exact ⟨t, j, 0, 0, b, rfl, hr, fun h0 => absurd rfl h0, fun _ => ⟨rfl, rfl, rfl⟩⟩
/-- The look through the names: how the fault stands behind i of them. -/
structure St (t : ByteArray) (p : Nat) (ns : List ByteArray) (i F P F' P' : Nat) : Prop where
 old : F ≠ 0 → F' = F ∧ P' = P
 new : F = 0 → (t ∈ ns.take i ∧ F' = 602 ∧ P' = p) ∨ (t ∉ ns.take i ∧ F' = 0 ∧ P' = 0)
theorem St.hit {t : ByteArray} {p : Nat} {ns : List ByteArray} {i F P : Nat} {P' : Nat} (h : St t p ns i F P 0 P') (hi : i < ns.length) (e : ns[i] = t) : St t p ns (i + 1) F P 602 p := by
 refine ⟨fun hF => ?_, fun hF => .inl ⟨?_, rfl, rfl⟩⟩
 ·have := h.old hF; omega
 ·rw [List.take_add_one, List.getElem?_eq_getElem hi, e]; simp
theorem St.more {t : ByteArray} {p : Nat} {ns : List ByteArray} {i F P F' P' : Nat} (h : St t p ns i F P F' P') (hi : i < ns.length) (e : F' ≠ 0 ∨ ns[i] ≠ t) : St t p ns (i + 1) F P F' P' := by
 refine ⟨h.old, fun hF => ?_⟩
 rw [List.take_add_one, List.getElem?_eq_getElem hi]
 rcases h.new hF with ⟨h1, h2, h3⟩ | ⟨h1, h2, h3⟩
 ·exact .inl ⟨List.mem_append_left _ h1, h2, h3⟩
 ·refine .inr ⟨?_, h2, h3⟩
  simp only [Option.toList_some, List.mem_append, List.mem_singleton, not_or]
  exact ⟨h1, fun e2 => by rcases e with e | e; exact e h2; exact e e2.symm⟩
theorem St.bad {s : ByteArray} {v : V} {t : ByteArray} {j b p f : Nat} {ns : List ByteArray} {acc : List C} {F P F' P' : Nat} (h : St t p ns ns.length F P F' P') (h1 : F ≠ 0 → txt s p = .error (F, P)) (h2 : F = 0 → txt s p = .ok (t, j)) (hne : F' ≠ 0) : rcd v s (f + 1) p b ns acc = .error (F', P') := by
 by_cases hF : F = 0
 ·rw [rcd, h2 hF]
  rcases h.new hF with ⟨q1, q2, q3⟩ | ⟨q1, q2, q3⟩
  ·simp only [List.take_length] at q1
   simp only []
   rw [if_pos (has_iff.2 q1), q2, q3]
  ·exact absurd q2 hne
 ·obtain ⟨rfl, rfl⟩ := h.old hF
  rw [rcd, h1 hF]
theorem St.good {s : ByteArray} {v : V} {t : ByteArray} {j b p f : Nat} {ns : List ByteArray} {acc : List C} {F P F' P' : Nat} (h : St t p ns ns.length F P F' P') (h2 : F = 0 → txt s p = .ok (t, j)) (h0 : F' = 0) : F = 0 ∧ txt s p = .ok (t, j) ∧ rcd v s (f + 1) p b ns acc = (if at' s (blk s j) = 58 then match v (blk s j + 1) b with
    | .error e => .error e
    | .ok (c, j, b') => if at' s (blk s j) = 125 then .ok (ns ++ [t], acc ++ [c], blk s j + 1, b')
     else if at' s (blk s j) = 44 then rcd v s f (blk s (blk s j + 1)) b' (ns ++ [t]) (acc ++ [c])
     else .error (600, blk s j)
   else .error (600, blk s j)) := by
 by_cases hF : F = 0
 ·refine ⟨hF, h2 hF, ?_⟩
  rw [rcd, h2 hF]
  rcases h.new hF with ⟨q1, q2, q3⟩ | ⟨q1, q2, q3⟩
  ·omega
  ·simp only [List.take_length] at q1
   simp only []
   rw [if_neg (fun hh => q1 (has_iff.1 hh))]
   by_cases e : at' s (blk s j) = 58
   ·rw [if_pos e, if_pos e]; cases v (blk s j + 1) b <;> rfl
   ·rw [if_neg e, if_neg e]
 ·have := h.old hF
  omega
theorem ne_list {x t : ByteArray} (h : x ≠ t) : (x.toList == t.toList) = false := by
 cases hb : (x.toList == t.toList) with
 | false => rfl
 | true =>
  have := has_iff (t := t) (ns := [x])
  exact absurd (show t = x by simpa using this.1 (by simpa [has] using hb)) (fun e => h e.symm)
theorem rcd_form {s : ByteArray} {v : V} {f p b : Nat} {ns : List ByteArray} {acc : List C} (h : at' s p ≠ 34) : rcd v s (f + 1) p b ns acc = .error (600, p) := by
 have : txt s p = .error (600, p) := by unfold txt; rw [if_neg h]
 rw [rcd, this]
def rsd : Except F (List ByteArray × List C × Nat × Nat) → Except F (C × Nat × Nat)
 | .error e => .error e
 | .ok (m, l, j, b') => .ok (.mk 6 false 0 ⟨#[]⟩ m l, j, b')
theorem rec_of (v : V) (s : ByteArray) (i b : Nat) : rec v s i b = if at' s (blk s (i + 1)) = 125 then .ok (.mk 6 false 0 ⟨#[]⟩ [] [], blk s (i + 1) + 1, b) else rsd (rcd v s (s.size + 1) (blk s (i + 1)) b [] []) := by
 unfold rec rsd
 rfl
theorem row_some {w : World} {B : Nat} {a : Option Addr} {cap n : Nat} {ns : List ByteArray} (h : OwnT w B (.slice a n cap) ns) (hn : 0 < ns.length) : ∃ g, a = some ⟨g, 0, none⟩ := by
 rcases h.2 with ⟨e, e0⟩ | ⟨g, cap', cur, e, _⟩
 ·omega
 ·injection e with e1 e2 e3
  exact ⟨g, e1⟩
set_option maxRecDepth 40000 in
set_option maxHeartbeats 12800000 in
theorem record_of (n d : Nat) (hd : d ≤ 24) (hv : RVs n (d + 1) n) : RRs n d := by
 intro w R s i b hi h
 obtain ⟨U, hU⟩ : ∃ U, rec (vl s n) s i b = U := ⟨_, rfl⟩
 rw [hU]
 rw [rec_of] at hU
 have hRlt := h.lt
 have hsz := h.sz
 have hin : i < s.size := at_in (by omega)
 have hwr : IntKind.i64.wrap ((d : Int) + 1) = (d : Int) + 1 := LOne.wrap_small (by omega) (by omega)
 obtain ⟨k0, k1, k2, k3, k4⟩ := h.cells
 have f1 := h.free 1
 have h0 := h.go (i + 1) (by omega)
 rw [show ((i + 1 : Nat) : Int) = (i : Int) + 1 from by omega] at h0
 have kr0 := (Kr.refl R w).set 1 (.int .i64 ((i : Int) + 1))
 have sz0 : (w.setCell ⟨R, 1, none⟩ (.int .i64 ((i : Int) + 1))).heap.size = w.heap.size := by simp [World.setCell]
 obtain ⟨W1, hW1⟩ : ∃ W1, ((w.setCell ⟨R, 1, none⟩ (.int .i64 ((i : Int) + 1))).alloc (.cells #[.int .i64 0, .bool false, .int .i64 0, .string ⟨#[]⟩, .slice none 0 0, .slice none 0 0] 27)).alloc (.cells #[.int .i64 6, .bool false, .int .i64 0, .string ⟨#[]⟩, .slice none 0 0, .slice none 0 0] 27) = W1 := ⟨_, rfl⟩
 have HW1 : Hid (((w.setCell ⟨R, 1, none⟩ (.int .i64 ((i : Int) + 1))).alloc (.cells #[.int .i64 0, .bool false, .int .i64 0, .string ⟨#[]⟩, .slice none 0 0, .slice none 0 0] 27)).alloc (.cells #[.int .i64 6, .bool false, .int .i64 0, .string ⟨#[]⟩, .slice none 0 0, .slice none 0 0] 27) = W1) := hW1
 obtain ⟨W0, hW0⟩ : ∃ W0, w.setCell ⟨R, 1, none⟩ (.int .i64 ((i : Int) + 1)) = W0 := ⟨_, rfl⟩
 rw [hW0] at h0 kr0 sz0 hW1
 have b0 : Below w.heap.size W0 W1 := by rw [← hW1]; exact ((Below.refl _ W0).alloc (by omega) _).alloc (by simp; omega) _
 have s1 : W1.heap.size = w.heap.size + 2 := by rw [← hW1]; simp [sz0]
 have J1 : Jx W1 R w.heap.size n 6 s (i + 1) b (.slice none 0 0) (.slice none 0 0) [] (fun _ _ => False) [] [] := by
  refine ⟨h0.keep (b0.block R hRlt), hRlt, ?_, ?_, World.ownsRow_nil _ _ _ _, Els.nil _ _ _, (fun g hg => by cases hg), (fun j hj => by simp at hj)⟩
  ·rw [← hW1, Below.heap_alloc _ _ _ (by simp; omega)]
   have := heap_alloc_new W0 (.cells #[.int .i64 0, .bool false, .int .i64 0, .string ⟨#[]⟩, .slice none 0 0, .slice none 0 0] 27)
   rwa [sz0] at this
  ·have := heap_alloc_new (W0.alloc (.cells #[.int .i64 0, .bool false, .int .i64 0, .string ⟨#[]⟩, .slice none 0 0, .slice none 0 0] 27)) (.cells #[.int .i64 6, .bool false, .int .i64 0, .string ⟨#[]⟩, .slice none 0 0, .slice none 0 0] 27)
   rw [World.size_alloc, sz0] at this
   rw [← hW1]
   exact this
 have kr1 : Kr R w W1 := kr0.trans ⟨b0.mono (Nat.le_of_lt hRlt), fun k _ hk => b0.block k (by omega)⟩
 have cB := blanks_c J1.rr
 unfold ptr at cB ⊢
 have HJ1 : Hid (Jx W1 R w.heap.size n 6 s (i + 1) b (.slice none 0 0) (.slice none 0 0) [] (fun _ _ => False) [] []) := J1
 have HK1 : Hid (Kr R w W1) := kr1
 have HU : Hid ((if at' s (blk s (i + 1)) = 125 then .ok (.mk 6 false 0 ⟨#[]⟩ [] [], blk s (i + 1) + 1, b) else rsd (rcd (vl s n) s (s.size + 1) (blk s (i + 1)) b [] [])) = U) := hU
 have HV : Hid (RVs n (d + 1) n) := hv
 clear h hU hv hW1 hW0 J1 kr0 kr1 b0 h0 sz0
 go_enter Tryz.func32, Tryz.ntmps32
 go_wp2_with fail
 rw [HW1.out]
 refine cB.mono ?_
 rintro e w2 ⟨rfl, hr2, kr2⟩
 have hJ2 := HJ1.out.kr kr2 hr2
 have hk2 := HK1.out.trans kr2
 clear cB HW1 HJ1 HK1 k0 k1 k2 k3 k4 f1 kr2 hr2
 obtain ⟨q, hq⟩ : ∃ q, blk s (i + 1) = q := ⟨_, rfl⟩
 have hqs := blk_in (show i + 1 ≤ s.size by omega)
 have hqn := blk_blk s (i + 1)
 rw [hq] at hJ2 HU hqs hqn
 clear hq
 have hrr := hJ2.rr
 have HJ2 : Hid (Jx w2 R w.heap.size n 6 s q b (.slice none 0 0) (.slice none 0 0) [] (fun _ _ => False) [] []) := hJ2
 obtain ⟨k0, k1, k2, k3, k4⟩ := hJ2.rr.cells
 have hP := fun k => peekQ hrr k
 have hs2 := hk2.below.size
 have hy256 : at' s q < 256 := at_lt s q
 clear hJ2 hrr
 go_wp2_with fail
 go_cut [33] from 19 to 40 (fun t wx => t = .bool (decide (at' s q = 125)) ∧ ∃ kq, wx = w2.drewN kq)
 case first =>
  by_cases hqlt : q < s.size
  ·have d0 : decide (q < s.size) = true := decide_eq_true hqlt
   obtain ⟨y, hy⟩ : ∃ y, at' s q = y := ⟨_, rfl⟩
   rw [hy] at hP hy256
   have HY : Hid (at' s q = y) := hy
   have e1 : ((y : Int) == 125) = decide (y = 125) := by rw [Bool.eq_iff_iff]; simp; omega
   clear hy
   go_quiet (first | (go_at_call 27; exact hP _))
   go_wp2_with fail
   go_meet
   case rel => exact ⟨by rw [HY.out], nq, rfl⟩
  ·have d0 : decide (q < s.size) = false := decide_eq_false hqlt
   have e2 : decide (at' s q = 125) = false := decide_eq_false (by rw [at_out s q hqlt]; omega)
   have E2 : Hid (decide (at' s q = 125) = false) := e2
   clear e2
   go_quiet (first | (go_at_call 27; exact hP _))
   go_wp2_with fail
   go_meet
   case rel => exact ⟨by rw [E2.out], nq, rfl⟩
 case rest =>
  obtain ⟨rfl, kq, rfl⟩ := hcut
  have hJ3 := HJ2.out.kr ((Kr.refl R w2).drewN kq) (HJ2.out.rr.drewN kq)
  have hk3 := hk2.drewN kq
  clear HJ2 hk2 hP hs2 k0 k1 k2 k3 k4
  generalize w2.drewN kq = W2 at *
  by_cases h125 : at' s q = 125
  ·have hqlt : q < s.size := at_in (by omega)
   have dd : decide (at' s q = 125) = true := decide_eq_true h125
   rw [if_pos h125] at HU
   rw [dd]
   clear h125 HV dd
   have hJ4 := hJ3.kr ((Kr.refl R _).set 1 (.int .i64 ((q + 1 : Nat) : Int))) (hJ3.rr.go (q + 1) (by omega))
   rw [show ((q + 1 : Nat) : Int) = (q : Int) + 1 from by omega] at hJ4
   have hk4 := hk3.set 1 (.int .i64 ((q : Int) + 1))
   obtain ⟨k0, k1, k2, k3, k4⟩ := hJ3.rr.cells
   have f1 := hJ3.rr.free 1
   have hbx := hJ4.box
   have hrs := hJ4.res
   have HJ4 : Hid (Jx (W2.setCell ⟨R, 1, none⟩ (.int .i64 ((q : Int) + 1))) R w.heap.size n 6 s (q + 1) b (.slice none 0 0) (.slice none 0 0) [] (fun _ _ => False) [] []) := hJ4
   obtain ⟨c0, c1, c2, c3, c4, c5⟩ := six_box hbx
   obtain ⟨r0, r1, r2, r3, r4, r5⟩ := six_box hrs
   have g0 := frozen_box hrs 0
   have g1 := frozen_box hrs 1
   have g2 := frozen_box hrs 2
   have g3 := frozen_box hrs 3
   have g4 := frozen_box hrs 4
   have g5 := frozen_box hrs 5
   have ne1 : ¬ R = w.heap.size + 1 := by omega
   have ne2 : ¬ R = w.heap.size := by omega
   have HRS : Hid ((W2.setCell ⟨R, 1, none⟩ (.int .i64 ((q : Int) + 1))).heap[w.heap.size]? = some (.cells #[.int .i64 0, .bool false, .int .i64 0, .string ⟨#[]⟩, .slice none 0 0, .slice none 0 0] 27 (0, 0))) := hrs
   clear hJ3 hJ4 hbx hrs
   go_wp2_with fail
   obtain ⟨W6, hW6⟩ : ∃ W6, (((((((W2.setCell ⟨R, 1, none⟩ (.int .i64 ((q : Int) + 1))).setCell ⟨w.heap.size, 0, none⟩ (.int .i64 6)).setCell ⟨w.heap.size, 1, none⟩ (.bool false)).setCell ⟨w.heap.size, 2, none⟩ (.int .i64 0)).setCell ⟨w.heap.size, 3, none⟩ (.string ⟨#[]⟩)).setCell ⟨w.heap.size, 4, none⟩ (.slice none 0 0)).setCell ⟨w.heap.size, 5, none⟩ (.slice none 0 0)) = W6 := ⟨_, rfl⟩
   rw [hW6]
   obtain ⟨q1, q2, q3, q4⟩ := set6 _ _ _ _ _ _ HRS.out hW6
   obtain ⟨v0, v1, v2, v3, v4, v5⟩ := six_box q1
   refine bodyPost_ret (v := .agg #[.int .i64 6, .bool false, .int .i64 0, .string ⟨#[]⟩, .slice none 0 0, .slice none 0 0]) (by simp [results, Tryz.results32, go_sem, v0, v1, v2, v3, v4, v5]) rfl ?_
   rw [← HU.out]
   exact ⟨⟨⟨_, rfl, HJ4.out.fs (by decide) (by simp) (by simp) (by simp) q2 q3⟩, HJ4.out.rr.keep (q2 R (by omega))⟩, ⟨q4 _ _ (Nat.le_of_lt hRlt) hk4.below, fun k hk hs => (q2 k (by omega)).trans (hk4.other k hk hs)⟩⟩
  ·have dd : decide (at' s q = 125) = false := decide_eq_false h125
   rw [if_neg h125] at HU
   rw [dd]
   obtain ⟨T0, hT0⟩ : ∃ T0, rcd (vl s n) s (s.size + 1) q b [] [] = T0 := ⟨_, rfl⟩
   rw [hT0] at HU
   rw [← hqn] at hT0
   have HT0 : Hid (rcd (vl s n) s (s.size + 1) (blk s q) b [] [] = T0) := hT0
   have HJ3 : Hid (Jx W2 R w.heap.size n 6 s q b (.slice none 0 0) (.slice none 0 0) [] (fun _ _ => False) [] []) := hJ3
   have HK3 : Hid (Kr R w W2) := hk3
   clear hT0 h125 dd hJ3 hk3 hy256
   go_wp2_with fail
   go_loopw [6, 7, 8] (fun _ _ _ wr => ∃ q' b' nv lv us T ns acc f, Jx wr R w.heap.size n 6 s q' b' nv lv us T ns acc ∧ Kr R w wr ∧ q' ≤ s.size ∧ ns.length ≤ q' ∧ acc.length ≤ q' ∧ (∀ t ∈ ns, t.size ≤ 4096) ∧ rcd (vl s n) s f (blk s q') b' ns acc = T0 ∧ s.size < q' + f) (fun _ _ _ wr => RTex.fm R s.size wr)
   case atStart => exact ⟨q, b, _, _, _, _, [], [], s.size + 1, HJ3.out, HK3.out, hqs, by simp, by simp, by simp, HT0.out, by omega⟩
   case round =>
    clear HJ3 HK3 HT0 hqs hqn
    obtain ⟨q', b', nv, lv, us, T, ns, acc, f, hJ, hk, hq', hnl, hacc, hsm, hT, hf⟩ := hrel
    obtain ⟨f, rfl⟩ : ∃ f', f = f' + 1 := ⟨f - 1, by omega⟩
    have HM : Hid (RTex.fm R s.size wr = s.size + 1 - q') := RTex.fm0 hJ.rr _
    have HMM : Hid (∀ W j bb, q' < j → Rr W R s j 0 0 bb → RTex.fm R s.size W < RTex.fm R s.size wr) := fun W j bb hj hr => by
     rw [RTex.fm0 hr, HM.out]
     omega
    obtain ⟨k0, k1, k2, k3, k4⟩ := hJ.rr.cells
    have hlt := hJ.lt
    have hul : us.length ≤ 65536 := by have := hJ.els.len; omega
    obtain ⟨⟨al0, cl0, elv⟩, an0, cn0, env⟩ := hJ.shape
    subst elv
    subst env
    have HJ : Hid (Jx wr R w.heap.size n 6 s q' b' (.slice an0 ns.length cn0) (.slice al0 us.length cl0) us T ns acc) := hJ
    have HSM : Hid (∀ t ∈ ns, t.size ≤ 4096) := hsm
    have cB := blanks_c hJ.rr
    unfold ptr at cB
    obtain ⟨p, hp⟩ : ∃ p, blk s q' = p := ⟨_, rfl⟩
    have hpq := blk_ge s q'
    have hps := blk_in hq'
    rw [hp] at cB hT hpq hps
    have HT : Hid (rcd (vl s n) s (f + 1) p b' ns acc = T0) := hT
    clear hJ hT hp hsm
    go_wp2_with fail
    refine cB.mono ?_
    rintro e w2 ⟨rfl, hr2, kr2⟩
    have hJ2 := HJ.out.kr kr2 hr2
    have hk2 := hk.trans kr2
    clear cB HJ hk kr2 hr2 k0 k1 k2 k3 k4
    obtain ⟨k0, k1, k2, k3, k4⟩ := hJ2.rr.cells
    have HJ2 : Hid (Jx w2 R w.heap.size n 6 s p b' (.slice an0 ns.length cn0) (.slice al0 us.length cl0) us T ns acc) := hJ2
    have hlt2 := hJ2.lt
    clear hlt
    by_cases hplt : p < s.size
    ·have d0 : decide (s.size ≤ p) = false := decide_eq_false (by omega)
     obtain ⟨y, hy⟩ : ∃ y, (s[p]'hplt).toNat = y := ⟨_, rfl⟩
     have hya : at' s p = y := by rw [← hy]; exact at_get s p hplt
     have hy256 : y < 256 := by rw [← hya]; exact at_lt s p
     by_cases h34 : y = 34
     ·have e34 : ((y : Int) == 34) = true := by simp [h34]
      have HYP : Hid (at' s p = 34) := hya.trans h34
      clear h34 hJ2 hya
      go_wp2_with fail
      go_quiet (fail)
      have hJ3 := HJ2.out.kr ((Kr.refl R w2).drewN nq) (HJ2.out.rr.drewN nq)
      have hk3 := hk2.drewN nq
      clear HJ2 hk2 k0 k1 k2 k3 k4 hlt2
      generalize w2.drewN nq = W3 at *
      have cT := RTex.text_c HYP.out hJ3.rr
      unfold ptr at cT
      have hlt3 := hJ3.lt
      have HJ3 : Hid (Jx W3 R w.heap.size n 6 s p b' (.slice an0 ns.length cn0) (.slice al0 us.length cl0) us T ns acc) := hJ3
      clear hJ3 HYP
      go_wp2_with fail
      refine cT.mono ?_
      rintro e w4 ⟨hTx, kr4⟩
      obtain ⟨t, j, F, P, bb, rfl, hr4, hF1, hF2⟩ := txr_all hTx
      have HF1 : Hid (F ≠ 0 → txt s p = .error (F, P)) := hF1
      have HF2 : Hid (F = 0 → P = 0 ∧ bb = b' ∧ txt s p = .ok (t, j)) := hF2
      have HR4 : Hid (Rr w4 R s j F P bb) := hr4
      have HK4 : Hid (Kr R W3 w4) := kr4
      clear cT hTx hF1 hF2 hr4 kr4
      go_wp2_with fail
      go_loopw [8] (fun iv wx => ∃ (i F' P' : Nat), iv = .int .i64 (i : Nat) ∧ i ≤ ns.length ∧ Rr wx R s j F' P' bb ∧ Kr R W3 wx ∧ St t p ns i F P F' P') (fun iv wx => ns.length - (intOf iv).toNat)
      case atStart => exact ⟨0, F, P, rfl, by omega, HR4.out, HK4.out, ⟨fun _ => ⟨rfl, rfl⟩, fun h0 => .inr ⟨by simp, h0, (HF2.out h0).1⟩⟩⟩
      case round =>
       clear HR4 HK4
       obtain ⟨i, F', P', rfl, hi2, hrx, hkx, hst⟩ := hrel
       have HST : Hid (St t p ns i F P F' P') := hst
       have hbx := (hkx.other (w.heap.size + 1) (by omega) (by omega)).trans HJ3.out.box
       obtain ⟨c0, c1, c2, c3, c4, c5⟩ := six_box hbx
       have hot := Byts.own_kr HJ3.out.own hkx (by omega)
       obtain ⟨k0, k1, k2, k3, k4⟩ := hrx.cells
       clear hst hbx
       by_cases hil : i < ns.length
       ·obtain ⟨g0, rfl⟩ := row_some hot (by omega)
        have hc1 := ownT_cell hot i hil
        have hc2 := hc1
        rw [Nat.zero_add] at hc2
        have hcap := ownT_cap hot
        obtain ⟨-, hcap1, hcap2⟩ := hcap
        have hnx := HST.out.more hil
        obtain ⟨x, hx⟩ : ∃ x, ns[i] = x := ⟨_, rfl⟩
        rw [hx] at hc1 hc2 hnx
        have HX : Hid (ns[i] = x) := hx
        have HNX : Hid (F' ≠ 0 ∨ x ≠ t → St t p ns (i + 1) F P F' P') := hnx
        have HMI : Hid (ns.length - (intOf (.int .i64 ((i : Int) + 1))).toNat < ns.length - (intOf (.int .i64 (i : Int))).toNat) := by
         have t1 : ((i : Int) + 1).toNat = i + 1 := by omega
         have t2 : ((i : Int)).toNat = i := by omega
         show _ - ((i : Int) + 1).toNat < _ - ((i : Int)).toNat
         rw [t1, t2]
         omega
        have di : decide ((i : Int) < (ns.length : Int)) = true := decide_eq_true (by omega)
        have hi1 : (0 : Int) ≤ (i : Int) := by omega
        have hi3 : (i : Int) < (ns.length : Int) := by omega
        have hwi : IntKind.i64.wrap ((i : Int) + 1) = (i : Int) + 1 := LOne.wrap_small (by omega) (by omega)
        clear hx hnx hot
        by_cases hxt : x = t
        ·have dx : (x.toList == t.toList) = true := by rw [hxt]; simp
         by_cases hF0 : F' = 0
         ·subst hF0
          have hH : Hid (St t p ns (i + 1) F P 602 p) := HST.out.hit hil (HX.out.trans hxt)
          have cF := fail_first hrx 602 p (by omega) (by omega)
          unfold ptr at cF
          clear hxt hrx
          go_wp2_with fail
          refine cF.mono ?_
          rintro e w5 ⟨rfl, hF5, kr5⟩
          clear cF k0 k1 k2 k3 k4 c0 c1 c2 c3 c4 c5 hc1 hc2
          go_wp2_with fail
          go_roundw
          case rel => exact ⟨i + 1, 602, p, by simp, by omega, hF5, hkx.trans kr5, hH.out⟩
          case measure => exact HMI.out
         ·have cF := fail_more hrx hF0 602 (p : Int)
          unfold ptr at cF
          have hN : Hid (St t p ns (i + 1) F P F' P') := HNX.out (.inl hF0)
          have HRX : Hid (Rr wr R s j F' P' bb) := hrx
          clear hxt hrx
          go_wp2_with fail
          refine cF.mono ?_
          rintro e w5 ⟨rfl, rfl⟩
          go_wp2_with fail
          go_roundw
          case rel => exact ⟨i + 1, F', P', by simp, by omega, HRX.out, hkx, hN.out⟩
          case measure => exact HMI.out
        ·have dx : (x.toList == t.toList) = false := ne_list hxt
         have hN : Hid (St t p ns (i + 1) F P F' P') := HNX.out (.inr hxt)
         have HRX : Hid (Rr wr R s j F' P' bb) := hrx
         clear hxt hrx
         go_wp2_with fail
         go_roundw
         case rel => exact ⟨i + 1, F', P', by simp, by omega, HRX.out, hkx, hN.out⟩
         case measure => exact HMI.out
       ·have hie : i = ns.length := by omega
        subst hie
        have di : decide ((ns.length : Int) < (ns.length : Int)) = false := decide_eq_false (by omega)
        have cB2 := blanks_c hrx
        unfold ptr at cB2
        clear hot hi2 hrx hil
        go_wp2_with fail
        refine cB2.mono ?_
        rintro e w6 ⟨rfl, hr6, kr6⟩
        have kx6 := hkx.trans kr6
        have hk6 := hk3.trans kx6
        clear cB2 k0 k1 k2 k3 k4 c0 c1 c2 c3 c4 c5 kr6 hkx
        by_cases hF0 : F' = 0
        ·subst hF0
         obtain ⟨hFz, htx, hrcd⟩ := HST.out.good (s := s) (v := vl s n) (b := b') (f := f) (acc := acc) (fun h0 => (HF2.out h0).2.2) rfl
         obtain ⟨-, hbb, -⟩ := HF2.out hFz
         have hP0 : P' = 0 := by rcases HST.out.new hFz with ⟨-, h1, -⟩ | ⟨-, -, h1⟩; omega; exact h1
         subst hP0
         subst hbb
         have hxin := SpecIn.txt_in htx
         obtain ⟨hx1, hx2, hx3, hx4⟩ := hxin
         have hJ6 := HJ3.out.kr kx6 hr6
         rw [HT.out] at hrcd
         obtain ⟨p2, hp2⟩ : ∃ p2, blk s j = p2 := ⟨_, rfl⟩
         have hpq2 := blk_ge s j
         have hps2 := blk_in hx2
         rw [hp2] at hJ6 hrcd hpq2 hps2
         have HJ6 : Hid (Jx w6 R w.heap.size n 6 s p2 bb (.slice an0 ns.length cn0) (.slice al0 us.length cl0) us T ns acc) := hJ6
         obtain ⟨k0, k1, k2, k3, k4⟩ := hJ6.rr.cells
         clear HF1 HF2 HST HT hr6 hp2 hJ6 htx hFz
         by_cases hplt2 : p2 < s.size
         ·have d2 : decide (s.size ≤ p2) = false := decide_eq_false (by omega)
          obtain ⟨y2, hy2⟩ : ∃ y2, (s[p2]'hplt2).toNat = y2 := ⟨_, rfl⟩
          have hya2 : at' s p2 = y2 := by rw [← hy2]; exact at_get s p2 hplt2
          have hy2562 : y2 < 256 := by rw [← hya2]; exact at_lt s p2
          rw [hya2] at hrcd
          clear hya2
          by_cases h58 : y2 = 58
          ·have e58 : ((y2 : Int) == 58) = true := by simp [h58]
           rw [if_pos h58] at hrcd
           have HT2 : Hid (T0 = match vl s n (p2 + 1) bb with | .error e => .error e | .ok (c, j, b') => if at' s (blk s j) = 125 then .ok (ns ++ [t], acc ++ [c], blk s j + 1, b') else if at' s (blk s j) = 44 then rcd (vl s n) s f (blk s (blk s j + 1)) b' (ns ++ [t]) (acc ++ [c]) else .error (600, blk s j)) := by
            show _ = _
            rw [hrcd]
           clear hrcd h58
           go_wp2_with fail
           go_quiet (fail)
           have hJ7 := HJ6.out.kr ((Kr.refl R w6).drewN nq) (HJ6.out.rr.drewN nq)
           clear k0 k1 k2 k3 k4
           obtain ⟨k0, k1, k2, k3, k4⟩ := hJ7.rr.cells
           have f1 := hJ7.rr.free 1
           have hJ8 := hJ7.kr ((Kr.refl R _).set 1 (.int .i64 ((p2 + 1 : Nat) : Int))) (hJ7.rr.go (p2 + 1) (by omega))
           rw [show ((p2 + 1 : Nat) : Int) = (p2 : Int) + 1 from by omega] at hJ8
           have hk8 := (hk6.drewN nq).set 1 (.int .i64 ((p2 : Int) + 1))
           have hw2 : IntKind.i64.wrap ((p2 : Int) + 1) = (p2 : Int) + 1 := LOne.wrap_small (by omega) (by omega)
           obtain ⟨gn, capn, w8, hrun, han⟩ := Jx.appN hJ8 (by omega) t
           have sz7 : ((w6.drewN nq).setCell ⟨R, 1, none⟩ (.int .i64 ((p2 : Int) + 1))).heap.size = w6.heap.size := by simp [World.setCell]
           rw [sz7] at hrun
           clear sz7
           have B7 := hJ7.box
           have B8 := hJ8.box
           have B9 := An.keep hJ8 han
           obtain ⟨c0, c1, c2, c3, c4, c5⟩ := six_box B7
           obtain ⟨m0, m1, m2, m3, m4, m5⟩ := six_box B8
           obtain ⟨n0, n1, n2, n3, n4, n5⟩ := six_box B9
           have nf := frozen_box B9 4
           obtain ⟨hJ9, kb9⟩ := An.jx hJ8 han
           have HJ9 : Hid (Jx (w8.setCell ⟨w.heap.size + 1, 4, none⟩ (.slice (some ⟨gn, 0, none⟩) (ns.length + 1) capn)) R w.heap.size n 6 s (p2 + 1) bb (.slice (some ⟨gn, 0, none⟩) (ns.length + 1) capn) (.slice al0 us.length cl0) us T (ns ++ [t]) acc) := hJ9
           have HK9 : Hid (Kr R w (w8.setCell ⟨w.heap.size + 1, 4, none⟩ (.slice (some ⟨gn, 0, none⟩) (ns.length + 1) capn))) := kr_kb' hk8 kb9
           have ne1 : ¬ R = w.heap.size + 1 := by omega
           have ne2 : ¬ w.heap.size + 1 = R := by omega
           clear hJ7 hJ8 hJ9 kb9 han HJ6 HJ3 B7 B8 B9
           go_wp2_with (first | (at_builtin; refine list_app rfl _ _ _ rfl rfl rfl hrun ?_))
           generalize w8.setCell ⟨w.heap.size + 1, 4, none⟩ (.slice (some ⟨gn, 0, none⟩) (ns.length + 1) capn) = W8 at *
           clear c0 c1 c2 c3 c4 c5 m0 m1 m2 m3 m4 m5 n0 n1 n2 n3 n4 n5 nf k0 k1 k2 k3 k4 f1 hrun ne1 ne2
           have hJb := HJ9.out.box
           have hrr := HJ9.out.rr
           have hlt9 := HJ9.out.lt
           have CV : Hid (∀ W', Below W8.heap.size W8 W' → Calls Tryz.prog 14 #[.pointer (some ⟨R, 0, none⟩), .int .i64 ((d : Int) + 1)] W' fun e w' => RvR W' w' R s n e (vl s n (p2 + 1) bb) ∧ Kr R W' w') := fun W' hW' => HV.out W' R s (p2 + 1) bb (by omega) (hrr.below hW')
           have HXI : Hid (∀ c j b2, vl s n (p2 + 1) bb = .ok (c, j, b2) → p2 + 1 < j ∧ j ≤ s.size) := fun c j b2 e => by have := SpecIn.vl_in s n (p2 + 1) bb c j b2 (by omega) e; omega
           obtain ⟨X, hX⟩ : ∃ X, vl s n (p2 + 1) bb = X := ⟨_, rfl⟩
           rw [hX] at CV HXI HT2
           obtain ⟨y0, y1, y2', y3, y4, y5⟩ := six_box hJb
           obtain ⟨d0', d1, d2', d3, d4, d5⟩ := six_box (w := W8.drew) hJb
           have HN2 : Hid (∀ t' ∈ ns ++ [t], t'.size ≤ 4096) := fun t' ht => by
            rcases List.mem_append.1 ht with h1 | h1
            ·exact HSM.out t' h1
            ·simp at h1; subst h1; exact hx3
           clear hrr hX HV HSM hx3
           cases X with
           | error x =>
            have HU2 : Hid (U = .error x) := by
             show _ = _
             rw [← HU.out, HT2.out]
             rfl
            clear HU HT2 HXI
            refine wp_region_held_drew (S := fun _ => True) (by kernel_rfl) trivial (fun hHeld => ?_)
            refine wpAnyH_take (i := 0) (v := ?_) rfl (by kernel_rfl) (by kernel_rfl) (by kernel_rfl) (fun _ _ _ h => h) (Or.inl ⟨by rfl, ?_⟩) (by assumption) ?_
            rotate_left 1
            ·intro w hSw; (try dsimp only at hSw); go_simp; first | done | with_reducible rfl
            try simp only [Act.put, zA, zB, zD, zE, zF]
            refine wpAnyH_take (i := 2) (v := ?_) rfl (by kernel_rfl) (by kernel_rfl) (by kernel_rfl) (fun _ _ _ h => h) (Or.inl ⟨by rfl, ?_⟩) (by assumption) ?_
            rotate_left 1
            ·intro w hSw; (try dsimp only at hSw); go_simp; first | done | with_reducible rfl
            try simp only [Act.put, zA, zB, zC, zD, zE, zF]
            refine wpAnyH_take (i := 3) (v := ?_) rfl (by kernel_rfl) (by kernel_rfl) (by kernel_rfl) (fun _ _ _ h => h) (Or.inl ⟨by rfl, ?_⟩) (by assumption) ?_
            rotate_left 1
            ·intro w hSw; (try dsimp only at hSw); go_simp; first | done | with_reducible rfl
            try simp only [Act.put, zA, zB, zC, zD, zE, zF]
            refine wpAnyH_take (i := 4) (v := ?_) rfl (by kernel_rfl) (by kernel_rfl) (by kernel_rfl) (fun _ _ _ h => h) (Or.inl ⟨by rfl, ?_⟩) (by assumption) ?_
            rotate_left 1
            ·intro w hSw; (try dsimp only at hSw); go_simp; first | done | with_reducible rfl
            try simp only [Act.put, zA, zB, zC, zD, zE, zF]
            refine wpAnyH_ready (rs := [1, 5]) (by kernel_rfl) (by simp) ?_
            refine AllReadyH.cons rfl (fun K hK => ?_) (AllReadyH.cons rfl (fun K hK => ?_) (AllReadyH.nil))
            ·go_simp
             refine hK.out _ _ trivial (fun hHeld => ?_)
             clear hK K
             try simp only [Act.put, zA, zB, zC, zD, zE, zF]
             refine wpAnyH_ready (rs := [5]) (by kernel_rfl) (by simp) ?_
             refine AllReadyH.cons rfl (fun K hK => ?_) (AllReadyH.nil)
             go_simp
             refine (CV.out _ ((Below.refl _ W8).drew)).mono ?_
             rintro e w1 ⟨⟨⟨kx, bo, xx, tx, an, ln, cn, al, ll, cl, rfl⟩, hfl⟩, k1⟩
             have hk1 : Kr R W8 w1 := ((Kr.refl R W8).drew).trans k1
             obtain ⟨g, cap, w3, hrun, hap⟩ := HJ9.out.app hk1 hul _ _ _ _ _ _ (one6 kx bo xx tx an ln cn al ll cl)
             obtain ⟨B3, S3, R3⟩ := hap.keep HJ9.out hk1
             have b1 := (hk1.other (w.heap.size + 1) (by omega) (by omega)).trans hJb
             have b2 := six_alloc b1 #[.int .i64 kx, .bool bo, .int .i64 xx, .string tx, .slice an ln cn, .slice al ll cl]
             obtain ⟨m0, m1, m2, m3, m4, m5⟩ := six_box b1
             obtain ⟨n0, n1, n2, n3, n4, n5⟩ := six_box b2
             obtain ⟨o0, o1, o2, o3, o4, o5⟩ := six_box B3
             have of := frozen_box B3 5
             go_wp2_with fail
             refine hK.out _ _ trivial (fun hHeld => ?_)
             clear hK K
             try simp only [Act.put, zA, zB, zC, zD, zE, zF]
             refine wpAnyH_ready (rs := [6]) (by kernel_rfl) (by simp) ?_
             refine AllReadyH.cons rfl (fun K hK => ?_) (AllReadyH.nil)
             go_simp
             refine hK.out _ _ trivial (fun hHeld => ?_)
             clear hK K
             try simp only [Act.put, zA, zB, zC, zD, zE, zF]
             refine wpAnyH_ready (rs := [7]) (by kernel_rfl) (by simp) ?_
             refine AllReadyH.cons rfl (fun K hK => ?_) (AllReadyH.nil)
             refine op_append rfl (Operand.tmp 149) (Operand.tmp 154) 25 rfl rfl rfl hrun ?_
             refine hK.out _ _ trivial (fun hHeld => ?_)
             clear hK K hrun
             try simp only [Act.put, zA, zB, zC, zD, zE, zF]
             refine wpAnyH_take (i := 8) (v := ?_) rfl (by kernel_rfl) (by kernel_rfl) (by kernel_rfl) (fun _ _ _ h => h) (Or.inl ⟨by rfl, ?_⟩) (by assumption) ?_
             rotate_left 1
             ·intro w hSw; (try dsimp only at hSw); go_simp; first | done | with_reducible rfl
             try simp only [Act.put, zA, zB, zC, zD, zE, zF]
             refine wpAnyH_ready (rs := [9]) (by kernel_rfl) (by simp) ?_
             refine AllReadyH.cons rfl (fun K hK => ?_) (AllReadyH.nil)
             go_simp
             refine hK.out _ _ trivial (fun hHeld => ?_)
             clear hK K
             try simp only [Act.put, zA, zB, zC, zD, zE, zF]
             refine wpAnyH_done (by kernel_rfl) ?_ _
             have kb4 := hap.kb HJ9.out hk1 (.slice (some ⟨g, 0, none⟩) (us.length + 1) cap)
             obtain ⟨B4, S4, R4⟩ := hap.box HJ9.out hk1 (.slice (some ⟨g, 0, none⟩) (us.length + 1) cap)
             have hk4 := kr_kb' HK9.out kb4
             have hfl4 : Flt (w3.setCell ⟨w.heap.size + 1, 5, none⟩ (.slice (some ⟨g, 0, none⟩) (us.length + 1) cap)) R s x := by
              obtain ⟨hne, jj, bx, hr⟩ := hfl
              exact ⟨hne, jj, bx, hr.keep R4⟩
             generalize w3.setCell ⟨w.heap.size + 1, 5, none⟩ (.slice (some ⟨g, 0, none⟩) (us.length + 1) cap) = W4 at *
             clear m0 m1 m2 m3 m4 m5 n0 n1 n2 n3 n4 n5 o0 o1 o2 o3 o4 o5 of b1 b2 hHeld y0 y1 y2' y3 y4 y5 d0' d1 d2' d3 d4 d5
             clear B3 S3 R3
             have HFL : Hid (Flt W4 R s x) := hfl4
             obtain ⟨hne, jj, bx, hr4⟩ := hfl4
             obtain ⟨k0, k1, k2, k3, k4⟩ := hr4.cells
             have e0 : ((x.1 : Int) == 0) = false := by simp; omega
             obtain ⟨c0, c1, c2, c3, c4, c5⟩ := six_box B4
             obtain ⟨r0, r1, r2, r3, r4, r5⟩ := six_box S4
             have g0 := frozen_box S4 0
             have g1 := frozen_box S4 1
             have g2 := frozen_box S4 2
             have g3 := frozen_box S4 3
             have g4 := frozen_box S4 4
             have g5 := frozen_box S4 5
             have HS4 : Hid (W4.heap[w.heap.size]? = some (.cells #[.int .i64 0, .bool false, .int .i64 0, .string ⟨#[]⟩, .slice none 0 0, .slice none 0 0] 27 (0, 0))) := S4
             clear S4 B4 hr4
             go_wp2_with fail
             obtain ⟨W6, hW6⟩ : ∃ W6, ((((((W4.setCell ⟨w.heap.size, 0, none⟩ (.int .i64 6)).setCell ⟨w.heap.size, 1, none⟩ (.bool false)).setCell ⟨w.heap.size, 2, none⟩ (.int .i64 0)).setCell ⟨w.heap.size, 3, none⟩ (.string ⟨#[]⟩)).setCell ⟨w.heap.size, 4, none⟩ (.slice (some ⟨gn, 0, none⟩) (ns.length + 1) capn)).setCell ⟨w.heap.size, 5, none⟩ (.slice (some ⟨g, 0, none⟩) (us.length + 1) cap)) = W6 := ⟨_, rfl⟩
             rw [hW6]
             obtain ⟨q1, q2, q3, q4⟩ := set6 _ _ _ _ _ _ HS4.out hW6
             obtain ⟨v0, v1, v2, v3, v4, v5⟩ := six_box q1
             refine bodyPost_ret (v := .agg #[.int .i64 6, .bool false, .int .i64 0, .string ⟨#[]⟩, .slice (some ⟨gn, 0, none⟩) (ns.length + 1) capn, .slice (some ⟨g, 0, none⟩) (us.length + 1) cap]) (by simp [results, Tryz.results32, go_sem, v0, v1, v2, v3, v4, v5]) rfl ?_
             rw [HU2.out]
             obtain ⟨hne, jj, bx, hr4⟩ := HFL.out
             exact ⟨⟨⟨_, _, _, _, _, _, _, _, _, _, rfl⟩, hne, jj, bx, hr4.keep (q2 R (by omega))⟩, ⟨q4 _ _ (Nat.le_of_lt hRlt) hk4.below, fun k hk hs => (q2 k (by omega)).trans (hk4.other k hk hs)⟩⟩
            ·go_simp
             refine (CV.out _ ((Below.refl _ W8).drew)).mono ?_
             rintro e w1 ⟨⟨⟨kx, bo, xx, tx, an, ln, cn, al, ll, cl, rfl⟩, hfl⟩, k1⟩
             have hk1 : Kr R W8 w1 := ((Kr.refl R W8).drew).trans k1
             obtain ⟨g, cap, w3, hrun, hap⟩ := HJ9.out.app hk1 hul _ _ _ _ _ _ (one6 kx bo xx tx an ln cn al ll cl)
             obtain ⟨B3, S3, R3⟩ := hap.keep HJ9.out hk1
             have b1 := (hk1.other (w.heap.size + 1) (by omega) (by omega)).trans hJb
             have b2 := six_alloc b1 #[.int .i64 kx, .bool bo, .int .i64 xx, .string tx, .slice an ln cn, .slice al ll cl]
             obtain ⟨m0, m1, m2, m3, m4, m5⟩ := six_box b1
             obtain ⟨n0, n1, n2, n3, n4, n5⟩ := six_box b2
             obtain ⟨o0, o1, o2, o3, o4, o5⟩ := six_box B3
             have of := frozen_box B3 5
             go_wp2_with fail
             refine hK.out _ _ trivial (fun hHeld => ?_)
             clear hK K
             try simp only [Act.put, zA, zB, zC, zD, zE, zF]
             refine wpAnyH_ready (rs := [1, 6]) (by kernel_rfl) (by simp) ?_
             refine AllReadyH.cons rfl (fun K hK => ?_) (AllReadyH.cons rfl (fun K hK => ?_) (AllReadyH.nil))
             ·go_simp
              refine hK.out _ _ trivial (fun hHeld => ?_)
              clear hK K
              try simp only [Act.put, zA, zB, zC, zD, zE, zF]
              refine wpAnyH_ready (rs := [6]) (by kernel_rfl) (by simp) ?_
              refine AllReadyH.cons rfl (fun K hK => ?_) (AllReadyH.nil)
              go_simp
              refine hK.out _ _ trivial (fun hHeld => ?_)
              clear hK K
              try simp only [Act.put, zA, zB, zC, zD, zE, zF]
              refine wpAnyH_ready (rs := [7]) (by kernel_rfl) (by simp) ?_
              refine AllReadyH.cons rfl (fun K hK => ?_) (AllReadyH.nil)
              refine op_append rfl (Operand.tmp 149) (Operand.tmp 154) 25 rfl rfl rfl hrun ?_
              refine hK.out _ _ trivial (fun hHeld => ?_)
              clear hK K hrun
              try simp only [Act.put, zA, zB, zC, zD, zE, zF]
              refine wpAnyH_take (i := 8) (v := ?_) rfl (by kernel_rfl) (by kernel_rfl) (by kernel_rfl) (fun _ _ _ h => h) (Or.inl ⟨by rfl, ?_⟩) (by assumption) ?_
              rotate_left 1
              ·intro w hSw; (try dsimp only at hSw); go_simp; first | done | with_reducible rfl
              try simp only [Act.put, zA, zB, zC, zD, zE, zF]
              refine wpAnyH_ready (rs := [9]) (by kernel_rfl) (by simp) ?_
              refine AllReadyH.cons rfl (fun K hK => ?_) (AllReadyH.nil)
              go_simp
              refine hK.out _ _ trivial (fun hHeld => ?_)
              clear hK K
              try simp only [Act.put, zA, zB, zC, zD, zE, zF]
              refine wpAnyH_done (by kernel_rfl) ?_ _
              have kb4 := hap.kb HJ9.out hk1 (.slice (some ⟨g, 0, none⟩) (us.length + 1) cap)
              obtain ⟨B4, S4, R4⟩ := hap.box HJ9.out hk1 (.slice (some ⟨g, 0, none⟩) (us.length + 1) cap)
              have hk4 := kr_kb' HK9.out kb4
              have hfl4 : Flt (w3.setCell ⟨w.heap.size + 1, 5, none⟩ (.slice (some ⟨g, 0, none⟩) (us.length + 1) cap)) R s x := by
               obtain ⟨hne, jj, bx, hr⟩ := hfl
               exact ⟨hne, jj, bx, hr.keep R4⟩
              generalize w3.setCell ⟨w.heap.size + 1, 5, none⟩ (.slice (some ⟨g, 0, none⟩) (us.length + 1) cap) = W4 at *
              clear m0 m1 m2 m3 m4 m5 n0 n1 n2 n3 n4 n5 o0 o1 o2 o3 o4 o5 of b1 b2 hHeld y0 y1 y2' y3 y4 y5 d0' d1 d2' d3 d4 d5
              clear B3 S3 R3
              have HFL : Hid (Flt W4 R s x) := hfl4
              obtain ⟨hne, jj, bx, hr4⟩ := hfl4
              obtain ⟨k0, k1, k2, k3, k4⟩ := hr4.cells
              have e0 : ((x.1 : Int) == 0) = false := by simp; omega
              obtain ⟨c0, c1, c2, c3, c4, c5⟩ := six_box B4
              obtain ⟨r0, r1, r2, r3, r4, r5⟩ := six_box S4
              have g0 := frozen_box S4 0
              have g1 := frozen_box S4 1
              have g2 := frozen_box S4 2
              have g3 := frozen_box S4 3
              have g4 := frozen_box S4 4
              have g5 := frozen_box S4 5
              have HS4 : Hid (W4.heap[w.heap.size]? = some (.cells #[.int .i64 0, .bool false, .int .i64 0, .string ⟨#[]⟩, .slice none 0 0, .slice none 0 0] 27 (0, 0))) := S4
              clear S4 B4 hr4
              go_wp2_with fail
              obtain ⟨W6, hW6⟩ : ∃ W6, ((((((W4.setCell ⟨w.heap.size, 0, none⟩ (.int .i64 6)).setCell ⟨w.heap.size, 1, none⟩ (.bool false)).setCell ⟨w.heap.size, 2, none⟩ (.int .i64 0)).setCell ⟨w.heap.size, 3, none⟩ (.string ⟨#[]⟩)).setCell ⟨w.heap.size, 4, none⟩ (.slice (some ⟨gn, 0, none⟩) (ns.length + 1) capn)).setCell ⟨w.heap.size, 5, none⟩ (.slice (some ⟨g, 0, none⟩) (us.length + 1) cap)) = W6 := ⟨_, rfl⟩
              rw [hW6]
              obtain ⟨q1, q2, q3, q4⟩ := set6 _ _ _ _ _ _ HS4.out hW6
              obtain ⟨v0, v1, v2, v3, v4, v5⟩ := six_box q1
              refine bodyPost_ret (v := .agg #[.int .i64 6, .bool false, .int .i64 0, .string ⟨#[]⟩, .slice (some ⟨gn, 0, none⟩) (ns.length + 1) capn, .slice (some ⟨g, 0, none⟩) (us.length + 1) cap]) (by simp [results, Tryz.results32, go_sem, v0, v1, v2, v3, v4, v5]) rfl ?_
              rw [HU2.out]
              obtain ⟨hne, jj, bx, hr4⟩ := HFL.out
              exact ⟨⟨⟨_, _, _, _, _, _, _, _, _, _, rfl⟩, hne, jj, bx, hr4.keep (q2 R (by omega))⟩, ⟨q4 _ _ (Nat.le_of_lt hRlt) hk4.below, fun k hk hs => (q2 k (by omega)).trans (hk4.other k hk hs)⟩⟩
             ·go_simp
              refine hK.out _ _ trivial (fun hHeld => ?_)
              clear hK K
              try simp only [Act.put, zA, zB, zC, zD, zE, zF]
              refine wpAnyH_ready (rs := [1]) (by kernel_rfl) (by simp) ?_
              refine AllReadyH.cons rfl (fun K hK => ?_) (AllReadyH.nil)
              go_simp
              refine hK.out _ _ trivial (fun hHeld => ?_)
              clear hK K
              try simp only [Act.put, zA, zB, zC, zD, zE, zF]
              refine wpAnyH_ready (rs := [7]) (by kernel_rfl) (by simp) ?_
              refine AllReadyH.cons rfl (fun K hK => ?_) (AllReadyH.nil)
              refine op_append rfl (Operand.tmp 149) (Operand.tmp 154) 25 rfl rfl rfl hrun ?_
              refine hK.out _ _ trivial (fun hHeld => ?_)
              clear hK K hrun
              try simp only [Act.put, zA, zB, zC, zD, zE, zF]
              refine wpAnyH_take (i := 8) (v := ?_) rfl (by kernel_rfl) (by kernel_rfl) (by kernel_rfl) (fun _ _ _ h => h) (Or.inl ⟨by rfl, ?_⟩) (by assumption) ?_
              rotate_left 1
              ·intro w hSw; (try dsimp only at hSw); go_simp; first | done | with_reducible rfl
              try simp only [Act.put, zA, zB, zC, zD, zE, zF]
              refine wpAnyH_ready (rs := [9]) (by kernel_rfl) (by simp) ?_
              refine AllReadyH.cons rfl (fun K hK => ?_) (AllReadyH.nil)
              go_simp
              refine hK.out _ _ trivial (fun hHeld => ?_)
              clear hK K
              try simp only [Act.put, zA, zB, zC, zD, zE, zF]
              refine wpAnyH_done (by kernel_rfl) ?_ _
              have kb4 := hap.kb HJ9.out hk1 (.slice (some ⟨g, 0, none⟩) (us.length + 1) cap)
              obtain ⟨B4, S4, R4⟩ := hap.box HJ9.out hk1 (.slice (some ⟨g, 0, none⟩) (us.length + 1) cap)
              have hk4 := kr_kb' HK9.out kb4
              have hfl4 : Flt (w3.setCell ⟨w.heap.size + 1, 5, none⟩ (.slice (some ⟨g, 0, none⟩) (us.length + 1) cap)) R s x := by
               obtain ⟨hne, jj, bx, hr⟩ := hfl
               exact ⟨hne, jj, bx, hr.keep R4⟩
              generalize w3.setCell ⟨w.heap.size + 1, 5, none⟩ (.slice (some ⟨g, 0, none⟩) (us.length + 1) cap) = W4 at *
              clear m0 m1 m2 m3 m4 m5 n0 n1 n2 n3 n4 n5 o0 o1 o2 o3 o4 o5 of b1 b2 hHeld y0 y1 y2' y3 y4 y5 d0' d1 d2' d3 d4 d5
              clear B3 S3 R3
              have HFL : Hid (Flt W4 R s x) := hfl4
              obtain ⟨hne, jj, bx, hr4⟩ := hfl4
              obtain ⟨k0, k1, k2, k3, k4⟩ := hr4.cells
              have e0 : ((x.1 : Int) == 0) = false := by simp; omega
              obtain ⟨c0, c1, c2, c3, c4, c5⟩ := six_box B4
              obtain ⟨r0, r1, r2, r3, r4, r5⟩ := six_box S4
              have g0 := frozen_box S4 0
              have g1 := frozen_box S4 1
              have g2 := frozen_box S4 2
              have g3 := frozen_box S4 3
              have g4 := frozen_box S4 4
              have g5 := frozen_box S4 5
              have HS4 : Hid (W4.heap[w.heap.size]? = some (.cells #[.int .i64 0, .bool false, .int .i64 0, .string ⟨#[]⟩, .slice none 0 0, .slice none 0 0] 27 (0, 0))) := S4
              clear S4 B4 hr4
              go_wp2_with fail
              obtain ⟨W6, hW6⟩ : ∃ W6, ((((((W4.setCell ⟨w.heap.size, 0, none⟩ (.int .i64 6)).setCell ⟨w.heap.size, 1, none⟩ (.bool false)).setCell ⟨w.heap.size, 2, none⟩ (.int .i64 0)).setCell ⟨w.heap.size, 3, none⟩ (.string ⟨#[]⟩)).setCell ⟨w.heap.size, 4, none⟩ (.slice (some ⟨gn, 0, none⟩) (ns.length + 1) capn)).setCell ⟨w.heap.size, 5, none⟩ (.slice (some ⟨g, 0, none⟩) (us.length + 1) cap)) = W6 := ⟨_, rfl⟩
              rw [hW6]
              obtain ⟨q1, q2, q3, q4⟩ := set6 _ _ _ _ _ _ HS4.out hW6
              obtain ⟨v0, v1, v2, v3, v4, v5⟩ := six_box q1
              refine bodyPost_ret (v := .agg #[.int .i64 6, .bool false, .int .i64 0, .string ⟨#[]⟩, .slice (some ⟨gn, 0, none⟩) (ns.length + 1) capn, .slice (some ⟨g, 0, none⟩) (us.length + 1) cap]) (by simp [results, Tryz.results32, go_sem, v0, v1, v2, v3, v4, v5]) rfl ?_
              rw [HU2.out]
              obtain ⟨hne, jj, bx, hr4⟩ := HFL.out
              exact ⟨⟨⟨_, _, _, _, _, _, _, _, _, _, rfl⟩, hne, jj, bx, hr4.keep (q2 R (by omega))⟩, ⟨q4 _ _ (Nat.le_of_lt hRlt) hk4.below, fun k hk hs => (q2 k (by omega)).trans (hk4.other k hk hs)⟩⟩
           | ok z =>
            obtain ⟨⟨ck, cb, ci, cs, cnn, cll⟩, j2, bb2⟩ := z
            obtain ⟨hj1, hj2⟩ := HXI.out _ j2 bb2 rfl
            obtain ⟨cx, hcx⟩ : ∃ cx, C.mk ck cb ci cs cnn cll = cx := ⟨_, rfl⟩
            have HT3 : Hid (T0 = if at' s (blk s j2) = 125 then .ok (ns ++ [t], acc ++ [cx], blk s j2 + 1, bb2) else if at' s (blk s j2) = 44 then rcd (vl s n) s f (blk s (blk s j2 + 1)) bb2 (ns ++ [t]) (acc ++ [cx]) else .error (600, blk s j2)) := by
             show _ = _
             rw [HT2.out, ← hcx]
            clear HT2 HXI
            refine wp_region_held_drew (S := fun _ => True) (by kernel_rfl) trivial (fun hHeld => ?_)
            refine wpAnyH_take (i := 0) (v := ?_) rfl (by kernel_rfl) (by kernel_rfl) (by kernel_rfl) (fun _ _ _ h => h) (Or.inl ⟨by rfl, ?_⟩) (by assumption) ?_
            rotate_left 1
            ·intro w hSw; (try dsimp only at hSw); go_simp; first | done | with_reducible rfl
            try simp only [Act.put, zA, zB, zD, zE, zF]
            refine wpAnyH_take (i := 2) (v := ?_) rfl (by kernel_rfl) (by kernel_rfl) (by kernel_rfl) (fun _ _ _ h => h) (Or.inl ⟨by rfl, ?_⟩) (by assumption) ?_
            rotate_left 1
            ·intro w hSw; (try dsimp only at hSw); go_simp; first | done | with_reducible rfl
            try simp only [Act.put, zA, zB, zC, zD, zE, zF]
            refine wpAnyH_take (i := 3) (v := ?_) rfl (by kernel_rfl) (by kernel_rfl) (by kernel_rfl) (fun _ _ _ h => h) (Or.inl ⟨by rfl, ?_⟩) (by assumption) ?_
            rotate_left 1
            ·intro w hSw; (try dsimp only at hSw); go_simp; first | done | with_reducible rfl
            try simp only [Act.put, zA, zB, zC, zD, zE, zF]
            refine wpAnyH_take (i := 4) (v := ?_) rfl (by kernel_rfl) (by kernel_rfl) (by kernel_rfl) (fun _ _ _ h => h) (Or.inl ⟨by rfl, ?_⟩) (by assumption) ?_
            rotate_left 1
            ·intro w hSw; (try dsimp only at hSw); go_simp; first | done | with_reducible rfl
            try simp only [Act.put, zA, zB, zC, zD, zE, zF]
            refine wpAnyH_ready (rs := [1, 5]) (by kernel_rfl) (by simp) ?_
            refine AllReadyH.cons rfl (fun K hK => ?_) (AllReadyH.cons rfl (fun K hK => ?_) (AllReadyH.nil))
            ·go_simp
             refine hK.out _ _ trivial (fun hHeld => ?_)
             clear hK K
             try simp only [Act.put, zA, zB, zC, zD, zE, zF]
             refine wpAnyH_ready (rs := [5]) (by kernel_rfl) (by simp) ?_
             refine AllReadyH.cons rfl (fun K hK => ?_) (AllReadyH.nil)
             go_simp
             refine (CV.out _ ((Below.refl _ W8).drew)).mono ?_
             rintro e w1 ⟨⟨⟨u, rfl, hu⟩, hr1⟩, k1⟩
             obtain ⟨an, ln, cn, al, ll, cl, rfl⟩ := Val.fs_shape hu
             have hk1 : Kr R W8 w1 := ((Kr.refl R W8).drew).trans k1
             obtain ⟨g, cap, w3, hrun, hap⟩ := HJ9.out.app hk1 hul _ _ _ _ _ _ (one6 ck cb ci cs an ln cn al ll cl)
             obtain ⟨B3, S3, R3⟩ := hap.keep HJ9.out hk1
             have b1 := (hk1.other (w.heap.size + 1) (by omega) (by omega)).trans hJb
             have b2 := six_alloc b1 #[.int .i64 ck, .bool cb, .int .i64 ci, .string cs, .slice an ln cn, .slice al ll cl]
             obtain ⟨m0, m1, m2, m3, m4, m5⟩ := six_box b1
             obtain ⟨n0, n1, n2, n3, n4, n5⟩ := six_box b2
             obtain ⟨o0, o1, o2, o3, o4, o5⟩ := six_box B3
             have of := frozen_box B3 5
             go_wp2_with fail
             refine hK.out _ _ trivial (fun hHeld => ?_)
             clear hK K
             try simp only [Act.put, zA, zB, zC, zD, zE, zF]
             refine wpAnyH_ready (rs := [6]) (by kernel_rfl) (by simp) ?_
             refine AllReadyH.cons rfl (fun K hK => ?_) (AllReadyH.nil)
             go_simp
             refine hK.out _ _ trivial (fun hHeld => ?_)
             clear hK K
             try simp only [Act.put, zA, zB, zC, zD, zE, zF]
             refine wpAnyH_ready (rs := [7]) (by kernel_rfl) (by simp) ?_
             refine AllReadyH.cons rfl (fun K hK => ?_) (AllReadyH.nil)
             refine op_append rfl (Operand.tmp 149) (Operand.tmp 154) 25 rfl rfl rfl hrun ?_
             refine hK.out _ _ trivial (fun hHeld => ?_)
             clear hK K hrun
             try simp only [Act.put, zA, zB, zC, zD, zE, zF]
             refine wpAnyH_take (i := 8) (v := ?_) rfl (by kernel_rfl) (by kernel_rfl) (by kernel_rfl) (fun _ _ _ h => h) (Or.inl ⟨by rfl, ?_⟩) (by assumption) ?_
             rotate_left 1
             ·intro w hSw; (try dsimp only at hSw); go_simp; first | done | with_reducible rfl
             try simp only [Act.put, zA, zB, zC, zD, zE, zF]
             refine wpAnyH_ready (rs := [9]) (by kernel_rfl) (by simp) ?_
             refine AllReadyH.cons rfl (fun K hK => ?_) (AllReadyH.nil)
             go_simp
             refine hK.out _ _ trivial (fun hHeld => ?_)
             clear hK K
             try simp only [Act.put, zA, zB, zC, zD, zE, zF]
             refine wpAnyH_done (by kernel_rfl) ?_ _
             have kb4 := hap.kb HJ9.out hk1 (.slice (some ⟨g, 0, none⟩) (us.length + 1) cap)
             have hJ4 := hap.jx HJ9.out hk1 (Nat.le_refl W8.heap.size : W8.heap.size ≤ W8.drew.heap.size) hu hr1
             rw [hcx] at hJ4
             have hk4 := kr_kb' HK9.out kb4
             clear hap B3 S3 R3
             generalize w3.setCell ⟨w.heap.size + 1, 5, none⟩ (.slice (some ⟨g, 0, none⟩) (us.length + 1) cap) = W4 at *
             clear m0 m1 m2 m3 m4 m5 n0 n1 n2 n3 n4 n5 o0 o1 o2 o3 o4 o5 of b1 b2 hHeld y0 y1 y2' y3 y4 y5 d0' d1 d2' d3 d4 d5
             obtain ⟨k0, k1, k2, k3, k4⟩ := hJ4.rr.cells
             have cE := ends_c 125 (by omega) (by omega) hj2 hJ4.rr
             unfold ptr at cE
             have hbj := blk_ge s j2
             have hbs := blk_in hj2
             have HJ4 : Hid (Jx W4 R w.heap.size n 6 s j2 bb2 (.slice (some ⟨gn, 0, none⟩) (ns.length + 1) capn) (.slice (some ⟨g, 0, none⟩) (us.length + 1) cap) (us ++ [.agg #[.int .i64 ck, .bool cb, .int .i64 ci, .string cs, .slice an ln cn, .slice al ll cl]]) (fun q => if q < acc.length then T q else Rg W8.drew.heap.size w1.heap.size) (ns ++ [t]) (acc ++ [cx])) := hJ4
             have hlen4 := hJ4.els.len
             have hac4 : (acc ++ [cx]).length ≤ blk s j2 + 1 := by rw [List.length_append]; simp; omega
             have hnn4 : (ns ++ [t]).length ≤ blk s j2 + 1 := by rw [List.length_append]; simp; omega
             clear hJ4 hu hcx
             have ne2 : ¬ R = w.heap.size := by omega
             by_cases h1 : at' s (blk s j2) = 125
             ·have hen : en s 125 j2 = .ok (true, blk s j2 + 1) := by unfold en; rw [if_pos h1]
              have hb1 : blk s j2 < s.size := at_in (by omega)
              rw [hen] at cE
              have HU2 : Hid (U = .ok (.mk 6 false 0 ⟨#[]⟩ (ns ++ [t]) (acc ++ [cx]), blk s j2 + 1, bb2)) := by
               show _ = _
               rw [← HU.out, HT3.out, if_pos h1]
               rfl
              clear HT3 HU h1 hen
              go_wp2_with fail
              refine cE.mono ?_
              rintro e w5 ⟨⟨rfl, hr5⟩, k5⟩
              have hJ5 := HJ4.out.kr k5 hr5
              have hk5 := hk4.trans k5
              have hbx5 := hJ5.box
              have hrs5 := hJ5.res
              clear cE k0 k1 k2 k3 k4
              obtain ⟨c0, c1, c2, c3, c4, c5⟩ := six_box hbx5
              obtain ⟨r0, r1, r2, r3, r4, r5⟩ := six_box hrs5
              have g0 := frozen_box hrs5 0
              have g1 := frozen_box hrs5 1
              have g2 := frozen_box hrs5 2
              have g3 := frozen_box hrs5 3
              have g4 := frozen_box hrs5 4
              have g5 := frozen_box hrs5 5
              have HRS5 : Hid (w5.heap[w.heap.size]? = some (.cells #[.int .i64 0, .bool false, .int .i64 0, .string ⟨#[]⟩, .slice none 0 0, .slice none 0 0] 27 (0, 0))) := hrs5
              clear hbx5 hrs5
              go_wp2_with fail
              obtain ⟨W6, hW6⟩ : ∃ W6, ((((((w5.setCell ⟨w.heap.size, 0, none⟩ (.int .i64 6)).setCell ⟨w.heap.size, 1, none⟩ (.bool false)).setCell ⟨w.heap.size, 2, none⟩ (.int .i64 0)).setCell ⟨w.heap.size, 3, none⟩ (.string ⟨#[]⟩)).setCell ⟨w.heap.size, 4, none⟩ (.slice (some ⟨gn, 0, none⟩) (ns.length + 1) capn)).setCell ⟨w.heap.size, 5, none⟩ (.slice (some ⟨g, 0, none⟩) (us.length + 1) cap)) = W6 := ⟨_, rfl⟩
              rw [hW6]
              obtain ⟨q1, q2, q3, q4⟩ := set6 _ _ _ _ _ _ HRS5.out hW6
              obtain ⟨v0, v1, v2, v3, v4, v5⟩ := six_box q1
              refine bodyPost_ret (v := .agg #[.int .i64 6, .bool false, .int .i64 0, .string ⟨#[]⟩, .slice (some ⟨gn, 0, none⟩) (ns.length + 1) capn, .slice (some ⟨g, 0, none⟩) (us.length + 1) cap]) (by simp [results, Tryz.results32, go_sem, v0, v1, v2, v3, v4, v5]) rfl ?_
              rw [HU2.out]
              exact ⟨⟨⟨_, rfl, hJ5.fs (by decide) (by omega) HN2.out (by omega) q2 q3⟩, hJ5.rr.keep (q2 R (by omega))⟩, ⟨q4 _ _ (Nat.le_of_lt hRlt) hk5.below, fun k hk hs => (q2 k (by omega)).trans (hk5.other k hk hs)⟩⟩
             ·by_cases h2 : at' s (blk s j2) = 44
              ·have hen : en s 125 j2 = .ok (false, blk s j2 + 1) := by unfold en; rw [if_neg h1, if_pos h2]
               have hb1 : blk s j2 < s.size := at_in (by omega)
               rw [hen] at cE
               have HT4 : Hid (rcd (vl s n) s f (blk s (blk s j2 + 1)) bb2 (ns ++ [t]) (acc ++ [cx]) = T0) := by
                show _ = _
                rw [HT3.out, if_neg h1, if_pos h2]
               clear HT3 h1 h2 hen
               go_wp2_with fail
               refine cE.mono ?_
               rintro e w5 ⟨⟨rfl, hr5⟩, k5⟩
               clear cE k0 k1 k2 k3 k4
               go_wp2_with fail
               go_roundw
               case rel => exact ⟨blk s j2 + 1, bb2, _, _, _, _, ns ++ [t], acc ++ [cx], f, HJ4.out.kr k5 hr5, hk4.trans k5, by omega, hnn4, hac4, HN2.out, HT4.out, by omega⟩
               case measure => exact HMM.out w5 _ _ (by omega) hr5
              ·have hen : en s 125 j2 = .error (600, blk s j2) := by unfold en; rw [if_neg h1, if_neg h2]
               rw [hen] at cE
               have HU2 : Hid (U = .error (600, blk s j2)) := by
                show _ = _
                rw [← HU.out, HT3.out, if_neg h1, if_neg h2]
                rfl
               clear HT3 HU h1 h2 hen
               go_wp2_with fail
               refine cE.mono ?_
               rintro e w5 ⟨⟨rfl, hfl5⟩, k5⟩
               have hlt4 := HJ4.out.lt
               have hbx5 := (k5.other (w.heap.size + 1) (by omega) (by omega)).trans HJ4.out.box
               have hrs5 := (k5.other w.heap.size (by omega) (by omega)).trans HJ4.out.res
               have hk5 := hk4.trans k5
               clear cE k0 k1 k2 k3 k4
               obtain ⟨c0, c1, c2, c3, c4, c5⟩ := six_box hbx5
               obtain ⟨r0, r1, r2, r3, r4, r5⟩ := six_box hrs5
               have g0 := frozen_box hrs5 0
               have g1 := frozen_box hrs5 1
               have g2 := frozen_box hrs5 2
               have g3 := frozen_box hrs5 3
               have g4 := frozen_box hrs5 4
               have g5 := frozen_box hrs5 5
               have HRS5 : Hid (w5.heap[w.heap.size]? = some (.cells #[.int .i64 0, .bool false, .int .i64 0, .string ⟨#[]⟩, .slice none 0 0, .slice none 0 0] 27 (0, 0))) := hrs5
               have HFL : Hid (Flt w5 R s (600, blk s j2)) := hfl5
               clear hbx5 hrs5 hfl5
               go_wp2_with fail
               obtain ⟨W6, hW6⟩ : ∃ W6, ((((((w5.setCell ⟨w.heap.size, 0, none⟩ (.int .i64 6)).setCell ⟨w.heap.size, 1, none⟩ (.bool false)).setCell ⟨w.heap.size, 2, none⟩ (.int .i64 0)).setCell ⟨w.heap.size, 3, none⟩ (.string ⟨#[]⟩)).setCell ⟨w.heap.size, 4, none⟩ (.slice (some ⟨gn, 0, none⟩) (ns.length + 1) capn)).setCell ⟨w.heap.size, 5, none⟩ (.slice (some ⟨g, 0, none⟩) (us.length + 1) cap)) = W6 := ⟨_, rfl⟩
               rw [hW6]
               obtain ⟨q1, q2, q3, q4⟩ := set6 _ _ _ _ _ _ HRS5.out hW6
               obtain ⟨v0, v1, v2, v3, v4, v5⟩ := six_box q1
               refine bodyPost_ret (v := .agg #[.int .i64 6, .bool false, .int .i64 0, .string ⟨#[]⟩, .slice (some ⟨gn, 0, none⟩) (ns.length + 1) capn, .slice (some ⟨g, 0, none⟩) (us.length + 1) cap]) (by simp [results, Tryz.results32, go_sem, v0, v1, v2, v3, v4, v5]) rfl ?_
               rw [HU2.out]
               obtain ⟨hne, jj, bx, hr5⟩ := HFL.out
               exact ⟨⟨⟨_, _, _, _, _, _, _, _, _, _, rfl⟩, hne, jj, bx, hr5.keep (q2 R (by omega))⟩, ⟨q4 _ _ (Nat.le_of_lt hRlt) hk5.below, fun k hk hs => (q2 k (by omega)).trans (hk5.other k hk hs)⟩⟩
            ·go_simp
             refine (CV.out _ ((Below.refl _ W8).drew)).mono ?_
             rintro e w1 ⟨⟨⟨u, rfl, hu⟩, hr1⟩, k1⟩
             obtain ⟨an, ln, cn, al, ll, cl, rfl⟩ := Val.fs_shape hu
             have hk1 : Kr R W8 w1 := ((Kr.refl R W8).drew).trans k1
             obtain ⟨g, cap, w3, hrun, hap⟩ := HJ9.out.app hk1 hul _ _ _ _ _ _ (one6 ck cb ci cs an ln cn al ll cl)
             obtain ⟨B3, S3, R3⟩ := hap.keep HJ9.out hk1
             have b1 := (hk1.other (w.heap.size + 1) (by omega) (by omega)).trans hJb
             have b2 := six_alloc b1 #[.int .i64 ck, .bool cb, .int .i64 ci, .string cs, .slice an ln cn, .slice al ll cl]
             obtain ⟨m0, m1, m2, m3, m4, m5⟩ := six_box b1
             obtain ⟨n0, n1, n2, n3, n4, n5⟩ := six_box b2
             obtain ⟨o0, o1, o2, o3, o4, o5⟩ := six_box B3
             have of := frozen_box B3 5
             go_wp2_with fail
             refine hK.out _ _ trivial (fun hHeld => ?_)
             clear hK K
             try simp only [Act.put, zA, zB, zC, zD, zE, zF]
             refine wpAnyH_ready (rs := [1, 6]) (by kernel_rfl) (by simp) ?_
             refine AllReadyH.cons rfl (fun K hK => ?_) (AllReadyH.cons rfl (fun K hK => ?_) (AllReadyH.nil))
             ·go_simp
              refine hK.out _ _ trivial (fun hHeld => ?_)
              clear hK K
              try simp only [Act.put, zA, zB, zC, zD, zE, zF]
              refine wpAnyH_ready (rs := [6]) (by kernel_rfl) (by simp) ?_
              refine AllReadyH.cons rfl (fun K hK => ?_) (AllReadyH.nil)
              go_simp
              refine hK.out _ _ trivial (fun hHeld => ?_)
              clear hK K
              try simp only [Act.put, zA, zB, zC, zD, zE, zF]
              refine wpAnyH_ready (rs := [7]) (by kernel_rfl) (by simp) ?_
              refine AllReadyH.cons rfl (fun K hK => ?_) (AllReadyH.nil)
              refine op_append rfl (Operand.tmp 149) (Operand.tmp 154) 25 rfl rfl rfl hrun ?_
              refine hK.out _ _ trivial (fun hHeld => ?_)
              clear hK K hrun
              try simp only [Act.put, zA, zB, zC, zD, zE, zF]
              refine wpAnyH_take (i := 8) (v := ?_) rfl (by kernel_rfl) (by kernel_rfl) (by kernel_rfl) (fun _ _ _ h => h) (Or.inl ⟨by rfl, ?_⟩) (by assumption) ?_
              rotate_left 1
              ·intro w hSw; (try dsimp only at hSw); go_simp; first | done | with_reducible rfl
              try simp only [Act.put, zA, zB, zC, zD, zE, zF]
              refine wpAnyH_ready (rs := [9]) (by kernel_rfl) (by simp) ?_
              refine AllReadyH.cons rfl (fun K hK => ?_) (AllReadyH.nil)
              go_simp
              refine hK.out _ _ trivial (fun hHeld => ?_)
              clear hK K
              try simp only [Act.put, zA, zB, zC, zD, zE, zF]
              refine wpAnyH_done (by kernel_rfl) ?_ _
              have kb4 := hap.kb HJ9.out hk1 (.slice (some ⟨g, 0, none⟩) (us.length + 1) cap)
              have hJ4 := hap.jx HJ9.out hk1 (Nat.le_refl W8.heap.size : W8.heap.size ≤ W8.drew.heap.size) hu hr1
              rw [hcx] at hJ4
              have hk4 := kr_kb' HK9.out kb4
              clear hap B3 S3 R3
              generalize w3.setCell ⟨w.heap.size + 1, 5, none⟩ (.slice (some ⟨g, 0, none⟩) (us.length + 1) cap) = W4 at *
              clear m0 m1 m2 m3 m4 m5 n0 n1 n2 n3 n4 n5 o0 o1 o2 o3 o4 o5 of b1 b2 hHeld y0 y1 y2' y3 y4 y5 d0' d1 d2' d3 d4 d5
              obtain ⟨k0, k1, k2, k3, k4⟩ := hJ4.rr.cells
              have cE := ends_c 125 (by omega) (by omega) hj2 hJ4.rr
              unfold ptr at cE
              have hbj := blk_ge s j2
              have hbs := blk_in hj2
              have HJ4 : Hid (Jx W4 R w.heap.size n 6 s j2 bb2 (.slice (some ⟨gn, 0, none⟩) (ns.length + 1) capn) (.slice (some ⟨g, 0, none⟩) (us.length + 1) cap) (us ++ [.agg #[.int .i64 ck, .bool cb, .int .i64 ci, .string cs, .slice an ln cn, .slice al ll cl]]) (fun q => if q < acc.length then T q else Rg W8.drew.heap.size w1.heap.size) (ns ++ [t]) (acc ++ [cx])) := hJ4
              have hlen4 := hJ4.els.len
              have hac4 : (acc ++ [cx]).length ≤ blk s j2 + 1 := by rw [List.length_append]; simp; omega
              have hnn4 : (ns ++ [t]).length ≤ blk s j2 + 1 := by rw [List.length_append]; simp; omega
              clear hJ4 hu hcx
              have ne2 : ¬ R = w.heap.size := by omega
              by_cases h1 : at' s (blk s j2) = 125
              ·have hen : en s 125 j2 = .ok (true, blk s j2 + 1) := by unfold en; rw [if_pos h1]
               have hb1 : blk s j2 < s.size := at_in (by omega)
               rw [hen] at cE
               have HU2 : Hid (U = .ok (.mk 6 false 0 ⟨#[]⟩ (ns ++ [t]) (acc ++ [cx]), blk s j2 + 1, bb2)) := by
                show _ = _
                rw [← HU.out, HT3.out, if_pos h1]
                rfl
               clear HT3 HU h1 hen
               go_wp2_with fail
               refine cE.mono ?_
               rintro e w5 ⟨⟨rfl, hr5⟩, k5⟩
               have hJ5 := HJ4.out.kr k5 hr5
               have hk5 := hk4.trans k5
               have hbx5 := hJ5.box
               have hrs5 := hJ5.res
               clear cE k0 k1 k2 k3 k4
               obtain ⟨c0, c1, c2, c3, c4, c5⟩ := six_box hbx5
               obtain ⟨r0, r1, r2, r3, r4, r5⟩ := six_box hrs5
               have g0 := frozen_box hrs5 0
               have g1 := frozen_box hrs5 1
               have g2 := frozen_box hrs5 2
               have g3 := frozen_box hrs5 3
               have g4 := frozen_box hrs5 4
               have g5 := frozen_box hrs5 5
               have HRS5 : Hid (w5.heap[w.heap.size]? = some (.cells #[.int .i64 0, .bool false, .int .i64 0, .string ⟨#[]⟩, .slice none 0 0, .slice none 0 0] 27 (0, 0))) := hrs5
               clear hbx5 hrs5
               go_wp2_with fail
               obtain ⟨W6, hW6⟩ : ∃ W6, ((((((w5.setCell ⟨w.heap.size, 0, none⟩ (.int .i64 6)).setCell ⟨w.heap.size, 1, none⟩ (.bool false)).setCell ⟨w.heap.size, 2, none⟩ (.int .i64 0)).setCell ⟨w.heap.size, 3, none⟩ (.string ⟨#[]⟩)).setCell ⟨w.heap.size, 4, none⟩ (.slice (some ⟨gn, 0, none⟩) (ns.length + 1) capn)).setCell ⟨w.heap.size, 5, none⟩ (.slice (some ⟨g, 0, none⟩) (us.length + 1) cap)) = W6 := ⟨_, rfl⟩
               rw [hW6]
               obtain ⟨q1, q2, q3, q4⟩ := set6 _ _ _ _ _ _ HRS5.out hW6
               obtain ⟨v0, v1, v2, v3, v4, v5⟩ := six_box q1
               refine bodyPost_ret (v := .agg #[.int .i64 6, .bool false, .int .i64 0, .string ⟨#[]⟩, .slice (some ⟨gn, 0, none⟩) (ns.length + 1) capn, .slice (some ⟨g, 0, none⟩) (us.length + 1) cap]) (by simp [results, Tryz.results32, go_sem, v0, v1, v2, v3, v4, v5]) rfl ?_
               rw [HU2.out]
               exact ⟨⟨⟨_, rfl, hJ5.fs (by decide) (by omega) HN2.out (by omega) q2 q3⟩, hJ5.rr.keep (q2 R (by omega))⟩, ⟨q4 _ _ (Nat.le_of_lt hRlt) hk5.below, fun k hk hs => (q2 k (by omega)).trans (hk5.other k hk hs)⟩⟩
              ·by_cases h2 : at' s (blk s j2) = 44
               ·have hen : en s 125 j2 = .ok (false, blk s j2 + 1) := by unfold en; rw [if_neg h1, if_pos h2]
                have hb1 : blk s j2 < s.size := at_in (by omega)
                rw [hen] at cE
                have HT4 : Hid (rcd (vl s n) s f (blk s (blk s j2 + 1)) bb2 (ns ++ [t]) (acc ++ [cx]) = T0) := by
                 show _ = _
                 rw [HT3.out, if_neg h1, if_pos h2]
                clear HT3 h1 h2 hen
                go_wp2_with fail
                refine cE.mono ?_
                rintro e w5 ⟨⟨rfl, hr5⟩, k5⟩
                clear cE k0 k1 k2 k3 k4
                go_wp2_with fail
                go_roundw
                case rel => exact ⟨blk s j2 + 1, bb2, _, _, _, _, ns ++ [t], acc ++ [cx], f, HJ4.out.kr k5 hr5, hk4.trans k5, by omega, hnn4, hac4, HN2.out, HT4.out, by omega⟩
                case measure => exact HMM.out w5 _ _ (by omega) hr5
               ·have hen : en s 125 j2 = .error (600, blk s j2) := by unfold en; rw [if_neg h1, if_neg h2]
                rw [hen] at cE
                have HU2 : Hid (U = .error (600, blk s j2)) := by
                 show _ = _
                 rw [← HU.out, HT3.out, if_neg h1, if_neg h2]
                 rfl
                clear HT3 HU h1 h2 hen
                go_wp2_with fail
                refine cE.mono ?_
                rintro e w5 ⟨⟨rfl, hfl5⟩, k5⟩
                have hlt4 := HJ4.out.lt
                have hbx5 := (k5.other (w.heap.size + 1) (by omega) (by omega)).trans HJ4.out.box
                have hrs5 := (k5.other w.heap.size (by omega) (by omega)).trans HJ4.out.res
                have hk5 := hk4.trans k5
                clear cE k0 k1 k2 k3 k4
                obtain ⟨c0, c1, c2, c3, c4, c5⟩ := six_box hbx5
                obtain ⟨r0, r1, r2, r3, r4, r5⟩ := six_box hrs5
                have g0 := frozen_box hrs5 0
                have g1 := frozen_box hrs5 1
                have g2 := frozen_box hrs5 2
                have g3 := frozen_box hrs5 3
                have g4 := frozen_box hrs5 4
                have g5 := frozen_box hrs5 5
                have HRS5 : Hid (w5.heap[w.heap.size]? = some (.cells #[.int .i64 0, .bool false, .int .i64 0, .string ⟨#[]⟩, .slice none 0 0, .slice none 0 0] 27 (0, 0))) := hrs5
                have HFL : Hid (Flt w5 R s (600, blk s j2)) := hfl5
                clear hbx5 hrs5 hfl5
                go_wp2_with fail
                obtain ⟨W6, hW6⟩ : ∃ W6, ((((((w5.setCell ⟨w.heap.size, 0, none⟩ (.int .i64 6)).setCell ⟨w.heap.size, 1, none⟩ (.bool false)).setCell ⟨w.heap.size, 2, none⟩ (.int .i64 0)).setCell ⟨w.heap.size, 3, none⟩ (.string ⟨#[]⟩)).setCell ⟨w.heap.size, 4, none⟩ (.slice (some ⟨gn, 0, none⟩) (ns.length + 1) capn)).setCell ⟨w.heap.size, 5, none⟩ (.slice (some ⟨g, 0, none⟩) (us.length + 1) cap)) = W6 := ⟨_, rfl⟩
                rw [hW6]
                obtain ⟨q1, q2, q3, q4⟩ := set6 _ _ _ _ _ _ HRS5.out hW6
                obtain ⟨v0, v1, v2, v3, v4, v5⟩ := six_box q1
                refine bodyPost_ret (v := .agg #[.int .i64 6, .bool false, .int .i64 0, .string ⟨#[]⟩, .slice (some ⟨gn, 0, none⟩) (ns.length + 1) capn, .slice (some ⟨g, 0, none⟩) (us.length + 1) cap]) (by simp [results, Tryz.results32, go_sem, v0, v1, v2, v3, v4, v5]) rfl ?_
                rw [HU2.out]
                obtain ⟨hne, jj, bx, hr5⟩ := HFL.out
                exact ⟨⟨⟨_, _, _, _, _, _, _, _, _, _, rfl⟩, hne, jj, bx, hr5.keep (q2 R (by omega))⟩, ⟨q4 _ _ (Nat.le_of_lt hRlt) hk5.below, fun k hk hs => (q2 k (by omega)).trans (hk5.other k hk hs)⟩⟩
             ·go_simp
              refine hK.out _ _ trivial (fun hHeld => ?_)
              clear hK K
              try simp only [Act.put, zA, zB, zC, zD, zE, zF]
              refine wpAnyH_ready (rs := [1]) (by kernel_rfl) (by simp) ?_
              refine AllReadyH.cons rfl (fun K hK => ?_) (AllReadyH.nil)
              go_simp
              refine hK.out _ _ trivial (fun hHeld => ?_)
              clear hK K
              try simp only [Act.put, zA, zB, zC, zD, zE, zF]
              refine wpAnyH_ready (rs := [7]) (by kernel_rfl) (by simp) ?_
              refine AllReadyH.cons rfl (fun K hK => ?_) (AllReadyH.nil)
              refine op_append rfl (Operand.tmp 149) (Operand.tmp 154) 25 rfl rfl rfl hrun ?_
              refine hK.out _ _ trivial (fun hHeld => ?_)
              clear hK K hrun
              try simp only [Act.put, zA, zB, zC, zD, zE, zF]
              refine wpAnyH_take (i := 8) (v := ?_) rfl (by kernel_rfl) (by kernel_rfl) (by kernel_rfl) (fun _ _ _ h => h) (Or.inl ⟨by rfl, ?_⟩) (by assumption) ?_
              rotate_left 1
              ·intro w hSw; (try dsimp only at hSw); go_simp; first | done | with_reducible rfl
              try simp only [Act.put, zA, zB, zC, zD, zE, zF]
              refine wpAnyH_ready (rs := [9]) (by kernel_rfl) (by simp) ?_
              refine AllReadyH.cons rfl (fun K hK => ?_) (AllReadyH.nil)
              go_simp
              refine hK.out _ _ trivial (fun hHeld => ?_)
              clear hK K
              try simp only [Act.put, zA, zB, zC, zD, zE, zF]
              refine wpAnyH_done (by kernel_rfl) ?_ _
              have kb4 := hap.kb HJ9.out hk1 (.slice (some ⟨g, 0, none⟩) (us.length + 1) cap)
              have hJ4 := hap.jx HJ9.out hk1 (Nat.le_refl W8.heap.size : W8.heap.size ≤ W8.drew.heap.size) hu hr1
              rw [hcx] at hJ4
              have hk4 := kr_kb' HK9.out kb4
              clear hap B3 S3 R3
              generalize w3.setCell ⟨w.heap.size + 1, 5, none⟩ (.slice (some ⟨g, 0, none⟩) (us.length + 1) cap) = W4 at *
              clear m0 m1 m2 m3 m4 m5 n0 n1 n2 n3 n4 n5 o0 o1 o2 o3 o4 o5 of b1 b2 hHeld y0 y1 y2' y3 y4 y5 d0' d1 d2' d3 d4 d5
              obtain ⟨k0, k1, k2, k3, k4⟩ := hJ4.rr.cells
              have cE := ends_c 125 (by omega) (by omega) hj2 hJ4.rr
              unfold ptr at cE
              have hbj := blk_ge s j2
              have hbs := blk_in hj2
              have HJ4 : Hid (Jx W4 R w.heap.size n 6 s j2 bb2 (.slice (some ⟨gn, 0, none⟩) (ns.length + 1) capn) (.slice (some ⟨g, 0, none⟩) (us.length + 1) cap) (us ++ [.agg #[.int .i64 ck, .bool cb, .int .i64 ci, .string cs, .slice an ln cn, .slice al ll cl]]) (fun q => if q < acc.length then T q else Rg W8.drew.heap.size w1.heap.size) (ns ++ [t]) (acc ++ [cx])) := hJ4
              have hlen4 := hJ4.els.len
              have hac4 : (acc ++ [cx]).length ≤ blk s j2 + 1 := by rw [List.length_append]; simp; omega
              have hnn4 : (ns ++ [t]).length ≤ blk s j2 + 1 := by rw [List.length_append]; simp; omega
              clear hJ4 hu hcx
              have ne2 : ¬ R = w.heap.size := by omega
              by_cases h1 : at' s (blk s j2) = 125
              ·have hen : en s 125 j2 = .ok (true, blk s j2 + 1) := by unfold en; rw [if_pos h1]
               have hb1 : blk s j2 < s.size := at_in (by omega)
               rw [hen] at cE
               have HU2 : Hid (U = .ok (.mk 6 false 0 ⟨#[]⟩ (ns ++ [t]) (acc ++ [cx]), blk s j2 + 1, bb2)) := by
                show _ = _
                rw [← HU.out, HT3.out, if_pos h1]
                rfl
               clear HT3 HU h1 hen
               go_wp2_with fail
               refine cE.mono ?_
               rintro e w5 ⟨⟨rfl, hr5⟩, k5⟩
               have hJ5 := HJ4.out.kr k5 hr5
               have hk5 := hk4.trans k5
               have hbx5 := hJ5.box
               have hrs5 := hJ5.res
               clear cE k0 k1 k2 k3 k4
               obtain ⟨c0, c1, c2, c3, c4, c5⟩ := six_box hbx5
               obtain ⟨r0, r1, r2, r3, r4, r5⟩ := six_box hrs5
               have g0 := frozen_box hrs5 0
               have g1 := frozen_box hrs5 1
               have g2 := frozen_box hrs5 2
               have g3 := frozen_box hrs5 3
               have g4 := frozen_box hrs5 4
               have g5 := frozen_box hrs5 5
               have HRS5 : Hid (w5.heap[w.heap.size]? = some (.cells #[.int .i64 0, .bool false, .int .i64 0, .string ⟨#[]⟩, .slice none 0 0, .slice none 0 0] 27 (0, 0))) := hrs5
               clear hbx5 hrs5
               go_wp2_with fail
               obtain ⟨W6, hW6⟩ : ∃ W6, ((((((w5.setCell ⟨w.heap.size, 0, none⟩ (.int .i64 6)).setCell ⟨w.heap.size, 1, none⟩ (.bool false)).setCell ⟨w.heap.size, 2, none⟩ (.int .i64 0)).setCell ⟨w.heap.size, 3, none⟩ (.string ⟨#[]⟩)).setCell ⟨w.heap.size, 4, none⟩ (.slice (some ⟨gn, 0, none⟩) (ns.length + 1) capn)).setCell ⟨w.heap.size, 5, none⟩ (.slice (some ⟨g, 0, none⟩) (us.length + 1) cap)) = W6 := ⟨_, rfl⟩
               rw [hW6]
               obtain ⟨q1, q2, q3, q4⟩ := set6 _ _ _ _ _ _ HRS5.out hW6
               obtain ⟨v0, v1, v2, v3, v4, v5⟩ := six_box q1
               refine bodyPost_ret (v := .agg #[.int .i64 6, .bool false, .int .i64 0, .string ⟨#[]⟩, .slice (some ⟨gn, 0, none⟩) (ns.length + 1) capn, .slice (some ⟨g, 0, none⟩) (us.length + 1) cap]) (by simp [results, Tryz.results32, go_sem, v0, v1, v2, v3, v4, v5]) rfl ?_
               rw [HU2.out]
               exact ⟨⟨⟨_, rfl, hJ5.fs (by decide) (by omega) HN2.out (by omega) q2 q3⟩, hJ5.rr.keep (q2 R (by omega))⟩, ⟨q4 _ _ (Nat.le_of_lt hRlt) hk5.below, fun k hk hs => (q2 k (by omega)).trans (hk5.other k hk hs)⟩⟩
              ·by_cases h2 : at' s (blk s j2) = 44
               ·have hen : en s 125 j2 = .ok (false, blk s j2 + 1) := by unfold en; rw [if_neg h1, if_pos h2]
                have hb1 : blk s j2 < s.size := at_in (by omega)
                rw [hen] at cE
                have HT4 : Hid (rcd (vl s n) s f (blk s (blk s j2 + 1)) bb2 (ns ++ [t]) (acc ++ [cx]) = T0) := by
                 show _ = _
                 rw [HT3.out, if_neg h1, if_pos h2]
                clear HT3 h1 h2 hen
                go_wp2_with fail
                refine cE.mono ?_
                rintro e w5 ⟨⟨rfl, hr5⟩, k5⟩
                clear cE k0 k1 k2 k3 k4
                go_wp2_with fail
                go_roundw
                case rel => exact ⟨blk s j2 + 1, bb2, _, _, _, _, ns ++ [t], acc ++ [cx], f, HJ4.out.kr k5 hr5, hk4.trans k5, by omega, hnn4, hac4, HN2.out, HT4.out, by omega⟩
                case measure => exact HMM.out w5 _ _ (by omega) hr5
               ·have hen : en s 125 j2 = .error (600, blk s j2) := by unfold en; rw [if_neg h1, if_neg h2]
                rw [hen] at cE
                have HU2 : Hid (U = .error (600, blk s j2)) := by
                 show _ = _
                 rw [← HU.out, HT3.out, if_neg h1, if_neg h2]
                 rfl
                clear HT3 HU h1 h2 hen
                go_wp2_with fail
                refine cE.mono ?_
                rintro e w5 ⟨⟨rfl, hfl5⟩, k5⟩
                have hlt4 := HJ4.out.lt
                have hbx5 := (k5.other (w.heap.size + 1) (by omega) (by omega)).trans HJ4.out.box
                have hrs5 := (k5.other w.heap.size (by omega) (by omega)).trans HJ4.out.res
                have hk5 := hk4.trans k5
                clear cE k0 k1 k2 k3 k4
                obtain ⟨c0, c1, c2, c3, c4, c5⟩ := six_box hbx5
                obtain ⟨r0, r1, r2, r3, r4, r5⟩ := six_box hrs5
                have g0 := frozen_box hrs5 0
                have g1 := frozen_box hrs5 1
                have g2 := frozen_box hrs5 2
                have g3 := frozen_box hrs5 3
                have g4 := frozen_box hrs5 4
                have g5 := frozen_box hrs5 5
                have HRS5 : Hid (w5.heap[w.heap.size]? = some (.cells #[.int .i64 0, .bool false, .int .i64 0, .string ⟨#[]⟩, .slice none 0 0, .slice none 0 0] 27 (0, 0))) := hrs5
                have HFL : Hid (Flt w5 R s (600, blk s j2)) := hfl5
                clear hbx5 hrs5 hfl5
                go_wp2_with fail
                obtain ⟨W6, hW6⟩ : ∃ W6, ((((((w5.setCell ⟨w.heap.size, 0, none⟩ (.int .i64 6)).setCell ⟨w.heap.size, 1, none⟩ (.bool false)).setCell ⟨w.heap.size, 2, none⟩ (.int .i64 0)).setCell ⟨w.heap.size, 3, none⟩ (.string ⟨#[]⟩)).setCell ⟨w.heap.size, 4, none⟩ (.slice (some ⟨gn, 0, none⟩) (ns.length + 1) capn)).setCell ⟨w.heap.size, 5, none⟩ (.slice (some ⟨g, 0, none⟩) (us.length + 1) cap)) = W6 := ⟨_, rfl⟩
                rw [hW6]
                obtain ⟨q1, q2, q3, q4⟩ := set6 _ _ _ _ _ _ HRS5.out hW6
                obtain ⟨v0, v1, v2, v3, v4, v5⟩ := six_box q1
                refine bodyPost_ret (v := .agg #[.int .i64 6, .bool false, .int .i64 0, .string ⟨#[]⟩, .slice (some ⟨gn, 0, none⟩) (ns.length + 1) capn, .slice (some ⟨g, 0, none⟩) (us.length + 1) cap]) (by simp [results, Tryz.results32, go_sem, v0, v1, v2, v3, v4, v5]) rfl ?_
                rw [HU2.out]
                obtain ⟨hne, jj, bx, hr5⟩ := HFL.out
                exact ⟨⟨⟨_, _, _, _, _, _, _, _, _, _, rfl⟩, hne, jj, bx, hr5.keep (q2 R (by omega))⟩, ⟨q4 _ _ (Nat.le_of_lt hRlt) hk5.below, fun k hk hs => (q2 k (by omega)).trans (hk5.other k hk hs)⟩⟩
          ·have e58 : ((y2 : Int) == 58) = false := by simp; omega
           rw [if_neg h58] at hrcd
           have HU2 : Hid (U = .error (600, p2)) := by
            show _ = _
            rw [← HU.out, hrcd]
            rfl
           clear HU hrcd h58 HV
           go_wp2_with fail
           go_quiet (fail)
           have hJq := HJ6.out.kr ((Kr.refl R w6).drewN nq) (HJ6.out.rr.drewN nq)
           have hcF := fail_first hJq.rr 600 p2 (by omega) (by omega)
           obtain ⟨k0, k1, k2, k3, k4⟩ := hJq.rr.cells
           have HJq : Hid (Jx (w6.drewN nq) R w.heap.size n 6 s p2 bb (.slice an0 ns.length cn0) (.slice al0 us.length cl0) us T ns acc) := hJq
           unfold ptr at hcF
           clear hJq
           go_wp2_with fail
           refine hcF.mono ?_
           rintro e w5 ⟨rfl, hF5, kr5⟩
           have hltq := HJq.out.lt
           clear hcF k0 k1 k2 k3 k4
           have hbx5 := (kr5.other (w.heap.size + 1) (by omega) (by omega)).trans HJq.out.box
           have hrs5 := (kr5.other w.heap.size (by omega) (by omega)).trans HJq.out.res
           obtain ⟨c0, c1, c2, c3, c4, c5⟩ := six_box hbx5
           obtain ⟨r0, r1, r2, r3, r4, r5⟩ := six_box hrs5
           have g0 := frozen_box hrs5 0
           have g1 := frozen_box hrs5 1
           have g2 := frozen_box hrs5 2
           have g3 := frozen_box hrs5 3
           have g4 := frozen_box hrs5 4
           have g5 := frozen_box hrs5 5
           have HRS5 : Hid (w5.heap[w.heap.size]? = some (.cells #[.int .i64 0, .bool false, .int .i64 0, .string ⟨#[]⟩, .slice none 0 0, .slice none 0 0] 27 (0, 0))) := hrs5
           clear hbx5 hrs5
           have HFL : Hid (Flt w5 R s (600, p2)) := ⟨by simp, _, _, hF5⟩
           have hk5 := (hk6.drewN nq).trans kr5
           clear hF5
           go_wp2_with fail
           obtain ⟨W6, hW6⟩ : ∃ W6, ((((((w5.setCell ⟨w.heap.size, 0, none⟩ (.int .i64 6)).setCell ⟨w.heap.size, 1, none⟩ (.bool false)).setCell ⟨w.heap.size, 2, none⟩ (.int .i64 0)).setCell ⟨w.heap.size, 3, none⟩ (.string ⟨#[]⟩)).setCell ⟨w.heap.size, 4, none⟩ (.slice an0 ns.length cn0)).setCell ⟨w.heap.size, 5, none⟩ (.slice al0 us.length cl0)) = W6 := ⟨_, rfl⟩
           rw [hW6]
           obtain ⟨q1, q2, q3, q4⟩ := set6 _ _ _ _ _ _ HRS5.out hW6
           obtain ⟨v0, v1, v2, v3, v4, v5⟩ := six_box q1
           refine bodyPost_ret (v := .agg #[.int .i64 6, .bool false, .int .i64 0, .string ⟨#[]⟩, .slice an0 ns.length cn0, .slice al0 us.length cl0]) (by simp [results, Tryz.results32, go_sem, v0, v1, v2, v3, v4, v5]) rfl ?_
           rw [HU2.out]
           obtain ⟨hne, jj, bx, hr5⟩ := HFL.out
           exact ⟨⟨⟨_, _, _, _, _, _, _, _, _, _, rfl⟩, hne, jj, bx, hr5.keep (q2 R (by omega))⟩, ⟨q4 _ _ (Nat.le_of_lt hRlt) hk5.below, fun k hk hs => (q2 k (by omega)).trans (hk5.other k hk hs)⟩⟩
         ·have d2 : decide (s.size ≤ p2) = true := decide_eq_true (by omega)
          rw [if_neg (by rw [at_out s p2 hplt2]; omega)] at hrcd
          have HU2 : Hid (U = .error (600, p2)) := by
           show _ = _
           rw [← HU.out, hrcd]
           rfl
          clear HU hrcd HV
          go_wp2_with fail
          go_quiet (fail)
          have hJq := HJ6.out.kr ((Kr.refl R w6).drewN nq) (HJ6.out.rr.drewN nq)
          have hcF := fail_first hJq.rr 600 p2 (by omega) (by omega)
          obtain ⟨k0, k1, k2, k3, k4⟩ := hJq.rr.cells
          have HJq : Hid (Jx (w6.drewN nq) R w.heap.size n 6 s p2 bb (.slice an0 ns.length cn0) (.slice al0 us.length cl0) us T ns acc) := hJq
          unfold ptr at hcF
          clear hJq
          go_wp2_with fail
          refine hcF.mono ?_
          rintro e w5 ⟨rfl, hF5, kr5⟩
          have hltq := HJq.out.lt
          clear hcF k0 k1 k2 k3 k4
          have hbx5 := (kr5.other (w.heap.size + 1) (by omega) (by omega)).trans HJq.out.box
          have hrs5 := (kr5.other w.heap.size (by omega) (by omega)).trans HJq.out.res
          obtain ⟨c0, c1, c2, c3, c4, c5⟩ := six_box hbx5
          obtain ⟨r0, r1, r2, r3, r4, r5⟩ := six_box hrs5
          have g0 := frozen_box hrs5 0
          have g1 := frozen_box hrs5 1
          have g2 := frozen_box hrs5 2
          have g3 := frozen_box hrs5 3
          have g4 := frozen_box hrs5 4
          have g5 := frozen_box hrs5 5
          have HRS5 : Hid (w5.heap[w.heap.size]? = some (.cells #[.int .i64 0, .bool false, .int .i64 0, .string ⟨#[]⟩, .slice none 0 0, .slice none 0 0] 27 (0, 0))) := hrs5
          clear hbx5 hrs5
          have HFL : Hid (Flt w5 R s (600, p2)) := ⟨by simp, _, _, hF5⟩
          have hk5 := (hk6.drewN nq).trans kr5
          clear hF5
          go_wp2_with fail
          obtain ⟨W6, hW6⟩ : ∃ W6, ((((((w5.setCell ⟨w.heap.size, 0, none⟩ (.int .i64 6)).setCell ⟨w.heap.size, 1, none⟩ (.bool false)).setCell ⟨w.heap.size, 2, none⟩ (.int .i64 0)).setCell ⟨w.heap.size, 3, none⟩ (.string ⟨#[]⟩)).setCell ⟨w.heap.size, 4, none⟩ (.slice an0 ns.length cn0)).setCell ⟨w.heap.size, 5, none⟩ (.slice al0 us.length cl0)) = W6 := ⟨_, rfl⟩
          rw [hW6]
          obtain ⟨q1, q2, q3, q4⟩ := set6 _ _ _ _ _ _ HRS5.out hW6
          obtain ⟨v0, v1, v2, v3, v4, v5⟩ := six_box q1
          refine bodyPost_ret (v := .agg #[.int .i64 6, .bool false, .int .i64 0, .string ⟨#[]⟩, .slice an0 ns.length cn0, .slice al0 us.length cl0]) (by simp [results, Tryz.results32, go_sem, v0, v1, v2, v3, v4, v5]) rfl ?_
          rw [HU2.out]
          obtain ⟨hne, jj, bx, hr5⟩ := HFL.out
          exact ⟨⟨⟨_, _, _, _, _, _, _, _, _, _, rfl⟩, hne, jj, bx, hr5.keep (q2 R (by omega))⟩, ⟨q4 _ _ (Nat.le_of_lt hRlt) hk5.below, fun k hk hs => (q2 k (by omega)).trans (hk5.other k hk hs)⟩⟩
        ·have HU2 : Hid (U = .error (F', P')) := by
          show _ = _
          rw [← HU.out, ← HT.out, HST.out.bad HF1.out (fun h0 => (HF2.out h0).2.2) hF0]
          rfl
         have e0 : ((F' : Int) == 0) = false := by simp; omega
         obtain ⟨p2, hp2⟩ : ∃ p2, blk s j = p2 := ⟨_, rfl⟩
         rw [hp2] at hr6
         have hli := hr6.li
         obtain ⟨k0, k1, k2, k3, k4⟩ := hr6.cells
         have HR6 : Hid (Rr w6 R s p2 F' P' bb) := hr6
         clear HU HT HST HF1 HF2 hr6 hp2 HV
         by_cases hplt2 : p2 < s.size
         ·have d2 : decide (s.size ≤ p2) = false := decide_eq_false (by omega)
          obtain ⟨y2, hy2⟩ : ∃ y2, (s[p2]'hplt2).toNat = y2 := ⟨_, rfl⟩
          by_cases h58 : y2 = 58
          ·have e58 : ((y2 : Int) == 58) = true := by simp [h58]
           clear h58
           go_wp2_with fail
           go_quiet (fail)
           have hrq := HR6.out.drewN nq
           have kxq := kx6.drewN nq
           have hk5 := hk6.drewN nq
           have HFL : Hid (Flt (w6.drewN nq) R s (F', P')) := ⟨hF0, _, _, hrq⟩
           clear k0 k1 k2 k3 k4
           obtain ⟨k0, k1, k2, k3, k4⟩ := hrq.cells
           have hltq : w.heap.size + 2 ≤ W3.heap.size := hlt3
           have hbx5 := (kxq.other (w.heap.size + 1) (by omega) (by omega)).trans HJ3.out.box
           have hrs5 := (kxq.other w.heap.size (by omega) (by omega)).trans HJ3.out.res
           obtain ⟨c0, c1, c2, c3, c4, c5⟩ := six_box hbx5
           obtain ⟨r0, r1, r2, r3, r4, r5⟩ := six_box hrs5
           have g0 := frozen_box hrs5 0
           have g1 := frozen_box hrs5 1
           have g2 := frozen_box hrs5 2
           have g3 := frozen_box hrs5 3
           have g4 := frozen_box hrs5 4
           have g5 := frozen_box hrs5 5
           have HRS5 : Hid ((w6.drewN nq).heap[w.heap.size]? = some (.cells #[.int .i64 0, .bool false, .int .i64 0, .string ⟨#[]⟩, .slice none 0 0, .slice none 0 0] 27 (0, 0))) := hrs5
           clear hbx5 hrs5
           clear hrq
           go_wp2_with fail
           obtain ⟨W6, hW6⟩ : ∃ W6, (((((((w6.drewN nq).setCell ⟨w.heap.size, 0, none⟩ (.int .i64 6)).setCell ⟨w.heap.size, 1, none⟩ (.bool false)).setCell ⟨w.heap.size, 2, none⟩ (.int .i64 0)).setCell ⟨w.heap.size, 3, none⟩ (.string ⟨#[]⟩)).setCell ⟨w.heap.size, 4, none⟩ (.slice an0 ns.length cn0)).setCell ⟨w.heap.size, 5, none⟩ (.slice al0 us.length cl0)) = W6 := ⟨_, rfl⟩
           rw [hW6]
           obtain ⟨q1, q2, q3, q4⟩ := set6 _ _ _ _ _ _ HRS5.out hW6
           obtain ⟨v0, v1, v2, v3, v4, v5⟩ := six_box q1
           refine bodyPost_ret (v := .agg #[.int .i64 6, .bool false, .int .i64 0, .string ⟨#[]⟩, .slice an0 ns.length cn0, .slice al0 us.length cl0]) (by simp [results, Tryz.results32, go_sem, v0, v1, v2, v3, v4, v5]) rfl ?_
           rw [HU2.out]
           obtain ⟨hne, jj, bx, hr5⟩ := HFL.out
           exact ⟨⟨⟨_, _, _, _, _, _, _, _, _, _, rfl⟩, hne, jj, bx, hr5.keep (q2 R (by omega))⟩, ⟨q4 _ _ (Nat.le_of_lt hRlt) hk5.below, fun k hk hs => (q2 k (by omega)).trans (hk5.other k hk hs)⟩⟩
          ·have e58 : ((y2 : Int) == 58) = false := by simp; omega
           clear h58
           go_wp2_with fail
           go_quiet (fail)
           have hrq := HR6.out.drewN nq
           have kxq := kx6.drewN nq
           have hk5 := hk6.drewN nq
           have HFL : Hid (Flt (w6.drewN nq) R s (F', P')) := ⟨hF0, _, _, hrq⟩
           have hcF := fun e pl => fail_more hrq hF0 e pl
           unfold ptr at hcF
           clear k0 k1 k2 k3 k4
           obtain ⟨k0, k1, k2, k3, k4⟩ := hrq.cells
           have hltq : w.heap.size + 2 ≤ W3.heap.size := hlt3
           have hbx5 := (kxq.other (w.heap.size + 1) (by omega) (by omega)).trans HJ3.out.box
           have hrs5 := (kxq.other w.heap.size (by omega) (by omega)).trans HJ3.out.res
           obtain ⟨c0, c1, c2, c3, c4, c5⟩ := six_box hbx5
           obtain ⟨r0, r1, r2, r3, r4, r5⟩ := six_box hrs5
           have g0 := frozen_box hrs5 0
           have g1 := frozen_box hrs5 1
           have g2 := frozen_box hrs5 2
           have g3 := frozen_box hrs5 3
           have g4 := frozen_box hrs5 4
           have g5 := frozen_box hrs5 5
           have HRS5 : Hid ((w6.drewN nq).heap[w.heap.size]? = some (.cells #[.int .i64 0, .bool false, .int .i64 0, .string ⟨#[]⟩, .slice none 0 0, .slice none 0 0] 27 (0, 0))) := hrs5
           clear hbx5 hrs5
           clear hrq
           go_wp2_with (first | (go_at_call 16; refine (hcF _ _).mono ?_; rintro e w' ⟨rfl, rfl⟩))
           obtain ⟨W6, hW6⟩ : ∃ W6, (((((((w6.drewN nq).setCell ⟨w.heap.size, 0, none⟩ (.int .i64 6)).setCell ⟨w.heap.size, 1, none⟩ (.bool false)).setCell ⟨w.heap.size, 2, none⟩ (.int .i64 0)).setCell ⟨w.heap.size, 3, none⟩ (.string ⟨#[]⟩)).setCell ⟨w.heap.size, 4, none⟩ (.slice an0 ns.length cn0)).setCell ⟨w.heap.size, 5, none⟩ (.slice al0 us.length cl0)) = W6 := ⟨_, rfl⟩
           rw [hW6]
           obtain ⟨q1, q2, q3, q4⟩ := set6 _ _ _ _ _ _ HRS5.out hW6
           obtain ⟨v0, v1, v2, v3, v4, v5⟩ := six_box q1
           refine bodyPost_ret (v := .agg #[.int .i64 6, .bool false, .int .i64 0, .string ⟨#[]⟩, .slice an0 ns.length cn0, .slice al0 us.length cl0]) (by simp [results, Tryz.results32, go_sem, v0, v1, v2, v3, v4, v5]) rfl ?_
           rw [HU2.out]
           obtain ⟨hne, jj, bx, hr5⟩ := HFL.out
           exact ⟨⟨⟨_, _, _, _, _, _, _, _, _, _, rfl⟩, hne, jj, bx, hr5.keep (q2 R (by omega))⟩, ⟨q4 _ _ (Nat.le_of_lt hRlt) hk5.below, fun k hk hs => (q2 k (by omega)).trans (hk5.other k hk hs)⟩⟩
         ·have d2 : decide (s.size ≤ p2) = true := decide_eq_true (by omega)
          go_wp2_with fail
          go_quiet (fail)
          have hrq := HR6.out.drewN nq
          have kxq := kx6.drewN nq
          have hk5 := hk6.drewN nq
          have HFL : Hid (Flt (w6.drewN nq) R s (F', P')) := ⟨hF0, _, _, hrq⟩
          have hcF := fun e pl => fail_more hrq hF0 e pl
          unfold ptr at hcF
          clear k0 k1 k2 k3 k4
          obtain ⟨k0, k1, k2, k3, k4⟩ := hrq.cells
          have hltq : w.heap.size + 2 ≤ W3.heap.size := hlt3
          have hbx5 := (kxq.other (w.heap.size + 1) (by omega) (by omega)).trans HJ3.out.box
          have hrs5 := (kxq.other w.heap.size (by omega) (by omega)).trans HJ3.out.res
          obtain ⟨c0, c1, c2, c3, c4, c5⟩ := six_box hbx5
          obtain ⟨r0, r1, r2, r3, r4, r5⟩ := six_box hrs5
          have g0 := frozen_box hrs5 0
          have g1 := frozen_box hrs5 1
          have g2 := frozen_box hrs5 2
          have g3 := frozen_box hrs5 3
          have g4 := frozen_box hrs5 4
          have g5 := frozen_box hrs5 5
          have HRS5 : Hid ((w6.drewN nq).heap[w.heap.size]? = some (.cells #[.int .i64 0, .bool false, .int .i64 0, .string ⟨#[]⟩, .slice none 0 0, .slice none 0 0] 27 (0, 0))) := hrs5
          clear hbx5 hrs5
          clear hrq
          go_wp2_with (first | (go_at_call 16; refine (hcF _ _).mono ?_; rintro e w' ⟨rfl, rfl⟩))
          obtain ⟨W6, hW6⟩ : ∃ W6, (((((((w6.drewN nq).setCell ⟨w.heap.size, 0, none⟩ (.int .i64 6)).setCell ⟨w.heap.size, 1, none⟩ (.bool false)).setCell ⟨w.heap.size, 2, none⟩ (.int .i64 0)).setCell ⟨w.heap.size, 3, none⟩ (.string ⟨#[]⟩)).setCell ⟨w.heap.size, 4, none⟩ (.slice an0 ns.length cn0)).setCell ⟨w.heap.size, 5, none⟩ (.slice al0 us.length cl0)) = W6 := ⟨_, rfl⟩
          rw [hW6]
          obtain ⟨q1, q2, q3, q4⟩ := set6 _ _ _ _ _ _ HRS5.out hW6
          obtain ⟨v0, v1, v2, v3, v4, v5⟩ := six_box q1
          refine bodyPost_ret (v := .agg #[.int .i64 6, .bool false, .int .i64 0, .string ⟨#[]⟩, .slice an0 ns.length cn0, .slice al0 us.length cl0]) (by simp [results, Tryz.results32, go_sem, v0, v1, v2, v3, v4, v5]) rfl ?_
          rw [HU2.out]
          obtain ⟨hne, jj, bx, hr5⟩ := HFL.out
          exact ⟨⟨⟨_, _, _, _, _, _, _, _, _, _, rfl⟩, hne, jj, bx, hr5.keep (q2 R (by omega))⟩, ⟨q4 _ _ (Nat.le_of_lt hRlt) hk5.below, fun k hk hs => (q2 k (by omega)).trans (hk5.other k hk hs)⟩⟩
     ·have e34 : ((y : Int) == 34) = false := by simp; omega
      have HU2 : Hid (U = .error (600, p)) := by
       show _ = _
       rw [← HU.out, ← HT.out, rcd_form (by omega)]
       rfl
      clear HU HT h34 hya hJ2 HV
      go_wp2_with fail
      go_quiet (fail)
      have hJq := HJ2.out.kr ((Kr.refl R w2).drewN nq) (HJ2.out.rr.drewN nq)
      have hcF := fail_first hJq.rr 600 p (by omega) (by omega)
      obtain ⟨k0, k1, k2, k3, k4⟩ := hJq.rr.cells
      have HJq : Hid (Jx (w2.drewN nq) R w.heap.size n 6 s p b' (.slice an0 ns.length cn0) (.slice al0 us.length cl0) us T ns acc) := hJq
      unfold ptr at hcF
      clear hJq
      go_wp2_with fail
      refine hcF.mono ?_
      rintro e w5 ⟨rfl, hF5, kr5⟩
      have hltq := HJq.out.lt
      clear hcF k0 k1 k2 k3 k4
      have hbx5 := (kr5.other (w.heap.size + 1) (by omega) (by omega)).trans HJq.out.box
      have hrs5 := (kr5.other w.heap.size (by omega) (by omega)).trans HJq.out.res
      obtain ⟨c0, c1, c2, c3, c4, c5⟩ := six_box hbx5
      obtain ⟨r0, r1, r2, r3, r4, r5⟩ := six_box hrs5
      have g0 := frozen_box hrs5 0
      have g1 := frozen_box hrs5 1
      have g2 := frozen_box hrs5 2
      have g3 := frozen_box hrs5 3
      have g4 := frozen_box hrs5 4
      have g5 := frozen_box hrs5 5
      have HRS5 : Hid (w5.heap[w.heap.size]? = some (.cells #[.int .i64 0, .bool false, .int .i64 0, .string ⟨#[]⟩, .slice none 0 0, .slice none 0 0] 27 (0, 0))) := hrs5
      clear hbx5 hrs5
      have HFL : Hid (Flt w5 R s (600, p)) := ⟨by simp, _, _, hF5⟩
      have hk5 := (hk2.drewN nq).trans kr5
      clear hF5
      go_wp2_with fail
      obtain ⟨W6, hW6⟩ : ∃ W6, ((((((w5.setCell ⟨w.heap.size, 0, none⟩ (.int .i64 6)).setCell ⟨w.heap.size, 1, none⟩ (.bool false)).setCell ⟨w.heap.size, 2, none⟩ (.int .i64 0)).setCell ⟨w.heap.size, 3, none⟩ (.string ⟨#[]⟩)).setCell ⟨w.heap.size, 4, none⟩ (.slice an0 ns.length cn0)).setCell ⟨w.heap.size, 5, none⟩ (.slice al0 us.length cl0)) = W6 := ⟨_, rfl⟩
      rw [hW6]
      obtain ⟨q1, q2, q3, q4⟩ := set6 _ _ _ _ _ _ HRS5.out hW6
      obtain ⟨v0, v1, v2, v3, v4, v5⟩ := six_box q1
      refine bodyPost_ret (v := .agg #[.int .i64 6, .bool false, .int .i64 0, .string ⟨#[]⟩, .slice an0 ns.length cn0, .slice al0 us.length cl0]) (by simp [results, Tryz.results32, go_sem, v0, v1, v2, v3, v4, v5]) rfl ?_
      rw [HU2.out]
      obtain ⟨hne, jj, bx, hr5⟩ := HFL.out
      exact ⟨⟨⟨_, _, _, _, _, _, _, _, _, _, rfl⟩, hne, jj, bx, hr5.keep (q2 R (by omega))⟩, ⟨q4 _ _ (Nat.le_of_lt hRlt) hk5.below, fun k hk hs => (q2 k (by omega)).trans (hk5.other k hk hs)⟩⟩
    ·have d0 : decide (s.size ≤ p) = true := decide_eq_true (by omega)
     have HU2 : Hid (U = .error (600, p)) := by
      show _ = _
      rw [← HU.out, ← HT.out, rcd_form (by rw [at_out s p hplt]; omega)]
      rfl
     clear HU HT hJ2 HV
     go_wp2_with fail
     go_quiet (fail)
     have hJq := HJ2.out.kr ((Kr.refl R w2).drewN nq) (HJ2.out.rr.drewN nq)
     have hcF := fail_first hJq.rr 600 p (by omega) (by omega)
     obtain ⟨k0, k1, k2, k3, k4⟩ := hJq.rr.cells
     have HJq : Hid (Jx (w2.drewN nq) R w.heap.size n 6 s p b' (.slice an0 ns.length cn0) (.slice al0 us.length cl0) us T ns acc) := hJq
     unfold ptr at hcF
     clear hJq
     go_wp2_with fail
     refine hcF.mono ?_
     rintro e w5 ⟨rfl, hF5, kr5⟩
     have hltq := HJq.out.lt
     clear hcF k0 k1 k2 k3 k4
     have hbx5 := (kr5.other (w.heap.size + 1) (by omega) (by omega)).trans HJq.out.box
     have hrs5 := (kr5.other w.heap.size (by omega) (by omega)).trans HJq.out.res
     obtain ⟨c0, c1, c2, c3, c4, c5⟩ := six_box hbx5
     obtain ⟨r0, r1, r2, r3, r4, r5⟩ := six_box hrs5
     have g0 := frozen_box hrs5 0
     have g1 := frozen_box hrs5 1
     have g2 := frozen_box hrs5 2
     have g3 := frozen_box hrs5 3
     have g4 := frozen_box hrs5 4
     have g5 := frozen_box hrs5 5
     have HRS5 : Hid (w5.heap[w.heap.size]? = some (.cells #[.int .i64 0, .bool false, .int .i64 0, .string ⟨#[]⟩, .slice none 0 0, .slice none 0 0] 27 (0, 0))) := hrs5
     clear hbx5 hrs5
     have HFL : Hid (Flt w5 R s (600, p)) := ⟨by simp, _, _, hF5⟩
     have hk5 := (hk2.drewN nq).trans kr5
     clear hF5
     go_wp2_with fail
     obtain ⟨W6, hW6⟩ : ∃ W6, ((((((w5.setCell ⟨w.heap.size, 0, none⟩ (.int .i64 6)).setCell ⟨w.heap.size, 1, none⟩ (.bool false)).setCell ⟨w.heap.size, 2, none⟩ (.int .i64 0)).setCell ⟨w.heap.size, 3, none⟩ (.string ⟨#[]⟩)).setCell ⟨w.heap.size, 4, none⟩ (.slice an0 ns.length cn0)).setCell ⟨w.heap.size, 5, none⟩ (.slice al0 us.length cl0)) = W6 := ⟨_, rfl⟩
     rw [hW6]
     obtain ⟨q1, q2, q3, q4⟩ := set6 _ _ _ _ _ _ HRS5.out hW6
     obtain ⟨v0, v1, v2, v3, v4, v5⟩ := six_box q1
     refine bodyPost_ret (v := .agg #[.int .i64 6, .bool false, .int .i64 0, .string ⟨#[]⟩, .slice an0 ns.length cn0, .slice al0 us.length cl0]) (by simp [results, Tryz.results32, go_sem, v0, v1, v2, v3, v4, v5]) rfl ?_
     rw [HU2.out]
     obtain ⟨hne, jj, bx, hr5⟩ := HFL.out
     exact ⟨⟨⟨_, _, _, _, _, _, _, _, _, _, rfl⟩, hne, jj, bx, hr5.keep (q2 R (by omega))⟩, ⟨q4 _ _ (Nat.le_of_lt hRlt) hk5.below, fun k hk hs => (q2 k (by omega)).trans (hk5.other k hk hs)⟩⟩
end Go.Proofs.YthkpbhgbmagaeaaGreatDoor.RRec

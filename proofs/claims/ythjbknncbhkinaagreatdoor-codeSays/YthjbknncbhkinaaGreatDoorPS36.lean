import Derived.Test.YthjbknncbhkinaaGreatDoorPS35
open Go.Proofs.Tryz
set_option linter.unusedVariables false
set_option maxRecDepth 100000
set_option maxHeartbeats 4000000
namespace Go.Proofs.YthjbknncbhkinaaGreatDoor.GMw
open Go.RowKit Go.Shelf Base Walk Fault Measure
attribute [local go_sem] Oper.semAt_some
def dw (d : Nat) : Int := IntKind.i64.wrap (d : Int)
theorem dw_small {d : Nat} (h : d <= 1000) : dw d = d := by unfold dw; rw [IntKind.wrap_i64]; omega
theorem dw_succ (d : Nat) : IntKind.i64.wrap (dw d + 1) = dw (d + 1) := by unfold dw; rw [IntKind.wrap_i64, IntKind.wrap_i64, IntKind.wrap_i64]; omega
def encW {w0 : World} (x : Al w0) : Array Value := #[.int .i64 (dw x.1.1), x.1.2.1]
def msw : Int -> Nat -> List (Nat × C) -> Int × Int × Int
 | D, k, [] => (D, k, 0)
 | D, k, (d, c) :: r => if ft c (dw d) (k + 1 : Nat) = 0 then msw (max D (dw d)) (k + 1) r else (0, 0, ft c (dw d) (k + 1 : Nat))
def mxw (l : List (Nat × C)) : Int := l.foldl (fun D x => max D (dw x.1)) 0
theorem mxw_snoc (l : List (Nat × C)) (x : Nat × C) : mxw (l ++ [x]) = max (mxw l) (dw x.1) := by simp [mxw]
def WalkW (w0 : World) (n1 l N : Nat) (J Jx : List (Al w0) -> World -> Prop) (m : Nat) : Prop :=
 ∀ (v : Value) (c : C) (d n : Nat) (pre : List (Al w0)) (W : World), In false All w0 m v c -> Below w0.heap.size w0 W -> n1 <= W.heap.size -> J pre W -> pre.length + (pl d c).length <= N ->
  CallsIn Fence.wide n prog 127 #[v, .int .i64 (dw d), .func (.yield l) #[] #[]] W fun e W' =>
   (e = .returned (.bool true) /\ ∃ xs, xs.map pr = pl d c /\ J (pre ++ xs) W' /\ Kp w0.heap.size n1 W W') \/ (e = .returned (.bool false) /\ ∃ q, q.map pr <+: pl d c /\ Jx (pre ++ q) W')
theorem walkW_of (w0 : World) (n1 l N : Nat) (J Jx : List (Al w0) -> World -> Prop) (hJa : ∀ s W o, J s W -> J s (W.alloc o))
  (hY : ∀ m pre x W, J pre W -> pre.length < N -> YieldAt Fence.wide m prog l (encW x) W fun e W' => (e = .returned (.bool true) /\ J (pre ++ [x]) W' /\ Kp w0.heap.size n1 W W') \/ (e = .returned (.bool false) /\ Jx (pre ++ [x]) W'))
  (m : Nat) (ih : WalkW w0 n1 l N J Jx m) : WalkW w0 n1 l N J Jx (m + 1) := by
 intro v c d n pre W hin hB hn1 hJ hN
 have hdd : ∀ k : Nat, (Fence.wide.depth.isSome = true -> 1 <= k) := fun k h => by cases h
 obtain ⟨k, b, i, s, ns, ls⟩ := c
 have hin' := hin
 rw [in_iff] at hin'
 obtain ⟨nv, lv, rfl, -, -, -, hn, hl⟩ := hin'
 obtain ⟨a, cap, rfl, hlc, hcm, hlen, hnil, hL⟩ := hl.out
 clear hn hl
 have hsz := hB.size
 obtain ⟨W0, hW0⟩ : ∃ W0, W.alloc (.cells #[.int .i64 k, .bool b, .int .i64 i, .string s, nv, .slice a ls.length cap] 46) = W0 := ⟨_, rfl⟩
 have hx0 : W0.heap[W.heap.size]? = some (.cells #[.int .i64 k, .bool b, .int .i64 i, .string s, nv, .slice a ls.length cap] 46 (0, 0)) := by rw [<- hW0, heap_alloc_new]
 have hs0 : W0.heap.size = W.heap.size + 1 := by rw [<- hW0]; simp
 have hB0 : Kp w0.heap.size n1 W W0 := by rw [<- hW0]; exact Kp.of_below ((Below.refl _ W).alloc (Nat.le_refl _) _) hsz
 have hJ0 : J pre W0 := by rw [<- hW0]; exact hJa _ _ _ hJ
 obtain ⟨d0, d1, d2, d3, d4, d5⟩ := six_box hx0
 obtain ⟨x0, hx⟩ : ∃ x0 : Al w0, x0 = ⟨(d, .agg #[.int .i64 k, .bool b, .int .i64 i, .string s, nv, .slice a ls.length cap], .mk k b i s ns ls), m + 1, hin⟩ := ⟨_, rfl⟩
 have hpr : pr x0 = (d, .mk k b i s ns ls) := by rw [hx]; rfl
 have henc : encW x0 = #[.int .i64 (dw d), .agg #[.int .i64 k, .bool b, .int .i64 i, .string s, nv, .slice a ls.length cap]] := by rw [hx]; rfl
 have hpl : (pl d (.mk k b i s ns ls)).length = (plL (d + 1) ls).length + 1 := by simp [pl]
 obtain ⟨fn, tmps, assign, body, hy, hR⟩ := hY (n - 1) pre x0 W0 hJ0 (by omega)
 rw [henc] at hy
 have Hpr : Hid (pr x0 = (d, .mk k b i s ns ls)) := hpr
 have Hih : Hid (WalkW w0 n1 l N J Jx m) := ih
 have HDW : Hid (IntKind.i64.wrap (dw d + 1) = dw (d + 1)) := dw_succ d
 obtain ⟨dd, hdd⟩ : ∃ dd, dw d = dd := ⟨_, rfl⟩
 rw [hdd] at hy HDW ⊢
 have HN : Hid (pre.length + ((plL (d + 1) ls).length + 1) <= N) := by show _ <= _; omega
 clear hx hpr henc ih hpl hN hdd
 refine callsIn_of_wp func127 rfl trivial ?_ rfl
 simp only [ntmps127, List.size_toArray, List.length_cons, List.length_nil, Nat.reduceAdd, Nat.reduceSub, Array.replicate_succ, Array.replicate_zero, List.push_toArray, List.append_toArray, List.nil_append, List.cons_append]
 gi_wp2
 refine ⟨hdd _, ?_⟩
 refine hR.mono ?_
 clear hR
 rintro e W1 (⟨rfl, hJ1, hk1⟩ | ⟨rfl, hx1⟩)
 ·have hx1 := hk1.2 _ _ _ _ hn1 hx0
  obtain ⟨-, -, -, -, -, y5⟩ := six_box hx1
  have hk2 := hB0.trans hk1
  clear hx0 hx1 hy hW0 hJ0 hJ d0 d1 d2 d3 d4 d5
  gi_wp2
  gi_loopw [17] (fun i' wr => ∃ (q : Nat) (xs : List (Al w0)), q <= ls.length /\ i' = .int .i64 q /\ xs.map pr = plL (d + 1) (ls.take q) /\ J (pre ++ x0 :: xs) wr /\ Kp w0.heap.size n1 W wr) (fun i' _ => ls.length - (intOf i').toNat)
  case atStart => exact ⟨0, [], by omega, rfl, by simp [plL], hJ1, hk2⟩
  case round =>
   obtain ⟨q, xs, hq, rfl, hxs, hJs, hk⟩ := hrel
   have Hxs : Hid (xs.map pr = plL (d + 1) (ls.take q)) := hxs
   clear hxs hJ1 hk1 hk2 y5
   have hBr : Below w0.heap.size w0 wr := hB.trans hk.1
   have hwr := hBr.size
   by_cases hlt : q < ls.length
   ·obtain ⟨g, o, u, rfl, -, hu, hin2⟩ := elem_at hL hlt
    have hu := six_below hu hBr
    obtain ⟨v0, v1, v2, v3, v4, v5, rfl, d0, d1, d2, d3, d4, d5⟩ := hu
    obtain ⟨a1, b1, c1, a2, b2, c2, rfl, rfl, rfl, rfl, rfl, rfl⟩ := hin2.kinds
    have hlen2 : (pre ++ x0 :: xs).length + (pl (d + 1) ls[q]).length <= N := by
     have e1 := congrArg List.length Hxs.out
     have e2 := (plL_pre (d + 1) ls (q + 1)).length_le
     rw [plL_take _ _ _ hlt, List.length_append] at e2
     have := HN.out
     simp at e1 ⊢
     omega
    have HP1 : Hid (plL (d + 1) (ls.take (q + 1)) = plL (d + 1) (ls.take q) ++ pl (d + 1) ls[q]) := plL_take _ _ _ hlt
    have hk3 : Kp w0.heap.size n1 wr (wr.alloc (.cells #[.int .i64 ls[q].k, .bool ls[q].b, .int .i64 ls[q].i, .string ls[q].s, .slice a1 b1 c1, .slice a2 b2 c2] 46)) := Kp.of_below ((Below.refl _ wr).alloc (Nat.le_refl _) _) hwr
    have hwk := hk.1.size
    have c62 := Hih.out _ ls[q] (d + 1) (n - 1) (pre ++ x0 :: xs) _ hin2 (hBr.trans hk3.1) (by simp; omega) (hJa _ _ _ hJs) hlen2
    have hkk := hk.trans hk3
    clear hk3 hk hlen2 hin2 hL hwk
    have hdw := HDW.out
    generalize ls[q].k = kk, ls[q].b = bb, ls[q].i = ii, ls[q].s = ss at *
    gi_wp2_with fail
    refine ⟨trivial, hdd _, ?_⟩
    try rw [hdw]
    refine c62.mono ?_
    rintro e W3 (⟨rfl, ys, hys, hJ3, hk3⟩ | ⟨rfl, q', hq', hx3⟩)
    ·have HY3 : Hid (ys.map pr = pl (d + 1) ls[q]) := hys
     clear c62 hys
     gi_wp2_with fail
     go_roundw
     case rel =>
      refine ⟨q + 1, xs ++ ys, by omega, by go_num, ?_, ?_, hkk.trans hk3⟩
      ·rw [HP1.out, List.map_append, Hxs.out, HY3.out]
      ·simpa using hJ3
     case measure => simp only [intOf]; omega
    ·clear c62
     gi_wp2_with fail
     go_ret
     refine .inr ⟨rfl, x0 :: (xs ++ q'), ?_, ?_⟩
     ·rw [List.map_cons, List.map_append, Hpr.out, Hxs.out, pl]
      obtain ⟨r, hr⟩ := hq'
      obtain ⟨r', hr'⟩ := plL_pre (d + 1) ls (q + 1)
      refine ⟨r ++ r', ?_⟩
      rw [<- hr', HP1.out, <- hr]
      simp
     ·simpa using hx3
   ·have hlt' : decide ((q : Int) < (ls.length : Int)) = false := by simp; omega
    gi_wp2
    go_ret
    refine .inl ⟨rfl, x0 :: xs, ?_, hJs, hk⟩
    rw [List.map_cons, Hpr.out, Hxs.out, pl, List.take_of_length_le (by omega)]
 ·gi_wp2
  go_ret
  refine .inr ⟨rfl, [x0], ?_, hx1⟩
  rw [List.map_cons, List.map_nil, Hpr.out, pl]
  exact ⟨plL (d + 1) ls, rfl⟩
theorem walksW (w0 : World) (n1 l N : Nat) (J Jx : List (Al w0) -> World -> Prop) (hJa : ∀ s W o, J s W -> J s (W.alloc o))
  (hY : ∀ m pre x W, J pre W -> pre.length < N -> YieldAt Fence.wide m prog l (encW x) W fun e W' => (e = .returned (.bool true) /\ J (pre ++ [x]) W' /\ Kp w0.heap.size n1 W W') \/ (e = .returned (.bool false) /\ Jx (pre ++ [x]) W'))
  (m : Nat) : WalkW w0 n1 l N J Jx m := by
 induction m with
 | zero => intro v c d n pre W h; rw [In] at h; exact h.elim
 | succ m ih => exact walkW_of w0 n1 l N J Jx hJa hY m ih
theorem partsW_stops (n B : Nat) (w0 wl : World) {m : Nat} {v0 v1 v2 v3 v4 v5 : Value} {c : C} (hin : In false All w0 m (.agg #[v0, v1, v2, v3, v4, v5]) c) (hB : Below w0.heap.size w0 wl) (hx : wl.heap[B]? = some (.cells #[v0, v1, v2, v3, v4, v5] 46 (0, 0))) :
  SeqStopsK Fence.wide n prog 126 #[.pointer (some ⟨B, 0, none⟩)] (encW (w0 := w0)) (Kp w0.heap.size wl.heap.size) (fun ys => ys.map pr = pl 1 c) (fun pre => pre.map pr <+: pl 1 c) (pl 1 c).length wl := by
 intro l J Jx W hW hJ hJx hY h0
 have hdd : ∀ k : Nat, (Fence.wide.depth.isSome = true -> 1 <= k) := fun k h => by cases h
 have hlt : B < wl.heap.size := (Array.getElem?_eq_some_iff.1 hx).1
 have c62 := walksW w0 wl.heap.size l (pl 1 c).length J Jx (fun s W o h => hJ s W _ none h (World.grownBy_alloc W o none) (fun r e => by cases e)) (fun m pre x W hj hl => yield_any m (hY pre x W hj hl)) m _ c 1 (n - 1) [] W hin (hB.trans (hW.mono hB.size)) hW.size h0 (by simp)
 obtain ⟨d0, d1, d2, d3, d4, d5⟩ := six_box ((hW.block B hlt).trans hx)
 clear hin hJ hJx hY h0
 show CallsIn Fence.wide n prog 126 #[.func (.yield l) #[] #[], .pointer (some ⟨B, 0, none⟩)] W _
 refine callsIn_of_wp func126 rfl trivial ?_ rfl
 simp only [ntmps126, List.size_toArray, List.length_cons, List.length_nil, Nat.reduceAdd, Nat.reduceSub, Array.replicate_succ, Array.replicate_zero, List.push_toArray, List.append_toArray, List.nil_append, List.cons_append]
 gi_wp2_with fail
 refine ⟨trivial, hdd _, ?_⟩
 refine c62.mono ?_
 rintro e W1 (⟨rfl, xs, hxs, hJ1, _⟩ | ⟨rfl, q, hq, hx1⟩)
 ·have HX : Hid (xs.map pr = pl 1 c) := hxs
  clear c62 hxs
  gi_wp2_with fail
  go_end0
  exact ⟨⟨_, rfl⟩, .inl ⟨xs, HX.out, hJ1⟩⟩
 ·clear c62
  gi_wp2_with fail
  go_end0
  exact ⟨⟨_, rfl⟩, .inr ⟨q, hq, hx1⟩⟩
def PIw {w0 : World} (pre : List (Al w0)) : Prop := (∀ rest, msw 0 0 (pre.map pr ++ rest) = msw (mxw (pre.map pr)) pre.length rest) /\ pre.length <= 16384
def mew {w0 : World} (pre : List (Al w0)) : Int := (msw 0 0 (pre.map pr)).2.2
def PXw {w0 : World} (pre : List (Al w0)) : Prop := ∀ rest, msw 0 0 (pre.map pr ++ rest) = (0, 0, mew pre)
theorem PIw.start {w0 : World} : PIw ([] : List (Al w0)) := ⟨fun _ => rfl, by simp⟩
theorem PIw.next {w0 : World} {pre : List (Al w0)} (h : PIw pre) (x : Al w0) (he : ft (pr x).2 (dw (pr x).1) (pre.length + 1 : Nat) = 0) : PIw (pre ++ [x]) := by
 refine ⟨fun rest => ?_, ?_⟩
 ·rw [List.map_append, List.append_assoc, h.1]
  show msw _ _ (((pr x).1, (pr x).2) :: rest) = _
  rw [msw, if_pos he, List.map_cons, List.map_nil, mxw_snoc, List.length_append]
  rfl
 ·by_cases hp : pre.length = 16384
  ·rw [hp] at he
   simp [ft] at he
  ·have := h.2
   simp
   omega
theorem PIw.stop {w0 : World} {pre : List (Al w0)} (h : PIw pre) (x : Al w0) (he : ft (pr x).2 (dw (pr x).1) (pre.length + 1 : Nat) ≠ 0) : PXw (pre ++ [x]) /\ mew (pre ++ [x]) = ft (pr x).2 (dw (pr x).1) (pre.length + 1 : Nat) := by
 have e : ∀ rest, msw 0 0 ((pre ++ [x]).map pr ++ rest) = (0, 0, ft (pr x).2 (dw (pr x).1) (pre.length + 1 : Nat)) := by
  intro rest
  rw [List.map_append, List.append_assoc, h.1]
  show msw _ _ (((pr x).1, (pr x).2) :: rest) = _
  rw [msw, if_neg he]
 have e2 : mew (pre ++ [x]) = ft (pr x).2 (dw (pr x).1) (pre.length + 1 : Nat) := by
  unfold mew
  have := e []
  rw [List.append_nil] at this
  rw [this]
 exact ⟨fun rest => by rw [e rest, e2], e2⟩
theorem measureW_c {m : Nat} {v : Value} {c : C} {w : World} (hin : In false All w m v c) :
  Calls prog 77 #[v] w fun e w' => e = .returned (.tuple #[.int .i64 (msw 0 0 (pl 1 c)).1, .int .i64 (msw 0 0 (pl 1 c)).2.1, .int .i64 (msw 0 0 (pl 1 c)).2.2]) /\ Below w.heap.size w w' := by
 obtain ⟨v0, v1, v2, v3, v4, v5, rfl, -⟩ := hin.six
 refine (callsIn_wide (n := 6)).1 ?_
 refine callsIn_of_wp_marks func77 rfl trivial ?_ rfl
 simp only [ntmps77, List.size_toArray, List.length_cons, List.length_nil, Nat.reduceAdd, Nat.reduceSub, Array.replicate_succ, Array.replicate_zero, List.push_toArray, List.append_toArray, List.nil_append, List.cons_append]
 gi_wp2_with fail
 refine ⟨trivial, ?_⟩
 refine (parts_in _ _ _ _ _ _ _ _).mono ?_
 rintro e w' ⟨rfl, rfl⟩
 obtain ⟨W0, hW0⟩ : ∃ W0, (((((((w.alloc (.cells #[v0, v1, v2, v3, v4, v5] 46)).alloc (.cells #[.int .i64 0] 3)).alloc (.cells #[.int .i64 0] 3)).alloc (.cells #[.int .i64 0] 29)).alloc (.cells #[.int .i64 0] 3)).alloc (.cells #[.int .i64 0] 3)).alloc (.cells #[v0, v1, v2, v3, v4, v5] 46)) = W0 := ⟨_, rfl⟩
 have hsz : W0.heap.size = w.heap.size + 7 := by rw [<- hW0]; simp
 have hB0 : Below w.heap.size w W0 := by
  rw [<- hW0]
  exact ((((((((Below.refl _ w).alloc (Nat.le_refl _) _).alloc (by simp) _).alloc (by simp; omega) _).alloc (by simp; omega) _).alloc (by simp; omega) _).alloc (by simp; omega) _).alloc (by simp; omega) _)
 have b1 : Boxed W0 (w.heap.size + 1) 3 (.int .i64 0) := by
  rw [<- hW0]
  have := (((((Boxed.new (w.alloc (.cells #[v0, v1, v2, v3, v4, v5] 46)) 3 (.int .i64 0)).alloc (.cells #[.int .i64 0] 3)).alloc (.cells #[.int .i64 0] 29)).alloc (.cells #[.int .i64 0] 3)).alloc (.cells #[.int .i64 0] 3)).alloc (.cells #[v0, v1, v2, v3, v4, v5] 46)
  simp only [World.size_alloc] at this
  exact this
 have b2 : Boxed W0 (w.heap.size + 1 + 1) 3 (.int .i64 0) := by
  rw [<- hW0]
  have := ((((Boxed.new ((w.alloc (.cells #[v0, v1, v2, v3, v4, v5] 46)).alloc (.cells #[.int .i64 0] 3)) 3 (.int .i64 0)).alloc (.cells #[.int .i64 0] 29)).alloc (.cells #[.int .i64 0] 3)).alloc (.cells #[.int .i64 0] 3)).alloc (.cells #[v0, v1, v2, v3, v4, v5] 46)
  simp only [World.size_alloc] at this
  exact this
 have b3 : Boxed W0 (w.heap.size + 1 + 1 + 1) 29 (.int .i64 0) := by
  rw [<- hW0]
  have := (((Boxed.new (((w.alloc (.cells #[v0, v1, v2, v3, v4, v5] 46)).alloc (.cells #[.int .i64 0] 3)).alloc (.cells #[.int .i64 0] 3)) 29 (.int .i64 0)).alloc (.cells #[.int .i64 0] 3)).alloc (.cells #[.int .i64 0] 3)).alloc (.cells #[v0, v1, v2, v3, v4, v5] 46)
  simp only [World.size_alloc] at this
  exact this
 have b4 : Boxed W0 (w.heap.size + 1 + 1 + 1 + 1) 3 (.int .i64 0) := by
  rw [<- hW0]
  have := ((Boxed.new ((((w.alloc (.cells #[v0, v1, v2, v3, v4, v5] 46)).alloc (.cells #[.int .i64 0] 3)).alloc (.cells #[.int .i64 0] 3)).alloc (.cells #[.int .i64 0] 29)) 3 (.int .i64 0)).alloc (.cells #[.int .i64 0] 3)).alloc (.cells #[v0, v1, v2, v3, v4, v5] 46)
  simp only [World.size_alloc] at this
  exact this
 have b5 : Boxed W0 (w.heap.size + 1 + 1 + 1 + 1 + 1) 3 (.int .i64 0) := by
  rw [<- hW0]
  have := (Boxed.new (((((w.alloc (.cells #[v0, v1, v2, v3, v4, v5] 46)).alloc (.cells #[.int .i64 0] 3)).alloc (.cells #[.int .i64 0] 3)).alloc (.cells #[.int .i64 0] 29)).alloc (.cells #[.int .i64 0] 3)) 3 (.int .i64 0)).alloc (.cells #[v0, v1, v2, v3, v4, v5] 46)
  simp only [World.size_alloc] at this
  exact this
 have b6 : W0.heap[w.heap.size + 6]? = some (.cells #[v0, v1, v2, v3, v4, v5] 46 (0, 0)) := by
  rw [<- hW0]
  exact heap_alloc_at _ _ _ (by simp)
 gi_wp2_with fail
 try rw [hW0]
 clear hW0
 refine wpIn_rangeFunc_ownH rfl (by omega) (gf := 126) (lb := #[.pointer (some ⟨w.heap.size + 1 + 1 + 1 + 1 + 1 + 1, 0, none⟩)]) rfl trivial (enters_of func126 (by kernel_rfl) rfl)
  (partsW_stops 5 (w.heap.size + 1 + 1 + 1 + 1 + 1 + 1) w W0 hin hB0 b6) (fun {_ _ _} h k => Kp.trans h k) (Kp.book (by omega)) (Below.refl _ _) (fun _ => rfl)
  (fun pre W => (((((Boxed W (w.heap.size + 1 + 1 + 1 + 1) 3 (.int .i64 (mxw (pre.map pr))) /\ Boxed W (w.heap.size + 1 + 1 + 1 + 1 + 1) 3 (.int .i64 (pre.length : Nat))) /\ Boxed W (w.heap.size + 1) 3 (.int .i64 0)) /\ Boxed W (w.heap.size + 1 + 1) 3 (.int .i64 0)) /\ Boxed W (w.heap.size + 1 + 1 + 1) 29 (.int .i64 0)) /\ PIw pre) /\ Below w.heap.size w W)
  (fun c pre W => (((Boxed W (w.heap.size + 1) 3 (.int .i64 0) /\ Boxed W (w.heap.size + 1 + 1) 3 (.int .i64 0)) /\ Boxed W (w.heap.size + 1 + 1 + 1) 29 (.int .i64 (mew pre))) /\ (c = .ret /\ PXw pre)) /\ Below w.heap.size w W)
  (OwnFrom.and (OwnFrom.and (OwnFrom.and (OwnFrom.and (OwnFrom.and (OwnFrom.and (Own.from (boxed_own _ _ _) _) (Own.from (boxed_own _ _ _) _)) (Own.from (boxed_own _ _ _) _)) (Own.from (boxed_own _ _ _) _)) (Own.from (boxed_own _ _ _) _)) (ownFrom_pure _ _)) (ownFrom_below (Nat.le_refl _) (by omega)))
  (fun c => OwnFrom.and (OwnFrom.and (OwnFrom.and (OwnFrom.and (Own.from (boxed_own _ _ _) _) (Own.from (boxed_own _ _ _) _)) (Own.from (boxed_own _ _ _) _)) (ownFrom_pure _ _)) (ownFrom_below (Nat.le_refl _) (by omega)))
  ⟨⟨⟨⟨⟨⟨b4, b5⟩, b1⟩, b2⟩, b3⟩, PIw.start⟩, hB0⟩
  (fun x a' W => ∃ Bx, w.heap.size + 1 + 1 + 1 + 1 + 1 < Bx /\ W.heap[Bx]? = some (.cells x.1.2.1.cells 46 (0, 0)) /\ a' = { tmps := #[.agg #[v0, v1, v2, v3, v4, v5], .pointer (some ⟨w.heap.size, 0, none⟩), .pointer (some ⟨w.heap.size + 1, 0, none⟩), .pointer (some ⟨w.heap.size + 1 + 1, 0, none⟩), .pointer (some ⟨w.heap.size + 1 + 1 + 1, 0, none⟩), .pointer (some ⟨w.heap.size + 1 + 1 + 1 + 1, 0, none⟩), .pointer (some ⟨w.heap.size + 1 + 1 + 1 + 1 + 1, 0, none⟩), .int .i64 (dw x.1.1), .pointer (some ⟨Bx, 0, none⟩), undef, .agg #[v0, v1, v2, v3, v4, v5], .func (.func 126) #[] #[.pointer (some ⟨w.heap.size + 1 + 1 + 1 + 1 + 1 + 1, 0, none⟩)], .int .i64 (dw x.1.1), x.1.2.1, undef, undef, undef, undef, undef, undef, undef, undef, undef, undef, undef, undef, undef, undef], defers := [] })
  (fun x a' _ X Y row hs hg hr => by
   obtain ⟨Bx, h1, h2, h3⟩ := hs
   refine ⟨Bx, h1, (hg.block Bx (Array.getElem?_eq_some_iff.1 h2).1 (fun e => ?_)).trans h2, h3⟩
   obtain ⟨-, o, ho, hc⟩ := hr Bx e.symm
   rw [h2] at ho; cases ho; cases hc)
  ?assign ?body ?done ?stop
 case assign =>
  rintro l pre x W K ⟨⟨⟨⟨⟨⟨c4, c5⟩, c1⟩, c2⟩, c3⟩, hP⟩, hB1⟩ hK
  obtain ⟨⟨d, u, cx⟩, mxw', hx⟩ := x
  have hx' : In false All w mxw' u cx := hx
  obtain ⟨u0, u1, u2, u3, u4, u5, rfl, -⟩ := hx'.six
  obtain ⟨p1, q1, r1, p2, q2, r2, rfl, rfl, rfl, rfl, rfl, rfl⟩ := hx'.kinds
  simp only [encW]
  gi_wp2
  exact hK _ _ ((KeepsOthers.alloc _ _).from _) (Kp.of_below ((Below.refl _ W).alloc (Nat.le_refl _) _) hB1.size) ⟨⟨⟨⟨⟨⟨c4.alloc _, c5.alloc _⟩, c1.alloc _⟩, c2.alloc _⟩, c3.alloc _⟩, hP⟩, hB1.alloc hB1.size _⟩ ⟨W.heap.size, c5.lt, heap_alloc_new W _, rfl⟩
 case body =>
  rintro l pre x a' W hl ⟨r, hr⟩ ⟨⟨⟨⟨⟨⟨c4, c5⟩, c1⟩, c2⟩, c3⟩, hP⟩, hB1⟩ ⟨Bx, hBx, bX, rfl⟩ hlt
  obtain ⟨mxw', hx'⟩ : ∃ m, In false All w m x.1.2.1 x.1.2.2 := x.2
  obtain ⟨d, hd⟩ : ∃ d, x.1.1 = d := ⟨_, rfl⟩
  obtain ⟨u, hu⟩ : ∃ u, x.1.2.1 = u := ⟨_, rfl⟩
  obtain ⟨cx, hcx⟩ : ∃ cx, x.1.2.2 = cx := ⟨_, rfl⟩
  have Hpr : Hid (pr x = (d, cx)) := by
   show _ = _
   unfold pr
   rw [hd, hcx]
  rw [hu, hcx] at hx'
  rw [hu] at bX
  rw [hd, hu]
  obtain ⟨dd, hdd⟩ : ∃ dd, dw d = dd := ⟨_, rfl⟩
  have HDD : Hid (dw d = dd) := hdd
  rw [hdd]
  clear hd hu hcx hdd
  obtain ⟨u0, u1, u2, u3, u4, u5, rfl, -⟩ := hx'.six
  have bX' : W.heap[Bx]? = some (.cells #[u0, u1, u2, u3, u4, u5] 46 (0, 0)) := bX
  obtain ⟨k4, kf4⟩ := And.intro c4.cell c4.frozen
  obtain ⟨k5, kf5⟩ := And.intro c5.cell c5.frozen
  have hplen : pre.length <= 16384 := hP.2
  obtain ⟨M, hM⟩ : ∃ M, mxw (pre.map pr) = M := ⟨_, rfl⟩
  have HM : Hid (mxw (pre.map pr) = M) := hM
  rw [hM] at c4 k4
  clear hM
  rcases Int.lt_or_le M dd with hD | hD
  ·have hmq : max M dd = dd := by omega
   obtain ⟨W2, hW2⟩ : ∃ W2, (W.setCell ⟨w.heap.size + 1 + 1 + 1 + 1 + 1, 0, none⟩ (.int .i64 ((pre.length : Int) + 1))).setCell ⟨w.heap.size + 1 + 1 + 1 + 1, 0, none⟩ (.int .i64 dd) = W2 := ⟨_, rfl⟩
   have hBW : Below w.heap.size W W2 := by
    rw [<- hW2]
    exact ((Below.refl _ W).setCell (p := ⟨w.heap.size + 1 + 1 + 1 + 1 + 1, 0, none⟩) (by dsimp only; omega) _).setCell (p := ⟨w.heap.size + 1 + 1 + 1 + 1, 0, none⟩) (by dsimp only; omega) _
   have hsz2 : W2.heap.size = W.heap.size := by rw [<- hW2]; simp [World.setCell]
   have hot : ∀ b, b ≠ w.heap.size + 1 + 1 + 1 + 1 -> b ≠ w.heap.size + 1 + 1 + 1 + 1 + 1 -> W2.heap[b]? = W.heap[b]? := fun b h4 h5 => by rw [<- hW2, Below.heap_setCell _ _ _ _ h4, Below.heap_setCell _ _ _ _ h5]
   have hKF : KeepsFrom W0.heap.size W W2 := by rw [<- hW2]; exact ((KeepsOthers.setCell _ _ _).trans (KeepsOthers.setCell _ _ _)).from _
   have hKp : Kp w.heap.size W0.heap.size W W2 := by rw [<- hW2]; exact (Kp.set W _ _ (by omega) (by omega)).trans (Kp.set _ _ _ (by omega) (by omega))
   have e4 : Boxed W2 (w.heap.size + 1 + 1 + 1 + 1) 3 (.int .i64 dd) := by
    rw [<- hW2]
    refine Boxed.set _ (v := .int .i64 M) ?_
    show _ = _
    rw [Below.heap_setCell _ _ _ _ (by dsimp only; omega)]
    exact c4
   have e5 : Boxed W2 (w.heap.size + 1 + 1 + 1 + 1 + 1) 3 (.int .i64 ((pre.length : Int) + 1)) := by
    rw [<- hW2]
    show _ = _
    rw [Below.heap_setCell _ _ _ _ (by dsimp only; omega)]
    exact Boxed.set _ c5
   have e1 : Boxed W2 (w.heap.size + 1) 3 (.int .i64 0) := (hot _ (by omega) (by omega)).trans c1
   have e2 : Boxed W2 (w.heap.size + 1 + 1) 3 (.int .i64 0) := (hot _ (by omega) (by omega)).trans c2
   have e3 : Boxed W2 (w.heap.size + 1 + 1 + 1) 29 (.int .i64 0) := (hot _ (by omega) (by omega)).trans c3
   obtain ⟨x0, x1, x2, x3, x4, x5⟩ := six_box ((hot Bx (by omega) (by omega)).trans bX')
   have z5 := e5.cell
   have hBw2 := hB1.trans hBW
   have c55 := CallsIn.inRound l (callsIn_wide (n := 3).2 (fault_c (hx'.below hBw2) dd ((pre.length : Int) + 1)))
   generalize hE : ft cx dd ((pre.length : Int) + 1) = E at c55
   have HE : Hid (ft cx dd ((pre.length : Int) + 1) = E) := hE
   clear hE c1 c2 c3 c4 c5 bX bX' hot
   gi_wp2_with fail
   refine ⟨trivial, ?_⟩
   refine c55.mono ?_
   rintro e W3 ⟨rfl, b3⟩
   clear c55 x0 x1 x2 x3 x4 x5 k4 k5 kf4 kf5 hW2 z5
   have f1 : Boxed W3 (w.heap.size + 1) 3 (.int .i64 0) := (b3.block _ e1.lt).trans e1
   have f2 : Boxed W3 (w.heap.size + 1 + 1) 3 (.int .i64 0) := (b3.block _ e2.lt).trans e2
   have f3 : Boxed W3 (w.heap.size + 1 + 1 + 1) 29 (.int .i64 0) := (b3.block _ e3.lt).trans e3
   have f4 : Boxed W3 (w.heap.size + 1 + 1 + 1 + 1) 3 (.int .i64 dd) := (b3.block _ e4.lt).trans e4
   have f5 : Boxed W3 (w.heap.size + 1 + 1 + 1 + 1 + 1) 3 (.int .i64 ((pre.length : Int) + 1)) := (b3.block _ e5.lt).trans e5
   have hKF3 := hKF.trans (keeps_below (B := W0.heap.size) b3)
   have hKp3 := hKp.trans (Kp.of_below (n0 := w.heap.size) (n1 := W0.heap.size) b3 (by have := hB1.size; omega))
   have hBw3 := hBw2.trans (b3.mono (by have := hB1.size; omega))
   clear e1 e2 e3 e4 e5 hKF hKp hBW hBw2
   by_cases hE0 : E = 0
   ·subst hE0
    gi_wp2_with fail
    refine ⟨hKF3, hKp3, ⟨⟨⟨⟨⟨?_, ?_⟩, f1⟩, f2⟩, f3⟩, ?_⟩, hBw3⟩
    ·have e : mxw ((pre ++ [x]).map pr) = dd := by
      rw [List.map_append, List.map_cons, List.map_nil, mxw_snoc]
      rw [Hpr.out]
      rw [HDD.out]
      have := HM.out
      omega
     rw [e]
     exact f4
    ·rw [List.length_append]
     exact f5
    ·exact hP.next x (by rw [Hpr.out, HDD.out]; exact HE.out)
   ·have hE' : (E != 0) = true := by simp [hE0]
    have hst := hP.stop x (by rw [Hpr.out, HDD.out]; intro h; exact hE0 (HE.out.symm.trans h))
    have Hst : Hid (PXw (pre ++ [x]) /\ mew (pre ++ [x]) = E) := ⟨hst.1, hst.2.trans (by rw [Hpr.out, HDD.out]; exact HE.out)⟩
    clear hst
    have g1 := f1.cell
    have g2 := f2.cell
    have g3 := f3.cell
    have h1 := f1.frozen
    have h2 := f2.frozen
    have h3 := f3.frozen
    gi_wp2_with fail
    refine ⟨hKF3.trans (((KeepsOthers.setCell _ _ _).trans ((KeepsOthers.setCell _ _ _).trans (KeepsOthers.setCell _ _ _))).from _), ⟨⟨⟨?_, ?_⟩, ?_⟩, rfl, Hst.out.1⟩, ((hBw3.setCell (p := ⟨w.heap.size + 1, 0, none⟩) (by dsimp only; omega) _).setCell (p := ⟨w.heap.size + 1 + 1, 0, none⟩) (by dsimp only; omega) _).setCell (p := ⟨w.heap.size + 1 + 1 + 1, 0, none⟩) (by dsimp only; omega) _⟩
    ·show _ = _
     rw [Below.heap_setCell _ _ _ _ (by dsimp only; omega), Below.heap_setCell _ _ _ _ (by dsimp only; omega)]
     exact Boxed.set _ f1
    ·show _ = _
     rw [Below.heap_setCell _ _ _ _ (by dsimp only; omega)]
     refine Boxed.set _ (v := .int .i64 0) ?_
     show _ = _
     rw [Below.heap_setCell _ _ _ _ (by dsimp only; omega)]
     exact f2
    ·rw [Hst.out.2]
     refine Boxed.set _ (v := .int .i64 0) ?_
     show _ = _
     rw [Below.heap_setCell _ _ _ _ (by dsimp only; omega), Below.heap_setCell _ _ _ _ (by dsimp only; omega)]
     exact f3
  ·have hmq : max M dd = M := by omega
   obtain ⟨W2, hW2⟩ : ∃ W2, (W.setCell ⟨w.heap.size + 1 + 1 + 1 + 1 + 1, 0, none⟩ (.int .i64 ((pre.length : Int) + 1))).setCell ⟨w.heap.size + 1 + 1 + 1 + 1, 0, none⟩ (.int .i64 M) = W2 := ⟨_, rfl⟩
   have hBW : Below w.heap.size W W2 := by
    rw [<- hW2]
    exact ((Below.refl _ W).setCell (p := ⟨w.heap.size + 1 + 1 + 1 + 1 + 1, 0, none⟩) (by dsimp only; omega) _).setCell (p := ⟨w.heap.size + 1 + 1 + 1 + 1, 0, none⟩) (by dsimp only; omega) _
   have hsz2 : W2.heap.size = W.heap.size := by rw [<- hW2]; simp [World.setCell]
   have hot : ∀ b, b ≠ w.heap.size + 1 + 1 + 1 + 1 -> b ≠ w.heap.size + 1 + 1 + 1 + 1 + 1 -> W2.heap[b]? = W.heap[b]? := fun b h4 h5 => by rw [<- hW2, Below.heap_setCell _ _ _ _ h4, Below.heap_setCell _ _ _ _ h5]
   have hKF : KeepsFrom W0.heap.size W W2 := by rw [<- hW2]; exact ((KeepsOthers.setCell _ _ _).trans (KeepsOthers.setCell _ _ _)).from _
   have hKp : Kp w.heap.size W0.heap.size W W2 := by rw [<- hW2]; exact (Kp.set W _ _ (by omega) (by omega)).trans (Kp.set _ _ _ (by omega) (by omega))
   have e4 : Boxed W2 (w.heap.size + 1 + 1 + 1 + 1) 3 (.int .i64 M) := by
    rw [<- hW2]
    refine Boxed.set _ (v := .int .i64 M) ?_
    show _ = _
    rw [Below.heap_setCell _ _ _ _ (by dsimp only; omega)]
    exact c4
   have e5 : Boxed W2 (w.heap.size + 1 + 1 + 1 + 1 + 1) 3 (.int .i64 ((pre.length : Int) + 1)) := by
    rw [<- hW2]
    show _ = _
    rw [Below.heap_setCell _ _ _ _ (by dsimp only; omega)]
    exact Boxed.set _ c5
   have e1 : Boxed W2 (w.heap.size + 1) 3 (.int .i64 0) := (hot _ (by omega) (by omega)).trans c1
   have e2 : Boxed W2 (w.heap.size + 1 + 1) 3 (.int .i64 0) := (hot _ (by omega) (by omega)).trans c2
   have e3 : Boxed W2 (w.heap.size + 1 + 1 + 1) 29 (.int .i64 0) := (hot _ (by omega) (by omega)).trans c3
   obtain ⟨x0, x1, x2, x3, x4, x5⟩ := six_box ((hot Bx (by omega) (by omega)).trans bX')
   have z5 := e5.cell
   have hBw2 := hB1.trans hBW
   have c55 := CallsIn.inRound l (callsIn_wide (n := 3).2 (fault_c (hx'.below hBw2) dd ((pre.length : Int) + 1)))
   generalize hE : ft cx dd ((pre.length : Int) + 1) = E at c55
   have HE : Hid (ft cx dd ((pre.length : Int) + 1) = E) := hE
   clear hE c1 c2 c3 c4 c5 bX bX' hot
   gi_wp2_with fail
   refine ⟨trivial, ?_⟩
   refine c55.mono ?_
   rintro e W3 ⟨rfl, b3⟩
   clear c55 x0 x1 x2 x3 x4 x5 k4 k5 kf4 kf5 hW2 z5
   have f1 : Boxed W3 (w.heap.size + 1) 3 (.int .i64 0) := (b3.block _ e1.lt).trans e1
   have f2 : Boxed W3 (w.heap.size + 1 + 1) 3 (.int .i64 0) := (b3.block _ e2.lt).trans e2
   have f3 : Boxed W3 (w.heap.size + 1 + 1 + 1) 29 (.int .i64 0) := (b3.block _ e3.lt).trans e3
   have f4 : Boxed W3 (w.heap.size + 1 + 1 + 1 + 1) 3 (.int .i64 M) := (b3.block _ e4.lt).trans e4
   have f5 : Boxed W3 (w.heap.size + 1 + 1 + 1 + 1 + 1) 3 (.int .i64 ((pre.length : Int) + 1)) := (b3.block _ e5.lt).trans e5
   have hKF3 := hKF.trans (keeps_below (B := W0.heap.size) b3)
   have hKp3 := hKp.trans (Kp.of_below (n0 := w.heap.size) (n1 := W0.heap.size) b3 (by have := hB1.size; omega))
   have hBw3 := hBw2.trans (b3.mono (by have := hB1.size; omega))
   clear e1 e2 e3 e4 e5 hKF hKp hBW hBw2
   by_cases hE0 : E = 0
   ·subst hE0
    gi_wp2_with fail
    refine ⟨hKF3, hKp3, ⟨⟨⟨⟨⟨?_, ?_⟩, f1⟩, f2⟩, f3⟩, ?_⟩, hBw3⟩
    ·have e : mxw ((pre ++ [x]).map pr) = M := by
      rw [List.map_append, List.map_cons, List.map_nil, mxw_snoc]
      rw [Hpr.out]
      rw [HDD.out]
      have := HM.out
      omega
     rw [e]
     exact f4
    ·rw [List.length_append]
     exact f5
    ·exact hP.next x (by rw [Hpr.out, HDD.out]; exact HE.out)
   ·have hE' : (E != 0) = true := by simp [hE0]
    have hst := hP.stop x (by rw [Hpr.out, HDD.out]; intro h; exact hE0 (HE.out.symm.trans h))
    have Hst : Hid (PXw (pre ++ [x]) /\ mew (pre ++ [x]) = E) := ⟨hst.1, hst.2.trans (by rw [Hpr.out, HDD.out]; exact HE.out)⟩
    clear hst
    have g1 := f1.cell
    have g2 := f2.cell
    have g3 := f3.cell
    have h1 := f1.frozen
    have h2 := f2.frozen
    have h3 := f3.frozen
    gi_wp2_with fail
    refine ⟨hKF3.trans (((KeepsOthers.setCell _ _ _).trans ((KeepsOthers.setCell _ _ _).trans (KeepsOthers.setCell _ _ _))).from _), ⟨⟨⟨?_, ?_⟩, ?_⟩, rfl, Hst.out.1⟩, ((hBw3.setCell (p := ⟨w.heap.size + 1, 0, none⟩) (by dsimp only; omega) _).setCell (p := ⟨w.heap.size + 1 + 1, 0, none⟩) (by dsimp only; omega) _).setCell (p := ⟨w.heap.size + 1 + 1 + 1, 0, none⟩) (by dsimp only; omega) _⟩
    ·show _ = _
     rw [Below.heap_setCell _ _ _ _ (by dsimp only; omega), Below.heap_setCell _ _ _ _ (by dsimp only; omega)]
     exact Boxed.set _ f1
    ·show _ = _
     rw [Below.heap_setCell _ _ _ _ (by dsimp only; omega)]
     refine Boxed.set _ (v := .int .i64 0) ?_
     show _ = _
     rw [Below.heap_setCell _ _ _ _ (by dsimp only; omega)]
     exact f2
    ·rw [Hst.out.2]
     refine Boxed.set _ (v := .int .i64 0) ?_
     show _ = _
     rw [Below.heap_setCell _ _ _ _ (by dsimp only; omega), Below.heap_setCell _ _ _ _ (by dsimp only; omega)]
     exact f3
 case done =>
  rintro D ys W hD hS ⟨⟨⟨⟨⟨⟨c4, c5⟩, c1⟩, c2⟩, c3⟩, hP⟩, hB1⟩ hK
  have e : msw 0 0 (pl 1 c) = (((mxw (ys.map pr)) : Int), ((ys.length : Nat) : Int), 0) := by
   have := hP.1 []
   rw [List.append_nil, hS] at this
   rw [this, msw, hS]
  have HR : Hid (msw 0 0 (pl 1 c) = (((mxw (ys.map pr)) : Int), ((ys.length : Nat) : Int), 0)) := e
  clear e hP hS
  generalize mxw (ys.map pr) = M at *
  generalize ys.length = L at *
  have k4 := c4.cell
  have k5 := c5.cell
  have k1 := c1.cell
  have k2 := c2.cell
  have k3 := c3.cell
  have f1 := c1.frozen
  have f2 := c2.frozen
  have f3 := c3.frozen
  have hmx : prog.follows .inlinedCapture = true := by kernel_rfl
  gi_wp2
  gi_region
  gi_wp2
  obtain ⟨W4, hW4⟩ : ∃ W4, ((W.setCell ⟨w.heap.size + 1, 0, none⟩ (.int .i64 (M : Int))).setCell ⟨w.heap.size + 1 + 1, 0, none⟩ (.int .i64 (L : Int))).setCell ⟨w.heap.size + 1 + 1 + 1, 0, none⟩ (.int .i64 0) = W4 := ⟨_, rfl⟩
  rw [hW4]
  have hK4 : W4.drew.heap[D]? = some (.deferred (some [])) := by
   rw [<- hW4]
   exact ((KeepsOthers.setCell _ _ _).trans ((KeepsOthers.setCell _ _ _).trans (KeepsOthers.setCell _ _ _))).same D _ hK rfl
  have d1 : Boxed W4.drew (w.heap.size + 1) 3 (.int .i64 (M : Int)) := by
   rw [<- hW4]
   exact ((Boxed.set _ c1).other (by omega) _).other (by omega) _
  have d2 : Boxed W4.drew (w.heap.size + 1 + 1) 3 (.int .i64 (L : Int)) := by
   rw [<- hW4]
   exact (Boxed.set _ (c2.other (by omega) _)).other (by omega) _
  have d3 : Boxed W4.drew (w.heap.size + 1 + 1 + 1) 29 (.int .i64 0) := by
   rw [<- hW4]
   exact Boxed.set _ ((c3.other (by omega) _).other (by omega) _)
  have hB4 : Below w.heap.size w W4.drew := by
   rw [<- hW4]
   exact (((hB1.setCell (p := ⟨w.heap.size + 1, 0, none⟩) (by dsimp only; omega) _).setCell (p := ⟨w.heap.size + 1 + 1, 0, none⟩) (by dsimp only; omega) _).setCell (p := ⟨w.heap.size + 1 + 1 + 1, 0, none⟩) (by dsimp only; omega) _).drew
  clear hW4
  refine ⟨by simp, .inl ⟨_, _, rfl, run_takeDeferred hK4, ?_⟩⟩
  have g1 := cell_kept d1.cell (grownBy_putObj' _ D (.deferred none)) (fun r e => by cases e; exact ⟨_, hK4, rfl⟩)
  have g2 := cell_kept d2.cell (grownBy_putObj' _ D (.deferred none)) (fun r e => by cases e; exact ⟨_, hK4, rfl⟩)
  have g3 := cell_kept d3.cell (grownBy_putObj' _ D (.deferred none)) (fun r e => by cases e; exact ⟨_, hK4, rfl⟩)
  refine ⟨.tuple #[.int .i64 M, .int .i64 L, .int .i64 0], ?_, by rw [HR.out], hB4.trans (belowK_b (w := w) (Nat.le_refl _) _ D _ _ (by omega) hK4 rfl rfl)⟩
  simp [results, Tryz.f77, go_sem, g1, g2, g3]
 case stop =>
  rintro D cd pre W hD hSp ⟨⟨⟨⟨c1, c2⟩, c3⟩, rfl, hPX⟩, hB1⟩ hK
  obtain ⟨rest, hrest⟩ := hSp
  have HR : Hid (msw 0 0 (pl 1 c) = (0, 0, mew pre)) := by
   show _ = _
   rw [<- hrest]
   exact hPX rest
  clear hPX hrest
  generalize mew pre = E at *
  gi_wp2
  refine ⟨by simp, .inl ⟨_, _, rfl, run_takeDeferred hK, ?_⟩⟩
  have g1 := cell_kept c1.cell (grownBy_putObj' _ D (.deferred none)) (fun r e => by cases e; exact ⟨_, hK, rfl⟩)
  have g2 := cell_kept c2.cell (grownBy_putObj' _ D (.deferred none)) (fun r e => by cases e; exact ⟨_, hK, rfl⟩)
  have g3 := cell_kept c3.cell (grownBy_putObj' _ D (.deferred none)) (fun r e => by cases e; exact ⟨_, hK, rfl⟩)
  refine ⟨.tuple #[.int .i64 0, .int .i64 0, .int .i64 E], ?_, by rw [HR.out], hB1.trans (belowK_b (w := w) (Nat.le_refl _) W D _ _ (by omega) hK rfl rfl)⟩
  simp [results, Tryz.f77, go_sem, g1, g2, g3]
theorem checkW_c {m : Nat} {v : Value} {c : C} {w : World} (hin : In false All w m v c) :
  Calls prog 63 #[v] w fun e w' => e = .returned (.int .i64 (msw 0 0 (pl 1 c)).2.2) /\ Below w.heap.size w w' := by
 obtain ⟨v0, v1, v2, v3, v4, v5, rfl, -⟩ := hin.six
 have hb : Below w.heap.size w (w.alloc (.cells #[v0, v1, v2, v3, v4, v5] 46)) := (Below.refl _ w).alloc (Nat.le_refl _) _
 have c36 := measureW_c (hin.below hb)
 generalize msw 0 0 (pl 1 c) = R at *
 clear hin
 go_enter func63, ntmps63
 go_wp2_with (first | (go_at_call 77; refine c36.mono ?_; rintro e w1 ⟨rfl, b1⟩))
 go_ret
 exact ⟨rfl, nx hb b1⟩
def Gs (r : List (Nat × C)) : Prop := ∀ i (h : i < r.length), r[i].1 <= 25 \/ ∃ j, ∃ h' : j < i, 24 < (r[j]'(by omega)).1
theorem msw_eq : ∀ (r : List (Nat × C)) (D : Nat) (k : Nat), Gs r -> (msw D k r).2.2 = (ms D k r).2.2
 | [], D, k, _ => rfl
 | (d, c) :: r, D, k, h => by
  have h0 : d <= 25 := by
   rcases h 0 (by simp) with h0 | ⟨j, hj, -⟩
   ·exact h0
   ·omega
  have hd : dw d = d := dw_small (by omega)
  rw [msw, ms, hd]
  by_cases hf : ft c d (k + 1 : Nat) = 0
  ·rw [if_pos hf, if_pos hf]
   have h24 : d <= 24 := by
    unfold ft at hf
    split at hf
    ·omega
    ·split at hf
     ·omega
     ·omega
   have e : max (D : Int) (d : Int) = ((max D d : Nat) : Int) := by omega
   rw [e]
   refine msw_eq r (max D d) (k + 1) fun i hi => ?_
   rcases h (i + 1) (by simpa using hi) with h1 | ⟨j, hj, h1⟩
   ·exact .inl (by simpa using h1)
   ·cases j with
    | zero => simp at h1; omega
    | succ j => exact .inr ⟨j, by omega, by simpa using h1⟩
  ·rw [if_neg hf, if_neg hf]
theorem Gs.app {a b : List (Nat × C)} (h1 : Gs a) (h2 : Gs b) : Gs (a ++ b) := by
 intro i hi
 by_cases hl : i < a.length
 ·rcases h1 i hl with h | ⟨j, hj, h⟩
  ·exact .inl (by rw [List.getElem_append_left hl]; exact h)
  ·exact .inr ⟨j, hj, by rw [List.getElem_append_left (by omega)]; exact h⟩
 ·have hb : i - a.length < b.length := by rw [List.length_append] at hi; omega
  rcases h2 (i - a.length) hb with h | ⟨j, hj, h⟩
  ·exact .inl (by rw [List.getElem_append_right (by omega)]; exact h)
  ·refine .inr ⟨j + a.length, by omega, ?_⟩
   rw [List.getElem_append_right (by omega)]
   simpa using h
theorem Gs.deep {d : Nat} {c : C} (h : d = 25) (r : List (Nat × C)) : Gs ((d, c) :: r) := by
 intro i hi
 cases i with
 | zero => exact .inl (by simp; omega)
 | succ i => exact .inr ⟨0, by omega, by simp; omega⟩
theorem Gs.cons {d : Nat} {c : C} (h : d <= 25) {r : List (Nat × C)} (hr : Gs r) : Gs ((d, c) :: r) := by
 have : Gs ([(d, c)] ++ r) := Gs.app (fun i hi => .inl (by
  have : i = 0 := by simpa using hi
  subst this
  exact h)) hr
 exact this
theorem plL_gs : ∀ (n : Nat) (l : List C) (d : Nat), SizeOf.sizeOf l <= n -> d <= 25 -> Gs (plL d l) := by
 intro n
 induction n with
 | zero =>
  intro l d h hd
  cases l with
  | nil => rw [plL_nil]; intro i hi; cases hi
  | cons c t => exact absurd h (by simp)
 | succ n ih =>
  intro l d h hd
  cases l with
  | nil => rw [plL_nil]; intro i hi; cases hi
  | cons c t =>
   rw [plL_cons]
   obtain ⟨k, b, i, s, ns, ls⟩ := c
   refine Gs.app ?_ (ih t d (by simp at h; omega) hd)
   rw [pl]
   by_cases h25 : d = 25
   ·exact Gs.deep h25 _
   ·exact Gs.cons hd (ih ls (d + 1) (by simp at h; omega) (by omega))
theorem pl_gs (c : C) : Gs (pl 1 c) := by
 have := plL_gs _ [c] 1 (Nat.le_refl _) (by omega)
 rw [plL_cons, plL_nil, List.append_nil] at this
 exact this
theorem check_all {m : Nat} {v : Value} {c : C} {w : World} (hin : In false All w m v c) :
  Calls prog 63 #[v] w fun e w' => e = .returned (.int .i64 (ms 0 0 (pl 1 c)).2.2) /\ Below w.heap.size w w' := by
 have h := checkW_c hin
 have e := msw_eq (pl 1 c) 0 0 (pl_gs c)
 rw [show ((0 : Nat) : Int) = 0 from rfl] at e
 rw [e] at h
 exact h
end Go.Proofs.YthjbknncbhkinaaGreatDoor.GMw

/- What Check, Depth and Count are told: contracts of parts, measure, Check, Depth and Count. -/
import Derived.Test.YthjbknncbhkinaaGreatDoorWalk
import Derived.Test.YthjbknncbhkinaaGreatDoorFault
namespace Go.Proofs.YthjbknncbhkinaaGreatDoor.Measure
open Go.RowKit Go.Shelf Go.Proofs.YthjbknncbhkinaaGreatDoor.Base Go.Proofs.YthjbknncbhkinaaGreatDoor.Shallow Go.Proofs.YthjbknncbhkinaaGreatDoor.Walk Go.Proofs.YthjbknncbhkinaaGreatDoor.Fault
set_option linter.unusedVariables false
attribute [local go_sem] Oper.semAt_some

/-- The row gone through: the greatest depth so far, how many so far. -/
def ms : Nat → Nat → List (Nat × C) → Int × Int × Int
  | D, k, [] => (D, k, 0)
  | D, k, (d, c) :: r => if ft c d (k + 1 : Nat) = 0 then ms (max D d) (k + 1) r else (0, 0, ft c d (k + 1 : Nat))
def mx (l : List (Nat × C)) : Nat := l.foldl (fun D x => max D x.1) 0
theorem mx_snoc (l : List (Nat × C)) (x : Nat × C) : mx (l ++ [x]) = max (mx l) x.1 := by simp [mx]
theorem walks (w0 : World) (n1 l N : Nat) (J Jx : List (Al w0) → World → Prop) (hJa : ∀ s W o, J s W → J s (W.alloc o))
    (hY : ∀ m pre x W, J pre W → pre.length < N → YieldAt Fence.wide m Tryz.prog l (enc x) W fun e W' => (e = .returned (.bool true) ∧ J (pre ++ [x]) W' ∧ Kp w0.heap.size n1 W W') ∨ (e = .returned (.bool false) ∧ Jx (pre ++ [x]) W'))
    (m : Nat) : WalkIs w0 n1 l N J Jx m := by
  induction m with
  | zero => intro v c d n pre W h; rw [In] at h; exact h.elim
  | succ m ih => exact walk_of w0 n1 l N J Jx hJa hY m ih
theorem parts_in (n : Nat) (v0 v1 v2 v3 v4 v5 : Value) (w : World) :
    CallsIn Fence.wide n Tryz.prog 97 #[.agg #[v0, v1, v2, v3, v4, v5]] w fun e w' => e = .returned (.func (.func 126) #[] #[.pointer (some ⟨w.heap.size, 0, none⟩)]) ∧ w' = w.alloc (.cells #[v0, v1, v2, v3, v4, v5] 46) := by
  refine callsIn_of_wp Tryz.func97 rfl trivial ?_ rfl
  simp only [Tryz.ntmps97, List.size_toArray, List.length_cons, List.length_nil, Nat.reduceAdd, Nat.reduceSub, Array.replicate_succ, Array.replicate_zero, List.push_toArray, List.append_toArray, List.nil_append, List.cons_append]
  gi_wp2
  go_ret
  exact ⟨rfl, rfl⟩
set_option maxHeartbeats 1000000 in
theorem parts_stops (n B : Nat) (w0 wl : World) {m : Nat} {v0 v1 v2 v3 v4 v5 : Value} {c : C} (hin : In false All w0 m (.agg #[v0, v1, v2, v3, v4, v5]) c) (hdep : dep c ≤ 4096) (hB : Below w0.heap.size w0 wl) (hx : wl.heap[B]? = some (.cells #[v0, v1, v2, v3, v4, v5] 46 (0, 0))) :
    SeqStopsK Fence.wide n Tryz.prog 126 #[.pointer (some ⟨B, 0, none⟩)] (enc (w0 := w0)) (Kp w0.heap.size wl.heap.size) (fun ys => ys.map pr = pl 1 c) (fun pre => pre.map pr <+: pl 1 c) (pl 1 c).length wl := by
  intro l J Jx W hW hJ hJx hY h0
  have hdd : ∀ k : Nat, (Fence.wide.depth.isSome = true → 1 ≤ k) := fun k h => by cases h
  have hlt : B < wl.heap.size := (Array.getElem?_eq_some_iff.1 hx).1
  have c62 := walks w0 wl.heap.size l (pl 1 c).length J Jx (fun s W o h => hJ s W _ none h (World.grownBy_alloc W o none) (fun r e => by cases e)) (fun m pre x W hj hl => yield_any m (hY pre x W hj hl)) m _ c 1 (n - 1) [] W hin (by omega) (hB.trans (hW.mono hB.size)) hW.size h0 (by simp)
  obtain ⟨d0, d1, d2, d3, d4, d5⟩ := six_box ((hW.block B hlt).trans hx)
  clear hin hJ hJx hY h0
  show CallsIn Fence.wide n Tryz.prog 126 #[.func (.yield l) #[] #[], .pointer (some ⟨B, 0, none⟩)] W _
  refine callsIn_of_wp Tryz.func126 rfl trivial ?_ rfl
  simp only [Tryz.ntmps126, List.size_toArray, List.length_cons, List.length_nil, Nat.reduceAdd, Nat.reduceSub, Array.replicate_succ, Array.replicate_zero, List.push_toArray, List.append_toArray, List.nil_append, List.cons_append]
  gi_wp2_with fail
  refine ⟨trivial, hdd _, ?_⟩
  refine c62.mono ?_
  rintro e W1 (⟨rfl, xs, hxs, hJ1, _⟩ | ⟨rfl, q, hq, hx1⟩)
  · have HX : Hid (xs.map pr = pl 1 c) := hxs
    clear c62 hxs
    gi_wp2_with fail
    go_end0
    exact ⟨⟨_, rfl⟩, .inl ⟨xs, HX.out, hJ1⟩⟩
  · clear c62
    gi_wp2_with fail
    go_end0
    exact ⟨⟨_, rfl⟩, .inr ⟨q, hq, hx1⟩⟩
def PI {w0 : World} (pre : List (Al w0)) : Prop := (∀ rest, ms 0 0 (pre.map pr ++ rest) = ms (mx (pre.map pr)) pre.length rest) ∧ pre.length ≤ 16384
def me {w0 : World} (pre : List (Al w0)) : Int := (ms 0 0 (pre.map pr)).2.2
def PX {w0 : World} (pre : List (Al w0)) : Prop := ∀ rest, ms 0 0 (pre.map pr ++ rest) = (0, 0, me pre)
theorem PI.start {w0 : World} : PI ([] : List (Al w0)) := ⟨fun _ => rfl, by simp⟩
theorem PI.next {w0 : World} {pre : List (Al w0)} (h : PI pre) (x : Al w0) (he : ft (pr x).2 (pr x).1 (pre.length + 1 : Nat) = 0) : PI (pre ++ [x]) := by
  refine ⟨fun rest => ?_, ?_⟩
  · rw [List.map_append, List.append_assoc, h.1]
    show ms _ _ (((pr x).1, (pr x).2) :: rest) = _
    rw [ms, if_pos he, List.map_cons, List.map_nil, mx_snoc, List.length_append]
    rfl
  · by_cases hp : pre.length = 16384
    · rw [hp] at he
      simp [ft] at he
    · have := h.2
      simp
      omega
theorem PI.stop {w0 : World} {pre : List (Al w0)} (h : PI pre) (x : Al w0) (he : ft (pr x).2 (pr x).1 (pre.length + 1 : Nat) ≠ 0) : PX (pre ++ [x]) ∧ me (pre ++ [x]) = ft (pr x).2 (pr x).1 (pre.length + 1 : Nat) := by
  have e : ∀ rest, ms 0 0 ((pre ++ [x]).map pr ++ rest) = (0, 0, ft (pr x).2 (pr x).1 (pre.length + 1 : Nat)) := by
    intro rest
    rw [List.map_append, List.append_assoc, h.1]
    show ms _ _ (((pr x).1, (pr x).2) :: rest) = _
    rw [ms, if_neg he]
  have e2 : me (pre ++ [x]) = ft (pr x).2 (pr x).1 (pre.length + 1 : Nat) := by
    unfold me
    have := e []
    rw [List.append_nil] at this
    rw [this]
  exact ⟨fun rest => by rw [e rest, e2], e2⟩
theorem heap_alloc_at (w : World) (o : Obj) (k : Nat) (h : k = w.heap.size) : (w.alloc o).heap[k]? = some o := by subst h; exact heap_alloc_new w o
theorem keeps_below {B : Nat} {W W' : World} (h : Below W.heap.size W W') : KeepsFrom B W W' := ⟨h.size, fun k o _ hk _ => (h.block k (Array.getElem?_eq_some_iff.1 hk).1).trans hk⟩
theorem Kp.set {n0 n1 : Nat} (W : World) (B : Nat) (u : Value) (h0 : n0 ≤ B) (h1 : B < n1) : Kp n0 n1 W (W.setCell ⟨B, 0, none⟩ u) :=
  ⟨(Below.refl _ W).setCell (p := ⟨B, 0, none⟩) h0 u, fun b c t fz hb hc => by rw [Below.heap_setCell _ _ _ _ (by simp; omega)]; exact hc⟩
set_option maxRecDepth 100000 in
set_option maxHeartbeats 4000000 in
theorem measure_c {m : Nat} {v : Value} {c : C} {w : World} (hin : In false All w m v c) (hdep : dep c ≤ 4096) :
    Calls Tryz.prog 77 #[v] w fun e w' => e = .returned (.tuple #[.int .i64 (ms 0 0 (pl 1 c)).1, .int .i64 (ms 0 0 (pl 1 c)).2.1, .int .i64 (ms 0 0 (pl 1 c)).2.2]) ∧ Below w.heap.size w w' := by
  obtain ⟨v0, v1, v2, v3, v4, v5, rfl, -⟩ := hin.six
  refine (callsIn_wide (n := 6)).1 ?_
  refine callsIn_of_wp_marks Tryz.func77 rfl trivial ?_ rfl
  simp only [Tryz.ntmps77, List.size_toArray, List.length_cons, List.length_nil, Nat.reduceAdd, Nat.reduceSub, Array.replicate_succ, Array.replicate_zero, List.push_toArray, List.append_toArray, List.nil_append, List.cons_append]
  gi_wp2_with fail
  refine ⟨trivial, ?_⟩
  refine (parts_in _ _ _ _ _ _ _ _).mono ?_
  rintro e w' ⟨rfl, rfl⟩
  obtain ⟨W0, hW0⟩ : ∃ W0, (((((((w.alloc (.cells #[v0, v1, v2, v3, v4, v5] 46)).alloc (.cells #[.int .i64 0] 3)).alloc (.cells #[.int .i64 0] 3)).alloc (.cells #[.int .i64 0] 29)).alloc (.cells #[.int .i64 0] 3)).alloc (.cells #[.int .i64 0] 3)).alloc (.cells #[v0, v1, v2, v3, v4, v5] 46)) = W0 := ⟨_, rfl⟩
  have hsz : W0.heap.size = w.heap.size + 7 := by rw [← hW0]; simp
  have hB0 : Below w.heap.size w W0 := by
    rw [← hW0]
    exact ((((((((Below.refl _ w).alloc (Nat.le_refl _) _).alloc (by simp) _).alloc (by simp; omega) _).alloc (by simp; omega) _).alloc (by simp; omega) _).alloc (by simp; omega) _).alloc (by simp; omega) _)
  have b1 : Boxed W0 (w.heap.size + 1) 3 (.int .i64 0) := by
    rw [← hW0]
    have := (((((Boxed.new (w.alloc (.cells #[v0, v1, v2, v3, v4, v5] 46)) 3 (.int .i64 0)).alloc (.cells #[.int .i64 0] 3)).alloc (.cells #[.int .i64 0] 29)).alloc (.cells #[.int .i64 0] 3)).alloc (.cells #[.int .i64 0] 3)).alloc (.cells #[v0, v1, v2, v3, v4, v5] 46)
    simp only [World.size_alloc] at this
    exact this
  have b2 : Boxed W0 (w.heap.size + 1 + 1) 3 (.int .i64 0) := by
    rw [← hW0]
    have := ((((Boxed.new ((w.alloc (.cells #[v0, v1, v2, v3, v4, v5] 46)).alloc (.cells #[.int .i64 0] 3)) 3 (.int .i64 0)).alloc (.cells #[.int .i64 0] 29)).alloc (.cells #[.int .i64 0] 3)).alloc (.cells #[.int .i64 0] 3)).alloc (.cells #[v0, v1, v2, v3, v4, v5] 46)
    simp only [World.size_alloc] at this
    exact this
  have b3 : Boxed W0 (w.heap.size + 1 + 1 + 1) 29 (.int .i64 0) := by
    rw [← hW0]
    have := (((Boxed.new (((w.alloc (.cells #[v0, v1, v2, v3, v4, v5] 46)).alloc (.cells #[.int .i64 0] 3)).alloc (.cells #[.int .i64 0] 3)) 29 (.int .i64 0)).alloc (.cells #[.int .i64 0] 3)).alloc (.cells #[.int .i64 0] 3)).alloc (.cells #[v0, v1, v2, v3, v4, v5] 46)
    simp only [World.size_alloc] at this
    exact this
  have b4 : Boxed W0 (w.heap.size + 1 + 1 + 1 + 1) 3 (.int .i64 0) := by
    rw [← hW0]
    have := ((Boxed.new ((((w.alloc (.cells #[v0, v1, v2, v3, v4, v5] 46)).alloc (.cells #[.int .i64 0] 3)).alloc (.cells #[.int .i64 0] 3)).alloc (.cells #[.int .i64 0] 29)) 3 (.int .i64 0)).alloc (.cells #[.int .i64 0] 3)).alloc (.cells #[v0, v1, v2, v3, v4, v5] 46)
    simp only [World.size_alloc] at this
    exact this
  have b5 : Boxed W0 (w.heap.size + 1 + 1 + 1 + 1 + 1) 3 (.int .i64 0) := by
    rw [← hW0]
    have := (Boxed.new (((((w.alloc (.cells #[v0, v1, v2, v3, v4, v5] 46)).alloc (.cells #[.int .i64 0] 3)).alloc (.cells #[.int .i64 0] 3)).alloc (.cells #[.int .i64 0] 29)).alloc (.cells #[.int .i64 0] 3)) 3 (.int .i64 0)).alloc (.cells #[v0, v1, v2, v3, v4, v5] 46)
    simp only [World.size_alloc] at this
    exact this
  have b6 : W0.heap[w.heap.size + 6]? = some (.cells #[v0, v1, v2, v3, v4, v5] 46 (0, 0)) := by
    rw [← hW0]
    exact heap_alloc_at _ _ _ (by simp)
  gi_wp2_with fail
  try rw [hW0]
  clear hW0
  refine wpIn_rangeFunc_ownH rfl (by omega) (gf := 126) (lb := #[.pointer (some ⟨w.heap.size + 1 + 1 + 1 + 1 + 1 + 1, 0, none⟩)]) rfl trivial (enters_of Tryz.func126 (by kernel_rfl) rfl)
    (parts_stops 5 (w.heap.size + 1 + 1 + 1 + 1 + 1 + 1) w W0 hin hdep hB0 b6) (fun {_ _ _} h k => Kp.trans h k) (Kp.book (by omega)) (Below.refl _ _) (fun _ => rfl)
    (fun pre W => (((((Boxed W (w.heap.size + 1 + 1 + 1 + 1) 3 (.int .i64 (mx (pre.map pr) : Nat)) ∧ Boxed W (w.heap.size + 1 + 1 + 1 + 1 + 1) 3 (.int .i64 (pre.length : Nat))) ∧ Boxed W (w.heap.size + 1) 3 (.int .i64 0)) ∧ Boxed W (w.heap.size + 1 + 1) 3 (.int .i64 0)) ∧ Boxed W (w.heap.size + 1 + 1 + 1) 29 (.int .i64 0)) ∧ PI pre) ∧ Below w.heap.size w W)
    (fun c pre W => (((Boxed W (w.heap.size + 1) 3 (.int .i64 0) ∧ Boxed W (w.heap.size + 1 + 1) 3 (.int .i64 0)) ∧ Boxed W (w.heap.size + 1 + 1 + 1) 29 (.int .i64 (me pre))) ∧ (c = .ret ∧ PX pre)) ∧ Below w.heap.size w W)
    (OwnFrom.and (OwnFrom.and (OwnFrom.and (OwnFrom.and (OwnFrom.and (OwnFrom.and (Own.from (boxed_own _ _ _) _) (Own.from (boxed_own _ _ _) _)) (Own.from (boxed_own _ _ _) _)) (Own.from (boxed_own _ _ _) _)) (Own.from (boxed_own _ _ _) _)) (ownFrom_pure _ _)) (ownFrom_below (Nat.le_refl _) (by omega)))
    (fun c => OwnFrom.and (OwnFrom.and (OwnFrom.and (OwnFrom.and (Own.from (boxed_own _ _ _) _) (Own.from (boxed_own _ _ _) _)) (Own.from (boxed_own _ _ _) _)) (ownFrom_pure _ _)) (ownFrom_below (Nat.le_refl _) (by omega)))
    ⟨⟨⟨⟨⟨⟨b4, b5⟩, b1⟩, b2⟩, b3⟩, PI.start⟩, hB0⟩
    (fun x a' W => ∃ Bx, w.heap.size + 1 + 1 + 1 + 1 + 1 < Bx ∧ W.heap[Bx]? = some (.cells x.1.2.1.cells 46 (0, 0)) ∧ a' = { tmps := #[.agg #[v0, v1, v2, v3, v4, v5], .pointer (some ⟨w.heap.size, 0, none⟩), .pointer (some ⟨w.heap.size + 1, 0, none⟩), .pointer (some ⟨w.heap.size + 1 + 1, 0, none⟩), .pointer (some ⟨w.heap.size + 1 + 1 + 1, 0, none⟩), .pointer (some ⟨w.heap.size + 1 + 1 + 1 + 1, 0, none⟩), .pointer (some ⟨w.heap.size + 1 + 1 + 1 + 1 + 1, 0, none⟩), .int .i64 x.1.1, .pointer (some ⟨Bx, 0, none⟩), undef, .agg #[v0, v1, v2, v3, v4, v5], .func (.func 126) #[] #[.pointer (some ⟨w.heap.size + 1 + 1 + 1 + 1 + 1 + 1, 0, none⟩)], .int .i64 x.1.1, x.1.2.1, undef, undef, undef, undef, undef, undef, undef, undef, undef, undef, undef, undef, undef, undef], defers := [] })
    (fun x a' _ X Y row hs hg hr => by
      obtain ⟨Bx, h1, h2, h3⟩ := hs
      refine ⟨Bx, h1, (hg.block Bx (Array.getElem?_eq_some_iff.1 h2).1 (fun e => ?_)).trans h2, h3⟩
      obtain ⟨-, o, ho, hc⟩ := hr Bx e.symm
      rw [h2] at ho; cases ho; cases hc)
    ?assign ?body ?done ?stop
  case assign =>
    rintro l pre x W K ⟨⟨⟨⟨⟨⟨c4, c5⟩, c1⟩, c2⟩, c3⟩, hP⟩, hB1⟩ hK
    obtain ⟨⟨d, u, cx⟩, mx', hx⟩ := x
    have hx' : In false All w mx' u cx := hx
    obtain ⟨u0, u1, u2, u3, u4, u5, rfl, -⟩ := hx'.six
    obtain ⟨p1, q1, r1, p2, q2, r2, rfl, rfl, rfl, rfl, rfl, rfl⟩ := hx'.kinds
    simp only [enc]
    gi_wp2
    exact hK _ _ ((KeepsOthers.alloc _ _).from _) (Kp.of_below ((Below.refl _ W).alloc (Nat.le_refl _) _) hB1.size) ⟨⟨⟨⟨⟨⟨c4.alloc _, c5.alloc _⟩, c1.alloc _⟩, c2.alloc _⟩, c3.alloc _⟩, hP⟩, hB1.alloc hB1.size _⟩ ⟨W.heap.size, c5.lt, heap_alloc_new W _, rfl⟩
  case body =>
    rintro l pre x a' W hl ⟨r, hr⟩ ⟨⟨⟨⟨⟨⟨c4, c5⟩, c1⟩, c2⟩, c3⟩, hP⟩, hB1⟩ ⟨Bx, hBx, bX, rfl⟩ hlt
    obtain ⟨mx', hx'⟩ : ∃ m, In false All w m x.1.2.1 x.1.2.2 := x.2
    obtain ⟨d, hd⟩ : ∃ d, x.1.1 = d := ⟨_, rfl⟩
    obtain ⟨u, hu⟩ : ∃ u, x.1.2.1 = u := ⟨_, rfl⟩
    obtain ⟨cx, hcx⟩ : ∃ cx, x.1.2.2 = cx := ⟨_, rfl⟩
    have Hpr : Hid (pr x = (d, cx)) := by
      show _ = _
      unfold pr
      rw [hd, hcx]
    rw [hu, hcx] at hx'
    rw [hu] at bX
    rw [hd, hu]
    clear hd hu hcx
    obtain ⟨u0, u1, u2, u3, u4, u5, rfl, -⟩ := hx'.six
    have bX' : W.heap[Bx]? = some (.cells #[u0, u1, u2, u3, u4, u5] 46 (0, 0)) := bX
    obtain ⟨k4, kf4⟩ := And.intro c4.cell c4.frozen
    obtain ⟨k5, kf5⟩ := And.intro c5.cell c5.frozen
    have hplen : pre.length ≤ 16384 := hP.2
    obtain ⟨M, hM⟩ : ∃ M, mx (pre.map pr) = M := ⟨_, rfl⟩
    have HM : Hid (mx (pre.map pr) = M) := hM
    rw [hM] at c4 k4
    clear hM
    rcases Nat.lt_or_ge M d with hD | hD
    · obtain ⟨W2, hW2⟩ : ∃ W2, (W.setCell ⟨w.heap.size + 1 + 1 + 1 + 1 + 1, 0, none⟩ (.int .i64 ((pre.length : Int) + 1))).setCell ⟨w.heap.size + 1 + 1 + 1 + 1, 0, none⟩ (.int .i64 (d : Nat)) = W2 := ⟨_, rfl⟩
      have hBW : Below w.heap.size W W2 := by
        rw [← hW2]
        exact ((Below.refl _ W).setCell (p := ⟨w.heap.size + 1 + 1 + 1 + 1 + 1, 0, none⟩) (by dsimp only; omega) _).setCell (p := ⟨w.heap.size + 1 + 1 + 1 + 1, 0, none⟩) (by dsimp only; omega) _
      have hsz2 : W2.heap.size = W.heap.size := by rw [← hW2]; simp [World.setCell]
      have hot : ∀ b, b ≠ w.heap.size + 1 + 1 + 1 + 1 → b ≠ w.heap.size + 1 + 1 + 1 + 1 + 1 → W2.heap[b]? = W.heap[b]? := fun b h4 h5 => by rw [← hW2, Below.heap_setCell _ _ _ _ h4, Below.heap_setCell _ _ _ _ h5]
      have hKF : KeepsFrom W0.heap.size W W2 := by rw [← hW2]; exact ((KeepsOthers.setCell _ _ _).trans (KeepsOthers.setCell _ _ _)).from _
      have hKp : Kp w.heap.size W0.heap.size W W2 := by rw [← hW2]; exact (Kp.set W _ _ (by omega) (by omega)).trans (Kp.set _ _ _ (by omega) (by omega))
      have e4 : Boxed W2 (w.heap.size + 1 + 1 + 1 + 1) 3 (.int .i64 (d : Nat)) := by
        rw [← hW2]
        refine Boxed.set _ (v := .int .i64 (M : Nat)) ?_
        show _ = _
        rw [Below.heap_setCell _ _ _ _ (by dsimp only; omega)]
        exact c4
      have e5 : Boxed W2 (w.heap.size + 1 + 1 + 1 + 1 + 1) 3 (.int .i64 ((pre.length : Int) + 1)) := by
        rw [← hW2]
        show _ = _
        rw [Below.heap_setCell _ _ _ _ (by dsimp only; omega)]
        exact Boxed.set _ c5
      have e1 : Boxed W2 (w.heap.size + 1) 3 (.int .i64 0) := (hot _ (by omega) (by omega)).trans c1
      have e2 : Boxed W2 (w.heap.size + 1 + 1) 3 (.int .i64 0) := (hot _ (by omega) (by omega)).trans c2
      have e3 : Boxed W2 (w.heap.size + 1 + 1 + 1) 29 (.int .i64 0) := (hot _ (by omega) (by omega)).trans c3
      obtain ⟨x0, x1, x2, x3, x4, x5⟩ := six_box ((hot Bx (by omega) (by omega)).trans bX')
      have z5 := e5.cell
      have hBw2 := hB1.trans hBW
      have c55 := CallsIn.inRound l (callsIn_wide (n := 3).2 (fault_c (hx'.below hBw2) (d : Int) ((pre.length : Int) + 1)))
      generalize hE : ft cx (d : Int) ((pre.length : Int) + 1) = E at c55
      have HE : Hid (ft cx (d : Int) ((pre.length : Int) + 1) = E) := hE
      clear hE c1 c2 c3 c4 c5 bX bX' hot
      gi_wp2_with fail
      refine ⟨trivial, ?_⟩
      refine c55.mono ?_
      rintro e W3 ⟨rfl, b3⟩
      clear c55 x0 x1 x2 x3 x4 x5 k4 k5 kf4 kf5 hW2 z5
      have f1 : Boxed W3 (w.heap.size + 1) 3 (.int .i64 0) := (b3.block _ e1.lt).trans e1
      have f2 : Boxed W3 (w.heap.size + 1 + 1) 3 (.int .i64 0) := (b3.block _ e2.lt).trans e2
      have f3 : Boxed W3 (w.heap.size + 1 + 1 + 1) 29 (.int .i64 0) := (b3.block _ e3.lt).trans e3
      have f4 : Boxed W3 (w.heap.size + 1 + 1 + 1 + 1) 3 (.int .i64 (d : Nat)) := (b3.block _ e4.lt).trans e4
      have f5 : Boxed W3 (w.heap.size + 1 + 1 + 1 + 1 + 1) 3 (.int .i64 ((pre.length : Int) + 1)) := (b3.block _ e5.lt).trans e5
      have hKF3 := hKF.trans (keeps_below (B := W0.heap.size) b3)
      have hKp3 := hKp.trans (Kp.of_below (n0 := w.heap.size) (n1 := W0.heap.size) b3 (by have := hB1.size; omega))
      have hBw3 := hBw2.trans (b3.mono (by have := hB1.size; omega))
      clear e1 e2 e3 e4 e5 hKF hKp hBW hBw2
      by_cases hE0 : E = 0
      · subst hE0
        gi_wp2_with fail
        refine ⟨hKF3, hKp3, ⟨⟨⟨⟨⟨?_, ?_⟩, f1⟩, f2⟩, f3⟩, ?_⟩, hBw3⟩
        · have e : mx ((pre ++ [x]).map pr) = d := by
            rw [List.map_append, List.map_cons, List.map_nil, mx_snoc]
            rw [Hpr.out]
            show max (mx (pre.map pr)) d = _
            have := HM.out
            omega
          rw [e]
          exact f4
        · rw [List.length_append]
          exact f5
        · exact hP.next x (by rw [Hpr.out]; exact HE.out)
      · have hE' : (E != 0) = true := by simp [hE0]
        have hst := hP.stop x (by rw [Hpr.out]; intro h; exact hE0 (HE.out.symm.trans h))
        have Hst : Hid (PX (pre ++ [x]) ∧ me (pre ++ [x]) = E) := ⟨hst.1, hst.2.trans (by rw [Hpr.out]; exact HE.out)⟩
        clear hst
        have g1 := f1.cell
        have g2 := f2.cell
        have g3 := f3.cell
        have h1 := f1.frozen
        have h2 := f2.frozen
        have h3 := f3.frozen
        gi_wp2_with fail
        refine ⟨hKF3.trans (((KeepsOthers.setCell _ _ _).trans ((KeepsOthers.setCell _ _ _).trans (KeepsOthers.setCell _ _ _))).from _), ⟨⟨⟨?_, ?_⟩, ?_⟩, rfl, Hst.out.1⟩, ((hBw3.setCell (p := ⟨w.heap.size + 1, 0, none⟩) (by dsimp only; omega) _).setCell (p := ⟨w.heap.size + 1 + 1, 0, none⟩) (by dsimp only; omega) _).setCell (p := ⟨w.heap.size + 1 + 1 + 1, 0, none⟩) (by dsimp only; omega) _⟩
        · show _ = _
          rw [Below.heap_setCell _ _ _ _ (by dsimp only; omega), Below.heap_setCell _ _ _ _ (by dsimp only; omega)]
          exact Boxed.set _ f1
        · show _ = _
          rw [Below.heap_setCell _ _ _ _ (by dsimp only; omega)]
          refine Boxed.set _ (v := .int .i64 0) ?_
          show _ = _
          rw [Below.heap_setCell _ _ _ _ (by dsimp only; omega)]
          exact f2
        · rw [Hst.out.2]
          refine Boxed.set _ (v := .int .i64 0) ?_
          show _ = _
          rw [Below.heap_setCell _ _ _ _ (by dsimp only; omega), Below.heap_setCell _ _ _ _ (by dsimp only; omega)]
          exact f3
    · obtain ⟨W2, hW2⟩ : ∃ W2, (W.setCell ⟨w.heap.size + 1 + 1 + 1 + 1 + 1, 0, none⟩ (.int .i64 ((pre.length : Int) + 1))).setCell ⟨w.heap.size + 1 + 1 + 1 + 1, 0, none⟩ (.int .i64 (M : Nat)) = W2 := ⟨_, rfl⟩
      have hBW : Below w.heap.size W W2 := by
        rw [← hW2]
        exact ((Below.refl _ W).setCell (p := ⟨w.heap.size + 1 + 1 + 1 + 1 + 1, 0, none⟩) (by dsimp only; omega) _).setCell (p := ⟨w.heap.size + 1 + 1 + 1 + 1, 0, none⟩) (by dsimp only; omega) _
      have hsz2 : W2.heap.size = W.heap.size := by rw [← hW2]; simp [World.setCell]
      have hot : ∀ b, b ≠ w.heap.size + 1 + 1 + 1 + 1 → b ≠ w.heap.size + 1 + 1 + 1 + 1 + 1 → W2.heap[b]? = W.heap[b]? := fun b h4 h5 => by rw [← hW2, Below.heap_setCell _ _ _ _ h4, Below.heap_setCell _ _ _ _ h5]
      have hKF : KeepsFrom W0.heap.size W W2 := by rw [← hW2]; exact ((KeepsOthers.setCell _ _ _).trans (KeepsOthers.setCell _ _ _)).from _
      have hKp : Kp w.heap.size W0.heap.size W W2 := by rw [← hW2]; exact (Kp.set W _ _ (by omega) (by omega)).trans (Kp.set _ _ _ (by omega) (by omega))
      have e4 : Boxed W2 (w.heap.size + 1 + 1 + 1 + 1) 3 (.int .i64 (M : Nat)) := by
        rw [← hW2]
        refine Boxed.set _ (v := .int .i64 (M : Nat)) ?_
        show _ = _
        rw [Below.heap_setCell _ _ _ _ (by dsimp only; omega)]
        exact c4
      have e5 : Boxed W2 (w.heap.size + 1 + 1 + 1 + 1 + 1) 3 (.int .i64 ((pre.length : Int) + 1)) := by
        rw [← hW2]
        show _ = _
        rw [Below.heap_setCell _ _ _ _ (by dsimp only; omega)]
        exact Boxed.set _ c5
      have e1 : Boxed W2 (w.heap.size + 1) 3 (.int .i64 0) := (hot _ (by omega) (by omega)).trans c1
      have e2 : Boxed W2 (w.heap.size + 1 + 1) 3 (.int .i64 0) := (hot _ (by omega) (by omega)).trans c2
      have e3 : Boxed W2 (w.heap.size + 1 + 1 + 1) 29 (.int .i64 0) := (hot _ (by omega) (by omega)).trans c3
      obtain ⟨x0, x1, x2, x3, x4, x5⟩ := six_box ((hot Bx (by omega) (by omega)).trans bX')
      have z5 := e5.cell
      have hBw2 := hB1.trans hBW
      have c55 := CallsIn.inRound l (callsIn_wide (n := 3).2 (fault_c (hx'.below hBw2) (d : Int) ((pre.length : Int) + 1)))
      generalize hE : ft cx (d : Int) ((pre.length : Int) + 1) = E at c55
      have HE : Hid (ft cx (d : Int) ((pre.length : Int) + 1) = E) := hE
      clear hE c1 c2 c3 c4 c5 bX bX' hot
      gi_wp2_with fail
      refine ⟨trivial, ?_⟩
      refine c55.mono ?_
      rintro e W3 ⟨rfl, b3⟩
      clear c55 x0 x1 x2 x3 x4 x5 k4 k5 kf4 kf5 hW2 z5
      have f1 : Boxed W3 (w.heap.size + 1) 3 (.int .i64 0) := (b3.block _ e1.lt).trans e1
      have f2 : Boxed W3 (w.heap.size + 1 + 1) 3 (.int .i64 0) := (b3.block _ e2.lt).trans e2
      have f3 : Boxed W3 (w.heap.size + 1 + 1 + 1) 29 (.int .i64 0) := (b3.block _ e3.lt).trans e3
      have f4 : Boxed W3 (w.heap.size + 1 + 1 + 1 + 1) 3 (.int .i64 (M : Nat)) := (b3.block _ e4.lt).trans e4
      have f5 : Boxed W3 (w.heap.size + 1 + 1 + 1 + 1 + 1) 3 (.int .i64 ((pre.length : Int) + 1)) := (b3.block _ e5.lt).trans e5
      have hKF3 := hKF.trans (keeps_below (B := W0.heap.size) b3)
      have hKp3 := hKp.trans (Kp.of_below (n0 := w.heap.size) (n1 := W0.heap.size) b3 (by have := hB1.size; omega))
      have hBw3 := hBw2.trans (b3.mono (by have := hB1.size; omega))
      clear e1 e2 e3 e4 e5 hKF hKp hBW hBw2
      by_cases hE0 : E = 0
      · subst hE0
        gi_wp2_with fail
        refine ⟨hKF3, hKp3, ⟨⟨⟨⟨⟨?_, ?_⟩, f1⟩, f2⟩, f3⟩, ?_⟩, hBw3⟩
        · have e : mx ((pre ++ [x]).map pr) = M := by
            rw [List.map_append, List.map_cons, List.map_nil, mx_snoc]
            rw [Hpr.out]
            show max (mx (pre.map pr)) d = _
            have := HM.out
            omega
          rw [e]
          exact f4
        · rw [List.length_append]
          exact f5
        · exact hP.next x (by rw [Hpr.out]; exact HE.out)
      · have hE' : (E != 0) = true := by simp [hE0]
        have hst := hP.stop x (by rw [Hpr.out]; intro h; exact hE0 (HE.out.symm.trans h))
        have Hst : Hid (PX (pre ++ [x]) ∧ me (pre ++ [x]) = E) := ⟨hst.1, hst.2.trans (by rw [Hpr.out]; exact HE.out)⟩
        clear hst
        have g1 := f1.cell
        have g2 := f2.cell
        have g3 := f3.cell
        have h1 := f1.frozen
        have h2 := f2.frozen
        have h3 := f3.frozen
        gi_wp2_with fail
        refine ⟨hKF3.trans (((KeepsOthers.setCell _ _ _).trans ((KeepsOthers.setCell _ _ _).trans (KeepsOthers.setCell _ _ _))).from _), ⟨⟨⟨?_, ?_⟩, ?_⟩, rfl, Hst.out.1⟩, ((hBw3.setCell (p := ⟨w.heap.size + 1, 0, none⟩) (by dsimp only; omega) _).setCell (p := ⟨w.heap.size + 1 + 1, 0, none⟩) (by dsimp only; omega) _).setCell (p := ⟨w.heap.size + 1 + 1 + 1, 0, none⟩) (by dsimp only; omega) _⟩
        · show _ = _
          rw [Below.heap_setCell _ _ _ _ (by dsimp only; omega), Below.heap_setCell _ _ _ _ (by dsimp only; omega)]
          exact Boxed.set _ f1
        · show _ = _
          rw [Below.heap_setCell _ _ _ _ (by dsimp only; omega)]
          refine Boxed.set _ (v := .int .i64 0) ?_
          show _ = _
          rw [Below.heap_setCell _ _ _ _ (by dsimp only; omega)]
          exact f2
        · rw [Hst.out.2]
          refine Boxed.set _ (v := .int .i64 0) ?_
          show _ = _
          rw [Below.heap_setCell _ _ _ _ (by dsimp only; omega), Below.heap_setCell _ _ _ _ (by dsimp only; omega)]
          exact f3
  case done =>
    rintro D ys W hD hS ⟨⟨⟨⟨⟨⟨c4, c5⟩, c1⟩, c2⟩, c3⟩, hP⟩, hB1⟩ hK
    have e : ms 0 0 (pl 1 c) = (((mx (ys.map pr) : Nat) : Int), ((ys.length : Nat) : Int), 0) := by
      have := hP.1 []
      rw [List.append_nil, hS] at this
      rw [this, ms, hS]
    have HR : Hid (ms 0 0 (pl 1 c) = (((mx (ys.map pr) : Nat) : Int), ((ys.length : Nat) : Int), 0)) := e
    clear e hP hS
    generalize mx (ys.map pr) = M at *
    generalize ys.length = L at *
    have k4 := c4.cell
    have k5 := c5.cell
    have k1 := c1.cell
    have k2 := c2.cell
    have k3 := c3.cell
    have f1 := c1.frozen
    have f2 := c2.frozen
    have f3 := c3.frozen
    have hmx : Tryz.prog.follows .inlinedCapture = true := by kernel_rfl
    gi_wp2
    gi_region
    gi_wp2
    obtain ⟨W4, hW4⟩ : ∃ W4, ((W.setCell ⟨w.heap.size + 1, 0, none⟩ (.int .i64 (M : Int))).setCell ⟨w.heap.size + 1 + 1, 0, none⟩ (.int .i64 (L : Int))).setCell ⟨w.heap.size + 1 + 1 + 1, 0, none⟩ (.int .i64 0) = W4 := ⟨_, rfl⟩
    rw [hW4]
    have hK4 : W4.drew.heap[D]? = some (.deferred (some [])) := by
      rw [← hW4]
      exact ((KeepsOthers.setCell _ _ _).trans ((KeepsOthers.setCell _ _ _).trans (KeepsOthers.setCell _ _ _))).same D _ hK rfl
    have d1 : Boxed W4.drew (w.heap.size + 1) 3 (.int .i64 (M : Int)) := by
      rw [← hW4]
      exact ((Boxed.set _ c1).other (by omega) _).other (by omega) _
    have d2 : Boxed W4.drew (w.heap.size + 1 + 1) 3 (.int .i64 (L : Int)) := by
      rw [← hW4]
      exact (Boxed.set _ (c2.other (by omega) _)).other (by omega) _
    have d3 : Boxed W4.drew (w.heap.size + 1 + 1 + 1) 29 (.int .i64 0) := by
      rw [← hW4]
      exact Boxed.set _ ((c3.other (by omega) _).other (by omega) _)
    have hB4 : Below w.heap.size w W4.drew := by
      rw [← hW4]
      exact (((hB1.setCell (p := ⟨w.heap.size + 1, 0, none⟩) (by dsimp only; omega) _).setCell (p := ⟨w.heap.size + 1 + 1, 0, none⟩) (by dsimp only; omega) _).setCell (p := ⟨w.heap.size + 1 + 1 + 1, 0, none⟩) (by dsimp only; omega) _).drew
    clear hW4
    refine ⟨by simp, .inl ⟨_, _, rfl, run_takeDeferred hK4, ?_⟩⟩
    have g1 := cell_kept d1.cell (grownBy_putObj' _ D (.deferred none)) (fun r e => by cases e; exact ⟨_, hK4, rfl⟩)
    have g2 := cell_kept d2.cell (grownBy_putObj' _ D (.deferred none)) (fun r e => by cases e; exact ⟨_, hK4, rfl⟩)
    have g3 := cell_kept d3.cell (grownBy_putObj' _ D (.deferred none)) (fun r e => by cases e; exact ⟨_, hK4, rfl⟩)
    refine ⟨.tuple #[.int .i64 M, .int .i64 L, .int .i64 0], ?_, by rw [HR.out], hB4.trans (belowK_b (w := w) (Nat.le_refl _) _ D _ _ (by omega) hK4 rfl rfl)⟩
    simp [results, Tryz.f77, go_sem, g1, g2, g3]
  case stop =>
    rintro D cd pre W hD hSp ⟨⟨⟨⟨c1, c2⟩, c3⟩, rfl, hPX⟩, hB1⟩ hK
    obtain ⟨rest, hrest⟩ := hSp
    have HR : Hid (ms 0 0 (pl 1 c) = (0, 0, me pre)) := by
      show _ = _
      rw [← hrest]
      exact hPX rest
    clear hPX hrest
    generalize me pre = E at *
    gi_wp2
    refine ⟨by simp, .inl ⟨_, _, rfl, run_takeDeferred hK, ?_⟩⟩
    have g1 := cell_kept c1.cell (grownBy_putObj' _ D (.deferred none)) (fun r e => by cases e; exact ⟨_, hK, rfl⟩)
    have g2 := cell_kept c2.cell (grownBy_putObj' _ D (.deferred none)) (fun r e => by cases e; exact ⟨_, hK, rfl⟩)
    have g3 := cell_kept c3.cell (grownBy_putObj' _ D (.deferred none)) (fun r e => by cases e; exact ⟨_, hK, rfl⟩)
    refine ⟨.tuple #[.int .i64 0, .int .i64 0, .int .i64 E], ?_, by rw [HR.out], hB1.trans (belowK_b (w := w) (Nat.le_refl _) W D _ _ (by omega) hK rfl rfl)⟩
    simp [results, Tryz.f77, go_sem, g1, g2, g3]
theorem check_c {m : Nat} {v : Value} {c : C} {w : World} (hin : In false All w m v c) (hdep : dep c ≤ 4096) :
    Calls Tryz.prog 63 #[v] w fun e w' => e = .returned (.int .i64 (ms 0 0 (pl 1 c)).2.2) ∧ Below w.heap.size w w' := by
  obtain ⟨v0, v1, v2, v3, v4, v5, rfl, -⟩ := hin.six
  have hb : Below w.heap.size w (w.alloc (.cells #[v0, v1, v2, v3, v4, v5] 46)) := (Below.refl _ w).alloc (Nat.le_refl _) _
  have c36 := measure_c (hin.below hb) hdep
  generalize ms 0 0 (pl 1 c) = R at *
  clear hin
  go_enter Tryz.func63, Tryz.ntmps63
  go_wp2_with (first | (go_at_call 77; refine c36.mono ?_; rintro e w1 ⟨rfl, b1⟩))
  go_ret
  exact ⟨rfl, nx hb b1⟩
end Go.Proofs.YthjbknncbhkinaaGreatDoor.Measure

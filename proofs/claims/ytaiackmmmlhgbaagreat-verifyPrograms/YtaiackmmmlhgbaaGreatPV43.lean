import Derived.Test.YtaiackmmmlhgbaaGreatPV36
import Derived.Test.YtaiackmmmlhgbaaGreatPV42
open Go.Proofs.Tryz
set_option linter.unusedVariables false
set_option maxRecDepth 100000
namespace Go.Proofs.YtaiackmmmlhgbaaGreat.YOr
open Go.ChangeShapes Go.WideShapes Go.ChangeAt Go.RowKit YRr YOp BLa
open TBase (T)
theorem rr_fst {α : Type} {P : α -> Prop} {n K : Nat} {Ly : World -> Nat -> Nat -> α -> Prop} {w : World} {v : Value} {l : List α} (h : Rr n (fun w g o x => Ly w g o x /\ P x) K w v l) : Rr n Ly K w v l := by
 obtain ⟨a, cap, h1, h2, h3, h4, h5, h6⟩ := h
 refine ⟨a, cap, h1, h2, h3, h4, h5, ?_⟩
 rcases h6 with h6 | ⟨g, o, ha, hg, hc⟩
 ·exact .inl h6
 ·exact .inr ⟨g, o, ha, hg, fun j hj => (hc j hj).1⟩
section
variable {H : Type} {enc : TypeId × Value -> H} {W : World}
theorem two_c (fuel : Nat) : One enc W 63 1 (fun w g o x => LyC W.heap.size w g o x /\ szN x) fuel := by
 intro cs x h hw
 obtain ⟨v, l, rfl, hr, hz⟩ := open_row underlying63 cellsI bytesI (by omega) (by omega) (fun m _ => one_n m) h hw
 exact ⟨l, fun g o hc => ⟨⟨v, hc 0 (by omega), hr⟩, hz⟩⟩
theorem two_o (fuel : Nat) : One enc W 127 5 (fun w g o x => LyO W.heap.size w g o x /\ szO x) fuel := by
 intro cs x h hw
 obtain ⟨xs, n', rfl, rfl, hcl, hxl, hf⟩ := DataW.trod_struct underlying127 h
 rw [cellsO] at hcl
 obtain ⟨c0, c1, c2, c3, c4, rfl⟩ := list5 hcl
 obtain ⟨x0, x1, x2, x3, x4, rfl⟩ := list5 (show xs.length = 5 from hxl)
 have f0 := hf 0 _ rfl
 have f1 := hf 1 _ rfl
 have f2 := hf 2 _ rfl
 have f3 := hf 3 _ rfl
 have f4 := hf 4 _ rfl
 simp [cells3] at f0
 simp [cells3] at f1
 simp [cells3] at f2
 simp [cells3] at f3
 simp [cellsS3] at f4
 obtain ⟨i0, e0, -, w0⟩ := DataW.trod_int underlying3 f0
 obtain ⟨i1, e1, -, w1⟩ := DataW.trod_int underlying3 f1
 obtain ⟨i2, e2, -, w2⟩ := DataW.trod_int underlying3 f2
 obtain ⟨i3, e3, -, w3⟩ := DataW.trod_int underlying3 f3
 obtain ⟨v, l, e4, hr, hz⟩ := open_row underlying72 cells3 bytes3 (by omega) (by omega) (fun m _ => one_i m) f4 (fun q hq => hw q (by
  simp only [List.map_cons, List.map_nil]
  rw [DataW.weights, underlying127]
  simp [DataW.weightsEach, hq]))
 simp only [List.cons.injEq, and_true] at e0 e1 e2 e3 e4
 subst e0 e1 e2 e3 e4
 exact ⟨⟨i0, i1, i2, i3, l⟩, fun g o hc => ⟨⟨_, hc 0 (by omega), hc 1 (by omega), hc 2 (by omega), hc 3 (by omega), hc 4 (by omega), ⟨i64_of w0, i64_of w1, i64_of w2, i64_of w3⟩, hr⟩, hz⟩⟩
theorem two_b (fuel : Nat) : One enc W 74 3 (fun w g o x => LyB W.heap.size w g o x /\ szB x) fuel := by
 intro cs x h hw
 obtain ⟨xs, n', rfl, rfl, hcl, hxl, hf⟩ := DataW.trod_struct underlying74 h
 rw [cellsB] at hcl
 obtain ⟨c0, c1, c2, rfl⟩ := list3 hcl
 obtain ⟨x0, x1, x2, rfl⟩ := list3 (show xs.length = 3 from hxl)
 have f0 := hf 0 _ rfl
 have f1 := hf 1 _ rfl
 have f2 := hf 2 _ rfl
 simp [cells3] at f0
 simp [cellsSO] at f1
 simp [cellsS3] at f2
 obtain ⟨i0, e0, -, w0⟩ := DataW.trod_int underlying3 f0
 obtain ⟨v, l, e1, hr, hz⟩ := open_row underlying71 cellsO bytesO (by omega) (by omega) (fun m _ => two_o m) f1 (fun q hq => hw q (by
  simp only [List.map_cons, List.map_nil]
  rw [DataW.weights, underlying74]
  simp [DataW.weightsEach, hq]))
 obtain ⟨v', l', e2, hr', hz'⟩ := open_row underlying72 cells3 bytes3 (by omega) (by omega) (fun m _ => one_i m) f2 (fun q hq => hw q (by
  simp only [List.map_cons, List.map_nil]
  rw [DataW.weights, underlying74]
  simp [DataW.weightsEach, hq]))
 simp only [List.cons.injEq, and_true] at e0 e1 e2
 subst e0 e1 e2
 exact ⟨⟨i0, l, l'⟩, fun g o hc => ⟨⟨_, _, hc 0 (by omega), hc 1 (by omega), hc 2 (by omega), i64_of w0, rr_fst hr, hr'⟩, hz, Rr.all hr fun _ _ _ h => h.2, hz'⟩⟩
theorem open_pg2 {fuel : Nat} {cs : List Value} {x : DataW H × List MemPlace} (h : DataW.trod enc prog W 0 (fun _ => true) true fuel 29 cs = some x) (hw : Wo 29 x.1) :
  ∃ m y, YEn.InPg W.heap.size m W (.agg cs.toArray) y /\ szP y := by
 obtain ⟨xs, n, rfl, rfl, hcl, hxl, hf⟩ := DataW.trod_struct underlying29 h
 rw [cellsP] at hcl
 obtain ⟨c0, c1, c2, c3, rfl⟩ := list4 hcl
 obtain ⟨x0, x1, x2, x3, rfl⟩ := list4 (show xs.length = 4 from hxl)
 have f0 := hf 0 _ rfl
 have f1 := hf 1 _ rfl
 have f2 := hf 2 _ rfl
 have f3 := hf 3 _ rfl
 simp [cellsS9] at f0
 simp [cellsSC] at f1
 simp [cellsST] at f2
 simp [cellsSB] at f3
 have W0 : ∀ q, q ∈ DataW.weights prog 24 x0.1 \/ q ∈ DataW.weights prog 25 x1.1 \/ q ∈ DataW.weights prog 26 x2.1 \/ q ∈ DataW.weights prog 27 x3.1 -> q <= reachBytes := by
  intro q hq
  apply hw
  simp only [List.map_cons, List.map_nil]
  rw [DataW.weights, underlying29]
  rcases hq with hq | hq | hq | hq
  ·simp [DataW.weightsEach, hq]
  ·simp [DataW.weightsEach, hq]
  ·simp [DataW.weightsEach, hq]
  ·simp [DataW.weightsEach, hq]
 obtain ⟨v0, l0, e0, r0, q0⟩ := open_row underlying24 cells9 bytes9 (by omega) (by omega) (fun m _ => one_s m) f0 (fun q hq => W0 q (.inl hq))
 obtain ⟨v1, l1, e1, r1, q1⟩ := open_row underlying25 cellsSI bytesSI (by omega) (by omega) (fun m _ => two_c m) f1 (fun q hq => W0 q (.inr (.inl hq)))
 obtain ⟨v2, l2, e2, r2, k2⟩ := open_row (Ly := YTr.LyT n W.heap.size) underlying26 cellsT bytesT (by omega) (by omega) (fun m hm cs x h hw => by
  obtain ⟨t, ht⟩ := one_t m cs x h hw
  refine ⟨t, fun g o hc => ?_⟩
  obtain ⟨u, hu, hin⟩ := ht g o hc
  exact ⟨u, hu, hin.weak (fun _ h => h) false id n (by omega)⟩) f2 (fun q hq => W0 q (.inr (.inr (.inl hq))))
 obtain ⟨v3, l3, e3, r3, q3⟩ := open_row underlying27 cellsB bytesB (by omega) (by omega) (fun m _ => two_b m) f3 (fun q hq => W0 q (.inr (.inr (.inr hq))))
 simp only [List.cons.injEq, and_true] at e0 e1 e2 e3
 subst e0 e1 e2 e3
 have r2 := rr_inl r2 k2
 have sl : ∀ {α : Type} {n K : Nat} {Ly : World -> Nat -> Nat -> α -> Prop} {w : World} {v : Value} {l : List α}, Rr n Ly K w v l -> ∃ a c, v = .slice a l.length c := fun h => by obtain ⟨a, c, h, -⟩ := h; exact ⟨a, c, h⟩
 obtain ⟨a0, k0, rfl⟩ := sl r0
 obtain ⟨a1, k1, rfl⟩ := sl r1
 obtain ⟨a3, k3, rfl⟩ := sl r3
 obtain ⟨a2, k4, rfl⟩ : ∃ a c, c2 = .slice a l2.length c := by obtain ⟨a, c, h, -⟩ := r2; exact ⟨a, c, h⟩
 have s1 : ∀ l ∈ l1, szN l := Rr.all r1 fun _ _ _ h => h.2
 have s3 : ∀ k ∈ l3, szB k := Rr.all r3 fun _ _ _ h => h.2
 exact ⟨n, ⟨l0, l1, l2, l3⟩, ⟨_, _, _, _, _, _, _, _, _, _, _, _, rfl, r0, rr_fst r1, r2, rr_fst r3⟩, q0, q1, s1, q3, s3⟩
end
theorem come2 {H : Type} {enc : TypeId × Value -> H} {W : World} {base : Nat} {v : Value} {d : DataW H} {p : List MemPlace} {ts : List TypeId} {ds : List (DataW H)} {j : Nat}
  (hval : Value.okWide prog W .any base 29 v) (h : DataW.Trod enc prog W 0 (fun _ => true) true 29 v d p)
  (hsz : (DataW.weightsEach prog ts ds).all (· <= reachBytes) = true) (ht : ts[j]? = some 29) (hd : ds[j]? = some d) :
  (∃ m x, YEn.InPg W.heap.size m W v x /\ szP x) /\ ∀ W', Below W.heap.size W W' -> DataW.Trod enc prog W' 0 (fun b => decide (b < W.heap.size)) true 29 v d p := by
 have lt0 : ∀ x ∈ p, x.block < W.heap.size := by obtain ⟨m, hm⟩ := h; exact DataW.trod_lt m _ _ _ hm
 refine ⟨?_, fun W' bel => Below.trod laidOut (by kernel_rfl) (of_decide_eq_true (by kernel_rfl)) h bel lt0⟩
 obtain ⟨cs, rfl, -⟩ := okWide_struct underlying29 hval
 obtain ⟨fuel, hf⟩ := h
 obtain ⟨m, y, hin, hzz⟩ := open_pg2 hf fun q hq => by simpa using List.all_eq_true.1 hsz q (DataW.weights_mem_each ht hd q hq)
 exact ⟨m, y, by simpa [Value.cells] using hin, hzz⟩
end Go.Proofs.YtaiackmmmlhgbaaGreat.YOr

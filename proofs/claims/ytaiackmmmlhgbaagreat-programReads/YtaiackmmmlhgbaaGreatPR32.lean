import Derived.Test.YtaiackmmmlhgbaaGreatPR03
import Derived.Test.YtaiackmmmlhgbaaGreatPR20
import Derived.Test.YtaiackmmmlhgbaaGreatPR31
open Go.Proofs.Tryz
set_option linter.unusedVariables false
set_option maxRecDepth 20000
set_option maxHeartbeats 6400000
namespace Go.Proofs.YtaiackmmmlhgbaaGreat.YDe
open Go.RowKit YPl YRd YWr YRr YRs YRb YRl YRp YRq
open TBase (T Keep)
abbrev p0 : Value := .agg #[.slice none 0 0, .slice none 0 0, .slice none 0 0, .slice none 0 0]
def CP (R : Nat) (a : Rs Pg) (w : World) (e : Ending) (w' : World) : Prop := Gx R w w' /\ match a with
  | .ok (x, q) => ∃ v, e = .returned (.tuple #[v, .agg #[.int .i64 0, .int .i64 0]]) /\ HvP (fun g => w.heap.size <= g /\ g < w'.heap.size) w' v x
  | .error q => e = .returned (.tuple #[p0, .agg #[.int .i64 2100, .int .i64 (q : Nat)]])
theorem caught_c {K R : Nat} {w : World} {b : By} (h : Rb K w R b 0 0) :
    Calls prog 20 #[.func (.func 21) #[ptw R] #[]] w fun e w' => CP R (rprg b) w e w' := by
  have hmf : ∀ (fn : Fn) (first cap : Array Value) (w : World), (Instr.makeFunc fn first cap).run prog w = .ok (.func fn first cap) w := fun _ _ _ _ => rfl
  have hRlt := h.lt
  obtain ⟨W, hW⟩ : ∃ W, (w.alloc (.cells #[.slice none 0 0, .slice none 0 0, .slice none 0 0, .slice none 0 0] 29)).alloc (.cells #[.int .i64 0, .int .i64 0] 52) = W := ⟨_, rfl⟩
  have bW : Below w.heap.size w W := by rw [<- hW]; exact ((Below.refl _ w).alloc (Nat.le_refl _) _).alloc (by simp) _
  have sW : W.heap.size = w.heap.size + 2 := by rw [<- hW]; simp
  have zV : W.heap[w.heap.size]? = some (.cells #[.slice none 0 0, .slice none 0 0, .slice none 0 0, .slice none 0 0] 29 (0, 0)) := by rw [<- hW, Below.heap_alloc _ _ _ (by simp), heap_alloc_new]
  have zM : W.heap[w.heap.size + 1]? = some (.cells #[.int .i64 0, .int .i64 0] 52 (0, 0)) := by
    rw [<- hW]
    have := heap_alloc_new (w.alloc (.cells #[.slice none 0 0, .slice none 0 0, .slice none 0 0, .slice none 0 0] 29)) (.cells #[.int .i64 0, .int .i64 0] 52)
    rwa [World.size_alloc] at this
  have cV := program_c (Rb.below h bW)
  obtain ⟨A, hE⟩ : ∃ A, rprg b = A := ⟨_, rfl⟩
  rw [hE] at cV ⊢
  have HB : Hid (Gx R w W) := Gx.of bW
  have HV : Hid _ := zV
  have HM : Hid _ := zM
  clear bW zV zM h hE
  go_enter_defers func20, ntmps20
  go_wp2_with fail
  try rw [hW]
  refine cV.mono ?_
  rintro e W1 ⟨g1, hA⟩
  have hs1 := g1.size
  have v1 := (g1.block w.heap.size (by omega) (fun e => by have := Option.some.inj e; omega)).trans HV.out
  have m1 := (g1.block (w.heap.size + 1) (by omega) (fun e => by have := Option.some.inj e; omega)).trans HM.out
  have HG1 : Hid (Gx R w W1) := Gx.trans HB.out g1
  clear cV g1 HV HM HB hW
  cases A with
  | error q =>
    obtain rfl := hA
    refine leaves_cons (f := 55) (args := #[.pointer (some ⟨w.heap.size + 1, 0, none⟩)]) (by simp) (by simp [go_sem]) ?_
    refine (YCa.fault_p (w.heap.size + 1) 2100 (q : Nat) [] W1 _ _ m1).mono ?_
    rintro e u' w5 ⟨rfl, rfl, r2, r3⟩
    have b5 := r3 (w.heap.size + 1) (Nat.le_refl _)
    have v5 := (b5.block w.heap.size (by omega)).trans v1
    have q0 := cell_of r2 0 _ rfl
    have q1 := cell_of r2 1 _ rfl
    have c0 := cell_of v5 0 _ rfl
    have c1 := cell_of v5 1 _ rfl
    have c2 := cell_of v5 2 _ rfl
    have c3 := cell_of v5 3 _ rfl
    have HD : Hid (Gx R w w5) := ⟨b5.os.trans HG1.out.os, b5.tape.trans HG1.out.tape, b5.output.trans HG1.out.output, Nat.le_trans HG1.out.size b5.size, fun k hk hne => (b5.block k (by omega)).trans (HG1.out.block k hk hne)⟩
    simp [Leaves, settle, results, results20, go_sem, q0, q1, c0, c1, c2, c3]
    exact ⟨HD.out, rfl⟩
  | ok t =>
    obtain ⟨x, q⟩ := t
    obtain ⟨v, rfl, hv⟩ := hA
    have hv0 := hv
    obtain ⟨a, n1, c1, b1, n2, c2, c, n3, c3, d, n4, c4, rfl, -⟩ := hv0
    have z0 := cell_of v1 0 _ rfl
    have z1 := cell_of v1 1 _ rfl
    have z2 := cell_of v1 2 _ rfl
    have z3 := cell_of v1 3 _ rfl
    have f0 := TBase.frozen_box v1 0
    have f1 := TBase.frozen_box v1 1
    have f2 := TBase.frozen_box v1 2
    have f3 := TBase.frozen_box v1 3
    obtain ⟨W2, hW2⟩ : ∃ W, (((W1.setCell ⟨w.heap.size, 0, none⟩ (.slice a n1 c1)).setCell ⟨w.heap.size, 1, none⟩ (.slice b1 n2 c2)).setCell ⟨w.heap.size, 2, none⟩ (.slice c n3 c3)).setCell ⟨w.heap.size, 3, none⟩ (.slice d n4 c4) = W := ⟨_, rfl⟩
    obtain ⟨v2, g2⟩ := YRg.set4 _ _ _ _ v1 hW2
    have m2 := (g2.block (w.heap.size + 1) (by omega) (fun e => by have := Option.some.inj e; omega)).trans m1
    have e0 := cell_of m2 0 _ rfl
    have e1 := cell_of m2 1 _ rfl
    have ef0 := TBase.frozen_box m2 0
    have ef1 := TBase.frozen_box m2 1
    obtain ⟨W3, hW3⟩ : ∃ W, (W2.setCell ⟨w.heap.size + 1, 0, none⟩ (.int .i64 0)).setCell ⟨w.heap.size + 1, 1, none⟩ (.int .i64 0) = W := ⟨_, rfl⟩
    obtain ⟨m3, g3⟩ := YRg.set2 _ _ m2 hW3
    have v3 := (g3.block w.heap.size (by have := g2.size; omega) (fun e => by have := Option.some.inj e; omega)).trans v2
    have HG3 : Hid (Gx R w W3) := gx_row (gx_row HG1.out g2 (fun r hr => by cases hr; exact Nat.le_refl _)) g3 (fun r hr => by cases hr; omega)
    have HH : Hid (HvP (fun g => W.heap.size <= g /\ g < W1.heap.size) W3 (.agg #[.slice a n1 c1, .slice b1 n2 c2, .slice c n3 c3, .slice d n4 c4]) x) := HvP.keep (fun g hg hl => (g3.block g (by have := g2.size; omega) (fun e => by have := Option.some.inj e; omega)).trans (g2.block g hl (fun e => by have := Option.some.inj e; omega))) (fun g h => h) hv
    have l3 : W1.heap.size <= W3.heap.size := Nat.le_trans g2.size g3.size
    have M3 : Hid _ := m3
    have V3 : Hid _ := v3
    clear hv v1 m1 v2 m2 m3 v3 g2 g3
    go_wp2_with fail
    try rw [hW2]
    try rw [hW3]
    refine leaves_cons (f := 55) (args := #[.pointer (some ⟨w.heap.size + 1, 0, none⟩)]) (by simp) (by simp [go_sem]) ?_
    refine (YCa.idle_p ⟨w.heap.size + 1, 0, none⟩ W3).mono ?_
    rintro e u' w5 ⟨rfl, rfl, b5⟩
    have m5 := (b5.block (w.heap.size + 1) (by omega)).trans M3.out
    have v5 := (b5.block w.heap.size (by omega)).trans V3.out
    have y0 := cell_of m5 0 _ rfl
    have y1 := cell_of m5 1 _ rfl
    have u0 := cell_of v5 0 _ rfl
    have u1 := cell_of v5 1 _ rfl
    have u2 := cell_of v5 2 _ rfl
    have u3 := cell_of v5 3 _ rfl
    have HG5 : Hid (Gx R w w5) := Gx.trans HG3.out (Gx.of b5)
    have l5 := b5.size
    have HH5 : Hid (HvP (fun g => w.heap.size <= g /\ g < w5.heap.size) w5 (.agg #[.slice a n1 c1, .slice b1 n2 c2, .slice c n3 c3, .slice d n4 c4]) x) := HvP.keep (fun g hg hl => b5.block g hl) (fun g hg => by constructor <;> omega) HH.out
    simp [Leaves, settle, results, results20, go_sem, y0, y1, u0, u1, u2, u3]
    exact ⟨HG5.out, _, rfl, HH5.out⟩
end Go.Proofs.YtaiackmmmlhgbaaGreat.YDe
namespace Go.Proofs.YtaiackmmmlhgbaaGreat.YDf
open Go.RowKit YPl YWr YRr YRs YRb YRp YDe
open TBase (T Keep)
def DA (a : Except (Nat × Nat) Pg) (w : World) (e : Ending) (w' : World) : Prop := Below w.heap.size w w' /\ match a with
  | .ok x => ∃ v, e = .returned (.tuple #[v, .int .i64 0, .int .i64 0]) /\ HvP (fun g => w.heap.size <= g /\ g < w'.heap.size) w' v x
  | .error (p, c) => e = .returned (.tuple #[p0, .int .i64 (p : Nat), .int .i64 (c : Nat)])
theorem box3 (w : World) (a b c x y z : Value) (t : TypeId) : (((w.alloc (.cells #[a, b, c] t)).setCell ⟨w.heap.size, 0, none⟩ x).setCell ⟨w.heap.size, 1, none⟩ y).setCell ⟨w.heap.size, 2, none⟩ z = w.alloc (.cells #[x, y, z] t) := by
  simp only [World.setCell, World.alloc]
  congr 1
  apply Array.ext_getElem?
  intro i
  by_cases h : i = w.heap.size
  · subst h
    simp only [Array.getElem?_modify, Array.getElem?_push_size, if_true, Option.map_some]
    rfl
  · simp only [Array.getElem?_modify, if_neg (Ne.symm h), Array.getElem?_push, if_neg h]
theorem decode_gen {w W1 : World} {ia : Option Addr} {n cap : Nat} (Q : World -> Value -> Int -> Int -> Prop) (hn : ¬ (1048576 : Int) < (n : Int))
    (hW1 : (w.alloc (.cells #[.slice none 0 0, .slice none 0 0, .slice none 0 0, .slice none 0 0] 29)).alloc (.cells #[.slice ia n cap, .int .i64 0, .int .i64 0] 50) = W1)
    (cC : Calls prog 20 #[.func (.func 21) #[ptw (w.heap.size + 1)] #[]] W1 fun e w' => Gx (w.heap.size + 1) W1 w' /\ ∃ (a1 a2 a3 a4 : Option Addr) (n1 n2 n3 n4 d1 d2 d3 d4 : Nat) (c p : Int), Q w' (.agg #[.slice a1 n1 d1, .slice a2 n2 d2, .slice a3 n3 d3, .slice a4 n4 d4]) c p /\ e = .returned (.tuple #[.agg #[.slice a1 n1 d1, .slice a2 n2 d2, .slice a3 n3 d3, .slice a4 n4 d4], .agg #[.int .i64 c, .int .i64 p]])) :
    Calls prog 6 #[.slice ia n cap] w fun e w' => ∃ v c p, e = .returned (.tuple #[v, .int .i64 p, .int .i64 c]) /\ Below w.heap.size w w' /\ ∃ W2, Q W2 v c p /\ W2.heap.size <= w'.heap.size /\ ∀ g, w.heap.size < g -> g < W2.heap.size -> w'.heap[g]? = W2.heap[g]? := by
  have hmf : ∀ (fn : Fn) (first cap : Array Value) (w : World), (Instr.makeFunc fn first cap).run prog w = .ok (.func fn first cap) w := fun _ _ _ _ => rfl
  have b1 : Below w.heap.size w W1 := by rw [<- hW1]; exact ((Below.refl _ w).alloc (Nat.le_refl _) _).alloc (by simp) _
  have s1 : W1.heap.size = w.heap.size + 2 := by rw [<- hW1]; simp
  have q0 : W1.heap[w.heap.size]? = some (.cells #[.slice none 0 0, .slice none 0 0, .slice none 0 0, .slice none 0 0] 29 (0, 0)) := by rw [<- hW1, Below.heap_alloc _ _ _ (by simp), heap_alloc_new]
  have HB1 : Hid _ := b1
  have HQ0 : Hid _ := q0
  clear b1 q0
  obtain ⟨W0, hW0⟩ : ∃ W, w.alloc (.cells #[.slice none 0 0, .slice none 0 0, .slice none 0 0, .slice none 0 0] 29) = W := ⟨_, rfl⟩
  have s0 : W0.heap.size = w.heap.size + 1 := by rw [<- hW0]; simp
  obtain ⟨Wz, hWz⟩ : ∃ W, W0.alloc (.cells #[.slice none 0 0, .int .i64 0, .int .i64 0] 50) = W := ⟨_, rfl⟩
  have nz : Wz.heap[w.heap.size + 1]? = some (.cells #[.slice none 0 0, .int .i64 0, .int .i64 0] 50 (0, 0)) := by rw [<- s0, <- hWz]; exact heap_alloc_new W0 _
  have hWs : ((Wz.setCell ⟨w.heap.size + 1, 0, none⟩ (.slice ia n cap)).setCell ⟨w.heap.size + 1, 1, none⟩ (.int .i64 0)).setCell ⟨w.heap.size + 1, 2, none⟩ (.int .i64 0) = W1 := by rw [<- hWz, <- s0, <- hW1, hW0]; exact box3 _ _ _ _ _ _ _ _
  have r0 := cell_of nz 0 _ rfl
  have r1 := cell_of nz 1 _ rfl
  have r2 := cell_of nz 2 _ rfl
  have rf0 := TBase.frozen_box nz 0
  have rf1 := TBase.frozen_box nz 1
  have rf2 := TBase.frozen_box nz 2
  clear nz hW1
  go_enter func6, ntmps6
  go_wp2_with fail
  try rw [hW0]
  try rw [hWs]
  refine cC.mono ?_
  rintro e W2 ⟨g2, a1, a2, a3, a4, n1, n2, n3, n4, d1, d2, d3, d4, c, p, hq, rfl⟩
  have l2 := g2.size
  obtain ⟨W5, hW5⟩ : ∃ W, (W2.alloc (.cells #[.slice a1 n1 d1, .slice a2 n2 d2, .slice a3 n3 d3, .slice a4 n4 d4] 29)).alloc (.cells #[.int .i64 c, .int .i64 p] 52) = W := ⟨_, rfl⟩
  have b5 : Below W2.heap.size W2 W5 := by rw [<- hW5]; exact ((Below.refl _ W2).alloc (Nat.le_refl _) _).alloc (by simp) _
  have s5 : W5.heap.size = W2.heap.size + 2 := by rw [<- hW5]; simp
  have u5 : W5.heap[W2.heap.size]? = some (.cells #[.slice a1 n1 d1, .slice a2 n2 d2, .slice a3 n3 d3, .slice a4 n4 d4] 29 (0, 0)) := by rw [<- hW5, Below.heap_alloc _ _ _ (by simp), heap_alloc_new]
  have m5 : W5.heap[W2.heap.size + 1]? = some (.cells #[.int .i64 c, .int .i64 p] 52 (0, 0)) := by
    rw [<- hW5]
    have := heap_alloc_new (W2.alloc (.cells #[.slice a1 n1 d1, .slice a2 n2 d2, .slice a3 n3 d3, .slice a4 n4 d4] 29)) (.cells #[.int .i64 c, .int .i64 p] 52)
    rwa [World.size_alloc] at this
  have v5 := (b5.block w.heap.size (by omega)).trans ((g2.block w.heap.size (by omega) (fun e => by have := Option.some.inj e; omega)).trans HQ0.out)
  have d0 := cell_of v5 0 _ rfl
  have d1' := cell_of v5 1 _ rfl
  have d2' := cell_of v5 2 _ rfl
  have d3' := cell_of v5 3 _ rfl
  have e0 := cell_of u5 0 _ rfl
  have e1 := cell_of u5 1 _ rfl
  have e2 := cell_of u5 2 _ rfl
  have e3 := cell_of u5 3 _ rfl
  have m0 := cell_of m5 0 _ rfl
  have m1 := cell_of m5 1 _ rfl
  have f0 := TBase.frozen_box v5 0
  have f1 := TBase.frozen_box v5 1
  have f2 := TBase.frozen_box v5 2
  have f3 := TBase.frozen_box v5 3
  have n1' : w.heap.size ≠ W2.heap.size := by omega
  have n2' : W2.heap.size ≠ w.heap.size := by omega
  have n3' : w.heap.size ≠ W2.heap.size + 1 := by omega
  have n4' : W2.heap.size + 1 ≠ w.heap.size := by omega
  have HV5 : Hid _ := v5
  have HB5 : Hid (Below W2.heap.size W2 W5) := b5
  have HQ : Hid _ := hq
  have HG2 : Hid (Gx (w.heap.size + 1) W1 W2) := g2
  clear cC g2 hq v5 u5 m5 b5 hW0 hWz hWs r0 r1 r2 rf0 rf1 rf2 s0
  go_wp2_with fail
  try rw [hW5]
  clear hW5
  go_region
  obtain ⟨W6, hW6⟩ : ∃ W6, ((((W5.setCell ⟨w.heap.size, 0, none⟩ (.slice a1 n1 d1)).setCell ⟨w.heap.size, 1, none⟩ (.slice a2 n2 d2)).setCell ⟨w.heap.size, 2, none⟩ (.slice a3 n3 d3)).setCell ⟨w.heap.size, 3, none⟩ (.slice a4 n4 d4)) = W6 := ⟨_, rfl⟩
  rw [hW6]
  obtain ⟨q1, g6⟩ := YRg.set4 _ _ _ _ HV5.out hW6
  go_wp2_with fail
  have v6 : W6.drew.heap[w.heap.size]? = _ := q1
  have p0 := cell_of v6 0 _ rfl
  have p1 := cell_of v6 1 _ rfl
  have p2 := cell_of v6 2 _ rfl
  have p3 := cell_of v6 3 _ rfl
  refine bodyPost_ret (v := .tuple #[.agg #[.slice a1 n1 d1, .slice a2 n2 d2, .slice a3 n3 d3, .slice a4 n4 d4], .int .i64 p, .int .i64 c]) (by simp [results, results6, go_sem, p0, p1, p2, p3]) rfl ?_
  have l6 := g6.size
  refine ⟨_, _, _, rfl, ?_, W2, HQ.out, by show _ <= W6.heap.size; omega, fun g h1 h2 => ?_⟩
  · have k1 : Below w.heap.size W1 W2 := HG2.out.below (by omega) (by omega)
    have k2 : Below w.heap.size W5 W6 := ⟨g6.os, g6.tape, g6.output, g6.size, fun k hk => g6.block k (by omega) (fun e => by have := Option.some.inj e; omega)⟩
    exact (((HB1.out.trans k1).trans (HB5.out.mono (by omega))).trans k2).drew
  · show W6.heap[g]? = _
    exact (g6.block g (by omega) (fun e => by have := Option.some.inj e; omega)).trans (HB5.out.block g h2)
end Go.Proofs.YtaiackmmmlhgbaaGreat.YDf
namespace Go.Proofs.YtaiackmmmlhgbaaGreat.YDc
open Go.RowKit Leb YPl YRd YRr YRb YRp YDe YDf
open TBase (T Keep)
theorem decode_long {w : World} {ia : Option Addr} {n cap : Nat} (hn : (1048576 : Int) < (n : Int)) :
    Calls prog 6 #[.slice ia n cap] w fun e w' => e = .returned (.tuple #[p0, .int .i64 0, .int .i64 2101]) /\ Below w.heap.size w w' := by
  obtain ⟨W0, hW0⟩ : ∃ W, w.alloc (.cells #[.slice none 0 0, .slice none 0 0, .slice none 0 0, .slice none 0 0] 29) = W := ⟨_, rfl⟩
  have b0 : Below w.heap.size w W0 := by rw [<- hW0]; exact (Below.refl _ w).alloc (Nat.le_refl _) _
  have g0 : W0.heap[w.heap.size]? = some (.cells #[.slice none 0 0, .slice none 0 0, .slice none 0 0, .slice none 0 0] 29 (0, 0)) := by rw [<- hW0]; exact heap_alloc_new w _
  have z0 := cell_of g0 0 _ rfl
  have z1 := cell_of g0 1 _ rfl
  have z2 := cell_of g0 2 _ rfl
  have z3 := cell_of g0 3 _ rfl
  have f0 := TBase.frozen_box g0 0
  have f1 := TBase.frozen_box g0 1
  have f2 := TBase.frozen_box g0 2
  have f3 := TBase.frozen_box g0 3
  obtain ⟨W6, hW6⟩ : ∃ W6, ((((W0.setCell ⟨w.heap.size, 0, none⟩ (.slice none 0 0)).setCell ⟨w.heap.size, 1, none⟩ (.slice none 0 0)).setCell ⟨w.heap.size, 2, none⟩ (.slice none 0 0)).setCell ⟨w.heap.size, 3, none⟩ (.slice none 0 0)) = W6 := ⟨_, rfl⟩
  obtain ⟨q1, g6⟩ := YRg.set4 _ _ _ _ g0 hW6
  have p0 := cell_of q1 0 _ rfl
  have p1 := cell_of q1 1 _ rfl
  have p2 := cell_of q1 2 _ rfl
  have p3 := cell_of q1 3 _ rfl
  have HB : Hid (Below w.heap.size w W6) := b0.trans ⟨g6.os, g6.tape, g6.output, g6.size, fun k hk => g6.block k (by have := b0.size; omega) (fun e => by have := Option.some.inj e; omega)⟩
  clear b0 g0 q1 g6
  go_enter func6, ntmps6
  go_wp2_with fail
  try rw [hW0]
  try rw [hW6]
  refine bodyPost_ret (v := .tuple #[YDe.p0, .int .i64 0, .int .i64 2101]) (by simp [results, results6, go_sem, p0, p1, p2, p3]) rfl ?_
  exact ⟨rfl, HB.out⟩
theorem decode_c {w : World} {ia : Option Addr} {n cap : Nat} {b : By} (hS : Seen w (.slice ia n cap) b) (hl : ∀ g, ia = some g -> g.block < w.heap.size) :
    Calls prog 6 #[.slice ia n cap] w fun e w' => DA (dec b) w e w' := by
  have hnb : n = b.length := by obtain ⟨a, c, e, -⟩ := hS; cases e; rfl
  by_cases hn : 1048576 < b.length
  · refine (decode_long (ia := ia) (n := n) (cap := cap) (w := w) (by omega)).mono ?_
    rintro e w' ⟨rfl, hb⟩
    rw [show dec b = .error (0, 2101) by unfold dec; rw [if_pos hn]]
    exact ⟨hb, rfl⟩
  obtain ⟨W1, hW1⟩ : ∃ W, (w.alloc (.cells #[.slice none 0 0, .slice none 0 0, .slice none 0 0, .slice none 0 0] 29)).alloc (.cells #[.slice ia n cap, .int .i64 0, .int .i64 0] 50) = W := ⟨_, rfl⟩
  have b1 : Below w.heap.size w W1 := by rw [<- hW1]; exact ((Below.refl _ w).alloc (Nat.le_refl _) _).alloc (by simp) _
  have s1 : W1.heap.size = w.heap.size + 2 := by rw [<- hW1]; simp
  have q1 : W1.heap[w.heap.size + 1]? = some (.cells #[.slice ia n cap, .int .i64 0, .int .i64 0] 50 (0, 0)) := by
    rw [<- hW1]
    have := heap_alloc_new (w.alloc (.cells #[.slice none 0 0, .slice none 0 0, .slice none 0 0, .slice none 0 0] 29)) (.cells #[.slice ia n cap, .int .i64 0, .int .i64 0] 50)
    rwa [World.size_alloc] at this
  have hR : Rb w.heap.size W1 (w.heap.size + 1) b 0 0 := ⟨by omega, by omega, by omega, by omega, by omega, ia, n, cap, q1, seen_low hS hl b1, hl⟩
  have cC := caught_c hR
  obtain ⟨A, hA⟩ : ∃ A, rprg b = A := ⟨_, rfl⟩
  rw [hA] at cC
  cases A with
  | error q =>
    rw [show dec b = .error (q, 2100) by unfold dec; rw [if_neg hn, hA]]
    refine (decode_gen (fun _ v c p => v = p0 /\ c = 2100 /\ p = (q : Nat)) (by omega) hW1 (cC.mono ?_)).mono ?_
    · rintro e w' ⟨g, he⟩
      exact ⟨g, none, none, none, none, 0, 0, 0, 0, 0, 0, 0, 0, _, _, ⟨rfl, rfl, rfl⟩, he⟩
    · rintro e w' ⟨v, c, p, rfl, hb, W2, ⟨rfl, rfl, rfl⟩, -⟩
      exact ⟨hb, rfl⟩
  | ok t =>
    obtain ⟨x, q⟩ := t
    rw [show dec b = .ok x by unfold dec; rw [if_neg hn, hA]]
    refine (decode_gen (fun W v c p => c = 0 /\ p = 0 /\ HvP (fun g => W1.heap.size <= g /\ g < W.heap.size) W v x) (by omega) hW1 (cC.mono ?_)).mono ?_
    · rintro e w' ⟨g, v, rfl, hv⟩
      have hv0 := hv
      obtain ⟨a, n1, c1, b1, n2, c2, c, n3, c3, d, n4, c4, rfl, -⟩ := hv0
      exact ⟨g, a, b1, c, d, n1, n2, n3, n4, c1, c2, c3, c4, 0, 0, ⟨rfl, rfl, hv⟩, rfl⟩
    · rintro e w' ⟨v, c, p, rfl, hb, W2, ⟨rfl, rfl, hv⟩, hs, hk⟩
      exact ⟨hb, v, rfl, HvP.keep (fun g hg hl => hk g (by omega) hl) (fun g hg => by constructor <;> omega) hv⟩
end Go.Proofs.YtaiackmmmlhgbaaGreat.YDc
namespace Go.Proofs.YtaiackmmmlhgbaaGreat.YEd
open Go.RowKit Leb YPl YWr YRr YEn
def EA (a : Except Nat By) (w : World) (e : Ending) (w' : World) : Prop := Below w.heap.size w w' /\ match a with
  | .ok X => ∃ p n c, e = .returned (.tuple #[.slice p n c, .int .i64 0]) /\ Own w' w.heap.size (.slice p n c) X
  | .error q => e = .returned (.tuple #[.slice none 0 0, .int .i64 (q : Nat)])
theorem encode_c {K m : Nat} {w : World} {v : Value} (x : Pg) (hI : InPg K m w v x) (hK : K <= w.heap.size) :
    Calls prog 38 #[v] w fun e w' => EA (enc x) w e w' := by
  have hmf : ∀ (fn : Fn) (first cap : Array Value) (w : World), (Instr.makeFunc fn first cap).run prog w = .ok (.func fn first cap) w := fun _ _ _ _ => rfl
  have hI0 := hI
  obtain ⟨a, n1, c1, b, n2, c2, c, n3, c3, d, n4, c4, rfl, -⟩ := hI0
  obtain ⟨W0, hW0⟩ : ∃ W, w.alloc (.cells #[.slice a n1 c1, .slice b n2 c2, .slice c n3 c3, .slice d n4 c4] 29) = W := ⟨_, rfl⟩
  have b0 : Below w.heap.size w W0 := by rw [<- hW0]; exact (Below.refl _ w).alloc (Nat.le_refl _) _
  have s0 : w.heap.size < W0.heap.size := by rw [<- hW0]; simp
  have g0 : W0.heap[w.heap.size]? = some (.cells #[.slice a n1 c1, .slice b n2 c2, .slice c n3 c3, .slice d n4 c4] 29 (0, 0)) := by rw [<- hW0]; exact heap_alloc_new w _
  have cC := caught_c (X := w.heap.size) (w := W0) (a := enc x) fun W hb => clos_c ((hb.block _ s0).trans g0) ((hI.below (b0.mono hK)).below (hb.mono (by have := b0.size; omega))) (by have := b0.size; have := hb.size; omega)
  have HB0 : Hid _ := b0
  clear hI b0 g0
  go_enter func38, ntmps38
  go_wp2_with fail
  try rw [hW0]
  refine cC.mono ?_
  rintro e W1 ⟨b1, hA⟩
  have HB1 : Hid (Below w.heap.size w W1) := HB0.out.trans (b1.mono HB0.out.size)
  have HS1 : Hid (w.heap.size <= W0.heap.size) := Nat.le_of_lt s0
  clear cC b1 hW0
  cases hE : enc x with
  | error q =>
    rw [hE] at hA
    obtain rfl := hA
    go_wp2_with fail
    go_region
    go_wp2_with fail
    go_ret2
    rw [hE]
    exact ⟨(HB1.out.alloc HB1.out.size _).drew, rfl⟩
  | ok Y =>
    rw [hE] at hA
    obtain ⟨p, n, c, rfl, ho⟩ := hA
    have HO : Hid _ := ho
    clear ho
    go_wp2_with fail
    go_region
    go_wp2_with fail
    go_ret2
    rw [hE]
    exact ⟨(HB1.out.alloc HB1.out.size _).drew, _, _, _, rfl, YWr.own_below (YWr.own_low HO.out HS1.out) ((Below.refl _ _).alloc (Nat.le_refl _) _).drew⟩
end Go.Proofs.YtaiackmmmlhgbaaGreat.YEd
namespace Go.Proofs.YtaiackmmmlhgbaaGreat.YAw
open Go.RowKit Leb YPl YWr YRr YDe YAk
theorem inpg0 (w : World) : YEn.InPg 0 0 w p0 ⟨[], [], [], []⟩ :=
  ⟨_, _, _, _, _, _, _, _, _, _, _, _, rfl, ⟨none, 0, rfl, by simp, by omega, by simp, fun _ => rfl, .inl rfl⟩, ⟨none, 0, rfl, by simp, by omega, by simp, fun _ => rfl, .inl rfl⟩, ⟨none, 0, rfl, by simp, by omega, by simp, fun _ => rfl, .inl ⟨rfl, rfl⟩⟩, ⟨none, 0, rfl, by simp, by omega, by simp, fun _ => rfl, .inl rfl⟩⟩
theorem own_lit (w : World) (L : By) (hl : L.length <= 4096) : Own (w.alloc (.cells (cellsL L).toArray 5)) w.heap.size (.slice (some ⟨w.heap.size, 0, none⟩) L.length L.length) L :=
  ⟨by simp [cellsL_length], .inr ⟨w.heap.size, L.length, (cellsL L).toArray, rfl, Nat.le_refl _, heap_alloc_new w _, Nat.le_refl _, by unfold maxLen; omega, by simp [cellsL_length], by simpa [cellsL_length] using List.take_of_length_le (by rw [cellsL_length]; omega)⟩⟩
theorem texts_a {w : World} {g o g2 cap cap2 : Nat} (h1 : w.cell? ⟨g, o, none⟩ = some (.string ⟨#[97]⟩)) (h2 : w.cell? ⟨g2, 0, none⟩ = some (.string ⟨#[97]⟩)) (hc : 1 <= cap) :
    Calls prog 29 #[.slice (some ⟨g, o, none⟩) 1 cap, .slice (some ⟨g2, 0, none⟩) 1 cap2] w fun e w' => e = .returned (.bool true) /\ Below w.heap.size w w' := by
  go_enter func29, ntmps29
  go_wp2_with fail
  go_loopw [5] (fun i wr => (i = .int .i64 0 /\ wr = w) \/ (i = .int .i64 1 /\ ∃ k, wr = w.drewN k)) (fun i _ => 1 - (intOf i).toNat)
  case atStart => exact .inl ⟨rfl, rfl⟩
  case round =>
    rcases hrel with ⟨rfl, rfl⟩ | ⟨rfl, k, rfl⟩
    · go_wp2_with fail
      go_quiet (fail)
      go_wp2_with fail
      go_roundw
      case rel => exact .inr ⟨rfl, _, rfl⟩
      case measure => decide
    · go_wp2_with fail
      go_ret
      exact ⟨rfl, TAttrs.drewN_below (Below.refl _ _) _⟩
theorem below_own {w w' : World} {B : Nat} {v : Value} {L : By} (h : Own w B v L) (hb : Below w.heap.size w w') : Own w' B v L := YWr.own_below h hb
theorem awake_c (w : World) : Calls prog 12 #[] w fun e w' => e = .returned (.bool true) /\ Below w.heap.size w w' := by
  have cE := YEd.encode_c (w := w) ⟨[], [], [], []⟩ (inpg0 w) (Nat.zero_le _)
  rw [enc_0] at cE
  have cN : ∀ (x : Int) (W : World), Calls prog 8 #[.int .i64 x] W fun e w' => e = .returned (.int .i64 x) /\ w' = W := fun x W => num_c x W
  go_enter func12, ntmps12
  go_wp2_with fail
  refine cE.mono ?_
  rintro e W1 ⟨b1, pa, pn, pc, rfl, ho⟩
  have HO : Hid (Own W1 w.heap.size (.slice pa pn pc) [1, 0, 0, 0, 0]) := ho
  have HB1 : Hid (Below w.heap.size w W1) := b1
  clear cE ho b1
  obtain ⟨W2, hW2⟩ : ∃ W, W1.alloc (.cells #[.int .u8 1, .int .u8 0, .int .u8 0, .int .u8 0] 5) = W := ⟨_, rfl⟩
  have b2 : Below W1.heap.size W1 W2 := by rw [<- hW2]; exact (Below.refl _ W1).alloc (Nat.le_refl _) _
  have s2 : W1.heap.size < W2.heap.size := by rw [<- hW2]; simp
  have o2 : Own W2 W1.heap.size (.slice (some ⟨W1.heap.size, 0, none⟩) 4 4) [1, 0, 0, 0] := by rw [<- hW2]; exact own_lit W1 [1, 0, 0, 0] (by simp)
  have cD := YDc.decode_c o2.seen (fun g hg => by cases hg; exact s2)
  rw [dec_4] at cD
  have HB2 : Hid (Below W1.heap.size W1 W2) := b2
  clear b2 o2
  go_wp2_with fail
  try rw [hW2]
  refine cD.mono ?_
  rintro e W3 ⟨b3, rfl⟩
  have HB3 : Hid (Below w.heap.size w W3 /\ Below W1.heap.size W1 W3) := ⟨HB1.out.trans ((HB2.out.trans (b3.mono HB2.out.size)).mono HB1.out.size), HB2.out.trans (b3.mono HB2.out.size)⟩
  clear cD b3 hW2
  obtain ⟨W4, hW4⟩ : ∃ W, W3.alloc (.cells #[.slice none 0 0, .slice none 0 0, .slice none 0 0, .slice none 0 0] 29) = W := ⟨_, rfl⟩
  have n4 : W4.heap[W3.heap.size]? = some (.cells #[.slice none 0 0, .slice none 0 0, .slice none 0 0, .slice none 0 0] 29 (0, 0)) := by rw [<- hW4]; exact heap_alloc_new W3 _
  have hWs : (((W4.setCell ⟨W3.heap.size, 0, none⟩ (.slice none 0 0)).setCell ⟨W3.heap.size, 1, none⟩ (.slice none 0 0)).setCell ⟨W3.heap.size, 2, none⟩ (.slice none 0 0)).setCell ⟨W3.heap.size, 3, none⟩ (.slice none 0 0) = W4 := by rw [<- hW4]; exact TPure.box4 _ _ _ _ _ _ _ _ _ _
  have b4 : Below W3.heap.size W3 W4 := by rw [<- hW4]; exact (Below.refl _ W3).alloc (Nat.le_refl _) _
  have a0 := cell_of n4 0 _ rfl
  have a1 := cell_of n4 1 _ rfl
  have a2 := cell_of n4 2 _ rfl
  have a3 := cell_of n4 3 _ rfl
  have f0 := TBase.frozen_box n4 0
  have f1 := TBase.frozen_box n4 1
  have f2 := TBase.frozen_box n4 2
  have f3 := TBase.frozen_box n4 3
  obtain ⟨W5, hW5⟩ : ∃ W, W4.alloc (.cells #[.int .u8 1, .int .u8 1, .int .u8 1, .int .u8 97, .int .u8 0, .int .u8 0, .int .u8 0] 5) = W := ⟨_, rfl⟩
  have b5 : Below W4.heap.size W4 W5 := by rw [<- hW5]; exact (Below.refl _ W4).alloc (Nat.le_refl _) _
  have s4 : W4.heap.size = W3.heap.size + 1 := by rw [<- hW4]; simp
  have s5 : W4.heap.size < W5.heap.size := by rw [<- hW5]; simp
  have o5 : Own W5 W4.heap.size (.slice (some ⟨W4.heap.size, 0, none⟩) 7 7) ba := by rw [<- hW5]; exact own_lit W4 ba (by simp)
  have cD2 := YDc.decode_c o5.seen (fun g hg => by cases hg; exact s5)
  rw [dec_a, s4] at cD2
  have HB5 : Hid (Below W3.heap.size W3 W5) := b4.trans (b5.mono b4.size)
  clear b4 b5 o5 n4 s5
  go_wp2_with fail
  try rw [hWs]
  try rw [hW5]
  refine cD2.mono ?_
  rintro e W6 ⟨b6, v, rfl, hv⟩
  obtain ⟨t0, tn, tc, x0, xn, xc, y0, yn, yc, z0, zn, zc, rfl, hT, -⟩ := hv
  obtain ⟨ta, cap, hte, hc1, -, -, -, hrow⟩ := hT
  cases hte
  rcases hrow with h0 | ⟨g, o, rfl, -, hcell⟩
  · cases h0
  have hcl : W6.cell? ⟨g, o, none⟩ = some (.string ⟨#[97]⟩) := (hcell 0 (by simp)).1
  have HB6 : Hid (Below w.heap.size w W6 /\ Below W1.heap.size W1 W6) := by
    have k := HB5.out.trans (b6.mono HB5.out.size)
    have l3 := HB3.out.1.size
    have l31 := HB3.out.2.size
    exact ⟨HB3.out.1.trans (k.mono l3), HB3.out.2.trans (k.mono l31)⟩
  clear cD2 b6 hcell hW5 hWs hW4 a0 a1 a2 a3 f0 f1 f2 f3
  obtain ⟨Wz, hWz⟩ : ∃ W, W6.alloc (.cells #[.slice none 0 0, .slice none 0 0, .slice none 0 0, .slice none 0 0] 29) = W := ⟨_, rfl⟩
  obtain ⟨W7, hW7⟩ : ∃ W, W6.alloc (.cells #[.slice (some ⟨g, o, none⟩) 1 tc, .slice x0 xn xc, .slice y0 yn yc, .slice z0 zn zc] 29) = W := ⟨_, rfl⟩
  have nz : Wz.heap[W6.heap.size]? = some (.cells #[.slice none 0 0, .slice none 0 0, .slice none 0 0, .slice none 0 0] 29 (0, 0)) := by rw [<- hWz]; exact heap_alloc_new W6 _
  have hWs : (((Wz.setCell ⟨W6.heap.size, 0, none⟩ (.slice (some ⟨g, o, none⟩) 1 tc)).setCell ⟨W6.heap.size, 1, none⟩ (.slice x0 xn xc)).setCell ⟨W6.heap.size, 2, none⟩ (.slice y0 yn yc)).setCell ⟨W6.heap.size, 3, none⟩ (.slice z0 zn zc) = W7 := by rw [<- hWz, <- hW7]; exact TPure.box4 _ _ _ _ _ _ _ _ _ _
  have n7 : W7.heap[W6.heap.size]? = some (.cells #[.slice (some ⟨g, o, none⟩) 1 tc, .slice x0 xn xc, .slice y0 yn yc, .slice z0 zn zc] 29 (0, 0)) := by rw [<- hW7]; exact heap_alloc_new W6 _
  have b7 : Below W6.heap.size W6 W7 := by rw [<- hW7]; exact (Below.refl _ W6).alloc (Nat.le_refl _) _
  have s7 : W7.heap.size = W6.heap.size + 1 := by rw [<- hW7]; simp
  have a0 := cell_of nz 0 _ rfl
  have a1 := cell_of nz 1 _ rfl
  have a2 := cell_of nz 2 _ rfl
  have a3 := cell_of nz 3 _ rfl
  have f0 := TBase.frozen_box nz 0
  have f1 := TBase.frozen_box nz 1
  have f2 := TBase.frozen_box nz 2
  have f3 := TBase.frozen_box nz 3
  obtain ⟨W8, hW8⟩ : ∃ W, W7.alloc (.cells #[.int .u8 1, .int .u8 0, .int .u8 0, .int .u8 0, .int .u8 0] 5) = W := ⟨_, rfl⟩
  have b8 : Below W7.heap.size W7 W8 := by rw [<- hW8]; exact (Below.refl _ W7).alloc (Nat.le_refl _) _
  have s8 : W8.heap.size = W6.heap.size + 2 := by rw [<- hW8]; simp [s7]
  have o8 : Own W8 W7.heap.size (.slice (some ⟨W7.heap.size, 0, none⟩) 5 5) [1, 0, 0, 0, 0] := by rw [<- hW8]; exact own_lit W7 [1, 0, 0, 0, 0] (by simp)
  have b68 : Below W6.heap.size W6 W8 := b7.trans (b8.mono b7.size)
  have ob : Own W8 w.heap.size (.slice pa pn pc) [1, 0, 0, 0, 0] := below_own HO.out (HB6.out.2.trans (b68.mono HB6.out.2.size))
  have cS := same_c _ _ _ W8 ob.seen o8.seen
  rw [s7] at cS
  obtain ⟨W9, hW9⟩ : ∃ W, W8.alloc (.cells #[.string ⟨#[97]⟩] 9) = W := ⟨_, rfl⟩
  have b9 : Below W8.heap.size W8 W9 := by rw [<- hW9]; exact (Below.refl _ W8).alloc (Nat.le_refl _) _
  have n9 : W9.heap[W8.heap.size]? = some (.cells #[.string ⟨#[97]⟩] 9 (0, 0)) := by rw [<- hW9]; exact heap_alloc_new W8 _
  have k8 := cell_of ((b8.block W6.heap.size (by omega)).trans n7) 0 _ rfl
  have b69 : Below W6.heap.size W6 W9 := b68.trans (b9.mono b68.size)
  have cT := texts_a (w := W9) (g := g) (o := o) (g2 := W8.heap.size) (cap := tc) (cap2 := 1) (b69.cell (block_lt_of_cell hcl) |>.trans hcl) (cell_of n9 0 _ rfl) (by simpa using hc1)
  rw [s8] at cT
  have HB9 : Hid (Below w.heap.size w W9) := HB6.out.1.trans (b69.mono HB6.out.1.size)
  clear b7 b8 b9 b68 b69 nz n7 n9 o8 ob hW7 hcl hc1
  go_wp2_with fail
  try rw [hWs]
  refine (cN _ _).mono ?_
  rintro e w9 ⟨rfl, rfl⟩
  go_wp2_with fail
  try rw [hW8]
  refine cS.mono ?_
  rintro e w9 ⟨rfl, rfl⟩
  go_wp2_with fail
  refine (cN _ _).mono ?_
  rintro e w9 ⟨rfl, rfl⟩
  go_wp2_with fail
  refine (cN _ _).mono ?_
  rintro e w9 ⟨rfl, rfl⟩
  go_wp2_with fail
  try rw [hW9]
  refine cT.mono ?_
  rintro e WE ⟨rfl, bE⟩
  go_wp2_with fail
  go_ret
  exact ⟨rfl, HB9.out.trans (bE.mono HB9.out.size)⟩
end Go.Proofs.YtaiackmmmlhgbaaGreat.YAw

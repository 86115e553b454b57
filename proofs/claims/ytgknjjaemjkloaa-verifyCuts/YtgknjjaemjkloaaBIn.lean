/- What is around a block of an operation (package verify): inside. -/
import Derived.Deep.RegionHeld3
import Derived.Test.YtgknjjaemjkloaaBSt
namespace Go.Proofs.Ytgknjjaemjkloaa.Tak
open Go
theorem tkH {P : Program} {ops : Array Oper} {Q : Exit → Act → World → Prop} {md : Region.Mode} {S : World → Prop} (i : Nat) {oi : Oper} {v : Value} {fuel : Nat} {listed : Array Bool} {a : Act} {w : World} (hi : ops[i]? = some oi)
    (h : wpAnyH P md ops Q S fuel (listed.setIfInBounds i true) (a.put oi.dst v) w)
    (hs : Region.noSelect ops = true := by kernel_rfl) (hf : Region.free md ops listed i = true := by kernel_rfl) (hr : (Region.ready md ops listed).contains i = true := by kernel_rfl)
    (hQ : ∀ c a w, Q (.panic c) (a.put oi.dst v) w → Q (.panic c) a w := by exact fun _ _ _ h => h) (hw : Region.wanted oi (yielded ops a.tmps) = true := by rfl)
    (hv : ∀ w, S w → (execOp a.eval oi).run P w = .ok (.value v) w := by intro w hSw; (try dsimp only at hSw); go_simp; first | done | with_reducible rfl | (rw [if_neg (by omega)]))
    (hS : S w := by assumption) : wpAnyH P md ops Q S (fuel + 1) listed a w :=
  wpAnyH_take hi hs hf hr hQ (Or.inl ⟨hw, hv⟩) hS h
theorem rdH {P : Program} {ops : Array Oper} {Q : Exit → Act → World → Prop} {md : Region.Mode} {S : World → Prop} {fuel : Nat} {listed : Array Bool} {a : Act} {w : World} (rs : List Nat) (h : AllReadyH P md ops Q S fuel listed a w rs) (hr : Region.ready md ops listed = rs := by kernel_rfl) (hne : rs ≠ [] := by simp) : wpAnyH P md ops Q S (fuel + 1) listed a w := wpAnyH_ready hr hne h
theorem alH {P : Program} {ops : Array Oper} {Q : Exit → Act → World → Prop} {md : Region.Mode} {S : World → Prop} {fuel : Nat} {listed : Array Bool} {a : Act} {w : World} {i : Nat} {o : Oper} (ho : ops[i]? = some o)
    (h : ∀ K' : Act → World → Prop, Shut (∀ a w, S w → (S w → wpAnyH P md ops Q S fuel (listed.setIfInBounds i true) a w) → K' a w) → if Region.wanted o (yielded ops a.tmps) = true then Oper.wp P o a w K' Q else K' (a.put o.dst undef) w) : AllReadyH P md ops Q S fuel listed a w [i] := .cons ho h .nil
theorem dnH {P : Program} {ops : Array Oper} {Q : Exit → Act → World → Prop} {md : Region.Mode} {S : World → Prop} {fuel : Nat} {listed : Array Bool} {a : Act} {w : World} (h : Q .normal a w) (hr : Region.ready md ops listed = [] := by kernel_rfl) : wpAnyH P md ops Q S fuel listed a w := wpAnyH_done hr h fuel
/-- What is put is looked up again. -/
theorem ptH : (∀ (a : Act) (d : Tmp) (v : Value), a.put (some d) v = { a with tmps := a.tmps.setIfInBounds d v }) ∧ (∀ (a : Act) (v : Value), a.put none v = a) ∧
    (∀ (T : Type) (l : List T) (i : Nat) (h : i < l.toArray.size), l.toArray[i] = l[i]'(by simpa using h)) ∧
    (∀ (T : Type) (x : T) (l : List T) (h : 0 < (x :: l).length), (x :: l)[0] = x) ∧
    (∀ (T : Type) (x : T) (l : List T) (i : Nat) (h : i + 1 < (x :: l).length), (x :: l)[i + 1] = l[i]'(Nat.lt_of_succ_lt_succ h)) ∧
    (∀ (T : Type) (l : List T) (i : Nat) (x : T), l.toArray.setIfInBounds i x = (l.set i x).toArray) ∧
    (∀ (T : Type) (x y : T) (l : List T), (x :: l).set 0 y = y :: l) ∧ ∀ (T : Type) (x y : T) (l : List T) (i : Nat), (x :: l).set (i + 1) y = x :: l.set i y :=
  ⟨fun _ _ _ => rfl, fun _ _ => rfl, fun _ _ _ _ => by simp, fun _ _ _ _ => rfl, fun _ _ _ _ _ => rfl, fun _ _ _ _ => by simp, fun _ _ _ _ => rfl, fun _ _ _ _ _ => rfl⟩
theorem rh12 {P : Program} {ops : Array Oper} {Q : Exit → Act → World → Prop} {id : Nat} {a : Act} {w : World} (B C : Nat) (k1 : Int) (b1 : Bool) (i1 : Int) (s1 : ByteArray) (n1 l1 : Value) (k2 : Int) (b2 : Bool) (i2 : Int) (s2 : ByteArray) (n2 l2 : Value) (hm : P.follows .mixedOrders = true) (hS : (fun w' : World => (w'.cell? ⟨B, 0, none⟩ = some (.int .i64 k1) ∧ w'.cell? ⟨B, 1, none⟩ = some (.bool b1) ∧ w'.cell? ⟨B, 2, none⟩ = some (.int .i64 i1) ∧ w'.cell? ⟨B, 3, none⟩ = some (.string s1) ∧ w'.cell? ⟨B, 4, none⟩ = some (n1) ∧ w'.cell? ⟨B, 5, none⟩ = some (l1)) ∧ (w'.cell? ⟨C, 0, none⟩ = some (.int .i64 k2) ∧ w'.cell? ⟨C, 1, none⟩ = some (.bool b2) ∧ w'.cell? ⟨C, 2, none⟩ = some (.int .i64 i2) ∧ w'.cell? ⟨C, 3, none⟩ = some (.string s2) ∧ w'.cell? ⟨C, 4, none⟩ = some (n2) ∧ w'.cell? ⟨C, 5, none⟩ = some (l2))) w.drew)
    (h : (fun w' : World => (w'.cell? ⟨B, 0, none⟩ = some (.int .i64 k1) ∧ w'.cell? ⟨B, 1, none⟩ = some (.bool b1) ∧ w'.cell? ⟨B, 2, none⟩ = some (.int .i64 i1) ∧ w'.cell? ⟨B, 3, none⟩ = some (.string s1) ∧ w'.cell? ⟨B, 4, none⟩ = some (n1) ∧ w'.cell? ⟨B, 5, none⟩ = some (l1)) ∧ (w'.cell? ⟨C, 0, none⟩ = some (.int .i64 k2) ∧ w'.cell? ⟨C, 1, none⟩ = some (.bool b2) ∧ w'.cell? ⟨C, 2, none⟩ = some (.int .i64 i2) ∧ w'.cell? ⟨C, 3, none⟩ = some (.string s2) ∧ w'.cell? ⟨C, 4, none⟩ = some (n2) ∧ w'.cell? ⟨C, 5, none⟩ = some (l2))) w.drew → wpAnyH P .any ops Q (fun w' => (w'.cell? ⟨B, 0, none⟩ = some (.int .i64 k1) ∧ w'.cell? ⟨B, 1, none⟩ = some (.bool b1) ∧ w'.cell? ⟨B, 2, none⟩ = some (.int .i64 i1) ∧ w'.cell? ⟨B, 3, none⟩ = some (.string s1) ∧ w'.cell? ⟨B, 4, none⟩ = some (n1) ∧ w'.cell? ⟨B, 5, none⟩ = some (l1)) ∧ (w'.cell? ⟨C, 0, none⟩ = some (.int .i64 k2) ∧ w'.cell? ⟨C, 1, none⟩ = some (.bool b2) ∧ w'.cell? ⟨C, 2, none⟩ = some (.int .i64 i2) ∧ w'.cell? ⟨C, 3, none⟩ = some (.string s2) ∧ w'.cell? ⟨C, 4, none⟩ = some (n2) ∧ w'.cell? ⟨C, 5, none⟩ = some (l2))) ops.size (Array.replicate ops.size false) a w.drew) : (Code.region id ops true).wp P Q a w := wp_region_held_drew (S := fun w' => (w'.cell? ⟨B, 0, none⟩ = some (.int .i64 k1) ∧ w'.cell? ⟨B, 1, none⟩ = some (.bool b1) ∧ w'.cell? ⟨B, 2, none⟩ = some (.int .i64 i1) ∧ w'.cell? ⟨B, 3, none⟩ = some (.string s1) ∧ w'.cell? ⟨B, 4, none⟩ = some (n1) ∧ w'.cell? ⟨B, 5, none⟩ = some (l1)) ∧ (w'.cell? ⟨C, 0, none⟩ = some (.int .i64 k2) ∧ w'.cell? ⟨C, 1, none⟩ = some (.bool b2) ∧ w'.cell? ⟨C, 2, none⟩ = some (.int .i64 i2) ∧ w'.cell? ⟨C, 3, none⟩ = some (.string s2) ∧ w'.cell? ⟨C, 4, none⟩ = some (n2) ∧ w'.cell? ⟨C, 5, none⟩ = some (l2))) hm hS h
end Go.Proofs.Ytgknjjaemjkloaa.Tak

namespace Go.Proofs.Ytgknjjaemjkloaa.BIn
open Go.RowKit Go.Proofs.Ytgknjjaemjkloaa.BPl Go.Proofs.Ytgknjjaemjkloaa.YRr Go.Proofs.Ytgknjjaemjkloaa.YRs Go.Proofs.Ytgknjjaemjkloaa.BBx Go.Proofs.Ytgknjjaemjkloaa.BIx Go.Proofs.Ytgknjjaemjkloaa.BSm
open Go.Proofs.Ytgknjjaemjkloaa.YPl (Oq Bk Pg)
open Go.Proofs.Ytgknjjaemjkloaa.CBx (w64)
open Go.Proofs.Ytgknjjaemjkloaa.Tak
open Go.Proofs.Ytgknjjaemjkloaa.IBase (heap_alloc_new)
set_option linter.unusedVariables false

theorem frz {W : World} {B : Nat} {cs : Array Value} {t : TypeId} (h : W.heap[B]? = some (.cells cs t (0, 0))) (j : Nat) : W.frozen? ⟨B, j, none⟩ = false := by simp [World.frozen?, h]
/-- Three boxes laid out. -/
theorem three (w : World) (c1 c2 c3 : Array Value) (t1 t2 t3 : TypeId) : ∃ W, ((w.alloc (.cells c1 t1)).alloc (.cells c2 t2)).alloc (.cells c3 t3) = W ∧ Below w.heap.size w W ∧ W.heap.size = w.heap.size + 3 ∧ W.heap[w.heap.size]? = some (.cells c1 t1 (0, 0)) ∧ W.heap[w.heap.size + 1]? = some (.cells c2 t2 (0, 0)) ∧ W.heap[w.heap.size + 1 + 1]? = some (.cells c3 t3 (0, 0)) := by
  refine ⟨_, rfl, (((Below.refl _ w).alloc (Nat.le_refl _) _).alloc (by simp) _).alloc (by simp; omega) _, by simp, ?_, ?_, ?_⟩
  · rw [Below.heap_alloc _ _ _ (by simp; omega), Below.heap_alloc _ _ _ (by simp), heap_alloc_new]
  · rw [Below.heap_alloc _ _ _ (by simp)]
    have := heap_alloc_new (w.alloc (.cells c1 t1)) (.cells c2 t2)
    simpa using this
  · have := heap_alloc_new ((w.alloc (.cells c1 t1)).alloc (.cells c2 t2)) (.cells c3 t3)
    simpa using this
/-- What is around, as a value. -/
abbrev arv (A : Ar) : Value := .agg #[.bool A.ow, .bool A.lp, .int .i64 A.st, .int .i64 A.el, .int .i64 A.ls]
theorem cell_ne {W : World} {g g' j j' : Nat} {v u : Value} (h : g ≠ g') (hc : W.cell? ⟨g, j, none⟩ = some u) : (W.setCell ⟨g', j', none⟩ v).cell? ⟨g, j, none⟩ = some u := (World.cell?_of_block (w := W) (Below.heap_setCell W _ _ _ h)).trans hc
/-- Five cells set anew. -/
theorem five_set {W : World} {B : Nat} {t : TypeId} {y0 y1 y2 y3 y4 : Value} (x0 x1 x2 x3 x4 : Value) (h : W.heap[B]? = some (.cells #[y0, y1, y2, y3, y4] t (0, 0))) : (((((W.setCell ⟨B, 0, none⟩ x0).setCell ⟨B, 1, none⟩ x1).setCell ⟨B, 2, none⟩ x2).setCell ⟨B, 3, none⟩ x3).setCell ⟨B, 4, none⟩ x4).heap[B]? = some (.cells #[x0, x1, x2, x3, x4] t (0, 0)) := by
  simp [World.setCell, Array.getElem?_modify, h]
set_option maxRecDepth 20000 in
set_option maxHeartbeats 3200000 in
theorem inside_c {w : World} {B P : Nat} {A : Ar} {nb : Nat} {ov : Value} {lt : Int} {uv : Value} {cl : Int} (hB : Bw w B P A nb ov lt uv cl) (o : Oq) (a : Option Addr) (cap : Nat) (hst : 0 ≤ A.st ∧ A.st ≤ 64) (hls : 0 ≤ A.ls ∧ A.ls ≤ 64) (ho : o.l.length ≤ 140737488351232) :
    Calls Try.prog 142 #[.pointer (some ⟨B, 0, none⟩), opv o (.slice a o.l.length cap)] w fun e w' => e = .returned (arv (ins A o)) ∧ Below w.heap.size w w' := by
  obtain ⟨W, hW, hb, hs, h0, h1, h2⟩ := three w #[.int .i64 o.k, .int .i64 o.a, .int .i64 o.b, .int .i64 o.c, .slice a o.l.length cap] #[.bool false, .bool false, .int .i64 0, .int .i64 0, .int .i64 0] #[.bool A.ow, .bool A.lp, .int .i64 A.st, .int .i64 A.el, .int .i64 A.ls] 46 78 78
  have x1 := cell_of hB 1 _ rfl
  have x2 := cell_of hB 2 _ rfl
  have x3 := cell_of hB 3 _ rfl
  have x4 := cell_of hB 4 _ rfl
  have x5 := cell_of hB 5 _ rfl
  have hlt := hB.lt
  have hg : 0 ≤ grows o ∧ grows o ≤ 140737488351232 := by
    unfold grows
    split
    · omega
    split
    · omega
    split <;> omega
  have cG := fun W => grows_c o a cap W
  have HW : Hid (∀ W7, Below W.drew.heap.size W.drew W7 → W7.heap[w.heap.size]? = some (.cells #[.int .i64 o.k, .int .i64 o.a, .int .i64 o.b, .int .i64 o.c, .slice a o.l.length cap] 46 (0, 0)) ∧ W7.heap[w.heap.size + 1]? = some (.cells #[.bool false, .bool false, .int .i64 0, .int .i64 0, .int .i64 0] 78 (0, 0)) ∧ W7.heap[w.heap.size + 1 + 1]? = some (.cells #[.bool A.ow, .bool A.lp, .int .i64 A.st, .int .i64 A.el, .int .i64 A.ls] 78 (0, 0)) ∧ Below w.heap.size w W7) := by
    intro W7 b7
    have hd : W.drew.heap.size = W.heap.size := rfl
    exact ⟨(b7.block _ (by omega)).trans h0, (b7.block _ (by omega)).trans h1, (b7.block _ (by omega)).trans h2, hb.drew.trans (b7.mono (by omega))⟩
  have c0 := cell_of h0 0 _ rfl
  have c1 := cell_of h0 1 _ rfl
  have c2 := cell_of h0 2 _ rfl
  have c3 := cell_of h0 3 _ rfl
  have c4 := cell_of h0 4 _ rfl
  have i2 := cell_of h2 2 _ rfl
  unfold ins
  obtain ⟨k, x, y, z, l⟩ := o
  dsimp only at *
  generalize grows ⟨k, x, y, z, l⟩ = G at *
  have hw1 : IntKind.i64.wrap (A.st + G) = A.st + G := w64 (by omega) (by omega)
  have hw2 : IntKind.i64.wrap (A.ls + 1) = A.ls + 1 := w64 (by omega) (by omega)
  clear hb h0 h1 h2 hB hst hls hg ho
  obtain ⟨A0, A1, A2, A3, A4⟩ := A
  dsimp only at *
  generalize l.length = n at *
  obtain ⟨LS, hLS⟩ : ∃ LS, (if k = 9 then A4 + 1 else A4) = LS := ⟨_, rfl⟩
  rw [hLS]
  have HLS : Hid ((if k = 9 then A4 + 1 else A4) = LS) := hLS
  clear hLS
  go_enter Try.func142, Try.ntmps142
  go_wp2_with fail
  refine wp_region_held_drew (S := fun w' => (w'.cell? ⟨w.heap.size, 0, none⟩ = some (.int .i64 k) ∧ w'.cell? ⟨w.heap.size, 1, none⟩ = some (.int .i64 x) ∧ w'.cell? ⟨w.heap.size, 2, none⟩ = some (.int .i64 y) ∧ w'.cell? ⟨w.heap.size, 3, none⟩ = some (.int .i64 z) ∧ w'.cell? ⟨w.heap.size, 4, none⟩ = some (.slice a n cap))) (by kernel_rfl) (by exact ⟨c0, c1, c2, c3, c4⟩) (fun hHeld => ?_)
  refine tkH 0 rfl ?_; try simp only [ptH]
  refine tkH 2 rfl ?_; try simp only [ptH]
  refine rdH [1, 3] ?_
  refine AllReadyH.cons rfl (fun K0 hK => ?_) (AllReadyH.cons rfl (fun K0 hK => ?_) (AllReadyH.nil))
  · go_simp
    refine hK.out _ _ (by assumption) (fun hHeld => ?_)
    clear hK K0
    try simp only [ptH]
    refine rdH [3] ?_
    refine alH rfl fun K0 hK => ?_
    go_simp
    refine (cG _).mono ?_
    rintro e W7 ⟨rfl, b7⟩
    obtain ⟨q0, q1, q2, q3⟩ := HW.out W7 b7
    have z0 := cell_of q0 0 _ rfl
    have z1 := cell_of q0 1 _ rfl
    have z2 := cell_of q0 2 _ rfl
    have z3 := cell_of q0 3 _ rfl
    have z4 := cell_of q0 4 _ rfl
    have u0 := cell_of q2 0 _ rfl
    have u1 := cell_of q2 1 _ rfl
    have u2 := cell_of q2 2 _ rfl
    have u3 := cell_of q2 3 _ rfl
    have u4 := cell_of q2 4 _ rfl
    have r0 := cell_of q1 0 _ rfl
    have r1 := cell_of q1 1 _ rfl
    have r2 := cell_of q1 2 _ rfl
    have r3 := cell_of q1 3 _ rfl
    have r4 := cell_of q1 4 _ rfl
    have v1 := frz q2 1
    have v2 := frz q2 2
    have v4 := frz q2 4
    have y0 := frz q1 0
    have y1 := frz q1 1
    have y2 := frz q1 2
    have y3 := frz q1 3
    have y4 := frz q1 4
    have Q1 : Hid (W7.heap[w.heap.size + 1]? = some (.cells #[.bool false, .bool false, .int .i64 0, .int .i64 0, .int .i64 0] 78 (0, 0))) := q1
    have Q3 : Hid (Below w.heap.size w W7) := q3
    clear q0 q1 q2 q3 b7
    refine hK.out _ _ ⟨z0, z1, z2, z3, z4⟩ (fun hHeld => ?_)
    clear hK K0
    try simp only [ptH]
    refine tkH 4 rfl ?_; try simp only [ptH]
    refine tkH 5 rfl ?_; try simp only [ptH]
    refine rdH [6] ?_
    refine alH rfl fun K0 hK => ?_
    go_simp
    refine hK.out _ _ ⟨cell_ne (by omega) z0, cell_ne (by omega) z1, cell_ne (by omega) z2, cell_ne (by omega) z3, cell_ne (by omega) z4⟩ (fun hHeld => ?_)
    clear hK K0
    try simp only [ptH]
    refine dnH ?_
    clear hHeld
    cases d9 : (k == 9)
    · have e9 : ¬ k = 9 := by simpa using d9
      have hl := HLS.out
      rw [if_neg e9] at hl
      subst hl
      clear e9 HLS
      go_wp2_with fail
      refine bodyPost_ret (results_cell_row rfl _ _ (w.heap.size + 1) 78 _ (0, 0) _ rfl (five_set _ _ _ _ _ (by rw [Below.heap_setCell _ _ _ _ (by simp), Below.heap_setCell _ _ _ _ (by simp)]; exact Q1.out)) Try.underlying78 rfl (by kernel_rfl)) rfl ?_
      rw [d9]
      exact ⟨rfl, (((((((Q3.out.setCell (p := ⟨w.heap.size + 1 + 1, 2, none⟩) (by dsimp only; omega) _).setCell (p := ⟨w.heap.size + 1 + 1, 1, none⟩) (by dsimp only; omega) _).setCell (p := ⟨w.heap.size + 1, 0, none⟩) (by dsimp only; omega) _).setCell (p := ⟨w.heap.size + 1, 1, none⟩) (by dsimp only; omega) _).setCell (p := ⟨w.heap.size + 1, 2, none⟩) (by dsimp only; omega) _).setCell (p := ⟨w.heap.size + 1, 3, none⟩) (by dsimp only; omega) _).setCell (p := ⟨w.heap.size + 1, 4, none⟩) (by dsimp only; omega) _)⟩
    · have e9 : k = 9 := by simpa using d9
      have hl := HLS.out
      rw [if_pos e9] at hl
      subst hl
      clear e9 HLS
      go_wp2_with fail
      refine bodyPost_ret (results_cell_row rfl _ _ (w.heap.size + 1) 78 _ (0, 0) _ rfl (five_set _ _ _ _ _ (by rw [Below.heap_setCell _ _ _ _ (by simp), Below.heap_setCell _ _ _ _ (by simp), Below.heap_setCell _ _ _ _ (by simp)]; exact Q1.out)) Try.underlying78 rfl (by kernel_rfl)) rfl ?_
      rw [d9]
      exact ⟨rfl, ((((((((Q3.out.setCell (p := ⟨w.heap.size + 1 + 1, 2, none⟩) (by dsimp only; omega) _).setCell (p := ⟨w.heap.size + 1 + 1, 1, none⟩) (by dsimp only; omega) _).setCell (p := ⟨w.heap.size + 1 + 1, 4, none⟩) (by dsimp only; omega) _).setCell (p := ⟨w.heap.size + 1, 0, none⟩) (by dsimp only; omega) _).setCell (p := ⟨w.heap.size + 1, 1, none⟩) (by dsimp only; omega) _).setCell (p := ⟨w.heap.size + 1, 2, none⟩) (by dsimp only; omega) _).setCell (p := ⟨w.heap.size + 1, 3, none⟩) (by dsimp only; omega) _).setCell (p := ⟨w.heap.size + 1, 4, none⟩) (by dsimp only; omega) _)⟩
  · go_simp
    refine (cG _).mono ?_
    rintro e W7 ⟨rfl, b7⟩
    obtain ⟨q0, q1, q2, q3⟩ := HW.out W7 b7
    have z0 := cell_of q0 0 _ rfl
    have z1 := cell_of q0 1 _ rfl
    have z2 := cell_of q0 2 _ rfl
    have z3 := cell_of q0 3 _ rfl
    have z4 := cell_of q0 4 _ rfl
    have u0 := cell_of q2 0 _ rfl
    have u1 := cell_of q2 1 _ rfl
    have u2 := cell_of q2 2 _ rfl
    have u3 := cell_of q2 3 _ rfl
    have u4 := cell_of q2 4 _ rfl
    have r0 := cell_of q1 0 _ rfl
    have r1 := cell_of q1 1 _ rfl
    have r2 := cell_of q1 2 _ rfl
    have r3 := cell_of q1 3 _ rfl
    have r4 := cell_of q1 4 _ rfl
    have v1 := frz q2 1
    have v2 := frz q2 2
    have v4 := frz q2 4
    have y0 := frz q1 0
    have y1 := frz q1 1
    have y2 := frz q1 2
    have y3 := frz q1 3
    have y4 := frz q1 4
    have Q1 : Hid (W7.heap[w.heap.size + 1]? = some (.cells #[.bool false, .bool false, .int .i64 0, .int .i64 0, .int .i64 0] 78 (0, 0))) := q1
    have Q3 : Hid (Below w.heap.size w W7) := q3
    clear q0 q1 q2 q3 b7
    refine hK.out _ _ ⟨z0, z1, z2, z3, z4⟩ (fun hHeld => ?_)
    clear hK K0
    try simp only [ptH]
    refine rdH [1] ?_
    refine alH rfl fun K0 hK => ?_
    go_simp
    refine hK.out _ _ (by assumption) (fun hHeld => ?_)
    clear hK K0
    try simp only [ptH]
    refine tkH 4 rfl ?_; try simp only [ptH]
    refine tkH 5 rfl ?_; try simp only [ptH]
    refine rdH [6] ?_
    refine alH rfl fun K0 hK => ?_
    go_simp
    refine hK.out _ _ ⟨cell_ne (by omega) z0, cell_ne (by omega) z1, cell_ne (by omega) z2, cell_ne (by omega) z3, cell_ne (by omega) z4⟩ (fun hHeld => ?_)
    clear hK K0
    try simp only [ptH]
    refine dnH ?_
    clear hHeld
    cases d9 : (k == 9)
    · have e9 : ¬ k = 9 := by simpa using d9
      have hl := HLS.out
      rw [if_neg e9] at hl
      subst hl
      clear e9 HLS
      go_wp2_with fail
      refine bodyPost_ret (results_cell_row rfl _ _ (w.heap.size + 1) 78 _ (0, 0) _ rfl (five_set _ _ _ _ _ (by rw [Below.heap_setCell _ _ _ _ (by simp), Below.heap_setCell _ _ _ _ (by simp)]; exact Q1.out)) Try.underlying78 rfl (by kernel_rfl)) rfl ?_
      rw [d9]
      exact ⟨rfl, (((((((Q3.out.setCell (p := ⟨w.heap.size + 1 + 1, 2, none⟩) (by dsimp only; omega) _).setCell (p := ⟨w.heap.size + 1 + 1, 1, none⟩) (by dsimp only; omega) _).setCell (p := ⟨w.heap.size + 1, 0, none⟩) (by dsimp only; omega) _).setCell (p := ⟨w.heap.size + 1, 1, none⟩) (by dsimp only; omega) _).setCell (p := ⟨w.heap.size + 1, 2, none⟩) (by dsimp only; omega) _).setCell (p := ⟨w.heap.size + 1, 3, none⟩) (by dsimp only; omega) _).setCell (p := ⟨w.heap.size + 1, 4, none⟩) (by dsimp only; omega) _)⟩
    · have e9 : k = 9 := by simpa using d9
      have hl := HLS.out
      rw [if_pos e9] at hl
      subst hl
      clear e9 HLS
      go_wp2_with fail
      refine bodyPost_ret (results_cell_row rfl _ _ (w.heap.size + 1) 78 _ (0, 0) _ rfl (five_set _ _ _ _ _ (by rw [Below.heap_setCell _ _ _ _ (by simp), Below.heap_setCell _ _ _ _ (by simp), Below.heap_setCell _ _ _ _ (by simp)]; exact Q1.out)) Try.underlying78 rfl (by kernel_rfl)) rfl ?_
      rw [d9]
      exact ⟨rfl, ((((((((Q3.out.setCell (p := ⟨w.heap.size + 1 + 1, 2, none⟩) (by dsimp only; omega) _).setCell (p := ⟨w.heap.size + 1 + 1, 1, none⟩) (by dsimp only; omega) _).setCell (p := ⟨w.heap.size + 1 + 1, 4, none⟩) (by dsimp only; omega) _).setCell (p := ⟨w.heap.size + 1, 0, none⟩) (by dsimp only; omega) _).setCell (p := ⟨w.heap.size + 1, 1, none⟩) (by dsimp only; omega) _).setCell (p := ⟨w.heap.size + 1, 2, none⟩) (by dsimp only; omega) _).setCell (p := ⟨w.heap.size + 1, 3, none⟩) (by dsimp only; omega) _).setCell (p := ⟨w.heap.size + 1, 4, none⟩) (by dsimp only; omega) _)⟩
end Go.Proofs.Ytgknjjaemjkloaa.BIn

import Derived.Test.YthjbknncbhkinaaGreatDoorPS32
import Derived.Test.YthjbknncbhkinaaGreatDoorPS40
open Go.Proofs.Tryz
set_option linter.unusedVariables false
set_option maxRecDepth 20000
set_option maxHeartbeats 3200000
namespace Go.Proofs.YthjbknncbhkinaaGreatDoor.MCg
open Go.RowKit Base VSm MBx MCd
theorem as_yes (v : Value) (w : World) : (Instr.typeAssert (.iface 29 v) 20 29 true).run prog w = .ok (.tuple #[v, .bool true]) w := by
 simp [Instr.typeAssert, run_underlying underlying29]
theorem catch_fault (V M : Nat) (hVM : V ≠ M) (c0 : Int) (older : List PanicEntry) (w : World) (y0 y1 y2 y3 y4 y5 z0 : Value) (hV : w.heap[V]? = some (.cells #[y0, y1, y2, y3, y4, y5] 46 (0, 0))) (hM : w.heap[M]? = some (.cells #[z0] 29 (0, 0))) :
  CallsD prog 78 #[.pointer (some ⟨V, 0, none⟩), .pointer (some ⟨M, 0, none⟩)] (.panicking ({ v := .iface 29 (.int .i64 c0), recovered := false } :: older)) w fun e u' w' => e = .returned (.tuple #[]) /\
   u' = .panicking ({ v := .iface 29 (.int .i64 c0), recovered := true } :: older) /\ w'.heap[V]? = some (.cells #[.int .i64 0, .bool false, .int .i64 0, .string ⟨#[]⟩, .slice none 0 0, .slice none 0 0] 46 (0, 0)) /\
    w'.heap[M]? = some (.cells #[.int .i64 c0] 29 (0, 0)) /\ ∀ n, n <= V -> n <= M -> Below n w w' := by
 obtain ⟨d0, d1, d2, d3, d4, d5⟩ := six_box hV
 have f0 := frozen_box hV 0
 have f1 := frozen_box hV 1
 have f2 := frozen_box hV 2
 have f3 := frozen_box hV 3
 have f4 := frozen_box hV 4
 have f5 := frozen_box hV 5
 have e0 : w.cell? ⟨M, 0, none⟩ = some z0 := by simp [World.cell?, hM]
 have g0 := frozen_box hM 0
 have n1 : V ≠ M := hVM
 have n2 : M ≠ V := hVM.symm
 refine callsD_of_wpS func78 rfl fun c₀ cs hu => ?_
 apply wpS_seq
 apply wpS_region
 simp [wpOpsS, go_sem, recoverD, hu, ntmps78, Exit.thenS, as_yes]
 refine wpS_of_wp ?_
 refine wp_tmps (L := #[.pointer (some ⟨V, 0, none⟩), .pointer (some ⟨M, 0, none⟩), .int .i64 c0, .bool true, .tuple #[.int .i64 c0, .bool true], .iface 29 (.int .i64 c0), .tuple #[.int .i64 c0, .bool true], .int .i64 c0, .bool true, undef, undef, undef]) ?e1 ?e2
 case e1 => simp [Array.replicate_succ]
 case e2 =>
  obtain ⟨W6, hW6⟩ : ∃ W6, ((((((w.setCell ⟨V, 0, none⟩ (.int .i64 0)).setCell ⟨V, 1, none⟩ (.bool false)).setCell ⟨V, 2, none⟩ (.int .i64 0)).setCell ⟨V, 3, none⟩ (.string ⟨#[]⟩)).setCell ⟨V, 4, none⟩ (.slice none 0 0)).setCell ⟨V, 5, none⟩ (.slice none 0 0)) = W6 := ⟨_, rfl⟩
  obtain ⟨q1, q2, q3, q4⟩ := set6 _ _ _ _ _ _ hV hW6
  have hM6 : W6.heap[M]? = some (.cells #[z0] 29 (0, 0)) := (q2 M n2).trans hM
  have m0 : W6.cell? ⟨M, 0, none⟩ = some z0 := by simp [World.cell?, hM6]
  have m1 := frozen_box hM6 0
  have HQ : Hid (_ /\ _ /\ _) := And.intro q1 (And.intro hM6 q4)
  clear hV hM q1 q2 q3 q4 hM6
  go_wp2_with fail
  refine ⟨rfl, _, rfl, .tuple #[], results_none rfl _ _ _, rfl, rfl, ?_, ?_, fun n h1 h2 => (HQ.out.2.2 _ n h1 (Below.refl _ _)).setCell (p := ⟨M, 0, none⟩) h2 _⟩
  ·rw [Below.heap_setCell _ _ _ _ n1]
   exact HQ.out.1
  ·simp [World.setCell, Array.getElem?_modify, HQ.out.2.1]
theorem code1_err {M B n0 : Nat} {w : World} {cv : Value} (hcv : ∃ a n c, cv = .slice a n c) (hM : M < w.heap.size) (hB : w.heap[B]? = some (.cells #[cv] 27 (0, 0))) (cR : ∀ W, Below w.heap.size w W -> Calls prog 66 #[ptr M, cv] W fun e w' => e = .panicked (pkE n0) /\ Km M nilS W w') :
  Calls prog 65 #[ptr M, ptr B] w fun e w' => e = .panicked (pkE n0) /\ Km M nilS w w' := by
 obtain ⟨a, n, c, rfl⟩ := hcv
 obtain ⟨W0, hW0⟩ : ∃ W0, w.alloc (.cells #[.int .i64 0, .bool false, .int .i64 0, .string ⟨#[]⟩, .slice none 0 0, .slice none 0 0] 46) = W0 := ⟨_, rfl⟩
 have b0 : Below w.heap.size w W0 := by rw [<- hW0]; exact (Below.refl _ w).alloc (Nat.le_refl _) _
 have hBl : B < w.heap.size := (Array.getElem?_eq_some_iff.1 hB).1
 have kB : W0.cell? ⟨B, 0, none⟩ = some (.slice a n c) := by
  have := (b0.block B hBl).trans hB
  simp [World.cell?, this]
 have c1 := cR W0 b0
 have HB0 : Hid _ := b0
 clear cR b0 hB
 go_enter func65, ntmps65
 go_wp2_with fail
 try rw [hW0]
 refine c1.mono ?_
 rintro e W1 ⟨rfl, b1⟩
 exact ⟨rfl, rfl, (Km.of_below (pv := nilS) HB0.out (Nat.le_of_lt hM)).trans b1 (.inl rfl)⟩
theorem caught_err {M B n0 : Nat} {w : World} (hM : M < w.heap.size) (cV : ∀ W, Below w.heap.size w W -> Calls prog 65 #[ptr M, ptr B] W fun e w' => e = .panicked (pkE n0) /\ Km M nilS W w') :
  Calls prog 64 #[clo M B] w fun e w' => e = .returned (.tuple #[v0 0 false 0 ⟨#[]⟩, .int .i64 (n0 : Nat)]) /\ Below M w w' := by
 have hmf : ∀ (fn : Fn) (first cap : Array Value) (w : World), (Instr.makeFunc fn first cap).run prog w = .ok (.func fn first cap) w := fun _ _ _ _ => rfl
 obtain ⟨W, hW⟩ : ∃ W, (w.alloc (.cells #[.int .i64 0, .bool false, .int .i64 0, .string ⟨#[]⟩, .slice none 0 0, .slice none 0 0] 46)).alloc (.cells #[.int .i64 0] 29) = W := ⟨_, rfl⟩
 have bW : Below w.heap.size w W := by rw [<- hW]; exact ((Below.refl _ w).alloc (Nat.le_refl _) _).alloc (by simp) _
 have sW : W.heap.size = w.heap.size + 2 := by rw [<- hW]; simp
 have zV : W.heap[w.heap.size]? = some (.cells #[.int .i64 0, .bool false, .int .i64 0, .string ⟨#[]⟩, .slice none 0 0, .slice none 0 0] 46 (0, 0)) := by rw [<- hW, Below.heap_alloc _ _ _ (by simp), heap_alloc_new]
 have zM : W.heap[w.heap.size + 1]? = some (.cells #[.int .i64 0] 29 (0, 0)) := by
  rw [<- hW]
  have := heap_alloc_new (w.alloc (.cells #[.int .i64 0, .bool false, .int .i64 0, .string ⟨#[]⟩, .slice none 0 0, .slice none 0 0] 46)) (.cells #[.int .i64 0] 29)
  rwa [World.size_alloc] at this
 have c1 := cV W bW
 have HB : Hid (Below w.heap.size w W) := bW
 have HV : Hid _ := zV
 have HM : Hid _ := zM
 clear bW zV zM cV
 go_enter_defers func64, ntmps64
 go_wp2_with fail
 try rw [hW]
 refine c1.mono ?_
 rintro e W1 ⟨rfl, k1⟩
 have v1 := (k1.other w.heap.size (by omega) (by omega) (fun e => by cases e)).trans HV.out
 have m1 := (k1.other (w.heap.size + 1) (by omega) (by omega) (fun e => by cases e)).trans HM.out
 have HK1 : Hid (Below M w W1) := (HB.out.mono (Nat.le_of_lt hM)).trans k1.below
 clear c1 k1 HB HV HM hW
 refine leaves_cons (f := 78) (args := #[.pointer (some ⟨w.heap.size, 0, none⟩), .pointer (some ⟨w.heap.size + 1, 0, none⟩)]) (by simp) (by simp [go_sem]) ?_
 refine (catch_fault w.heap.size (w.heap.size + 1) (by omega) (n0 : Nat) [] W1 _ _ _ _ _ _ _ v1 m1).mono ?_
 rintro e u' w5 ⟨rfl, rfl, r1, r2, r3⟩
 obtain ⟨c0, c1, c2, c3, c4, c5⟩ := six_box r1
 have q0 : w5.cell? ⟨w.heap.size + 1, 0, none⟩ = some (.int .i64 (n0 : Nat)) := by simp [World.cell?, r2]
 have HD : Hid (Below M w w5) := HK1.out.trans (r3 _ (by omega) (by omega))
 simp [Leaves, settle, results, results64, go_sem, c0, c1, c2, c3, c4, c5, q0]
 exact HD.out
theorem code_err {m n0 : Nat} {w : World} {a1 a2 a3 : Option Addr} {n1 n2 n3 c1 c2 c3 : Nat} (cR : ∀ W, Below w.heap.size w W -> Mc w.heap.size m W (w.heap.size + 2) (.slice a2 n2 c2) (.slice a3 n3 c3) nilS [] -> Calls prog 66 #[ptr (w.heap.size + 2), .slice a1 n1 c1] W fun e w' => e = .panicked (pkE n0) /\ Km (w.heap.size + 2) nilS W w') :
  Calls prog 42 #[.slice a1 n1 c1, .slice a2 n2 c2, .slice a3 n3 c3] w fun e w' => e = .returned (.tuple #[v0 0 false 0 ⟨#[]⟩, .int .i64 (n0 : Nat)]) /\ Below w.heap.size w w' := by
 have hmf : ∀ (fn : Fn) (first cap : Array Value) (w : World), (Instr.makeFunc fn first cap).run prog w = .ok (.func fn first cap) w := fun _ _ _ _ => rfl
 obtain ⟨W, hW⟩ : ∃ W, ((w.alloc (.cells #[.slice a1 n1 c1] 27)).alloc (.cells #[.int .i64 0, .bool false, .int .i64 0, .string ⟨#[]⟩, .slice none 0 0, .slice none 0 0] 46)).alloc (.cells #[.slice a2 n2 c2, .slice a3 n3 c3, nilS] 90) = W := ⟨_, rfl⟩
 have bW : Below w.heap.size w W := by rw [<- hW]; exact (((Below.refl _ w).alloc (Nat.le_refl _) _).alloc (by simp) _).alloc (by simp <;> omega) _
 have sW : W.heap.size = w.heap.size + 3 := by rw [<- hW]; simp
 have z0 : W.heap[w.heap.size]? = some (.cells #[.slice a1 n1 c1] 27 (0, 0)) := by rw [<- hW, Below.heap_alloc _ _ _ (by simp <;> omega), Below.heap_alloc _ _ _ (by simp), heap_alloc_new]
 have z1 : W.heap[w.heap.size + 1]? = some (.cells #[.int .i64 0, .bool false, .int .i64 0, .string ⟨#[]⟩, .slice none 0 0, .slice none 0 0] 46 (0, 0)) := by
  rw [<- hW, Below.heap_alloc _ _ _ (by simp)]
  have := heap_alloc_new (w.alloc (.cells #[.slice a1 n1 c1] 27)) (.cells #[.int .i64 0, .bool false, .int .i64 0, .string ⟨#[]⟩, .slice none 0 0, .slice none 0 0] 46)
  rwa [World.size_alloc] at this
 have z2 : W.heap[w.heap.size + 2]? = some (.cells #[.slice a2 n2 c2, .slice a3 n3 c3, nilS] 90 (0, 0)) := by
  rw [<- hW]
  have := heap_alloc_new ((w.alloc (.cells #[.slice a1 n1 c1] 27)).alloc (.cells #[.int .i64 0, .bool false, .int .i64 0, .string ⟨#[]⟩, .slice none 0 0, .slice none 0 0] 46)) (.cells #[.slice a2 n2 c2, .slice a3 n3 c3, nilS] 90)
  rwa [World.size_alloc, World.size_alloc] at this
 have mW : Mc w.heap.size m W (w.heap.size + 2) (.slice a2 n2 c2) (.slice a3 n3 c3) nilS [] := ⟨z2, by omega, [], ⟨World.ownsRow_nil _ _ _ _, fun u hu => by cases hu⟩, rfl, fun j hj => by cases hj⟩
 have cK := caught_err (M := w.heap.size + 2) (B := w.heap.size) (w := W) (n0 := n0) (by omega) (fun W1 b1 => code1_err ⟨_, _, _, rfl⟩ (by have := b1.size; omega) ((b1.block w.heap.size (by omega)).trans z0) fun W2 b2 => cR W2 ((bW.trans (b1.mono (by omega))).trans (b2.mono (by have := b1.size; omega))) ((mW.below b1).below b2))
 have HB : Hid (Below w.heap.size w W) := bW
 have HZ : Hid _ := z1
 have HW : Hid (_ = W) := hW
 clear cR bW z0 z1 z2 mW hW
 go_enter func42, ntmps42
 go_wp2_with fail
 rw [HW.out]
 refine cK.mono ?_
 rintro e W1 ⟨rfl, k1⟩
 have y1 := (k1.block (w.heap.size + 1) (by omega)).trans HZ.out
 obtain ⟨W9, hW9⟩ : ∃ W9, (((((W1.setCell ⟨w.heap.size + 1, 0, none⟩ (.int .i64 0)).setCell ⟨w.heap.size + 1, 1, none⟩ (.bool false)).setCell ⟨w.heap.size + 1, 2, none⟩ (.int .i64 0)).setCell ⟨w.heap.size + 1, 3, none⟩ (.string ⟨#[]⟩)).setCell ⟨w.heap.size + 1, 4, none⟩ (.slice none 0 0)).setCell ⟨w.heap.size + 1, 5, none⟩ (.slice none 0 0) = W9 := ⟨_, rfl⟩
 obtain ⟨q1, q2, q3, q4⟩ := set6 _ _ _ _ _ _ y1 hW9
 have HE : Hid (Below w.heap.size w W9) := q4 _ _ (by omega) (HB.out.trans (k1.mono (by omega)))
 have HQ1 : Hid _ := q1
 have HW9 : Hid (_ = W9) := hW9
 obtain ⟨v0', v1', v2', v3', v4', v5'⟩ := six_box y1
 have g0 := frozen_box y1 0
 have g1 := frozen_box y1 1
 have g2 := frozen_box y1 2
 have g3 := frozen_box y1 3
 have g4 := frozen_box y1 4
 have g5 := frozen_box y1 5
 clear k1 y1 q1 q2 q3 q4 cK hW9
 go_wp2_with fail
 rw [HW9.out]
 refine bodyPost_ret (Part.res_row_tmp rfl _ W9 (w.heap.size + 1) 46 _ (0, 0) _ rfl HQ1.out underlying46 rfl (by kernel_rfl)) rfl ?_
 exact ⟨rfl, HE.out⟩
end Go.Proofs.YthjbknncbhkinaaGreatDoor.MCg

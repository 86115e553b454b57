import Derived.Defers
import Derived.Recover
import Derived.Test.YthkpbhgbmagaeaaGreatDoorP05
import Derived.Test.YthkpbhgbmagaeaaGreatDoorP09
namespace Go.Proofs.YthkpbhgbmagaeaaGreatDoor.Doc
open Go.RowKit Go.Proofs.YthkpbhgbmagaeaaGreatDoor.Base Go.Proofs.YthkpbhgbmagaeaaGreatDoor.UBase Go.Proofs.YthkpbhgbmagaeaaGreatDoor.Spec Go.Proofs.YthkpbhgbmagaeaaGreatDoor.Rdr Go.Proofs.YthkpbhgbmagaeaaGreatDoor.Take Go.Proofs.YthkpbhgbmagaeaaGreatDoor.Skip Go.Proofs.YthkpbhgbmagaeaaGreatDoor.Own Go.Proofs.YthkpbhgbmagaeaaGreatDoor.LState
set_option linter.unusedVariables false
theorem two_box {w : World} {B : Nat} {v0 v1 : Value} {t : TypeId} (h : w.heap[B]? = some (.cells #[v0, v1] t (0, 0))) : w.cell? ⟨B, 0, none⟩ = some v0 ∧ w.cell? ⟨B, 1, none⟩ = some v1 := by
 refine ⟨?_, ?_⟩ <;> simp [World.cell?, h]
theorem wp_tmps {P : Program} {c : Code} {Q : Exit → Act → World → Prop} {T : Array Value} (L : Array Value) {w : World} (e : T = L) (h : c.wp P Q { tmps := L, defers := [] } w) : c.wp P Q { tmps := T, defers := [] } w := by
 subst e; exact h
theorem as_no (w : World) : (Instr.typeAssert .nilIface 20 41 true).run Tryz.prog w = .ok (.tuple #[.agg #[.int .i64 0, .int .i64 0], .bool false]) w := by
 simp [Instr.typeAssert, run_underlying Tryz.underlying41, Tryz.zeroValue41]
theorem as_yes (v : Value) (w : World) : (Instr.typeAssert (.iface 41 v) 20 41 true).run Tryz.prog w = .ok (.tuple #[v, .bool true]) w := by
 simp [Instr.typeAssert, run_underlying Tryz.underlying41]
set_option maxRecDepth 20000 in
theorem catch_idle (p q : Addr) (w : World) :
  CallsD Tryz.prog 23 #[.pointer (some p), .pointer (some q)] .returning w fun e u' w' => e = .returned (.tuple #[]) ∧ u' = .returning ∧ Below w.heap.size w w' := by
 refine callsD_of_wpS Tryz.func23 rfl fun c₀ cs hu => ?_
 apply wpS_seq
 apply wpS_region
 simp [wpOpsS, go_sem, recoverD, hu, Tryz.ntmps23, Exit.thenS, as_no]
 refine wpS_of_wp ?_
 change Code.wp _ _ _ { tmps := #[.pointer (some p), .pointer (some q), .pointer (some ⟨w.heap.size, 0, none⟩), .bool false, .tuple #[.agg #[.int .i64 0, .int .i64 0], .bool false], .nilIface, .tuple #[.agg #[.int .i64 0, .int .i64 0], .bool false], .agg #[.int .i64 0, .int .i64 0], .bool false, undef, undef, undef], defers := [] } _
 go_wp2
 cases c₀
 simp_all [bodyPostS, results, Tryz.results23]
 exact (Below.refl _ w).alloc (Nat.le_refl _) _
set_option maxRecDepth 20000 in
set_option maxHeartbeats 1600000 in
theorem catch_fault (V M : Nat) (c0 c1 : Int) (older : List PanicEntry) (w : World) (y0 y1 y2 y3 y4 y5 z0 z1 : Value) (hV : w.heap[V]? = some (.cells #[y0, y1, y2, y3, y4, y5] 27 (0, 0))) (hM : w.heap[M]? = some (.cells #[z0, z1] 41 (0, 0))) :
  CallsD Tryz.prog 23 #[.pointer (some ⟨V, 0, none⟩), .pointer (some ⟨M, 0, none⟩)] (.panicking ({ v := .iface 41 (.agg #[.int .i64 c0, .int .i64 c1]), recovered := false } :: older)) w fun e u' w' => e = .returned (.tuple #[]) ∧
   u' = .panicking ({ v := .iface 41 (.agg #[.int .i64 c0, .int .i64 c1]), recovered := true } :: older) ∧ w'.heap[V]? = some (.cells #[.int .i64 0, .bool false, .int .i64 0, .string ⟨#[]⟩, .slice none 0 0, .slice none 0 0] 27 (0, 0)) ∧
    w'.heap[M]? = some (.cells #[.int .i64 c0, .int .i64 c1] 41 (0, 0)) ∧ ∀ n, n ≤ V → n ≤ M → Below n w w' := by
 have hVl : V < w.heap.size := (Array.getElem?_eq_some_iff.1 hV).1
 have hMl : M < w.heap.size := (Array.getElem?_eq_some_iff.1 hM).1
 have hVM : V ≠ M := fun e => by subst e; rw [hV] at hM; simp at hM
 obtain ⟨W, hW⟩ : ∃ W, w.alloc (.cells #[.int .i64 c0, .int .i64 c1] 41) = W := ⟨_, rfl⟩
 have hV1 : W.heap[V]? = some (.cells #[y0, y1, y2, y3, y4, y5] 27 (0, 0)) := by rw [← hW, Below.heap_alloc _ _ _ hVl]; exact hV
 have hM1 : W.heap[M]? = some (.cells #[z0, z1] 41 (0, 0)) := by rw [← hW, Below.heap_alloc _ _ _ hMl]; exact hM
 have hF1 : W.heap[w.heap.size]? = some (.cells #[.int .i64 c0, .int .i64 c1] 41 (0, 0)) := by rw [← hW]; exact heap_alloc_new w _
 have hB : Below w.heap.size w W := by rw [← hW]; exact (Below.refl _ w).alloc (Nat.le_refl _) _
 obtain ⟨d0, d1, d2, d3, d4, d5⟩ := six_box hV1
 have f0 := frozen_box hV1 0
 have f1 := frozen_box hV1 1
 have f2 := frozen_box hV1 2
 have f3 := frozen_box hV1 3
 have f4 := frozen_box hV1 4
 have f5 := frozen_box hV1 5
 have e0 : W.cell? ⟨M, 0, none⟩ = some z0 := (two_box hM1).1
 have e1 : W.cell? ⟨M, 1, none⟩ = some z1 := (two_box hM1).2
 have g0 := frozen_box hM1 0
 have g1 := frozen_box hM1 1
 have a0 : W.cell? ⟨w.heap.size, 0, none⟩ = some (.int .i64 c0) := (two_box hF1).1
 have a1 : W.cell? ⟨w.heap.size, 1, none⟩ = some (.int .i64 c1) := (two_box hF1).2
 have n1 : V ≠ M := hVM
 have n2 : M ≠ V := hVM.symm
 have n3 : V ≠ w.heap.size := by omega
 have n4 : w.heap.size ≠ V := by omega
 have n5 : M ≠ w.heap.size := by omega
 have n6 : w.heap.size ≠ M := by omega
 refine callsD_of_wpS Tryz.func23 rfl fun c₀ cs hu => ?_
 apply wpS_seq
 apply wpS_region
 simp [wpOpsS, go_sem, recoverD, hu, Tryz.ntmps23, Exit.thenS, as_yes]
 refine wpS_of_wp ?_
 rw [hW]
 refine wp_tmps (#[.pointer (some ⟨V, 0, none⟩), .pointer (some ⟨M, 0, none⟩), .pointer (some ⟨w.heap.size, 0, none⟩), .bool true, .tuple #[.agg #[.int .i64 c0, .int .i64 c1], .bool true], .iface 41 (.agg #[.int .i64 c0, .int .i64 c1]), .tuple #[.agg #[.int .i64 c0, .int .i64 c1], .bool true], .agg #[.int .i64 c0, .int .i64 c1], .bool true, undef, undef, undef]) (by kernel_rfl) ?_
 have HV1 : Hid (W.heap[V]? = some (.cells #[y0, y1, y2, y3, y4, y5] 27 (0, 0))) := hV1
 have HM1 : Hid (W.heap[M]? = some (.cells #[z0, z1] 41 (0, 0))) := hM1
 have HB : Hid (Below w.heap.size w W) := hB
 clear hV1 hM1 hF1 hB hV hM hW hVM
 go_wp2_with fail
 go_region
 obtain ⟨W6, hW6⟩ : ∃ W6, ((((((W.setCell ⟨V, 0, none⟩ (.int .i64 0)).setCell ⟨V, 1, none⟩ (.bool false)).setCell ⟨V, 2, none⟩ (.int .i64 0)).setCell ⟨V, 3, none⟩ (.string ⟨#[]⟩)).setCell ⟨V, 4, none⟩ (.slice none 0 0)).setCell ⟨V, 5, none⟩ (.slice none 0 0)) = W6 := ⟨_, rfl⟩
 rw [hW6]
 obtain ⟨q1, q2, q3, q4⟩ := set6 _ _ _ _ _ _ HV1.out hW6
 have m1 := (q2 M n2).trans HM1.out
 refine ⟨rfl, _, rfl, .tuple #[], results_none rfl _ _ _, rfl, rfl, ?_, ?_, fun n hV hM => (((q4 _ n hV (HB.out.mono (by omega))).setCell (p := ⟨M, 0, none⟩) hM _).setCell (p := ⟨M, 1, none⟩) hM _).drew⟩
 ·show ((W6.setCell ⟨M, 0, none⟩ _).setCell ⟨M, 1, none⟩ _).heap[V]? = _
  rw [Below.heap_setCell _ _ _ _ n1, Below.heap_setCell _ _ _ _ n1]
  exact q1
 ·show ((W6.setCell ⟨M, 0, none⟩ _).setCell ⟨M, 1, none⟩ _).heap[M]? = _
  rw [block_set (block_set m1 _) _]
  rfl
theorem fs_shape {w : World} {m : Nat} {S : Nat → Prop} {u : Value} {k x : Int} {bo : Bool} {t : ByteArray} {nn : List ByteArray} {l : List C} (h : Fs w m S u (.mk k bo x t nn l)) : ∃ an ln cn al ll cl, u = .agg #[.int .i64 k, .bool bo, .int .i64 x, .string t, .slice an ln cn, .slice al ll cl] := by
 cases m with
 | zero => rw [Fs] at h; exact h.elim
 | succ m =>
  rw [Fs] at h
  obtain ⟨nv, lv, us, T, rfl, -, -, -, -, -, -, hT, -, hV, -⟩ := h
  obtain ⟨a1, l1, c1, rfl⟩ : ∃ a l c, nv = .slice a l c := by
   rcases hT.2 with ⟨e, _⟩ | ⟨g, cap, cur, e, _⟩
   ·exact ⟨_, _, _, e⟩
   ·exact ⟨_, _, _, e⟩
  obtain ⟨a2, l2, c2, rfl⟩ : ∃ a l c, lv = .slice a l c := by
   rcases hV.1.2 with ⟨e, _⟩ | ⟨g, cap, cur, e, _⟩
   ·exact ⟨_, _, _, e⟩
   ·exact ⟨_, _, _, e⟩
  exact ⟨_, _, _, _, _, _, rfl⟩
theorem byt_mono {w : World} {R R' : Nat} {v : Value} {s : ByteArray} (h : Byt w R v s) (hR : R ≤ R') : Byt w R' v s := by
 obtain ⟨a, cap, h1, h2, h3, h4, h5⟩ := h
 refine ⟨a, cap, h1, h2, h3, h4, h5.imp id ?_⟩
 rintro ⟨g, o, e1, e2, e3⟩
 exact ⟨g, o, e1, by omega, e3⟩
/-- What comes of reading a text. -/
def dcs (s : ByteArray) : Except F C := match vl s 24 0 0 with
 | .error e => .error e
 | .ok (c, j, _) => if blk s j < s.size then .error (600, blk s j) else .ok c
def Dout (w : World) (X : Except F C) (e : Ending) (w' : World) : Prop := Below w.heap.size w w' ∧ match X with
 | .ok c => ∃ u, e = .returned (.tuple #[u, .agg #[.int .i64 0, .int .i64 0]]) ∧ Fs w' 24 (Rg w.heap.size w'.heap.size) u c
 | .error x => e = .returned (.tuple #[.agg #[.int .i64 0, .bool false, .int .i64 0, .string ⟨#[]⟩, .slice none 0 0, .slice none 0 0], .agg #[.int .i64 x.1, .int .i64 x.2]])
set_option maxRecDepth 20000 in
set_option maxHeartbeats 1600000 in
theorem doc_c {a : Option Addr} {cap : Nat} {w : World} {s : ByteArray} (hv : VIs 24 1 24) (hs : s.size ≤ 65536) (hb : Byt w w.heap.size (.slice a s.size cap) s) (ht : Lib.Utf8Tabs 0 1 w) (hg : 0 < w.heap.size ∧ 1 < w.heap.size) :
  Calls Tryz.prog 13 #[.slice a s.size cap] w (Dout w (dcs s)) := by
 have hmf : ∀ (fn : Fn) (first cap : Array Value) (w : World), (Instr.makeFunc fn first cap).run Tryz.prog w = .ok (.func fn first cap) w := fun _ _ _ _ => rfl
 obtain ⟨W, hW⟩ : ∃ W, ((w.alloc (.cells #[.int .i64 0, .bool false, .int .i64 0, .string ⟨#[]⟩, .slice none 0 0, .slice none 0 0] 27)).alloc (.cells #[.int .i64 0, .int .i64 0] 41)).alloc (.cells #[.slice a s.size cap, .int .i64 0, .int .i64 0] 57) = W := ⟨_, rfl⟩
 have bW : Below w.heap.size w W := by rw [← hW]; exact (((Below.refl _ w).alloc (Nat.le_refl _) _).alloc (by simp) _).alloc (by simp <;> omega) _
 have sW : W.heap.size = w.heap.size + 3 := by rw [← hW]; simp
 have zV : W.heap[w.heap.size]? = some (.cells #[.int .i64 0, .bool false, .int .i64 0, .string ⟨#[]⟩, .slice none 0 0, .slice none 0 0] 27 (0, 0)) := by rw [← hW, Below.heap_alloc _ _ _ (by simp <;> omega), Below.heap_alloc _ _ _ (by simp), heap_alloc_new]
 have zM : W.heap[w.heap.size + 1]? = some (.cells #[.int .i64 0, .int .i64 0] 41 (0, 0)) := by
  rw [← hW, Below.heap_alloc _ _ _ (by simp)]
  have := heap_alloc_new (w.alloc (.cells #[.int .i64 0, .bool false, .int .i64 0, .string ⟨#[]⟩, .slice none 0 0, .slice none 0 0] 27)) (.cells #[.int .i64 0, .int .i64 0] 41)
  rwa [World.size_alloc] at this
 have zR : W.heap[w.heap.size + 1 + 1]? = some (.cells #[.slice a s.size cap, .int .i64 (0 : Nat), .int .i64 (0 : Nat)] 57 (0, 0)) := by
  rw [← hW]
  have := heap_alloc_new ((w.alloc (.cells #[.int .i64 0, .bool false, .int .i64 0, .string ⟨#[]⟩, .slice none 0 0, .slice none 0 0] 27)).alloc (.cells #[.int .i64 0, .int .i64 0] 41)) (.cells #[.slice a s.size cap, .int .i64 0, .int .i64 0] 57)
  rwa [World.size_alloc, World.size_alloc] at this
 have hR : Rd W (w.heap.size + 1 + 1) (.slice a s.size cap) s 0 0 := by
  exact ⟨zR, byt_mono (hb.keep fun k hk => bW.block k hk) (by omega), by omega, by omega, hs, tab_keep ht (bW.block _ hg.1) (bW.block _ hg.2), by omega, by omega⟩
 have cV := hv W _ _ _ _ _ hR
 unfold dcs
 obtain ⟨X, hX⟩ : ∃ X, vl s 24 0 0 = X := ⟨_, rfl⟩
 rw [hX] at cV ⊢
 unfold ptr at cV
 rw [← hW] at cV
 have HW : Hid (((w.alloc (.cells #[.int .i64 0, .bool false, .int .i64 0, .string ⟨#[]⟩, .slice none 0 0, .slice none 0 0] 27)).alloc (.cells #[.int .i64 0, .int .i64 0] 41)).alloc (.cells #[.slice a s.size cap, .int .i64 0, .int .i64 0] 57) = W) := hW
 have HBY : Hid (Byt w w.heap.size (.slice a s.size cap) s) := hb
 have HTB : Hid (Lib.Utf8Tabs 0 1 w) := ht
 clear hX hW zR hR hb ht hv
 cases X with
 | error x =>
  go_enter_defers Tryz.func13, Tryz.ntmps13
  go_wp2_with (go_at_call 24; refine cV.mono ?_; rintro e w4 ⟨k4, rfl⟩; rw [HW.out] at k4)
  have gV := (k4.other w.heap.size (by omega) (by omega)).trans zV
  have gM := (k4.other (w.heap.size + 1) (by omega) (by omega)).trans zM
  have HBL : Hid (Below w.heap.size w w4) := bW.trans (k4.below.mono (by omega))
  refine leaves_cons (f := 23) (args := #[.pointer (some ⟨w.heap.size, 0, none⟩), .pointer (some ⟨w.heap.size + 1, 0, none⟩)]) (by simp) (by simp [go_sem]) ?_
  refine (catch_fault w.heap.size (w.heap.size + 1) x.1 x.2 [] w4 _ _ _ _ _ _ _ _ gV gM).mono ?_
  rintro e u' w5 ⟨rfl, rfl, r1, r2, r3⟩
  obtain ⟨c0, c1, c2, c3, c4, c5⟩ := six_box r1
  obtain ⟨m0, m1⟩ := two_box r2
  have HD : Hid (Below w.heap.size w w5) := HBL.out.trans (r3 _ (by omega) (by omega))
  simp [Leaves, settle, results, Tryz.results13, go_sem, c0, c1, c2, c3, c4, c5, m0, m1]
  exact ⟨HD.out, rfl⟩
 | ok y =>
  obtain ⟨⟨k, bo, x, t, nn, l⟩, j, b'⟩ := y
  dsimp only
  by_cases hlt : blk s j < s.size
  ·rw [if_pos hlt]
   go_enter_defers Tryz.func13, Tryz.ntmps13
   go_wp2_with (
    go_at_call 24
    refine cV.mono ?_
    rintro e w4 ⟨k4, ⟨u4, rfl, hfs⟩, h4⟩
    rw [HW.out] at k4 hfs
    obtain ⟨an, ln, cn, al, ll, cl, rfl⟩ := fs_shape hfs
    have gV := (k4.other w.heap.size (by omega) (by omega)).trans zV
    have gM := (k4.other (w.heap.size + 1) (by omega) (by omega)).trans zM
    obtain ⟨W6, hW6⟩ : ∃ W6, ((((((w4.setCell ⟨w.heap.size, 0, none⟩ (.int .i64 k)).setCell ⟨w.heap.size, 1, none⟩ (.bool bo)).setCell ⟨w.heap.size, 2, none⟩ (.int .i64 x)).setCell ⟨w.heap.size, 3, none⟩ (.string t)).setCell ⟨w.heap.size, 4, none⟩ (.slice an ln cn)).setCell ⟨w.heap.size, 5, none⟩ (.slice al ll cl)) = W6 := ⟨_, rfl⟩
    obtain ⟨q1, q2, q3, q4⟩ := set6 _ _ _ _ _ _ gV hW6
    have bw6 : Below w.heap.size w W6 := q4 _ _ (Nat.le_refl _) (bW.trans (k4.below.mono (by omega)))
    have h6 : Rd W6 (w.heap.size + 1 + 1) (.slice a s.size cap) s j b' := ⟨(q2 _ (by omega)).trans h4.box, byt_mono (HBY.out.keep fun k hk => bw6.block k hk) (by omega), h4.le, h4.lb, hs, tab_keep HTB.out (bw6.block _ hg.1) (bw6.block _ hg.2), by omega, by omega⟩
    have c40 := blanks_c h6
    unfold ptr at c40
    have HFS : Hid (Fs w4 24 (Rg W.heap.size w4.heap.size) (.agg #[.int .i64 k, .bool bo, .int .i64 x, .string t, .slice an ln cn, .slice al ll cl]) (.mk k bo x t nn l)) := hfs
    have HS4 : Hid (W.heap.size ≤ w4.heap.size ∧ W6.heap.size = w4.heap.size) := ⟨k4.below.size, q3⟩
    have HQ1 : Hid (W6.heap[w.heap.size]? = some (.cells #[.int .i64 k, .bool bo, .int .i64 x, .string t, .slice an ln cn, .slice al ll cl] 27 (0, 0))) := q1
    have HQ2 : Hid (∀ b, b ≠ w.heap.size → W6.heap[b]? = w4.heap[b]?) := q2
    have HGM : Hid (w4.heap[w.heap.size + 1]? = some (.cells #[.int .i64 0, .int .i64 0] 41 (0, 0))) := gM
    have HBW : Hid (Below w.heap.size w W6) := bw6
    obtain ⟨d0, d1, d2, d3, d4, d5⟩ := six_box gV
    have f0 := frozen_box gV 0
    have f1 := frozen_box gV 1
    have f2 := frozen_box gV 2
    have f3 := frozen_box gV 3
    have f4 := frozen_box gV 4
    have f5 := frozen_box gV 5
    rw [← hW6] at c40
    have HW6 : Hid (((((((w4.setCell ⟨w.heap.size, 0, none⟩ (.int .i64 k)).setCell ⟨w.heap.size, 1, none⟩ (.bool bo)).setCell ⟨w.heap.size, 2, none⟩ (.int .i64 x)).setCell ⟨w.heap.size, 3, none⟩ (.string t)).setCell ⟨w.heap.size, 4, none⟩ (.slice an ln cn)).setCell ⟨w.heap.size, 5, none⟩ (.slice al ll cl)) = W6) := hW6
    clear hfs gV gM hW6 q1 q2 q3 q4 bw6 h6 h4 cV)
   go_wp2_with (
    go_at_call 25
    refine c40.mono ?_
    rintro e w7 ⟨⟨r7, rfl⟩, h7, k7⟩
    rw [HW6.out] at k7
    obtain ⟨kk0, kk1, kk2, ff1, ff2⟩ := h7.cells
    have HS7 : Hid (W6.heap.size ≤ w7.heap.size) := k7.below.size
    have gV := (k7.other w.heap.size (by omega) (by have := HS4.out; omega)).trans HQ1.out
    have gM := (k7.other (w.heap.size + 1) (by omega) (by have := HS4.out; omega)).trans ((HQ2.out (w.heap.size + 1) (by omega)).trans HGM.out)
    have HBL : Hid (Below w.heap.size w w7) := HBW.out.trans (k7.below.mono (by omega))
    have c41 := refuse_c h7
    unfold ptr at c41
    have HGV : Hid (w7.heap[w.heap.size]? = some (.cells #[.int .i64 k, .bool bo, .int .i64 x, .string t, .slice an ln cn, .slice al ll cl] 27 (0, 0))) := gV
    have HGM7 : Hid (w7.heap[w.heap.size + 1]? = some (.cells #[.int .i64 0, .int .i64 0] 41 (0, 0))) := gM
    obtain ⟨y0, y1, y2, y3, y4, y5⟩ := six_box gV
    obtain ⟨z0, z1⟩ := two_box gM
    have g0 := frozen_box gV 0
    have g1 := frozen_box gV 1
    have g2 := frozen_box gV 2
    have g3 := frozen_box gV 3
    have g4 := frozen_box gV 4
    have g5 := frozen_box gV 5
    have n0 := frozen_box gM 0
    have n1 := frozen_box gM 1
    have HH7 : Hid (∀ g, g ≠ w.heap.size → g ≠ w.heap.size + 1 + 1 → g < w4.heap.size → w7.heap[g]? = w4.heap[g]?) := fun g e1 e2 e3 => (k7.other g e2 (by have := HS4.out; omega)).trans (HQ2.out g e1)
    clear c40 d0 d1 d2 d3 d4 d5 f0 f1 f2 f3 f4 f5 gV gM h7 k7)
   go_wp2_with (go_at_call 26; refine c41.mono ?_; rintro e w8 ⟨rfl, rfl⟩)
   have gV := HGV.out
   have gM := HGM7.out
   refine leaves_cons (f := 23) (args := #[.pointer (some ⟨w.heap.size, 0, none⟩), .pointer (some ⟨w.heap.size + 1, 0, none⟩)]) (by simp) (by simp [go_sem]) ?_
   refine (catch_fault w.heap.size (w.heap.size + 1) 600 (blk s j : Nat) [] _ _ _ _ _ _ _ _ _ gV gM).mono ?_
   rintro e u' w5 ⟨rfl, rfl, r1, r2, r3⟩
   obtain ⟨c0, c1, c2, c3, c4, c5⟩ := six_box r1
   obtain ⟨m0, m1⟩ := two_box r2
   have HD : Hid (Below w.heap.size w w5) := HBL.out.trans (r3 _ (by omega) (by omega))
   simp [Leaves, settle, results, Tryz.results13, go_sem, c0, c1, c2, c3, c4, c5, m0, m1]
   exact ⟨HD.out, rfl⟩
  ·rw [if_neg hlt]
   go_enter_defers Tryz.func13, Tryz.ntmps13
   go_wp2_with (
    go_at_call 24
    refine cV.mono ?_
    rintro e w4 ⟨k4, ⟨u4, rfl, hfs⟩, h4⟩
    rw [HW.out] at k4 hfs
    obtain ⟨an, ln, cn, al, ll, cl, rfl⟩ := fs_shape hfs
    have gV := (k4.other w.heap.size (by omega) (by omega)).trans zV
    have gM := (k4.other (w.heap.size + 1) (by omega) (by omega)).trans zM
    obtain ⟨W6, hW6⟩ : ∃ W6, ((((((w4.setCell ⟨w.heap.size, 0, none⟩ (.int .i64 k)).setCell ⟨w.heap.size, 1, none⟩ (.bool bo)).setCell ⟨w.heap.size, 2, none⟩ (.int .i64 x)).setCell ⟨w.heap.size, 3, none⟩ (.string t)).setCell ⟨w.heap.size, 4, none⟩ (.slice an ln cn)).setCell ⟨w.heap.size, 5, none⟩ (.slice al ll cl)) = W6 := ⟨_, rfl⟩
    obtain ⟨q1, q2, q3, q4⟩ := set6 _ _ _ _ _ _ gV hW6
    have bw6 : Below w.heap.size w W6 := q4 _ _ (Nat.le_refl _) (bW.trans (k4.below.mono (by omega)))
    have h6 : Rd W6 (w.heap.size + 1 + 1) (.slice a s.size cap) s j b' := ⟨(q2 _ (by omega)).trans h4.box, byt_mono (HBY.out.keep fun k hk => bw6.block k hk) (by omega), h4.le, h4.lb, hs, tab_keep HTB.out (bw6.block _ hg.1) (bw6.block _ hg.2), by omega, by omega⟩
    have c40 := blanks_c h6
    unfold ptr at c40
    have HFS : Hid (Fs w4 24 (Rg W.heap.size w4.heap.size) (.agg #[.int .i64 k, .bool bo, .int .i64 x, .string t, .slice an ln cn, .slice al ll cl]) (.mk k bo x t nn l)) := hfs
    have HS4 : Hid (W.heap.size ≤ w4.heap.size ∧ W6.heap.size = w4.heap.size) := ⟨k4.below.size, q3⟩
    have HQ1 : Hid (W6.heap[w.heap.size]? = some (.cells #[.int .i64 k, .bool bo, .int .i64 x, .string t, .slice an ln cn, .slice al ll cl] 27 (0, 0))) := q1
    have HQ2 : Hid (∀ b, b ≠ w.heap.size → W6.heap[b]? = w4.heap[b]?) := q2
    have HGM : Hid (w4.heap[w.heap.size + 1]? = some (.cells #[.int .i64 0, .int .i64 0] 41 (0, 0))) := gM
    have HBW : Hid (Below w.heap.size w W6) := bw6
    obtain ⟨d0, d1, d2, d3, d4, d5⟩ := six_box gV
    have f0 := frozen_box gV 0
    have f1 := frozen_box gV 1
    have f2 := frozen_box gV 2
    have f3 := frozen_box gV 3
    have f4 := frozen_box gV 4
    have f5 := frozen_box gV 5
    rw [← hW6] at c40
    have HW6 : Hid (((((((w4.setCell ⟨w.heap.size, 0, none⟩ (.int .i64 k)).setCell ⟨w.heap.size, 1, none⟩ (.bool bo)).setCell ⟨w.heap.size, 2, none⟩ (.int .i64 x)).setCell ⟨w.heap.size, 3, none⟩ (.string t)).setCell ⟨w.heap.size, 4, none⟩ (.slice an ln cn)).setCell ⟨w.heap.size, 5, none⟩ (.slice al ll cl)) = W6) := hW6
    clear hfs gV gM hW6 q1 q2 q3 q4 bw6 h6 h4 cV)
   go_wp2_with (
    go_at_call 25
    refine c40.mono ?_
    rintro e w7 ⟨⟨r7, rfl⟩, h7, k7⟩
    rw [HW6.out] at k7
    obtain ⟨kk0, kk1, kk2, ff1, ff2⟩ := h7.cells
    have HS7 : Hid (W6.heap.size ≤ w7.heap.size) := k7.below.size
    have gV := (k7.other w.heap.size (by omega) (by have := HS4.out; omega)).trans HQ1.out
    have gM := (k7.other (w.heap.size + 1) (by omega) (by have := HS4.out; omega)).trans ((HQ2.out (w.heap.size + 1) (by omega)).trans HGM.out)
    have HBL : Hid (Below w.heap.size w w7) := HBW.out.trans (k7.below.mono (by omega))
    have c41 := refuse_c h7
    unfold ptr at c41
    have HGV : Hid (w7.heap[w.heap.size]? = some (.cells #[.int .i64 k, .bool bo, .int .i64 x, .string t, .slice an ln cn, .slice al ll cl] 27 (0, 0))) := gV
    have HGM7 : Hid (w7.heap[w.heap.size + 1]? = some (.cells #[.int .i64 0, .int .i64 0] 41 (0, 0))) := gM
    obtain ⟨y0, y1, y2, y3, y4, y5⟩ := six_box gV
    obtain ⟨z0, z1⟩ := two_box gM
    have g0 := frozen_box gV 0
    have g1 := frozen_box gV 1
    have g2 := frozen_box gV 2
    have g3 := frozen_box gV 3
    have g4 := frozen_box gV 4
    have g5 := frozen_box gV 5
    have n0 := frozen_box gM 0
    have n1 := frozen_box gM 1
    have HH7 : Hid (∀ g, g ≠ w.heap.size → g ≠ w.heap.size + 1 + 1 → g < w4.heap.size → w7.heap[g]? = w4.heap[g]?) := fun g e1 e2 e3 => (k7.other g e2 (by have := HS4.out; omega)).trans (HQ2.out g e1)
    clear c40 d0 d1 d2 d3 d4 d5 f0 f1 f2 f3 f4 f5 gV gM h7 k7)
   go_region
   obtain ⟨W8, hW8⟩ : ∃ W8, ((((((w7.setCell ⟨w.heap.size, 0, none⟩ (.int .i64 k)).setCell ⟨w.heap.size, 1, none⟩ (.bool bo)).setCell ⟨w.heap.size, 2, none⟩ (.int .i64 x)).setCell ⟨w.heap.size, 3, none⟩ (.string t)).setCell ⟨w.heap.size, 4, none⟩ (.slice an ln cn)).setCell ⟨w.heap.size, 5, none⟩ (.slice al ll cl)) = W8 := ⟨_, rfl⟩
   rw [hW8]
   obtain ⟨p1, p2, p3, p4⟩ := set6 _ _ _ _ _ _ HGV.out hW8
   obtain ⟨W9, hW9⟩ : ∃ W9, (W8.setCell ⟨w.heap.size + 1, 0, none⟩ (.int .i64 0)).setCell ⟨w.heap.size + 1, 1, none⟩ (.int .i64 0) = W9 := ⟨_, rfl⟩
   rw [hW9]
   have v9 : W9.heap[w.heap.size]? = some (.cells #[.int .i64 k, .bool bo, .int .i64 x, .string t, .slice an ln cn, .slice al ll cl] 27 (0, 0)) := by rw [← hW9, Below.heap_setCell _ _ _ _ (by simp), Below.heap_setCell _ _ _ _ (by simp)]; exact p1
   have m9 : W9.heap[w.heap.size + 1]? = some (.cells #[.int .i64 0, .int .i64 0] 41 (0, 0)) := by
    rw [← hW9, block_set (block_set ((p2 _ (by omega)).trans HGM7.out) _) _]; rfl
   have o9 : ∀ g, g ≠ w.heap.size → g ≠ w.heap.size + 1 → W9.heap[g]? = w7.heap[g]? := fun g e1 e2 => by rw [← hW9, Below.heap_setCell _ _ _ _ e2, Below.heap_setCell _ _ _ _ e2]; exact p2 g e1
   go_wp2_with fail
   have s9 : W9.heap.size = w7.heap.size := by rw [← hW9, ← p3]; simp [World.setCell]
   have b9 : Below w.heap.size w W9 := by rw [← hW9]; exact ((p4 _ _ (Nat.le_refl _) HBL.out).setCell (p := ⟨w.heap.size + 1, 0, none⟩) (by simp) _).setCell (p := ⟨w.heap.size + 1, 1, none⟩) (by simp) _
   have z4 := HS4.out
   have z7 := HS7.out
   refine leaves_cons (f := 23) (args := #[.pointer (some ⟨w.heap.size, 0, none⟩), .pointer (some ⟨w.heap.size + 1, 0, none⟩)]) (by simp) (by simp [go_sem]) ?_
   refine (catch_idle ⟨w.heap.size, 0, none⟩ ⟨w.heap.size + 1, 0, none⟩ W9.drew).mono ?_
   rintro e u' wa ⟨rfl, rfl, ba⟩
   have ba : Below W9.heap.size W9 wa := (Below.refl _ W9).drew.trans ba
   have sa := ba.size
   obtain ⟨c0, c1, c2, c3, c4, c5⟩ := six_box ((ba.block w.heap.size (by omega)).trans v9)
   obtain ⟨m0, m1⟩ := two_box ((ba.block (w.heap.size + 1) (by omega)).trans m9)
   have HD : Hid (Below w.heap.size w wa) := b9.trans (ba.mono (by omega))
   have HF : Hid (Fs wa 24 (Rg w.heap.size wa.heap.size) (.agg #[.int .i64 k, .bool bo, .int .i64 x, .string t, .slice an ln cn, .slice al ll cl]) (.mk k bo x t nn l)) :=
    ((HFS.out.keep fun g hg hlt => (ba.block g (by omega)).trans ((o9 g (by have := hg.1; omega) (by have := hg.1; omega)).trans (HH7.out g (by have := hg.1; omega) (by have := hg.1; omega) hlt))).weak _ (Nat.le_refl _) fun g hg => ⟨by have := hg.1; omega, by have := hg.2; omega⟩)
   simp [Leaves, settle, results, Tryz.results13, go_sem, c0, c1, c2, c3, c4, c5, m0, m1]
   exact ⟨HD.out, _, rfl, HF.out⟩
end Go.Proofs.YthkpbhgbmagaeaaGreatDoor.Doc
namespace Go.Proofs.YthkpbhgbmagaeaaGreatDoor.Prs
open Go.RowKit Go.Proofs.YthkpbhgbmagaeaaGreatDoor.Base Go.Proofs.YthkpbhgbmagaeaaGreatDoor.UBase Go.Proofs.YthkpbhgbmagaeaaGreatDoor.Spec Go.Proofs.YthkpbhgbmagaeaaGreatDoor.Rdr Go.Proofs.YthkpbhgbmagaeaaGreatDoor.Own Go.Proofs.YthkpbhgbmagaeaaGreatDoor.LState Go.Proofs.YthkpbhgbmagaeaaGreatDoor.Doc
set_option linter.unusedVariables false
/-- What comes of Parse. -/
def Pout (w : World) (X : Except F C) (e : Ending) (w' : World) : Prop := Below w.heap.size w w' ∧ match X with
 | .ok c => ∃ u, e = .returned (.tuple #[u, .int .i64 0, .int .i64 0]) ∧ Fs w' 24 (Rg w.heap.size w'.heap.size) u c
 | .error x => e = .returned (.tuple #[.agg #[.int .i64 0, .bool false, .int .i64 0, .string ⟨#[]⟩, .slice none 0 0, .slice none 0 0], .int .i64 x.2, .int .i64 x.1])
set_option maxRecDepth 20000 in
set_option maxHeartbeats 1600000 in
theorem parse_long {a : Option Addr} {cap : Nat} {w : World} {s : ByteArray} (hs : ¬ s.size ≤ 65536) :
  Calls Tryz.prog 5 #[.slice a s.size cap] w (Pout w (prs s)) := by
 have e : prs s = .error (605, 0) := by rw [prs, if_pos (by omega)]
 rw [e]
 have hlt : (65536 : Int) < s.size := by omega
 go_enter Tryz.func5, Tryz.ntmps5
 go_wp2_with fail
 refine bodyPost_ret (v := .tuple #[.agg #[.int .i64 0, .bool false, .int .i64 0, .string ⟨#[]⟩, .slice none 0 0, .slice none 0 0], .int .i64 0, .int .i64 605]) (by simp [results, Tryz.results5, go_sem]) rfl ?_
 exact ⟨(Below.refl _ w).alloc (Nat.le_refl _) _, rfl⟩
set_option maxRecDepth 20000 in
set_option maxHeartbeats 3200000 in
theorem parse_gen {a : Option Addr} {cap : Nat} {w : World} {s : ByteArray} (hs : s.size ≤ 65536) (Q : Value → Int → Int → World → Prop)
  (cD : Calls Tryz.prog 13 #[.slice a s.size cap] (w.alloc (.cells #[.int .i64 0, .bool false, .int .i64 0, .string ⟨#[]⟩, .slice none 0 0, .slice none 0 0] 27)) fun e w' => ∃ k bo x t an ln cn al ll cl c0 c1, e = .returned (.tuple #[.agg #[.int .i64 k, .bool bo, .int .i64 x, .string t, .slice an ln cn, .slice al ll cl], .agg #[.int .i64 c0, .int .i64 c1]]) ∧ w.heap.size < w'.heap.size ∧ Below w.heap.size w w' ∧ w'.heap[w.heap.size]? = some (.cells #[.int .i64 0, .bool false, .int .i64 0, .string ⟨#[]⟩, .slice none 0 0, .slice none 0 0] 27 (0, 0)) ∧ Q (.agg #[.int .i64 k, .bool bo, .int .i64 x, .string t, .slice an ln cn, .slice al ll cl]) c0 c1 w') :
  Calls Tryz.prog 5 #[.slice a s.size cap] w fun e w'' => ∃ u c0 c1 w4, Q u c0 c1 w4 ∧ e = .returned (.tuple #[u, .int .i64 c1, .int .i64 c0]) ∧ w.heap.size < w4.heap.size ∧ Below w.heap.size w w'' ∧ (∀ g, g ≠ w.heap.size → g < w4.heap.size → w''.heap[g]? = w4.heap[g]?) ∧ w4.heap.size ≤ w''.heap.size := by
 have hlt : ¬ (65536 : Int) < s.size := by omega
 go_enter Tryz.func5, Tryz.ntmps5
 go_wp2_with (
  go_at_call 13
  refine cD.mono ?_
  rintro e w4 ⟨k, bo, x, t, an, ln, cn, al, ll, cl, c0, c1, rfl, l4, b4, gV, hQ⟩
  have HGV : Hid (w4.heap[w.heap.size]? = some (.cells #[.int .i64 0, .bool false, .int .i64 0, .string ⟨#[]⟩, .slice none 0 0, .slice none 0 0] 27 (0, 0))) := gV
  have HB4 : Hid (Below w.heap.size w w4) := b4
  have HQ : Hid (Q (.agg #[.int .i64 k, .bool bo, .int .i64 x, .string t, .slice an ln cn, .slice al ll cl]) c0 c1 w4) := hQ
  clear gV b4 hQ)
 obtain ⟨W5, hW5⟩ : ∃ W5, (w4.alloc (.cells #[.int .i64 k, .bool bo, .int .i64 x, .string t, .slice an ln cn, .slice al ll cl] 27)).alloc (.cells #[.int .i64 c0, .int .i64 c1] 41) = W5 := ⟨_, rfl⟩
 rw [hW5]
 have b5 : Below w4.heap.size w4 W5 := by rw [← hW5]; exact ((Below.refl _ w4).alloc (Nat.le_refl _) _).alloc (by simp) _
 have s5 : W5.heap.size = w4.heap.size + 2 := by rw [← hW5]; simp
 have u5 : W5.heap[w4.heap.size]? = some (.cells #[.int .i64 k, .bool bo, .int .i64 x, .string t, .slice an ln cn, .slice al ll cl] 27 (0, 0)) := by rw [← hW5, Below.heap_alloc _ _ _ (by simp), heap_alloc_new]
 have m5 : W5.heap[w4.heap.size + 1]? = some (.cells #[.int .i64 c0, .int .i64 c1] 41 (0, 0)) := by
  rw [← hW5]
  have := heap_alloc_new (w4.alloc (.cells #[.int .i64 k, .bool bo, .int .i64 x, .string t, .slice an ln cn, .slice al ll cl] 27)) (.cells #[.int .i64 c0, .int .i64 c1] 41)
  rwa [World.size_alloc] at this
 have v5 := (b5.block w.heap.size l4).trans HGV.out
 obtain ⟨d0, d1, d2, d3, d4, d5⟩ := six_box v5
 obtain ⟨e0, e1, e2, e3, e4, e5⟩ := six_box u5
 obtain ⟨m0, m1⟩ := two_box m5
 have f0 := frozen_box v5 0
 have f1 := frozen_box v5 1
 have f2 := frozen_box v5 2
 have f3 := frozen_box v5 3
 have f4 := frozen_box v5 4
 have f5 := frozen_box v5 5
 have n1 : w.heap.size ≠ w4.heap.size := by omega
 have n2 : w4.heap.size ≠ w.heap.size := by omega
 have n3 : w.heap.size ≠ w4.heap.size + 1 := by omega
 have n4 : w4.heap.size + 1 ≠ w.heap.size := by omega
 have HV5 : Hid (W5.heap[w.heap.size]? = some (.cells #[.int .i64 0, .bool false, .int .i64 0, .string ⟨#[]⟩, .slice none 0 0, .slice none 0 0] 27 (0, 0))) := v5
 have HB5 : Hid (Below w4.heap.size w4 W5) := b5
 have HS5 : Hid (W5.heap.size = w4.heap.size + 2) := s5
 clear hW5 v5 u5 m5 b5 s5 cD
 go_region
 obtain ⟨W6, hW6⟩ : ∃ W6, ((((((W5.setCell ⟨w.heap.size, 0, none⟩ (.int .i64 k)).setCell ⟨w.heap.size, 1, none⟩ (.bool bo)).setCell ⟨w.heap.size, 2, none⟩ (.int .i64 x)).setCell ⟨w.heap.size, 3, none⟩ (.string t)).setCell ⟨w.heap.size, 4, none⟩ (.slice an ln cn)).setCell ⟨w.heap.size, 5, none⟩ (.slice al ll cl)) = W6 := ⟨_, rfl⟩
 rw [hW6]
 obtain ⟨q1, q2, q3, q4⟩ := set6 _ _ _ _ _ _ HV5.out hW6
 go_wp2_with fail
 have v6 : W6.drew.heap[w.heap.size]? = _ := q1
 obtain ⟨p0, p1, p2, p3, p4, p5⟩ := six_box v6
 refine bodyPost_ret (v := .tuple #[.agg #[.int .i64 k, .bool bo, .int .i64 x, .string t, .slice an ln cn, .slice al ll cl], .int .i64 c1, .int .i64 c0]) (by simp [results, Tryz.results5, go_sem, p0, p1, p2, p3, p4, p5]) rfl ?_
 have s5 := HS5.out
 exact ⟨_, c0, c1, w4, HQ.out, rfl, l4, (q4 _ _ (Nat.le_refl _) (HB4.out.trans (HB5.out.mono (by omega)))).drew, fun g h1 h2 => (q2 g h1).trans (HB5.out.block g h2), by show _ ≤ W6.heap.size; omega⟩
theorem parse_short {a : Option Addr} {cap : Nat} {w : World} {s : ByteArray} (hv : VIs 24 1 24) (hs : s.size ≤ 65536) (hb : Byt w w.heap.size (.slice a s.size cap) s) (ht : Lib.Utf8Tabs 0 1 w) (hg : 0 < w.heap.size ∧ 1 < w.heap.size) :
  Calls Tryz.prog 5 #[.slice a s.size cap] w (Pout w (prs s)) := by
 have e : prs s = dcs s := by rw [prs, if_neg (by omega)]; rfl
 rw [e]
 obtain ⟨W0, hW0⟩ : ∃ W0, w.alloc (.cells #[.int .i64 0, .bool false, .int .i64 0, .string ⟨#[]⟩, .slice none 0 0, .slice none 0 0] 27) = W0 := ⟨_, rfl⟩
 have b0 : Below w.heap.size w W0 := by rw [← hW0]; exact (Below.refl _ w).alloc (Nat.le_refl _) _
 have s0 : W0.heap.size = w.heap.size + 1 := by rw [← hW0]; simp
 have hz : W0.heap[w.heap.size]? = some (.cells #[.int .i64 0, .bool false, .int .i64 0, .string ⟨#[]⟩, .slice none 0 0, .slice none 0 0] 27 (0, 0)) := by rw [← hW0]; exact heap_alloc_new w _
 have cD := doc_c (w := W0) hv hs (byt_mono (hb.keep fun k hk => b0.block k hk) (by omega)) (tab_keep ht (b0.block _ hg.1) (b0.block _ hg.2)) ⟨by omega, by omega⟩
 generalize dcs s = X at cD ⊢
 cases X with
 | error x =>
  refine (parse_gen hs (fun u c0 c1 w4 => u = .agg #[.int .i64 0, .bool false, .int .i64 0, .string ⟨#[]⟩, .slice none 0 0, .slice none 0 0] ∧ c0 = x.1 ∧ c1 = x.2) ?_).mono ?_
  ·rw [hW0]
   refine cD.mono ?_
   rintro e w4 ⟨b4, rfl⟩
   exact ⟨_, _, _, _, _, _, _, _, _, _, _, _, rfl, by have := b4.size; omega, b0.trans (b4.mono (by omega)), (b4.block _ (by omega)).trans hz, rfl, rfl, rfl⟩
  ·rintro e w' ⟨u, c0, c1, w4, ⟨rfl, rfl, rfl⟩, rfl, -, h2, -, -⟩
   exact ⟨h2, rfl⟩
 | ok c =>
  obtain ⟨k, bo, x, t, nn, l⟩ := c
  refine (parse_gen hs (fun u c0 c1 w4 => c0 = 0 ∧ c1 = 0 ∧ Fs w4 24 (Rg W0.heap.size w4.heap.size) u (.mk k bo x t nn l)) ?_).mono ?_
  ·rw [hW0]
   refine cD.mono ?_
   rintro e w4 ⟨b4, u, rfl, hfs⟩
   obtain ⟨an, ln, cn, al, ll, cl, rfl⟩ := fs_shape hfs
   exact ⟨_, _, _, _, _, _, _, _, _, _, _, _, rfl, by have := b4.size; omega, b0.trans (b4.mono (by omega)), (b4.block _ (by omega)).trans hz, rfl, rfl, hfs⟩
  ·rintro e w' ⟨u, c0, c1, w4, ⟨rfl, rfl, hfs⟩, rfl, l4, h2, h3, h4⟩
   exact ⟨h2, u, rfl, (hfs.keep fun g hg hlt => h3 g (by have := hg.1; omega) hlt).weak _ (Nat.le_refl _) fun g hg => ⟨by have := hg.1; omega, by have := hg.2; omega⟩⟩
theorem parse_c {a : Option Addr} {cap : Nat} {w : World} {s : ByteArray} (hv : VIs 24 1 24) (hb : Byt w w.heap.size (.slice a s.size cap) s) (ht : Lib.Utf8Tabs 0 1 w) (hg : 0 < w.heap.size ∧ 1 < w.heap.size) :
  Calls Tryz.prog 5 #[.slice a s.size cap] w (Pout w (prs s)) := by
 by_cases hs : s.size ≤ 65536
 ·exact parse_short hv hs hb ht hg
 ·exact parse_long hs
end Go.Proofs.YthkpbhgbmagaeaaGreatDoor.Prs

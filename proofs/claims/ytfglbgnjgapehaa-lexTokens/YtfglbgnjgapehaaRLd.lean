/- The reference's lexer: its box, and its small steps. -/
import Derived.Test.YtfglbgnjgapehaaLCv
import Derived.Test.YtfglbgnjgapehaaLHs
import Derived.Test.YtfglbgnjgapehaaHRplain
import Derived.BigQuiet
import Derived.LoopTactic
namespace Go.Proofs.Ytfglbgnjgapehaa.RLd
open Go.RowKit Go.Proofs.Ytfglbgnjgapehaa.UBase Go.Proofs.Ytfglbgnjgapehaa.EPure Go.Proofs.Ytfglbgnjgapehaa.LPure Go.Proofs.Ytfglbgnjgapehaa.LRd Go.Proofs.Ytfglbgnjgapehaa.LSk Go.Proofs.Ytfglbgnjgapehaa.LNm Go.Proofs.Ytfglbgnjgapehaa.LIn Go.Proofs.Ytfglbgnjgapehaa.LMu Go.Proofs.Ytfglbgnjgapehaa.LTk Go.Proofs.Ytfglbgnjgapehaa.LLy Go.Proofs.Ytfglbgnjgapehaa.LLz Go.Proofs.Ytfglbgnjgapehaa.LCv Go.Proofs.Ytfglbgnjgapehaa.LHs
set_option linter.unusedVariables false

/-- The lexer in block R: the text, the place, the tokens so far, the first fault. -/
structure Rl (w : World) (R : Nat) (s : ByteArray) (i : Nat) (ov : Value) (f : F) : Prop where
  box : w.heap[R]? = some (.cells #[.string s, .int .i64 i, ov, .int .i64 f.1, .int .i64 f.2] 49 (0, 0))
  la : i ≤ s.size
  sz : s.size ≤ 65536
theorem Rl.lt {w : World} {R : Nat} {s : ByteArray} {i : Nat} {ov : Value} {f : F} (h : Rl w R s i ov f) : R < w.heap.size := (Array.getElem?_eq_some_iff.1 h.box).1
theorem Rl.keep {w w' : World} {R : Nat} {s : ByteArray} {i : Nat} {ov : Value} {f : F} (h : Rl w R s i ov f) (hk : w'.heap[R]? = w.heap[R]?) : Rl w' R s i ov f := ⟨hk.trans h.box, h.la, h.sz⟩
theorem Rl.drewN {w : World} {R : Nat} {s : ByteArray} {i : Nat} {ov : Value} {f : F} (h : Rl w R s i ov f) (n : Nat) : Rl (w.drewN n) R s i ov f := h.keep rfl
theorem Rl.cells {w : World} {R : Nat} {s : ByteArray} {i : Nat} {ov : Value} {f : F} (h : Rl w R s i ov f) :
    w.cell? ⟨R, 0, none⟩ = some (.string s) ∧ w.cell? ⟨R, 1, none⟩ = some (.int .i64 i) ∧ w.cell? ⟨R, 2, none⟩ = some ov ∧ w.cell? ⟨R, 3, none⟩ = some (.int .i64 f.1) ∧ w.cell? ⟨R, 4, none⟩ = some (.int .i64 f.2) := by
  have hx := h.box
  simp [World.cell?, hx]
theorem Rl.free {w : World} {R : Nat} {s : ByteArray} {i : Nat} {ov : Value} {f : F} (h : Rl w R s i ov f) (j : Nat) : w.frozen? ⟨R, j, none⟩ = false := by
  have hx := h.box
  simp [World.frozen?, hx]
theorem Rl.go {w : World} {R : Nat} {s : ByteArray} {i : Nat} {ov : Value} {f : F} (h : Rl w R s i ov f) (j : Nat) (hj : j ≤ s.size) : Rl (w.setCell ⟨R, 1, none⟩ (.int .i64 j)) R s j ov f :=
  ⟨by simp [World.setCell, Array.getElem?_modify, h.box], hj, h.sz⟩
theorem Rl.out {w : World} {R : Nat} {s : ByteArray} {i : Nat} {ov : Value} {f : F} (h : Rl w R s i ov f) (v : Value) : Rl (w.setCell ⟨R, 2, none⟩ v) R s i v f :=
  ⟨by simp [World.setCell, Array.getElem?_modify, h.box], h.la, h.sz⟩
theorem Rl.bad {w : World} {R : Nat} {s : ByteArray} {i : Nat} {ov : Value} {f : F} (h : Rl w R s i ov f) (e : F) : Rl ((w.setCell ⟨R, 3, none⟩ (.int .i64 e.1)).setCell ⟨R, 4, none⟩ (.int .i64 e.2)) R s i ov e :=
  ⟨by simp [World.setCell, Array.getElem?_modify, h.box], h.la, h.sz⟩
/-- Only the lexer's box has changed. -/
theorem kr_set {R : Nat} (w : World) (j : Nat) (u : Value) : Kr R w (w.setCell ⟨R, j, none⟩ u) := (Kr.refl R w).set j u
theorem fail_c {w : World} {R : Nat} {s : ByteArray} {i : Nat} {ov : Value} {f : F} (h : Rl w R s i ov f) (e : F) :
    Calls Try.prog 32 #[ptr R, .int .i64 e.1, .int .i64 e.2] w fun r w' => (∃ v, r = .returned v) ∧ Rl w' R s i ov (rf f e) ∧ Kr R w w' := by
  obtain ⟨k0, k1, k2, k3, k4⟩ := h.cells
  have f3 := h.free 3
  have f4 := (h.bad e).free 4
  have f4' := h.free 4
  unfold ptr
  by_cases h0 : f.1 = 0
  · have d : ((f.1 : Int) == 0) = true := by simp [h0]
    have HB : Hid (Rl ((w.setCell ⟨R, 3, none⟩ (.int .i64 e.1)).setCell ⟨R, 4, none⟩ (.int .i64 e.2)) R s i ov (rf f e)) := by unfold rf; rw [if_pos h0]; exact h.bad e
    clear h h0
    go_enter Try.func32, Try.ntmps32
    go_wp2_with fail
    go_end0
    exact ⟨⟨_, rfl⟩, HB.out, ((Kr.refl R w).set 3 _).set 4 _⟩
  · have d : ((f.1 : Int) == 0) = false := by simp; omega
    have HB : Hid (Rl w R s i ov (rf f e)) := by unfold rf; rw [if_neg h0]; exact h
    clear h h0
    go_enter Try.func32, Try.ntmps32
    go_wp2_with fail
    go_end0
    exact ⟨⟨_, rfl⟩, HB.out, Kr.refl _ _⟩
theorem blank_c (c : Nat) (w : World) : Calls Try.prog 48 #[.int .u8 c] w fun r w' => r = .returned (.bool (isb c)) ∧ w' = w := by
  unfold isb
  go_enter Try.func48, Try.ntmps48
  by_cases h1 : c = 32
  · subst h1; go_wp2_with fail; go_ret; exact ⟨rfl, rfl⟩
  by_cases h2 : c = 9
  · subst h2; go_wp2_with fail; go_ret; exact ⟨rfl, rfl⟩
  by_cases h3 : c = 10
  · subst h3; go_wp2_with fail; go_ret; exact ⟨rfl, rfl⟩
  have e1 : ((c : Int) == 32) = false := by simp; omega
  have e2 : ((c : Int) == 9) = false := by simp; omega
  have e3 : ((c : Int) == 10) = false := by simp; omega
  by_cases h4 : c = 13
  · subst h4; go_wp2_with fail; go_ret; exact ⟨rfl, rfl⟩
  have e4 : ((c : Int) == 13) = false := by simp; omega
  have hb : (c == 32 || (c == 9 || (c == 10 || c == 13))) = false := by simp [h1, h2, h3, h4]
  rw [hb]
  clear h1 h2 h3 h4 hb
  go_wp2_with fail
  go_ret
  exact ⟨rfl, rfl⟩
theorem here_c {w : World} {R : Nat} {s : ByteArray} {i : Nat} {ov : Value} {f : F} (h : Rl w R s i ov f) (x : ByteArray) (hx : x.size ≤ 16) :
    Calls Try.prog 21 #[ptr R, .string x] w fun r w' => r = .returned (.bool (pre s i x.data.toList)) ∧ ∃ n, w' = w.drewN n := by
  obtain ⟨k0, k1, k2, k3, k4⟩ := h.cells
  have hla := h.la
  have hsz := h.sz
  unfold ptr
  by_cases hl : i + x.size ≤ s.size
  · rw [← ext_pre hl]
    have d : decide ((x.size : Int) ≤ (s.size : Int) - (i : Int)) = true := decide_eq_true (by omega)
    have b1 : (0 : Int) ≤ (i : Int) := by omega
    have b2 : (i : Int) ≤ (i : Int) + (x.size : Int) := by omega
    have b3 : (i : Int) + (x.size : Int) ≤ (s.size : Int) := by omega
    clear h
    go_enter Try.func21, Try.ntmps21
    go_wp2_with fail
    go_quiet (fail)
    go_wp2_with fail
    go_ret
    exact ⟨rfl, nq, rfl⟩
  · have e : pre s i x.data.toList = false := by rw [pre_occ, len_l, decide_eq_false hl, Bool.false_and]
    rw [e]
    have d : decide ((x.size : Int) ≤ (s.size : Int) - (i : Int)) = false := decide_eq_false (by omega)
    clear h
    go_enter Try.func21, Try.ntmps21
    go_wp2_with fail
    go_quiet (fail)
    go_wp2_with fail
    go_ret
    exact ⟨rfl, nq, rfl⟩
end Go.Proofs.Ytfglbgnjgapehaa.RLd

/- Operations by themselves (package verify): grows, isValue, inside, updateFault, isItem. -/
import Derived.Test.YtgknjjaemjkloaaBIx
namespace Go.Proofs.Ytgknjjaemjkloaa.BSm
open Go.RowKit Go.Proofs.Ytgknjjaemjkloaa.BPl Go.Proofs.Ytgknjjaemjkloaa.YRr Go.Proofs.Ytgknjjaemjkloaa.YRs Go.Proofs.Ytgknjjaemjkloaa.BBx Go.Proofs.Ytgknjjaemjkloaa.BIx
open Go.Proofs.Ytgknjjaemjkloaa.YPl (Oq Bk Pg)
open Go.Proofs.Ytgknjjaemjkloaa.TBase (T Keep)
open Go.Proofs.Ytgknjjaemjkloaa.IBase (heap_alloc_new)
open Go.Proofs.Ytgknjjaemjkloaa.CBx (w64)
set_option linter.unusedVariables false

/-- An operation as a value. -/
abbrev opv (o : Oq) (v : Value) : Value := .agg #[.int .i64 o.k, .int .i64 o.a, .int .i64 o.b, .int .i64 o.c, v]
theorem box5 (w : World) (x0 x1 x2 x3 x4 : Value) (t : TypeId) : ∃ W, w.alloc (.cells #[x0, x1, x2, x3, x4] t) = W ∧ Below w.heap.size w W ∧ W.heap.size = w.heap.size + 1 ∧ W.heap[w.heap.size]? = some (.cells #[x0, x1, x2, x3, x4] t (0, 0)) :=
  ⟨_, rfl, (Below.refl _ w).alloc (Nat.le_refl _) _, by simp, heap_alloc_new w _⟩
theorem grows_c (o : Oq) (a : Option Addr) (cap : Nat) (w : World) :
    Calls Try.prog 105 #[opv o (.slice a o.l.length cap)] w fun e w' => e = .returned (.int .i64 (grows o)) ∧ Below w.heap.size w w' := by
  obtain ⟨k, x, y, z, l⟩ := o
  obtain ⟨W, hW, hb, hs, hx⟩ := box5 w (.int .i64 k) (.int .i64 x) (.int .i64 y) (.int .i64 z) (.slice a l.length cap) 46
  have c0 := cell_of hx 0 _ rfl
  have c4 := cell_of hx 4 _ rfl
  unfold grows
  dsimp only at *
  clear hx
  have hB : Hid (Below w.heap.size w W) := hb
  clear hb
  by_cases h9 : k = 9
  · have d9 : (k == 9) = true := by simp [h9]
    rw [if_pos h9]
    clear h9
    go_enter Try.func105, Try.ntmps105
    go_wp2_with fail
    go_ret
    exact ⟨rfl, hB.out⟩
  have d9 : (k == 9) = false := by simp [h9]
  rw [if_neg h9]
  by_cases h10 : k = 10
  · have d10 : (k == 10) = true := by simp [h10]
    rw [if_pos h10]
    clear h9 h10
    go_enter Try.func105, Try.ntmps105
    go_wp2_with fail
    go_ret
    exact ⟨rfl, hB.out⟩
  have d10 : (k == 10) = false := by simp [h10]
  rw [if_neg h10]
  by_cases h11 : k = 11
  · have d11 : (k == 11) = true := by simp [h11]
    rw [if_pos h11]
    clear h9 h10 h11
    go_enter Try.func105, Try.ntmps105
    go_wp2_with fail
    go_ret
    exact ⟨rfl, hB.out⟩
  have d11 : (k == 11) = false := by simp [h11]
  rw [if_neg h11]
  clear h9 h10 h11
  go_enter Try.func105, Try.ntmps105
  go_wp2_with fail
  go_ret
  exact ⟨rfl, hB.out⟩
/-- What is in R stays where only newer blocks come. -/
theorem keep_of {R : Nat → Prop} {w w' : World} (hb : Below w.heap.size w w') : Keep R w w' := fun b _ hl => hb.block b hl
theorem isValue_c {R : Nat → Prop} {w : World} {B P : Nat} {S : Sh} {hv : Value} {A : Ar} {nb : Nat} {ov : Value} {lt : Int} {uv : Value} {cl : Int} (h : Pw R w P S hv) (hB : Bw w B P A nb ov lt uv cl) (o : Oq) (a : Option Addr) (cap : Nat) :
    Calls Try.prog 133 #[.pointer (some ⟨B, 0, none⟩), opv o (.slice a o.l.length cap)] w fun e w' => e = .returned (.bool (isV S o)) ∧ Below w.heap.size w w' := by
  obtain ⟨k, x, y, z, l⟩ := o
  obtain ⟨W, hW, hb, hs, hx⟩ := box5 w (.int .i64 k) (.int .i64 x) (.int .i64 y) (.int .i64 z) (.slice a l.length cap) 46
  have c0 := cell_of hx 0 _ rfl
  have c2 := cell_of hx 2 _ rfl
  have h' := h.keep (keep_of hb)
  have b0 := cell_of (hB.keep hb) 0 _ rfl
  have cT := fun m => isText_c (h'.drewN m) y
  have cC := fun m => isCode_c (h'.drewN m) y
  unfold isV
  dsimp only at *
  clear hx h h' hB
  have HB : Hid (Below w.heap.size w W) := hb
  clear hb
  generalize isN y S.t.length = p at *
  generalize isN y S.n.length = q at *
  cases d4 : (k == 4) <;> (
    go_enter Try.func133, Try.ntmps133
    go_wp2_with fail
    go_quiet (first | (go_at_call 132; exact Calls.quiet_of_same (cT _)) | (go_at_call 135; exact Calls.quiet_of_same (cC _)))
    go_wp2_with fail
    go_ret
    exact ⟨rfl, IBase.below_drewN HB.out⟩)
theorem upd_cons (n : Nat) (m : Int) {u : List Int} {q : Nat} (h : q < u.length) : BPl.upd n m q (u.drop q) = if u[q] < m ∨ (n : Int) ≤ u[q] then ((q : Int), 2207) else BPl.upd n (u[q] + 1) (q + 1) (u.drop (q + 1)) := by
  rw [List.drop_eq_getElem_cons h, BPl.upd]
set_option maxRecDepth 20000 in
set_option maxHeartbeats 1600000 in
theorem update_c {R : Nat → Prop} {w : World} {v : Value} {u : List Int} (hin : RrS 1 LyI R w v u) (n : Nat) (hn : n ≤ 140737488351232) :
    Calls Try.prog 65 #[v, .int .i64 n] w fun e w' => e = .returned (.tuple #[.int .i64 (BPl.upd n 0 0 u).1, .int .i64 (BPl.upd n 0 0 u).2]) ∧ w' = w := by
  have HIN : Hid (RrS 1 LyI R w v u) := hin
  obtain ⟨a, cap, rfl, hlc, hcm, h47, hnil, hL⟩ := hin
  obtain ⟨T, hT⟩ : ∃ T, BPl.upd n 0 0 u = T := ⟨_, rfl⟩
  have HT : Hid (BPl.upd n 0 0 (u.drop 0) = T) := hT
  rw [hT]
  clear hT hL hnil
  go_enter Try.func65, Try.ntmps65
  go_wp2_with fail
  go_loopw [6, 11] (fun m i wr => ∃ (q : Nat) (x : Int), q ≤ u.length ∧ i = .int .i64 q ∧ m = .int .i64 x ∧ -9223372036854775808 ≤ x ∧ x ≤ 140737488351233 ∧ BPl.upd n x q (u.drop q) = T ∧ wr = w) (fun _ i _ => u.length - (intOf i).toNat)
  case atStart => exact ⟨0, 0, by omega, rfl, rfl, by omega, by omega, HT.out, rfl⟩
  case round =>
    clear HT
    obtain ⟨q, x, hq, rfl, rfl, x1, x2, hM, rfl⟩ := hrel
    by_cases hlt : q < u.length
    · have d0 : decide ((q : Int) < (u.length : Int)) = true := by simp; omega
      have i0 : (0 : Int) ≤ (q : Int) := by omega
      have i1 : (q : Int) < (u.length : Int) := by omega
      obtain ⟨g, o, cap', hsl, hl, hm, hg, k0⟩ := RrS.at HIN.out hlt
      cases hsl
      have hr := k0.2
      have k0 := k0.1
      rw [Nat.mul_one] at k0
      rw [upd_cons n x hlt] at hM
      generalize u[q] = s at *
      by_cases hbad : s < x ∨ (n : Int) ≤ s
      · rw [if_pos hbad] at hM
        subst hM
        have hd : (decide (s < x) = true) ∨ (decide (s < x) = false ∧ decide ((n : Int) ≤ s) = true) := by
          by_cases h1 : s < x
          · exact .inl (by simp [h1])
          · exact .inr ⟨by simp [h1], by simpa using hbad.resolve_left h1⟩
        clear hbad HIN
        rcases hd with d1 | ⟨d1, d2⟩ <;> (
          go_wp2_with fail
          go_ret2
          exact ⟨rfl, rfl⟩)
      · rw [if_neg hbad] at hM
        have d1 : decide (s < x) = false := by simp; omega
        have d2 : decide ((n : Int) ≤ s) = false := by simp; omega
        have HM : Hid (BPl.upd n (s + 1) (q + 1) (u.drop (q + 1)) = T) := hM
        have HS : Hid (-9223372036854775808 ≤ s + 1 ∧ s + 1 ≤ 140737488351233) := ⟨by have := hr.1; omega, by omega⟩
        have hw : IntKind.i64.wrap (s + 1) = s + 1 := w64 (by have := hr.1; omega) (by omega)
        clear hM hbad
        go_wp2_with fail
        go_roundw
        case rel => exact ⟨q + 1, s + 1, by omega, by go_num, rfl, HS.out.1, HS.out.2, HM.out, trivial⟩
        case measure => simp only [intOf]; omega
    · have d0 : decide ((q : Int) < (u.length : Int)) = false := by simp; omega
      have hT : ((0 : Int), (0 : Int)) = T := by
        rw [List.drop_eq_nil_of_le (by omega)] at hM
        exact hM
      subst hT
      clear hM
      go_wp2_with fail
      go_ret2
      exact ⟨rfl, rfl⟩
end Go.Proofs.Ytgknjjaemjkloaa.BSm

/- How many nodes a list has: the document's own answer (stencilref15.size). -/
import Derived.Test.YtofjedecjlodmaaGreatKVp
import Derived.Deep.RegionHeld3
namespace Go.Proofs.YtofjedecjlodmaaGreat.KRs1
open Go.RowKit Go.Proofs.YtofjedecjlodmaaGreat.Base Go.Proofs.YtofjedecjlodmaaGreat.EPure Go.Proofs.YtofjedecjlodmaaGreat.KBase Go.Proofs.YtofjedecjlodmaaGreat.KVp
set_option linter.unusedVariables false

def SZ (m : Nat) : Prop := ∀ (w : World) (v : Value) (cs : List Co), InL false (fun _ => True) w m v cs → szL cs ≤ 1000000 →
    Calls Tryz.prog 29 #[v] w fun e w' => e = .returned (.int .i64 (szL cs)) ∧ Below w.heap.size w w'
theorem szL_drop (l : List Co) (q : Nat) (h : q < l.length) : szL (l.drop q) = 1 + szL l[q].l + szL l[q].u + szL (l.drop (q + 1)) := by
  rw [List.drop_eq_getElem_cons h, szL_cons]
theorem szL_le (l : List Co) (q : Nat) : szL (l.drop q) ≤ szL l := by
  induction q generalizing l with
  | zero => simp
  | succ q ih =>
    cases l with
    | nil => simp
    | cons c t => rw [List.drop_succ_cons, szL_cons]; have := ih t; omega
theorem kids_of {m : Nat} {w : World} {u : Value} {c : Co} (h : KBase.In false (fun _ => True) w m u c) : ∃ m' k t fv pv xv a4 b4 a5 b5, m = m' + 1 ∧ u = .agg #[.int .i64 k, .string t, fv, pv, xv, .slice a4 c.l.length b4, .slice a5 c.u.length b5] ∧ InL false (fun _ => True) w m' (.slice a4 c.l.length b4) c.l ∧ InL false (fun _ => True) w m' (.slice a5 c.u.length b5) c.u := by
  cases m with
  | zero => exact (in_zero h).elim
  | succ m =>
    rw [in_succ] at h
    obtain ⟨fv, pv, xv, lv, uv, rfl, hk, ht, hF, hP, hX, hL, hU⟩ := h
    have hL' := hL
    have hU' := hU
    obtain ⟨a4, b4, rfl, -⟩ := hL
    obtain ⟨a5, b5, rfl, -⟩ := hU
    exact ⟨m, _, _, _, _, _, a4, b4, a5, b5, rfl, rfl, hL', hU'⟩
set_option maxRecDepth 20000 in
set_option maxHeartbeats 1600000 in
theorem size_step (m : Nat) (ih : ∀ m', m' < m → SZ m') : SZ m := by
  intro w v l hin hsz
  have Hih : Hid (∀ m', m' < m → SZ m') := ih
  obtain ⟨a, cap, rfl, hlc, hcm, hlen, hnil, hL⟩ := hin
  have HL : Hid (RwAt 7 Co7 rmC false (fun _ => True) w (KBase.In false (fun _ => True) w m) a cap l) := hL
  clear ih hL
  go_enter Tryz.func29, Tryz.ntmps29
  go_wp2_with fail
  go_loopw [3, 4] (fun k i wr => ∃ (q n : Nat), i = .int .i64 q ∧ k = .int .i64 n ∧ q ≤ l.length ∧ n + szL (l.drop q) + q = szL l + l.length ∧ Below w.heap.size w wr) (fun _ i _ => l.length - (intOf i).toNat)
  case atStart => exact ⟨0, l.length, rfl, rfl, by omega, by rw [List.drop_zero]; omega, Below.refl _ _⟩
  case round =>
    obtain ⟨q, n, rfl, rfl, hq, hn, hb⟩ := hrel
    have HB : Hid (Below w.heap.size w wr) := hb
    clear hb
    by_cases hlt : q < l.length
    · have d0 : decide ((q : Int) < (l.length : Int)) = true := by simp; omega
      have i0 : (0 : Int) ≤ (q : Int) := by omega
      have i1 : (q : Int) < (l.length : Int) := by omega
      obtain ⟨g, o, u, rfl, -, hu, hin⟩ := RwAt.elem HL.out hlt
      obtain ⟨m', k, t, fv, pv, xv, a4, b4, a5, b5, rfl, rfl, hl4, hl5⟩ := kids_of hin
      have hd := szL_drop l q hlt
      have hle := szL_le l q
      have hle2 := szL_le l (q + 1)
      obtain ⟨y, hy⟩ : ∃ y, l[q] = y := ⟨_, rfl⟩
      rw [hy] at hl4 hl5 hd hu
      have Hl5 : Hid (InL false (fun _ => True) w m' (.slice a5 y.u.length b5) y.u) := hl5
      obtain ⟨v0, v1, v2, v3, v4, v5, v6, E, d0', d1, d2, d3, d4, d5, d6⟩ := hu
      cases E
      have e5 := Base.below_cell d5 HB.out
      have e6 := Base.below_cell d6 HB.out
      obtain ⟨A, hA⟩ : ∃ A, szL y.l = A := ⟨_, rfl⟩
      obtain ⟨B, hB⟩ : ∃ B, szL y.u = B := ⟨_, rfl⟩
      rw [hA, hB] at hd
      have hw1 : IntKind.i64.wrap ((n : Int) + (A : Int)) = (n : Int) + (A : Int) := by rw [IntKind.wrap_i64]; omega
      have hw2 : IntKind.i64.wrap ((n : Int) + (A : Int) + (B : Int)) = (n : Int) + (A : Int) + (B : Int) := by rw [IntKind.wrap_i64]; omega
      have Hd : Hid (szL (l.drop q) = 1 + A + B + szL (l.drop (q + 1))) := hd
      have HB' : Hid (szL y.u = B) := hB
      have HA' : Hid (szL y.l = A) := hA
      have hA1 : A ≤ 1000000 := by omega
      have Hl4 : Hid (InL false (fun _ => True) w m' (.slice a4 y.l.length b4) y.l) := hl4
      have Hn : Hid (n + szL (l.drop q) + q = szL l + l.length) := hn
      have hB1 : B ≤ 1000000 := by omega
      clear hin hl4 hl5 d0' d1 d2 d3 d4 hd hy hA hB hle hle2 hn
      have cAf : ∀ W, Below w.heap.size w W → Calls Tryz.prog 29 #[.slice a4 y.l.length b4] W fun e w' => e = .returned (.int .i64 (A : Int)) ∧ Below W.heap.size W w' := fun W hW => by
        have := Hih.out m' (by omega) W _ _ (InL.below Hl4.out hW) (by rw [HA'.out]; exact hA1)
        rw [HA'.out] at this
        exact this
      have cBf : ∀ W, Below w.heap.size w W → Calls Tryz.prog 29 #[.slice a5 y.u.length b5] W fun e w' => e = .returned (.int .i64 (B : Int)) ∧ Below W.heap.size W w' := fun W hW => by
        have := Hih.out m' (by omega) W _ _ (InL.below Hl5.out hW) (by rw [HB'.out]; exact hB1)
        rw [HB'.out] at this
        exact this
      have HD5 : Hid (w.cell? ⟨g, o + q * 7 + 5, none⟩ = some (.slice a4 y.l.length b4)) := d5
      have HD6 : Hid (w.cell? ⟨g, o + q * 7 + 6, none⟩ = some (.slice a5 y.u.length b5)) := d6
      clear d5 d6
      go_wp2_with fail
      go_region_held3 (fun w' => w'.cell? ⟨g, o + q * 7 + 5, none⟩ = some (.slice a4 y.l.length b4) ∧ w'.cell? ⟨g, o + q * 7 + 6, none⟩ = some (.slice a5 y.u.length b5)) (go_keep) (first
        | (have tt := HB1; clear tt; go_at_call 29; refine (cBf _ HB1.out).mono ?_; rintro e W2 ⟨rfl, b2⟩; have HB2 : Hid (Below w.heap.size w W2) := nx HB1.out b2; have k5 := Base.below_cell HD5.out HB2.out; have k6 := Base.below_cell HD6.out HB2.out; clear b2)
        | (go_at_call 29; refine (cAf _ HB.out.drew).mono ?_; rintro e W1 ⟨rfl, b1⟩; have HB1 : Hid (Below w.heap.size w W1) := nx HB.out.drew b1; have j5 := Base.below_cell HD5.out HB1.out; have j6 := Base.below_cell HD6.out HB1.out; clear b1)
        | fail)
      all_goals
        rename_i hHeld
        clear hHeld
        go_wp2_with fail
        go_roundw
      all_goals first
        | (case rel => exact ⟨q + 1, n + A + B, by go_num, by simp, by omega, by have := Hd.out; have := Hn.out; omega, HB2.out⟩)
        | (case measure => simp only [intOf]; omega)
    · obtain rfl : q = l.length := by omega
      have d0 : decide ((l.length : Int) < (l.length : Int)) = false := by simp
      obtain rfl : n = szL l := by rw [List.drop_length, szL_nil] at hn; omega
      go_wp2_with fail
      go_ret
      exact ⟨rfl, HB.out⟩
theorem size_all (m : Nat) : SZ m := by
  induction m using Nat.strongRecOn with
  | _ m ih => exact size_step m ih
end Go.Proofs.YtofjedecjlodmaaGreat.KRs1

/- How many fors lie in one another: the document's own answer (stencilref15.loops). -/
import Derived.Test.YtofjedecjlodmaaGreatKRp
import Derived.Test.YtofjedecjlodmaaGreatKRs1
import Derived.Deep.RegionHeld3
namespace Go.Proofs.YtofjedecjlodmaaGreat.KRl
open Go.RowKit Go.Proofs.YtofjedecjlodmaaGreat.Base Go.Proofs.YtofjedecjlodmaaGreat.EPure Go.Proofs.YtofjedecjlodmaaGreat.KBase Go.Proofs.YtofjedecjlodmaaGreat.KVp Go.Proofs.YtofjedecjlodmaaGreat.KRp Go.Proofs.YtofjedecjlodmaaGreat.KRs1
set_option linter.unusedVariables false

def LO (m : Nat) : Prop := ∀ (w : World) (v : Value) (cs : List Co), InL false (fun _ => True) w m v cs → lps cs ≤ 1000 →
    Calls Tryz.prog 30 #[v] w fun e w' => e = .returned (.int .i64 (lps cs)) ∧ Below w.heap.size w w'
theorem lps_drop (l : List Co) (q : Nat) (h : q < l.length) : lps (l.drop q) = max (max (lps l[q].l) (lps l[q].u) + (if l[q].k = 4 then 1 else 0)) (lps (l.drop (q + 1))) := by
  rw [List.drop_eq_getElem_cons h, lps_cons]
set_option maxRecDepth 20000 in
set_option maxHeartbeats 1600000 in
theorem loops_step (m : Nat) (ih : ∀ m', m' < m → LO m') : LO m := by
  intro w v l hin hsz
  have Hih : Hid (∀ m', m' < m → LO m') := ih
  obtain ⟨a, cap, rfl, hlc, hcm, hlen, hnil, hL⟩ := hin
  have HL : Hid (RwAt 7 Co7 rmC false (fun _ => True) w (KBase.In false (fun _ => True) w m) a cap l) := hL
  clear ih hL
  go_enter Tryz.func30, Tryz.ntmps30
  go_wp2_with fail
  go_loopw [3, 4] (fun k i wr => ∃ (q : Nat) (Y : Int), i = .int .i64 q ∧ k = .int .i64 Y ∧ q ≤ l.length ∧ (0 ≤ Y ∧ Y ≤ 1000) ∧ max Y (lps (l.drop q)) = lps l ∧ Below w.heap.size w wr) (fun _ i _ => l.length - (intOf i).toNat)
  case atStart => exact ⟨0, 0, rfl, rfl, by omega, by omega, by have := lps_pos _ l (Nat.le_refl _); rw [List.drop_zero]; omega, Below.refl _ _⟩
  case round =>
    obtain ⟨q, Y, rfl, rfl, hq, hY, hn, hb⟩ := hrel
    have HB : Hid (Below w.heap.size w wr) := hb
    have Hn : Hid (max Y (lps (l.drop q)) = lps l) := hn
    clear hb
    by_cases hlt : q < l.length
    · have d0 : decide ((q : Int) < (l.length : Int)) = true := by simp; omega
      have i0 : (0 : Int) ≤ (q : Int) := by omega
      have i1 : (q : Int) < (l.length : Int) := by omega
      obtain ⟨g, o, u, rfl, -, hu, hin⟩ := RwAt.elem HL.out hlt
      have hkk : ∃ vs : List Value, u = .agg (.int .i64 l[q].k :: vs).toArray := by
        cases m with
        | zero => exact (in_zero hin).elim
        | succ m =>
          rw [in_succ] at hin
          obtain ⟨fv, pv, xv, lv, uv, rfl, -⟩ := hin
          exact ⟨_, rfl⟩
      obtain ⟨vs, hkk⟩ := hkk
      obtain ⟨m', k, t, fv, pv, xv, a4, b4, a5, b5, rfl, rfl, hl4, hl5⟩ := kids_of hin
      obtain rfl : k = l[q].k := by simp at hkk; exact hkk.1
      have hd := lps_drop l q hlt
      obtain ⟨y, hy⟩ : ∃ y, l[q] = y := ⟨_, rfl⟩
      rw [hy] at hl4 hl5 hd hu
      have Hl4 : Hid (InL false (fun _ => True) w m' (.slice a4 y.l.length b4) y.l) := hl4
      have Hl5 : Hid (InL false (fun _ => True) w m' (.slice a5 y.u.length b5) y.u) := hl5
      obtain ⟨v0, v1, v2, v3, v4, v5, v6, E, d0', d1, d2, d3, d4, d5, d6⟩ := hu
      cases E
      have pA := lps_pos _ y.l (Nat.le_refl _)
      have pB := lps_pos _ y.u (Nat.le_refl _)
      have pD := lps_pos _ (l.drop (q + 1)) (Nat.le_refl _)
      obtain ⟨A, hA⟩ : ∃ A, lps y.l = A := ⟨_, rfl⟩
      obtain ⟨B, hB⟩ : ∃ B, lps y.u = B := ⟨_, rfl⟩
      have HA' : Hid (lps y.l = A) := hA
      have HB' : Hid (lps y.u = B) := hB
      rw [hA, hB] at hd
      rw [hA] at pA
      rw [hB] at pB
      obtain ⟨J, hJ⟩ : ∃ J : Int, (if y.k = 4 then 1 else 0) = J := ⟨_, rfl⟩
      have hJ1 : 0 ≤ J ∧ J ≤ 1 := by rw [← hJ]; split <;> omega
      rw [hJ] at hd
      obtain ⟨M, hM⟩ : ∃ M, max A B = M := ⟨_, rfl⟩
      rw [hM] at hd
      have hbd : A ≤ 1000 ∧ B ≤ 1000 ∧ M + J ≤ 1000 := by omega
      have hm1 : (if A < B then B else A) = M := by rw [← hM]; split <;> omega
      obtain ⟨Z, hZ⟩ : ∃ Z, max Y (M + J) = Z := ⟨_, rfl⟩
      have hm2 : (if Y < M + J then M + J else Y) = Z := by rw [← hZ]; split <;> omega
      have HR : Hid (max Z (lps (l.drop (q + 1))) = lps l) := by show _ = _; omega
      have HZb : Hid (0 ≤ Z ∧ Z ≤ 1000) := by constructor <;> omega
      have hwk : IntKind.i64.wrap (M + 1) = M + 1 := by rw [IntKind.wrap_i64]; omega
      have HD0 : Hid (w.cell? ⟨g, o + q * 7, none⟩ = some (.int .i64 y.k)) := d0'
      have HD5 : Hid (w.cell? ⟨g, o + q * 7 + 5, none⟩ = some (.slice a4 y.l.length b4)) := d5
      have HD6 : Hid (w.cell? ⟨g, o + q * 7 + 6, none⟩ = some (.slice a5 y.u.length b5)) := d6
      have cAf : ∀ W, Below w.heap.size w W → Calls Tryz.prog 30 #[.slice a4 y.l.length b4] W fun e w' => e = .returned (.int .i64 A) ∧ Below W.heap.size W w' := fun W hW => by
        have := Hih.out m' (by omega) W _ _ (InL.below Hl4.out hW) (by rw [HA'.out]; omega)
        rw [HA'.out] at this
        exact this
      have cBf : ∀ W, Below w.heap.size w W → Calls Tryz.prog 30 #[.slice a5 y.u.length b5] W fun e w' => e = .returned (.int .i64 B) ∧ Below W.heap.size W w' := fun W hW => by
        have := Hih.out m' (by omega) W _ _ (InL.below Hl5.out hW) (by rw [HB'.out]; omega)
        rw [HB'.out] at this
        exact this
      obtain ⟨yk, hyk⟩ : ∃ yk, y.k = yk := ⟨_, rfl⟩
      rw [hyk] at HD0 hJ
      have e5 := Base.below_cell d5 HB.out
      have e6 := Base.below_cell d6 HB.out
      clear hin hl4 hl5 d0' d1 d2 d3 d4 d5 d6 hd hy hA hB hn hM hZ hkk hyk pD hsz hbd pA pB
      by_cases h4 : yk = 4
      · subst h4
        obtain rfl : J = 1 := by simpa using hJ.symm
        clear hJ hJ1
        go_wp2_with fail
        go_region_held3 (fun w' => w'.cell? ⟨g, o + q * 7 + 5, none⟩ = some (.slice a4 y.l.length b4) ∧ w'.cell? ⟨g, o + q * 7 + 6, none⟩ = some (.slice a5 y.u.length b5)) (go_keep) (first
          | (have tt := HB1; clear tt; go_at_call 30; refine (cBf _ HB1.out).mono ?_; rintro e W2 ⟨rfl, b2⟩; have HB2 : Hid (Below w.heap.size w W2) := nx HB1.out b2; have k0 := Base.below_cell HD0.out HB2.out; have k5 := Base.below_cell HD5.out HB2.out; have k6 := Base.below_cell HD6.out HB2.out; clear b2)
          | (go_at_call 30; refine (cAf _ HB.out.drew).mono ?_; rintro e W1 ⟨rfl, b1⟩; have HB1 : Hid (Below w.heap.size w W1) := nx HB.out.drew b1; have j5 := Base.below_cell HD5.out HB1.out; have j6 := Base.below_cell HD6.out HB1.out; clear b1)
          | fail)
        all_goals
          rename_i hHeld
          clear hHeld
          go_wp2_with fail
          go_roundw
        all_goals first
          | (case rel => exact ⟨q + 1, Z, by go_num, by simp [], by omega, HZb.out, HR.out, HB2.out⟩)
          | (case measure => simp only [intOf]; omega)
      · have ne : (yk == 4) = false := by simpa using h4
        obtain rfl : J = 0 := by rw [if_neg h4] at hJ; exact hJ.symm
        rw [Int.add_zero] at hm2
        clear hJ hJ1
        go_wp2_with fail
        go_region_held3 (fun w' => w'.cell? ⟨g, o + q * 7 + 5, none⟩ = some (.slice a4 y.l.length b4) ∧ w'.cell? ⟨g, o + q * 7 + 6, none⟩ = some (.slice a5 y.u.length b5)) (go_keep) (first
          | (have tt := HB1; clear tt; go_at_call 30; refine (cBf _ HB1.out).mono ?_; rintro e W2 ⟨rfl, b2⟩; have HB2 : Hid (Below w.heap.size w W2) := nx HB1.out b2; have k0 := Base.below_cell HD0.out HB2.out; have k5 := Base.below_cell HD5.out HB2.out; have k6 := Base.below_cell HD6.out HB2.out; clear b2)
          | (go_at_call 30; refine (cAf _ HB.out.drew).mono ?_; rintro e W1 ⟨rfl, b1⟩; have HB1 : Hid (Below w.heap.size w W1) := nx HB.out.drew b1; have j5 := Base.below_cell HD5.out HB1.out; have j6 := Base.below_cell HD6.out HB1.out; clear b1)
          | fail)
        all_goals
          rename_i hHeld
          clear hHeld
          go_wp2_with fail
          go_roundw
        all_goals first
          | (case rel => exact ⟨q + 1, Z, by go_num, by simp [], by omega, HZb.out, HR.out, HB2.out⟩)
          | (case measure => simp only [intOf]; omega)
    · obtain rfl : q = l.length := by omega
      have d0 : decide ((l.length : Int) < (l.length : Int)) = false := by simp
      obtain rfl : Y = lps l := by rw [List.drop_length, lps_nil] at hn; omega
      go_wp2_with fail
      go_ret
      exact ⟨rfl, HB.out⟩
theorem loops_all (m : Nat) : LO m := by
  induction m using Nat.strongRecOn with
  | _ m ih => exact loops_step m ih
end Go.Proofs.YtofjedecjlodmaaGreat.KRl

/- The document's own answers: Check, Count, Loops, Statics (stencilref15). -/
import Derived.Test.YtofjedecjlodmaaGreatKRk
import Derived.Test.YtofjedecjlodmaaGreatKRss
import Derived.Test.YtofjedecjlodmaaGreatKRl
import Derived.Test.YtofjedecjlodmaaGreatKCo
namespace Go.Proofs.YtofjedecjlodmaaGreat.KRch
open Go.RowKit Go.Proofs.YtofjedecjlodmaaGreat.Base Go.Proofs.YtofjedecjlodmaaGreat.EPure Go.Proofs.YtofjedecjlodmaaGreat.KBase Go.Proofs.YtofjedecjlodmaaGreat.KNp Go.Proofs.YtofjedecjlodmaaGreat.KNd Go.Proofs.YtofjedecjlodmaaGreat.KVp Go.Proofs.YtofjedecjlodmaaGreat.KRp Go.Proofs.YtofjedecjlodmaaGreat.KCo
open Go.Proofs.YtofjedecjlodmaaGreat.KSt (Oi sts)
open Go.Proofs.YtofjedecjlodmaaGreat.SFit (ret_int)
set_option linter.unusedVariables false

set_option maxRecDepth 20000 in
theorem check_c {m : Nat} {w : World} {v : Value} {cs : List Co} (hin : InL false (fun _ => True) w m v cs) :
    Calls Tryz.prog 12 #[v] w fun x w' => x = .returned (.int .i64 (chk cs)) ∧ Below w.heap.size w w' := by
  have c := KRk.look_all m w v cs 1 0 0 0 hin (by omega) (by omega) (by omega) (by omega)
  have e : ndL cs (4096 - ((0 : Nat) : Int)) 1 0 0 = ndL cs 4096 1 0 0 := rfl
  rw [e] at c
  have e2 : (ndL cs 4096 1 0 0).2 = chk cs := rfl
  rw [e2] at c
  obtain ⟨Z, hZ⟩ : ∃ Z, chk cs = Z := ⟨_, rfl⟩
  rw [hZ] at c ⊢
  clear hZ e e2
  go_enter Tryz.func12, Tryz.ntmps12
  go_wp2_with fail
  refine c.mono ?_
  rintro ee W1 ⟨b1, M, rfl, -, -⟩
  go_wp2_with fail
  go_ret
  exact ⟨rfl, b1⟩
set_option maxRecDepth 20000 in
theorem count_c {m : Nat} {w : World} {v : Value} {cs : List Co} (hin : InL false (fun _ => True) w m v cs) :
    Calls Tryz.prog 13 #[v] w fun x w' => x = .returned (.int .i64 (szL (tk cs))) ∧ Below w.heap.size w w' := by
  have c := check_c hin
  by_cases hc : chk cs = 0
  · have e : tk cs = cs := by unfold tk; rw [if_pos hc]
    rw [e]
    rw [hc] at c
    have cS : Hid (∀ W, Below w.heap.size w W → Calls Tryz.prog 29 #[v] W fun e w' => e = .returned (.int .i64 (szL cs)) ∧ Below W.heap.size W w') := fun W hW => KRs1.size_all m W v cs (hin.below hW) (by have := (tk_ok hc).2; omega)
    clear hc e hin
    go_enter Tryz.func13, Tryz.ntmps13
    go_wp2_with fail
    refine c.mono ?_
    rintro ee W1 ⟨rfl, b1⟩
    go_wp2_with fail
    refine (cS.out _ b1).mono ?_
    rintro ee W2 ⟨rfl, b2⟩
    go_wp2_with fail
    go_ret
    exact ⟨rfl, nx b1 b2⟩
  · have e : tk cs = [] := by unfold tk; rw [if_neg hc]
    rw [e, szL_nil]
    have hn : (chk cs != 0) = true := by simp [hc]
    obtain ⟨Z, hZ⟩ : ∃ Z, chk cs = Z := ⟨_, rfl⟩
    rw [hZ] at c hn
    clear hc e hin hZ
    go_enter Tryz.func13, Tryz.ntmps13
    go_wp2_with fail
    refine c.mono ?_
    rintro ee W1 ⟨rfl, b1⟩
    go_wp2_with fail
    go_ret
    exact ⟨rfl, b1⟩
set_option maxRecDepth 20000 in
theorem loops_c {m : Nat} {w : World} {v : Value} {cs : List Co} (hin : InL false (fun _ => True) w m v cs) :
    Calls Tryz.prog 14 #[v] w fun x w' => x = .returned (.int .i64 (KVl.vf 0 (tk cs) 0)) ∧ Below w.heap.size w w' := by
  have c := check_c hin
  rw [lo_ref]
  by_cases hc : chk cs = 0
  · have e : tk cs = cs := by unfold tk; rw [if_pos hc]
    rw [e]
    rw [hc] at c
    have cS : Hid (∀ W, Below w.heap.size w W → Calls Tryz.prog 30 #[v] W fun e w' => e = .returned (.int .i64 (lps cs)) ∧ Below W.heap.size W w') := fun W hW => KRl.loops_all m W v cs (hin.below hW) (by have := KVl.vf_bd _ cs 0 0 (Nat.le_refl _) (by omega) (tk_ok hc).1; rw [lo_ref] at this; omega)
    obtain ⟨L, hL⟩ : ∃ L, lps cs = L := ⟨_, rfl⟩
    rw [hL] at cS ⊢
    clear hc e hin hL
    go_enter Tryz.func14, Tryz.ntmps14
    go_wp2_with fail
    refine c.mono ?_
    rintro ee W1 ⟨rfl, b1⟩
    go_wp2_with fail
    refine (cS.out _ b1).mono ?_
    rintro ee W2 ⟨rfl, b2⟩
    go_wp2_with fail
    go_ret
    exact ⟨rfl, nx b1 b2⟩
  · have e : tk cs = [] := by unfold tk; rw [if_neg hc]
    rw [e, lps_nil]
    have hn : (chk cs != 0) = true := by simp [hc]
    obtain ⟨Z, hZ⟩ : ∃ Z, chk cs = Z := ⟨_, rfl⟩
    rw [hZ] at c hn
    clear hc e hin hZ
    go_enter Tryz.func14, Tryz.ntmps14
    go_wp2_with fail
    refine c.mono ?_
    rintro ee W1 ⟨rfl, b1⟩
    go_wp2_with fail
    go_ret
    exact ⟨rfl, b1⟩
set_option maxRecDepth 20000 in
theorem statics_c {m : Nat} {w : World} {v : Value} {cs : List Co} (hin : InL false (fun _ => True) w m v cs) :
    Calls Tryz.prog 10 #[v] w fun x w' => Below w.heap.size w w' ∧ ∃ u, x = .returned u ∧ Oi w' w.heap.size u (sts cs) := by
  have c := check_c hin
  by_cases hc : chk cs = 0
  · rw [sts_ref hc]
    rw [hc] at c
    have cS : Hid (∀ W, Below w.heap.size w W → Calls Tryz.prog 27 #[v, .int .i64 0] W fun e w' => Below W.heap.size W w' ∧ ∃ u, e = .returned u ∧ Oi w' W.heap.size u (rst cs 0)) := fun W hW => KRss.statics_all m W v cs 0 (hin.below hW) (by have := (tk_ok hc).2; omega)
    clear hc hin
    go_enter Tryz.func10, Tryz.ntmps10
    go_wp2_with fail
    refine c.mono ?_
    rintro ee W1 ⟨rfl, b1⟩
    go_wp2_with fail
    refine (cS.out _ b1).mono ?_
    rintro ee W2 ⟨b2, u, rfl, ho⟩
    have HO : Hid (Oi W2 w.heap.size u (rst cs 0)) := ⟨ho.1, by
      rcases ho.2 with h | ⟨g, cap, cur, h1, h2, h3⟩
      · exact .inl h
      · exact .inr ⟨g, cap, cur, h1, by have := b1.size; omega, h3⟩⟩
    clear ho
    go_wp2_with fail
    go_ret
    exact ⟨nx b1 b2, u, rfl, HO.out⟩
  · have e : sts cs = [] := by unfold sts tk; rw [if_neg hc, KSt.stL_nil]
    rw [e]
    have hn : (chk cs != 0) = true := by simp [hc]
    obtain ⟨Z, hZ⟩ : ∃ Z, chk cs = Z := ⟨_, rfl⟩
    rw [hZ] at c hn
    clear hc e hin hZ
    go_enter Tryz.func10, Tryz.ntmps10
    go_wp2_with fail
    refine c.mono ?_
    rintro ee W1 ⟨rfl, b1⟩
    go_wp2_with fail
    go_ret
    exact ⟨b1, _, rfl, World.ownsRow_nil _ _ _ _⟩
end Go.Proofs.YtofjedecjlodmaaGreat.KRch

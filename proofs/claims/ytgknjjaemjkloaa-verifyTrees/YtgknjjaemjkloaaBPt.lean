/- Behind an operation (package verify): leave; pass at every kind. -/
import Derived.Test.YtgknjjaemjkloaaBSt
import Derived.Test.YtgknjjaemjkloaaBPs
import Derived.BigQuiet
namespace Go.Proofs.Ytgknjjaemjkloaa.BGd
open Go.Proofs.Ytgknjjaemjkloaa.BPl Go.Proofs.Ytgknjjaemjkloaa.BSt
open Go.Proofs.Ytgknjjaemjkloaa.YPl (Oq Bk Pg)
set_option linter.unusedVariables false

/-- What may be around a block. -/
def Ga (A : Ar) : Prop := 0 ≤ A.st ∧ A.st ≤ 64 ∧ 0 ≤ A.el ∧ A.el ≤ 63 ∧ 0 ≤ A.ls ∧ A.ls ≤ 8
def Gh (H : List Ar) : Prop := ∀ A ∈ H, A.ow = true → Ga A
def Gb (b : Bd) : Prop := Ga b.ar ∧ 0 ≤ b.lt ∧ (∀ x ∈ b.ou, 0 ≤ x) ∧ b.lt + b.ou.sum ≤ b.ar.st ∧ (b.ou.length : Int) ≤ b.ar.el
theorem sum_nn : ∀ l : List Int, (∀ x ∈ l, 0 ≤ x) → 0 ≤ l.sum
  | [], _ => by simp
  | x :: r, h => by
    have h1 := sum_nn r fun y hy => h y (List.mem_cons_of_mem _ hy)
    have h2 := h x (List.mem_cons_self ..)
    rw [List.sum_cons]
    omega
theorem snoc {α : Type} : ∀ l : List α, l ≠ [] → ∃ m x, l = m ++ [x]
  | l, h => ⟨l.dropLast, l.getLast h, (List.dropLast_concat_getLast h).symm⟩
theorem Gb.lt64 {b : Bd} (h : Gb b) : b.lt ≤ 64 := by
  obtain ⟨⟨h1, h2, -⟩, h3, h4, h5, h6⟩ := h
  have := sum_nn _ h4
  omega
section
variable {S : Sh} {nb : Nat} {ops : List Oq} {b : Bd} {H H' : List Ar} {p : Nat} {o : Oq}
theorem opf_ok (h : opf S nb ops b H p o = .ok H') : p ≠ 8192 ∧ fits S o = true ∧ reaches S b.ar.st o = true ∧ stands S ops b p o = true ∧ clm nb (ins b.ar o) (bks o) H = some H' ∧ b.ar.st + grows o ≤ 64 ∧ ¬ (o.k = 9 ∧ b.ar.ls = 8) := by
  unfold opf at h
  by_cases h1 : p = 8192 ∨ fits S o = false
  · rw [if_pos h1] at h; cases h
  rw [if_neg h1] at h
  by_cases h2 : reaches S b.ar.st o = false
  · rw [if_pos h2] at h; cases h
  rw [if_neg h2] at h
  by_cases h3 : stands S ops b p o = false
  · rw [if_pos h3] at h; cases h
  rw [if_neg h3] at h
  cases h4 : clm nb (ins b.ar o) (bks o) H with
  | none => rw [h4] at h; cases h
  | some G =>
    rw [h4] at h
    dsimp only at h
    by_cases h5 : 64 < b.ar.st + grows o
    · rw [if_pos h5] at h; cases h
    rw [if_neg h5] at h
    by_cases h6 : o.k = 9 ∧ b.ar.ls = 8
    · rw [if_pos h6] at h; cases h
    rw [if_neg h6] at h
    cases h
    exact ⟨fun e => h1 (.inl e), by simpa using fun e => h1 (.inr e), by simpa using h2, by simpa using h3, rfl, by omega, h6⟩
theorem grows_nn (o : Oq) : 0 ≤ grows o := by unfold grows; split <;> (try split) <;> (try split) <;> omega
theorem ins_ga (hA : Ga b.ar) (h1 : b.ar.st + grows o ≤ 64) (h2 : ¬ (o.k = 9 ∧ b.ar.ls = 8)) : Ga (ins b.ar o) := by
  obtain ⟨a1, a2, a3, a4, a5, a6⟩ := hA
  have := grows_nn o
  refine ⟨?_, ?_, a3, a4, ?_, ?_⟩
  · show 0 ≤ b.ar.st + grows o; omega
  · exact h1
  · show 0 ≤ (if o.k = 9 then b.ar.ls + 1 else b.ar.ls); split <;> omega
  · show (if o.k = 9 then b.ar.ls + 1 else b.ar.ls) ≤ 8; split <;> omega
theorem clm_gh {A : Ar} (hA : Ga A) : ∀ (l : List Int) (H : List Ar), Gh H → ∀ H', clm nb A l H = some H' → Gh H' ∧ H'.length = H.length
  | [], H, hH, H', h => by cases h; exact ⟨hH, rfl⟩
  | n :: r, H, hH, H', h => by
    unfold clm at h
    split at h
    · cases h
    · have := clm_gh hA r (H.set n.toNat A) (fun B hB hw => by
        rcases List.mem_or_eq_of_mem_set hB with h | h
        · exact hH B h hw
        · rw [h]; exact hA) H' h
      rw [List.length_set] at this
      exact this
theorem fits_drop (h : fits S o = true) (hk : o.k = 12) : 1 ≤ o.a := by
  unfold fits at h
  simp only [hk] at h
  simpa using zr_true h
theorem stands_close (h : stands S ops b p o = true) (hk : o.k = 6) : b.ou ≠ [] ∧ b.lt = 0 := by
  unfold stands at h
  simp only [hk] at h
  have := band h
  refine ⟨fun e => ?_, by simpa using this.2⟩
  have h1 := this.1
  rw [e] at h1
  simp at h1
theorem stands_open (h : stands S ops b p o = true) (hk : o.k = 3) : b.ar.el + 1 ≤ 63 := by
  unfold stands at h
  simp only [hk] at h
  simpa using h
theorem stands_drop (h : stands S ops b p o = true) (hk : o.k = 12) : o.a ≤ b.lt := by
  unfold stands at h
  simp only [hk] at h
  simpa using h
theorem pass_3 (hk : o.k = 3) : pass b p o = ⟨{ b.ar with el := b.ar.el + 1 }, 0, b.ou ++ [b.lt], b.cl⟩ := by unfold pass; rw [if_pos hk]
theorem pass_6 (hk : o.k = 6) {l : List Int} {x : Int} (e : b.ou = l ++ [x]) : pass b p o = ⟨{ b.ar with el := b.ar.el - 1 }, x, l, if l.length = 0 ∧ b.cl = 0 then p else b.cl⟩ := by
  unfold pass
  rw [if_neg (by omega), if_pos hk, e]
  simp
theorem pass_11 (hk : o.k = 11) : pass b p o = ⟨{ b.ar with st := b.ar.st + 1 }, b.lt + 1, b.ou, b.cl⟩ := by unfold pass; rw [if_neg (by omega), if_neg (by omega), if_pos hk]
theorem pass_12 (hk : o.k = 12) : pass b p o = ⟨{ b.ar with st := b.ar.st - o.a }, b.lt - o.a, b.ou, b.cl⟩ := by unfold pass; rw [if_neg (by omega), if_neg (by omega), if_neg (by omega), if_pos hk]
theorem pass_0 (h3 : o.k ≠ 3) (h6 : o.k ≠ 6) (h11 : o.k ≠ 11) (h12 : o.k ≠ 12) : pass b p o = b := by unfold pass; rw [if_neg h3, if_neg h6, if_neg h11, if_neg h12]
theorem gb_pass (h : opf S nb ops b H p o = .ok H') (hb : Gb b) : Gb (pass b p o) := by
  obtain ⟨h1, h2, h3, h4, h5, h6, h7⟩ := opf_ok h
  obtain ⟨⟨a1, a2, a3, a4, a5, a6⟩, b1, b2, b3, b4⟩ := hb
  have hs := sum_nn _ b2
  by_cases k3 : o.k = 3
  · have := stands_open h4 k3
    rw [pass_3 k3]
    refine ⟨⟨a1, a2, by show 0 ≤ b.ar.el + 1; omega, this, a5, a6⟩, Int.le_refl 0, fun x hx => ?_, ?_, ?_⟩
    · rcases List.mem_append.1 hx with hx | hx
      · exact b2 x hx
      · rw [List.mem_singleton.1 hx]; exact b1
    · show 0 + (b.ou ++ [b.lt]).sum ≤ b.ar.st
      rw [List.sum_append]
      simp
      omega
    · show ((b.ou ++ [b.lt]).length : Int) ≤ b.ar.el + 1
      rw [List.length_append]
      simp
      omega
  by_cases k6 : o.k = 6
  · obtain ⟨h8, h9⟩ := stands_close h4 k6
    obtain ⟨l, x, e⟩ := snoc _ h8
    rw [pass_6 k6 e]
    rw [e] at b2 b3 b4 hs
    rw [List.sum_append] at b3
    rw [List.length_append] at b4
    simp at b3 b4
    have hx := b2 x (by simp)
    refine ⟨⟨a1, a2, by show 0 ≤ b.ar.el - 1; omega, by show b.ar.el - 1 ≤ 63; omega, a5, a6⟩, hx, fun y hy => b2 y (List.mem_append_left _ hy), ?_, ?_⟩
    · show x + l.sum ≤ b.ar.st; omega
    · show (l.length : Int) ≤ b.ar.el - 1; omega
  by_cases k11 : o.k = 11
  · rw [pass_11 k11]
    have hg : grows o = 1 := by unfold grows; rw [if_neg (by omega), if_neg (by omega), if_pos k11]
    refine ⟨⟨by show 0 ≤ b.ar.st + 1; omega, by show b.ar.st + 1 ≤ 64; omega, a3, a4, a5, a6⟩, by show 0 ≤ b.lt + 1; omega, b2, by show b.lt + 1 + b.ou.sum ≤ b.ar.st + 1; omega, b4⟩
  by_cases k12 : o.k = 12
  · rw [pass_12 k12]
    have hf := fits_drop h2 k12
    have hd := stands_drop h4 k12
    refine ⟨⟨by show 0 ≤ b.ar.st - o.a; omega, by show b.ar.st - o.a ≤ 64; omega, a3, a4, a5, a6⟩, by show 0 ≤ b.lt - o.a; omega, b2, by show b.lt - o.a + b.ou.sum ≤ b.ar.st - o.a; omega, b4⟩
  rw [pass_0 k3 k6 k11 k12]
  exact ⟨⟨a1, a2, a3, a4, a5, a6⟩, b1, b2, b3, b4⟩
theorem opf_gh (h : opf S nb ops b H p o = .ok H') (hb : Gb b) (hH : Gh H) : Gh H' ∧ H'.length = H.length := by
  obtain ⟨h1, h2, h3, h4, h5, h6, h7⟩ := opf_ok h
  exact clm_gh (ins_ga hb.1 h6 h7) _ _ hH _ h5
theorem pass_ar : (pass b p o).ar.ow = b.ar.ow ∧ (pass b p o).ar.lp = b.ar.lp ∧ (pass b p o).ar.ls = b.ar.ls := by
  unfold pass
  split
  · exact ⟨rfl, rfl, rfl⟩
  split
  · exact ⟨rfl, rfl, rfl⟩
  split
  · exact ⟨rfl, rfl, rfl⟩
  split
  · exact ⟨rfl, rfl, rfl⟩
  exact ⟨rfl, rfl, rfl⟩
theorem gos_step {i : Nat} (hi : i < ops.length) : gos S nb ops i (ops.drop i) b H = match opf S nb ops b H i ops[i] with
    | .error c => .error ((i : Int), c)
    | .ok H' => gos S nb ops (i + 1) (ops.drop (i + 1)) (pass b i ops[i]) H' := by
  rw [List.drop_eq_getElem_cons hi, gos]
  cases opf S nb ops b H i ops[i] <;> rfl
theorem gos_end : gos S nb ops ops.length (ops.drop ops.length) b H = .ok (b, H) := by
  rw [List.drop_length, gos]
theorem opf_ne {c : Int} (h : opf S nb ops b H p o = .error c) : c ≠ 0 := by
  unfold opf at h
  split at h
  · cases h; decide
  split at h
  · cases h; decide
  split at h
  · cases h; decide
  split at h
  · cases h; decide
  split at h
  · cases h; decide
  split at h
  · cases h; decide
  · cases h
end
theorem gos_ne {S : Sh} {nb : Nat} {ops : List Oq} {q : Int × Int} : ∀ (l : List Oq) (i : Nat) (b : Bd) (H : List Ar), gos S nb ops i l b H = .error q → q.2 ≠ 0
  | [], i, b, H, h => by rw [gos] at h; cases h
  | o :: r, i, b, H, h => by
    rw [gos] at h
    cases e : opf S nb ops b H i o with
    | error c => rw [e] at h; cases h; exact opf_ne e
    | ok H' => rw [e] at h; exact gos_ne r _ _ _ h
theorem blf_ne {S : Sh} {nb : Nat} {k : Bk} {H : List Ar} {q : Int × Int} (h : blf S nb k H = .error q) : q.2 ≠ 0 := by
  unfold blf at h
  split at h
  · cases h; decide
  split at h
  · cases h; decide
  cases e : gos S nb k.o 0 k.o ⟨H.getD nb ar0, 0, [], 0⟩ H with
  | error q' => rw [e] at h; cases h; exact gos_ne _ _ _ _ e
  | ok y =>
    obtain ⟨b, H'⟩ := y
    rw [e] at h
    dsimp only at h
    split at h
    · cases h; exact (by decide : (2204 : Int) ≠ 0)
    split at h
    · cases h; decide
    split at h
    · rename_i h1
      cases h
      exact h1
    · cases h
end Go.Proofs.Ytgknjjaemjkloaa.BGd

namespace Go.Proofs.Ytgknjjaemjkloaa.BPt
open Go.Proofs.Ytgknjjaemjkloaa.Tak
open Go.RowKit Go.Proofs.Ytgknjjaemjkloaa.BPl Go.Proofs.Ytgknjjaemjkloaa.YRr Go.Proofs.Ytgknjjaemjkloaa.YRs Go.Proofs.Ytgknjjaemjkloaa.BBx Go.Proofs.Ytgknjjaemjkloaa.BSm Go.Proofs.Ytgknjjaemjkloaa.BIn Go.Proofs.Ytgknjjaemjkloaa.BPs Go.Proofs.Ytgknjjaemjkloaa.BGd
open Go.Proofs.Ytgknjjaemjkloaa.YPl (Oq Bk Pg)
open Go.Proofs.Ytgknjjaemjkloaa.CBx (w64)
theorem hid {p : Prop} (h : p) : Hid p := h
set_option linter.unusedVariables false

theorem own_last {w : World} {lo : Nat} {v : Value} {l : List Int} {x : Int} (h : w.ownsRow lo 3 1 v (l ++ [x]).length ((l ++ [x]).map (Value.int .i64))) : ∃ g cap, v = .slice (some ⟨g, 0, none⟩) (l.length + 1) cap ∧ l.length + 1 ≤ cap ∧ cap ≤ 9223372036854775807 ∧ lo ≤ g ∧ w.cell? ⟨g, l.length, none⟩ = some (.int .i64 x) ∧ w.ownsRow lo 3 1 (.slice (some ⟨g, 0, none⟩) l.length cap) l.length (l.map (Value.int .i64)) := by
  have hn : (l ++ [x]).length = l.length + 1 := by simp
  rw [hn, List.map_append] at h
  rcases h.2 with ⟨-, e⟩ | ⟨g, cap, cur, rfl, hb, hc, hle, hm, hsz, htk⟩
  · omega
  · refine ⟨g, cap, rfl, hle, by unfold maxLen at hm; omega, hb, ?_, by simp, .inr ⟨g, cap, cur, rfl, hb, hc, by omega, hm, hsz, ?_⟩⟩
    · rw [h.cellAt l.length (by omega)]
      simp
    · have e2 := congrArg (List.take (l.length * 1)) htk
      rw [List.take_take, Nat.min_eq_left (by omega), List.take_append_of_le_length (by simp)] at e2
      rw [e2]
      exact List.take_of_length_le (by simp)
set_option maxRecDepth 20000 in
set_option maxHeartbeats 3200000 in
theorem leave_c {w : World} {B L P : Nat} {A : Ar} {nb : Nat} {ov : Value} {lt : Int} {l : List Int} {x cl : Int} (h : Bs w B L P ⟨A, lt, l ++ [x], cl⟩ nb ov) (hBL : B < L) (hL : L ≤ w.heap.size) (p : Nat) (hl : l.length ≤ 8192) (he : 0 ≤ A.el ∧ A.el ≤ 64) :
    Calls Try.prog 106 #[.pointer (some ⟨B, 0, none⟩), .int .i64 p] w fun e w' => (∃ v, e = .returned v) ∧ Bs w' B L P ⟨{ A with el := A.el - 1 }, x, l, if l.length = 0 ∧ cl = 0 then p else cl⟩ nb ov ∧ Xl B L w w' := by
  obtain ⟨uv, hB, hU⟩ := h
  dsimp only at hB hU
  obtain ⟨g, cap, rfl, hc, hm, hg, k0, hF⟩ := own_last hU
  have hlt := hB.lt
  have c4 := cell_of hB 4 _ rfl
  have c8 := cell_of hB 8 _ rfl
  have c9 := cell_of hB 9 _ rfl
  have c10 := cell_of hB 10 _ rfl
  have r4 := frz hB 4
  have r8 := frz hB 8
  have r9 := frz hB 9
  have r10 := frz hB 10
  have HB : Hid (Bw w B P A nb ov lt (.slice (some ⟨g, 0, none⟩) (l.length + 1) cap) cl) := hB
  have HF : Hid (w.ownsRow L 3 1 (.slice (some ⟨g, 0, none⟩) l.length cap) l.length (l.map (Value.int .i64))) := hF
  have hgB : g ≠ B := by omega
  have HK : Hid (∀ w' : World, (∀ q, q ≠ B → w'.heap[q]? = w.heap[q]?) → w'.ownsRow L 3 1 (.slice (some ⟨g, 0, none⟩) l.length cap) l.length (l.map (Value.int .i64))) := fun w' h => own_keep HF.out fun q hq => h q (by have e : g = q := Option.some.inj hq; omega)
  obtain ⟨Y, hY⟩ : ∃ Y, (if l.length = 0 ∧ cl = 0 then (p : Int) else cl) = Y := ⟨_, rfl⟩
  rw [hY]
  have HY : Hid ((if l.length = 0 ∧ cl = 0 then (p : Int) else cl) = Y) := hY
  have hw0 : IntKind.i64.wrap ((l.length : Int) + 1 - 1) = (l.length : Int) := by rw [w64 (by omega) (by omega)]; omega
  have hw1 : IntKind.i64.wrap (A.el - 1) = A.el - 1 := w64 (by omega) (by omega)
  have i0 : (0 : Int) ≤ (l.length : Int) := by omega
  have i1 : (l.length : Int) < ((l.length + 1 : Nat) : Int) := by omega
  have i2 : (l.length : Int) ≤ (cap : Int) := by omega
  clear hB hF hU hY
  go_enter Try.func106, Try.ntmps106
  go_wp2_with fail
  go_region
  obtain ⟨W, hW⟩ : ∃ W, ((w.setCell ⟨B, 8, none⟩ (.int .i64 x)).setCell ⟨B, 9, none⟩ (.slice (some ⟨g, 0, none⟩) l.length cap)).drew = W := ⟨_, rfl⟩
  rw [hW]
  have hBW : Bw W B P A nb ov x (.slice (some ⟨g, 0, none⟩) l.length cap) cl := by rw [← hW]; exact Bw.set9 (Bw.set8 HB.out _) _
  have HBW := hid hBW
  have HKW : Hid (∀ q, q ≠ B → W.heap[q]? = w.heap[q]?) := by
    rw [← hW]
    intro q hq
    exact (Below.heap_setCell _ _ _ _ hq).trans (Below.heap_setCell _ _ _ _ hq)
  have HLW : Hid (Below B w W) := by rw [← hW]; exact (((Below.refl B w).setCell (p := ⟨B, 8, none⟩) (Nat.le_refl _) _).setCell (p := ⟨B, 9, none⟩) (Nat.le_refl _) _).drew
  clear hW c4 c8 c9 c10 r4 r8 r9 r10 k0
  have c4 := cell_of hBW 4 _ rfl
  have c10 := cell_of hBW 10 _ rfl
  have r4 := frz hBW 4
  have r10 := frz hBW 10
  clear hBW
  by_cases e1 : l.length = 0
  · have d1 : ((l.length : Int) == 0) = true := by simp [e1]
    by_cases e2 : cl = 0
    · have hY := HY.out
      rw [if_pos ⟨e1, e2⟩] at hY
      have d2 : (cl == 0) = true := by simp [e2]
      have HY2 := hid hY
      clear e1 e2 hY HY
      go_wp2_with fail
      go_end0
      rw [← HY2.out]
      refine ⟨⟨_, rfl⟩, ⟨_, Bw.set10 (Bw.set4 HBW.out _) _, HK.out _ fun q hq => ?_⟩, (HLW.out.setCell (p := ⟨B, 4, none⟩) (Nat.le_refl _) _).setCell (p := ⟨B, 10, none⟩) (Nat.le_refl _) _, fun q _ hq => ?_⟩
      all_goals (
        rw [Below.heap_setCell _ _ _ _ hq, Below.heap_setCell _ _ _ _ hq]
        exact HKW.out q hq)
    · have hY := HY.out
      rw [if_neg (fun h => e2 h.2)] at hY
      have d2 : (cl == 0) = false := by simp [e2]
      have HY2 := hid hY
      clear e1 e2 hY HY
      go_wp2_with fail
      go_end0
      rw [← HY2.out]
      refine ⟨⟨_, rfl⟩, ⟨_, Bw.set4 HBW.out _, HK.out _ fun q hq => ?_⟩, HLW.out.setCell (p := ⟨B, 4, none⟩) (Nat.le_refl _) _, fun q _ hq => ?_⟩
      all_goals (
        rw [Below.heap_setCell _ _ _ _ hq]
        exact HKW.out q hq)
  · have d1 : ((l.length : Int) == 0) = false := by rw [beq_eq_false_iff_ne]; omega
    have hY := HY.out
    rw [if_neg (fun h => e1 h.1)] at hY
    have HY2 := hid hY
    clear e1 hY HY
    go_wp2_with fail
    go_end0
    rw [← HY2.out]
    refine ⟨⟨_, rfl⟩, ⟨_, Bw.set4 HBW.out _, HK.out _ fun q hq => ?_⟩, HLW.out.setCell (p := ⟨B, 4, none⟩) (Nat.le_refl _) _, fun q _ hq => ?_⟩
    all_goals (
      rw [Below.heap_setCell _ _ _ _ hq]
      exact HKW.out q hq)
/-- Bodies whose row of its own stays. -/
theorem Bs.box {w w' : World} {B L P : Nat} {b b' : Bd} {nb : Nat} {ov uv : Value} (hU : w.ownsRow L 3 1 uv b.ou.length (b.ou.map (Value.int .i64))) (hBL : B < L) (hk : ∀ q, q ≠ B → w'.heap[q]? = w.heap[q]?) (ho : b'.ou = b.ou) (hB : Bw w' B P b'.ar nb ov b'.lt uv b'.cl) : Bs w' B L P b' nb ov := by
  refine ⟨uv, hB, ?_⟩
  rw [ho]
  exact own_keep hU fun q hq => hk q (by have := (World.ownsRow.lt hU q hq).1; omega)
set_option maxRecDepth 20000 in
set_option maxHeartbeats 3200000 in
theorem pass_c {w : World} {B L P : Nat} {b : Bd} {nb : Nat} {ov : Value} (h : Bs w B L P b nb ov) (hBL : B < L) (hL : L ≤ w.heap.size) (p : Nat) (o : Oq) (a : Option Addr) (cap : Nat) (hou : b.ou.length ≤ 8192) (he : 0 ≤ b.ar.el ∧ b.ar.el ≤ 64) (hst : 0 ≤ b.ar.st ∧ b.ar.st ≤ 64) (hlt : 0 ≤ b.lt ∧ b.lt ≤ 64) (h6 : o.k = 6 → b.ou ≠ []) (h12 : o.k = 12 → 1 ≤ o.a ∧ o.a ≤ b.lt) :
    Calls Try.prog 63 #[.pointer (some ⟨B, 0, none⟩), .int .i64 p, opv o (.slice a o.l.length cap)] w fun e w' => (∃ v, e = .returned v) ∧ Bs w' B L P (pass b p o) nb ov ∧ Xl B L w w' := by
  by_cases k3 : o.k = 3
  · exact pass3 h hBL hL p o a cap k3 hou he
  obtain ⟨W, hW, b0, hs, hx⟩ := box5 w (.int .i64 o.k) (.int .i64 o.a) (.int .i64 o.b) (.int .i64 o.c) (.slice a o.l.length cap) 46
  have hBl : B < w.heap.size := by obtain ⟨uv, hB, -⟩ := h; exact hB.lt
  have c0 := cell_of hx 0 _ rfl
  have c1 := cell_of hx 1 _ rfl
  have HLW : Hid (Below B w W) := b0.mono (by omega)
  have HGW : Hid (∀ g, g < L → W.heap[g]? = w.heap[g]?) := fun g hg => b0.block g (by omega)
  by_cases k6 : o.k = 6
  · obtain ⟨l, x, e⟩ := snoc _ (h6 k6)
    rw [pass_6 k6 e]
    have hS := h.below b0
    obtain ⟨A, lt, ou, cl⟩ := b
    dsimp only at *
    subst e
    have cL := leave_c hS hBL (by omega) p (by simp at hou; omega) he
    generalize (if l.length = 0 ∧ cl = 0 then (p : Int) else cl) = Y at *
    obtain ⟨k, x1, x2, x3, x4⟩ := o
    dsimp only at *
    subst k6
    generalize x4.length = n at *
    clear hS h hx b0 h6 h12
    go_enter Try.func63, Try.ntmps63
    go_wp2_with fail
    refine cL.mono ?_
    rintro e W1 ⟨⟨v, rfl⟩, h1, h2⟩
    have H1 := hid h1
    have H2 := hid h2
    clear cL h1 h2
    go_wp2_with fail
    go_end0
    exact ⟨⟨_, rfl⟩, H1.out, HLW.out.trans H2.out.1, fun g hg hq => (H2.out.2 g hg hq).trans (HGW.out g hg)⟩
  obtain ⟨uv, hB, hU⟩ := h
  obtain ⟨ua, uc, rfl, huc, hum⟩ := own_shape hU
  have hB0 := hB.keep b0
  have e3 := cell_of hB0 3 _ rfl
  have e8 := cell_of hB0 8 _ rfl
  have r3 := frz hB0 3
  have r8 := frz hB0 8
  have HBW := hid hB0
  have HU := hid (own_keep hU fun g hg => b0.block g (World.ownsRow.lt hU g hg).2 : W.ownsRow L 3 1 (.slice ua b.ou.length uc) b.ou.length (b.ou.map (Value.int .i64)))
  have hBx : w.heap.size ≠ B := by omega
  clear hB hU hB0 b0 hx
  by_cases k11 : o.k = 11
  · rw [pass_11 k11]
    obtain ⟨A, lt, ou, cl⟩ := b
    obtain ⟨k, x1, x2, x3, x4⟩ := o
    dsimp only at *
    subst k11
    have hw1 : IntKind.i64.wrap (lt + 1) = lt + 1 := w64 (by omega) (by omega)
    have hw2 : IntKind.i64.wrap (A.st + 1) = A.st + 1 := w64 (by omega) (by omega)
    generalize x4.length = n at *
    clear h6 h12
    go_enter Try.func63, Try.ntmps63
    go_wp2_with fail
    go_end0
    refine ⟨⟨_, rfl⟩, Bs.box HU.out hBL (fun q hq => ?_) rfl (Bw.set3 (Bw.set8 HBW.out _) _), (HLW.out.setCell (p := ⟨B, 8, none⟩) (Nat.le_refl _) _).setCell (p := ⟨B, 3, none⟩) (Nat.le_refl _) _, fun q hg hq => ?_⟩
    · rw [Below.heap_setCell _ _ _ _ hq, Below.heap_setCell _ _ _ _ hq]
    · rw [Below.heap_setCell _ _ _ _ hq, Below.heap_setCell _ _ _ _ hq]
      exact HGW.out q hg
  by_cases k12 : o.k = 12
  · rw [pass_12 k12]
    have h12 := h12 k12
    obtain ⟨A, lt, ou, cl⟩ := b
    obtain ⟨k, x1, x2, x3, x4⟩ := o
    dsimp only at *
    subst k12
    have hw1 : IntKind.i64.wrap (lt - x1) = lt - x1 := w64 (by omega) (by omega)
    have hw2 : IntKind.i64.wrap (A.st - x1) = A.st - x1 := w64 (by omega) (by omega)
    generalize x4.length = n at *
    clear h6
    go_enter Try.func63, Try.ntmps63
    go_wp2_with fail
    go_region
    go_wp2_with fail
    go_region
    go_wp2_with fail
    go_end0
    refine ⟨⟨_, rfl⟩, Bs.box HU.out hBL (fun q hq => ?_) rfl (Bw.set3 (Bw.set8 HBW.out _) _), (((HLW.out.setCell (p := ⟨B, 8, none⟩) (Nat.le_refl _) _).setCell (p := ⟨B, 3, none⟩) (Nat.le_refl _) _).drew).drew, fun q hg hq => ?_⟩
    · exact (Below.heap_setCell _ _ _ _ hq).trans (Below.heap_setCell _ _ _ _ hq)
    · exact ((Below.heap_setCell _ _ _ _ hq).trans (Below.heap_setCell _ _ _ _ hq)).trans (HGW.out q hg)
  rw [pass_0 k3 k6 k11 k12]
  have d3 : (o.k == 3) = false := by simp [k3]
  have d6 : (o.k == 6) = false := by simp [k6]
  have d11 : (o.k == 11) = false := by simp [k11]
  have d12 : (o.k == 12) = false := by simp [k12]
  obtain ⟨k, x1, x2, x3, x4⟩ := o
  dsimp only at *
  generalize x4.length = n at *
  clear h6 h12
  go_enter Try.func63, Try.ntmps63
  go_wp2_with fail
  go_end0
  exact ⟨⟨_, rfl⟩, ⟨_, HBW.out, HU.out⟩, HLW.out, fun g hg _ => HGW.out g hg⟩
end Go.Proofs.Ytgknjjaemjkloaa.BPt

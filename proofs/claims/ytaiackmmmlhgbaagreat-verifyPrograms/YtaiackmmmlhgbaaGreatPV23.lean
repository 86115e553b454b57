import Derived.Deep.RegionHeld3
import Derived.OwnWalk
import Derived.Test.YtaiackmmmlhgbaaGreatPV07
import Derived.Test.YtaiackmmmlhgbaaGreatPV09
open Go.Proofs.Tryz
set_option linter.unusedVariables false
set_option maxRecDepth 20000
set_option maxHeartbeats 6400000
namespace Go.Proofs.YtaiackmmmlhgbaaGreat.CRf
open Go.RowKit IPure CPu CLo
open IBase (ro ro_len ro_get ro_set ro_congr heap_alloc_new Oi below_drewN)
theorem ijp_eq (o : Int) : ((o == 30) || ((o == 31) || ((o == 32) || (o == 33)))) = ijp o := by
  unfold ijp
  by_cases h : 30 <= o /\ o <= 33
  · have : o = 30 \/ o = 31 \/ o = 32 \/ o = 33 := by omega
    rcases this with rfl | rfl | rfl | rfl <;> decide
  · have h1 : (o == 30) = false := by simp; omega
    have h2 : (o == 31) = false := by simp; omega
    have h3 : (o == 32) = false := by simp; omega
    have h4 : (o == 33) = false := by simp; omega
    rw [h1, h2, h3, h4]
    simp
    omega
theorem jumps_c (o : Int) (w : World) : Calls prog 149 #[.int .i64 o] w fun e w' => e = .returned (.bool (ijp o)) /\ w = w' := by
  rw [<- ijp_eq]
  generalize hn1 : (o == 30) = x1
  generalize hn2 : (o == 31) = x2
  generalize hn3 : (o == 32) = x3
  generalize hn4 : (o == 33) = x4
  cases x1 <;> cases x2 <;> cases x3 <;> cases x4 <;> (
    go_enter func149, ntmps149
    go_wp2_with fail
    go_ret
    exact ⟨rfl, rfl⟩)
def nx (o : Int) : Int := if 1 <= o /\ o <= 6 then 1 else if o = 7 \/ o = 9 \/ o = 10 \/ o = 11 \/ o = 29 \/ o = 33 then 0 else -1
def jx (o : Int) : Int := if o = 32 then -1 else 0
theorem rneeds_c (o : Int) (h1 : 1 <= o) (h2 : o <= 33) (w : World) : Calls prog 148 #[.int .i64 o] w fun e w' => e = .returned (.tuple #[.int .i64 (nd o), .int .i64 (nx o), .int .i64 (jx o)]) /\ w = w' := by
  have hc : o = 1 \/ o = 2 \/ o = 3 \/ o = 4 \/ o = 5 \/ o = 6 \/ o = 7 \/ o = 8 \/ o = 9 \/ o = 10 \/ o = 11 \/ (12 <= o /\ o <= 28) \/ o = 29 \/ o = 30 \/ o = 31 \/ o = 32 \/ o = 33 := by omega
  rcases hc with rfl | rfl | rfl | rfl | rfl | rfl | rfl | rfl | rfl | rfl | rfl | hc | rfl | rfl | rfl | rfl | rfl
  case inr.inr.inr.inr.inr.inr.inr.inr.inr.inr.inr.inl =>
    have e1 : nd o = 2 := by
      have a1 : decide (o <= 6) = false := by simp; omega
      have a2 : (o == 33) = false := by simp; omega
      have a3 : decide (12 <= o) = true := by simp; omega
      have a4 : decide (o <= 28) = true := by simp; omega
      unfold nd
      rw [a1, a2, a3, a4]
      simp
    have e2 : nx o = -1 := by unfold nx; rw [if_neg (by omega), if_neg (by omega)]
    have e3 : jx o = 0 := by unfold jx; rw [if_neg (by omega)]
    rw [e1, e2, e3]
    have a0 : decide (1 <= o) = true := by simp; omega
    have a1 : decide (o <= 6) = false := by simp; omega
    have a2 : (o == 33) = false := by simp; omega
    have a3 : (o == 7) = false := by simp; omega
    have a4 : (o == 9) = false := by simp; omega
    have a5 : (o == 10) = false := by simp; omega
    have a6 : (o == 11) = false := by simp; omega
    have a7 : (o == 29) = false := by simp; omega
    have a8 : (o == 30) = false := by simp; omega
    have a9 : (o == 31) = false := by simp; omega
    have b0 : (o == 32) = false := by simp; omega
    clear hc h1 h2 e1 e2 e3
    go_enter func148, ntmps148
    go_wp2_with fail
    go_ret3
    exact ⟨rfl, rfl⟩
  all_goals
    clear h1 h2
    go_enter func148, ntmps148
    go_wp2_with fail
    go_ret3
    exact ⟨rfl, rfl⟩
def rfm (n : Nat) (t d : Int) (i : Nat) (o a : Int) : Int := if fmd o a = false then 2000 else if hnm t d o a = false then 2003 else if ijp o = true /\ (a <= i \/ (n : Int) < a) then 2002 else 0
def FO (w : World) (x : Int) (e : Ending) (w' : World) : Prop := e = .returned (.int .i64 x) /\ Below w.heap.size w w'
theorem form_c (n : Nat) (t d : Int) (i : Nat) (o a : Int) (w : World) : Calls prog 147 #[.agg #[.int .i64 o, .int .i64 a], .int .i64 (i : Nat), .int .i64 (n : Nat), .int .i64 t, .int .i64 d] w fun e w' => FO w (rfm n t d i o a) e w' := by
  obtain ⟨W, hW, hb, hs, c0, c1⟩ := box1 w (.int .i64 o) (.int .i64 a) 65
  have HB : Hid (Below w.heap.size w W) := hb
  have cJ := jumps_c o W
  clear hb
  obtain ⟨X, hX⟩ : ∃ X, rfm n t d i o a = X := ⟨_, rfl⟩
  rw [hX]
  by_cases h1 : o < 1
  · have : X = 2000 := by
      rw [<- hX]
      unfold rfm
      rw [if_pos]
      have a1 : decide (1 <= o) = false := by simp; omega
      have b : ∀ k : Int, 4 <= k -> (o == k) = false := fun k hk => by simp; omega
      simp [fmd, a1, b]
    subst this
    have d1 : decide (o < 1) = true := by simp [h1]
    clear h1 hX cJ
    go_enter func147, ntmps147
    go_wp2_with fail
    go_ret
    exact ⟨rfl, HB.out⟩
  by_cases h2 : 33 < o
  · have : X = 2000 := by
      rw [<- hX]
      unfold rfm
      rw [if_pos]
      have a1 : decide (o <= 33) = false := by simp; omega
      have b : ∀ k : Int, k <= 33 -> (o == k) = false := fun k hk => by simp; omega
      simp [fmd, a1, b]
    subst this
    have d1 : decide (o < 1) = false := by simp [h1]
    have d2 : decide (33 < o) = true := by simp [h2]
    clear h1 h2 hX cJ
    go_enter func147, ntmps147
    go_wp2_with fail
    go_ret
    exact ⟨rfl, HB.out⟩
  have d1 : decide (o < 1) = false := by simp [h1]
  have d2 : decide (33 < o) = false := by simp [h2]
  by_cases h4 : o = 4
  · subst h4
    have : X = 0 := by rw [<- hX]; simp [rfm, fmd, hnm, ijp]
    subst this
    clear h1 h2 hX cJ
    go_enter func147, ntmps147
    go_wp2_with fail
    go_ret
    exact ⟨rfl, HB.out⟩
  by_cases h5 : o = 5 \/ o = 7
  · have hX : (if 0 <= a /\ a < t then (0 : Int) else 2003) = X := by
      rw [<- hX]
      rcases h5 with rfl | rfl <;> simp [rfm, fmd, hnm, ijp] <;> split <;> split <;> omega
    have HX : Hid ((if 0 <= a /\ a < t then (0 : Int) else 2003) = X) := hX
    clear hX
    cases e1 : decide (a < 0) <;> cases e2 : decide (t <= a)
    all_goals
      have hX := HX.out
      have e1' := e1
      have e2' := e2
      simp at e1' e2'
      first | rw [if_pos (by omega)] at hX | rw [if_neg (by omega)] at hX
      subst hX
      clear HX e1' e2' cJ h1 h2 h4
      rcases h5 with rfl | rfl
      all_goals
        go_enter func147, ntmps147
        go_wp2_with fail
        go_ret
        exact ⟨rfl, HB.out⟩
  by_cases h6 : o = 6
  · subst h6
    have hX : (if 0 <= a /\ a < d then (0 : Int) else 2003) = X := by
      rw [<- hX]
      simp [rfm, fmd, hnm, ijp]
      split <;> split <;> omega
    have HX : Hid ((if 0 <= a /\ a < d then (0 : Int) else 2003) = X) := hX
    clear hX
    cases e1 : decide (a < 0) <;> cases e2 : decide (d <= a)
    all_goals
      have hX := HX.out
      have e1' := e1
      have e2' := e2
      simp at e1' e2'
      first | rw [if_pos (by omega)] at hX | rw [if_neg (by omega)] at hX
      subst hX
      clear HX e1' e2' cJ h1 h2 h4 h5
      go_enter func147, ntmps147
      go_wp2_with fail
      go_ret
      exact ⟨rfl, HB.out⟩
  by_cases h9 : o = 9
  · subst h9
    have hX : (if 1 <= a /\ a <= 8 then (0 : Int) else 2000) = X := by
      rw [<- hX]
      simp [rfm, fmd, hnm, ijp]
      split <;> split <;> omega
    have HX : Hid ((if 1 <= a /\ a <= 8 then (0 : Int) else 2000) = X) := hX
    clear hX
    cases e1 : decide (a < 1) <;> cases e2 : decide (8 < a)
    all_goals
      have hX := HX.out
      have e1' := e1
      have e2' := e2
      simp at e1' e2'
      first
      | (exfalso; omega)
      | ((first | rw [if_pos (by omega)] at hX | rw [if_neg (by omega)] at hX)
         subst hX
         clear HX e1' e2' cJ h1 h2 h4 h5 h6
         go_enter func147, ntmps147
         go_wp2_with fail
         go_ret
         exact ⟨rfl, HB.out⟩)
  have q4 : (o == 4) = false := by simp; omega
  have q5 : (o == 5) = false := by simp; omega
  have q6 : (o == 6) = false := by simp; omega
  have q7 : (o == 7) = false := by simp; omega
  have q9 : (o == 9) = false := by simp; omega
  by_cases hj : 30 <= o
  · have hJ : ijp o = true := by simp [ijp]; omega
    have hX : (if a <= (i : Int) \/ (n : Int) < a then (2002 : Int) else 0) = X := by
      rw [<- hX]
      have hf : fmd o a = true := by
        have : o = 30 \/ o = 31 \/ o = 32 \/ o = 33 := by omega
        rcases this with rfl | rfl | rfl | rfl <;> rfl
      have hn : hnm t d o a = true := by simp [hnm, q5, q6, q7]
      unfold rfm
      rw [hf, hn, hJ]
      simp
    have HX : Hid ((if a <= (i : Int) \/ (n : Int) < a then (2002 : Int) else 0) = X) := hX
    rw [hJ] at cJ
    clear hX hJ
    cases e1 : decide (a <= (i : Int)) <;> cases e2 : decide ((n : Int) < a)
    all_goals
      have hX := HX.out
      have e1' := e1
      have e2' := e2
      simp at e1' e2'
      first | rw [if_pos (by omega)] at hX | rw [if_neg (by omega)] at hX
      subst hX
      clear HX e1' e2' h1 h2 h4 h5 h6 h9 hj
      go_enter func147, ntmps147
      go_wp2_with fail
      refine cJ.mono ?_
      rintro e w1 ⟨rfl, rfl⟩
      go_wp2_with fail
      go_ret
      exact ⟨rfl, HB.out⟩
  · have hJ : ijp o = false := by simp [ijp]; omega
    have hX : (if a = 0 then (0 : Int) else 2000) = X := by
      rw [<- hX]
      have hf : fmd o a = (a == 0) := by
        have b : ∀ k : Int, 30 <= k -> (o == k) = false := fun k hk => by simp; omega
        have b1 : decide (1 <= o) = true := by simp; omega
        have b2 : decide (o <= 33) = true := by simp; omega
        simp [fmd, q4, q5, q6, q7, q9, b, b1, b2]
      have hn : hnm t d o a = true := by simp [hnm, q5, q6, q7]
      unfold rfm
      rw [hf, hn, hJ]
      by_cases h : a = 0 <;> simp [h]
    have HX : Hid ((if a = 0 then (0 : Int) else 2000) = X) := hX
    rw [hJ] at cJ
    clear hX hJ
    cases e1 : (a == 0)
    all_goals
      have hX := HX.out
      have e1' := e1
      simp at e1'
      first | rw [if_pos e1'] at hX | rw [if_neg e1'] at hX
      subst hX
      clear HX e1' h1 h2 h4 h5 h6 h9 hj
      go_enter func147, ntmps147
      go_wp2_with fail
      refine cJ.mono ?_
      rintro e w1 ⟨rfl, rfl⟩
      go_wp2_with fail
      go_ret
      exact ⟨rfl, HB.out⟩
theorem upd_same {H : Nat -> Int} {k : Nat} {x : Int} (h : H k = x) : upd H k x = H := by
  funext j
  unfold upd
  split
  · next e => subst e; exact h.symm
  · rfl
def RL (B : Nat) (w : World) (g N cap : Nat) (H : Nat -> Int) (k : Nat) (x : Int) (e : Ending) (w' : World) : Prop := e = .returned (.bool (ldb H k x)) /\ Oi w' B (.slice (some ⟨g, 0, none⟩) N cap) (ro N (ld H k x)) /\ Below B w w' /\ w.heap.size <= w'.heap.size
theorem rlead_c {w : World} {B g N cap : Nat} {H : Nat -> Int} (h : Oi w B (.slice (some ⟨g, 0, none⟩) N cap) (ro N H)) (hN : N <= cap /\ cap <= 9223372036854775807) {k : Nat} (hk : k < N) (x : Int) :
    Calls prog 150 #[.slice (some ⟨g, 0, none⟩) N cap, .int .i64 (k : Nat), .int .i64 x] w fun e w' => RL B w g N cap H k x e w' := by
  obtain ⟨c0, f0⟩ := h.at (k := k) (by rw [ro_len]; exact hk)
  rw [ro_get, Nat.zero_add] at c0
  rw [Nat.zero_add] at f0
  obtain ⟨s1, s2⟩ := h.set k x
  rw [ro_set] at s1
  have hB : B <= g := (h.lt).1
  have b1 : Below B w (w.setCell ⟨g, k, none⟩ (.int .i64 x)) := (Below.refl _ w).setCell (p := ⟨g, k, none⟩) hB _
  have z1 : w.heap.size <= (w.setCell ⟨g, k, none⟩ (.int .i64 x)).heap.size := by simp [World.setCell]
  obtain ⟨h1, h2⟩ := hN
  unfold RL
  by_cases hn : H k < 0
  · have e1 : ldb H k x = true := by simp [ldb, hn]
    have e2 : ld H k x = upd H k x := by simp [ld, hn]
    have hlt : decide (0 <= H k) = false := by simp; omega
    rw [e1, e2]
    have HS : Hid _ := s1
    have HB : Hid _ := And.intro b1 z1
    clear h s1 s2 b1 z1 e1 e2
    generalize H k = y at *
    clear hn
    go_enter func150, ntmps150
    go_wp2_with fail
    go_ret
    exact ⟨rfl, HS.out, HB.out⟩
  · have e1 : ldb H k x = (H k == x) := by simp [ldb, hn]
    have e2 : ld H k x = H := by simp [ld, hn]
    have hlt : decide (0 <= H k) = true := by simp; omega
    rw [e1, e2]
    by_cases he : H k = x
    · rw [upd_same he] at s1
      have q : (H k == x) = true := by simp [he]
      rw [q]
      have HS : Hid _ := s1
      have HB : Hid _ := And.intro b1 z1
      clear h s1 s2 b1 z1 e1 e2
      generalize H k = y at *
      clear hn he
      go_enter func150, ntmps150
      go_wp2_with fail
      go_ret
      exact ⟨rfl, HS.out, HB.out⟩
    · have q : (H k == x) = false := by simp [he]
      rw [q]
      have HS : Hid _ := h
      clear h s1 s2 b1 z1 e1 e2
      generalize H k = y at *
      clear hn he
      go_enter func150, ntmps150
      go_wp2_with fail
      go_ret
      exact ⟨rfl, HS.out, Below.refl _ _, Nat.le_refl _⟩
end Go.Proofs.YtaiackmmmlhgbaaGreat.CRf
namespace Go.Proofs.YtaiackmmmlhgbaaGreat.CRc
open Go.RowKit IPure CPu CBx CRf CFl
open IBase (ro ro_len ro_get ro_set ro_congr heap_alloc_new Oi below_drewN make_ints oi_made mz below_cell)
theorem fmd_range {o a : Int} (h : fmd o a = true) : 1 <= o /\ o <= 33 := by
  by_cases hr : 1 <= o /\ o <= 33
  · exact hr
  · have b : ∀ k : Int, 1 <= k -> k <= 33 -> (o == k) = false := fun k h1 h2 => by simp; omega
    have b1 : (decide (1 <= o) && decide (o <= 33)) = false := by simp; omega
    simp [fmd, b, b1] at h
theorem nx_eq {o : Int} (h1 : 1 <= o) (h2 : o <= 33) (h3 : ijp o = false) : nx o = 1 - nd o := by
  have h4 : ¬ 30 <= o := by simp [ijp] at h3; omega
  have hc : o = 1 \/ o = 2 \/ o = 3 \/ o = 4 \/ o = 5 \/ o = 6 \/ o = 7 \/ o = 8 \/ o = 9 \/ o = 10 \/ o = 11 \/ o = 12 \/ o = 13 \/ o = 14 \/ o = 15 \/ o = 16 \/ o = 17 \/ o = 18 \/ o = 19 \/ o = 20 \/ o = 21 \/ o = 22 \/ o = 23 \/ o = 24 \/ o = 25 \/ o = 26 \/ o = 27 \/ o = 28 \/ o = 29 := by omega
  rcases hc with rfl | rfl | rfl | rfl | rfl | rfl | rfl | rfl | rfl | rfl | rfl | rfl | rfl | rfl | rfl | rfl | rfl | rfl | rfl | rfl | rfl | rfl | rfl | rfl | rfl | rfl | rfl | rfl | rfl <;> decide
theorem lon_low {H : Nat -> Int} {i : Nat} {o a : Int} (h : H i < nd o) : lon H i o a = none := by
  unfold lon
  rw [if_pos (by omega)]
theorem lon_next {H : Nat -> Int} {i : Nat} {o a : Int} (h : ¬ H i < nd o) (h1 : 1 <= o) (h2 : o <= 33) (h3 : ijp o = false) : lon H i o a = one H (i + 1) (H i + nx o) := by
  have h4 : ¬ 30 <= o := by simp [ijp] at h3; omega
  unfold lon
  rw [if_neg (by omega), if_neg (by omega), if_neg (by omega), if_neg (by omega), nx_eq h1 h2 h3]
  congr 1
  omega
theorem lon_jump {H : Nat -> Int} {i : Nat} {a : Int} (h : ¬ H i < 0) : lon H i 33 a = one H a.toNat (H i + jx 33) := by
  unfold lon
  rw [nd33, if_neg (by omega), if_neg (by omega), if_neg (by omega), if_pos rfl]
  rfl
theorem lon_both {H : Nat -> Int} {i : Nat} {o a : Int} (h : ¬ H i < nd o) (ho : o = 30 \/ o = 31 \/ o = 32) : lon H i o a = both H a.toNat (H i + jx o) (i + 1) (H i + nx o) := by
  have e1 : nx o = -1 := by rcases ho with rfl | rfl | rfl <;> decide
  have e2 : nd o = 1 := by rcases ho with rfl | rfl | rfl <;> decide
  unfold lon
  rw [e1, e2]
  rw [e2] at h
  rcases ho with rfl | rfl | rfl
  · have : jx 30 = 0 := by decide
    rw [this, if_neg (by omega), if_pos (by omega)]
    congr 1
    omega
  · have : jx 31 = 0 := by decide
    rw [this, if_neg (by omega), if_pos (by omega)]
    congr 1
    omega
  · have : jx 32 = -1 := by decide
    rw [this, if_neg (by omega), if_neg (by omega), if_pos rfl]
    rfl
theorem ld_ne {H : Nat -> Int} {k j : Nat} {x : Int} (h : j ≠ k) : ld H k x j = H j := by
  unfold ld
  split
  · simp [upd, h]
  · rfl
theorem rfm_fl {n : Nat} {t d : Int} {H : Nat -> Int} {i : Nat} {o a : Int} (h1 : 0 <= H i) (h : rfm n t d i o a ≠ 0) : fl n t d H i (o, a) = .error (rfm n t d i o a) := by
  unfold rfm at h ⊢
  by_cases hF : fmd o a = false
  · rw [if_pos hF]; exact fl_form h1 hF
  rw [if_neg hF] at h ⊢
  simp at hF
  by_cases hG : hnm t d o a = false
  · rw [if_pos hG]; exact fl_name h1 hF hG
  rw [if_neg hG] at h ⊢
  simp at hG
  by_cases hJ : ijp o = true /\ (a <= (i : Int) \/ (n : Int) < a)
  · rw [if_pos hJ]; exact fl_jump h1 hF hG hJ
  rw [if_neg hJ] at h
  exact absurd rfl h
theorem rfm_ok {n : Nat} {t d : Int} {i : Nat} {o a : Int} (h : rfm n t d i o a = 0) : fmd o a = true /\ hnm t d o a = true /\ (ijp o = true -> (i : Int) < a /\ a <= (n : Int)) := by
  unfold rfm at h
  split at h
  · cases h
  split at h
  · cases h
  split at h
  · cases h
  next h1 h2 h3 =>
    refine ⟨by simpa using h1, by simpa using h2, fun hj => ?_⟩
    have h4 : ¬ (a <= (i : Int) \/ (n : Int) < a) := fun hh => h3 ⟨hj, hh⟩
    omega
theorem jx_range (o : Int) : -1 <= jx o /\ jx o <= 0 := by unfold jx; split <;> omega
theorem nx_range (o : Int) : -1 <= nx o /\ nx o <= 1 := by unfold nx; split; omega; split <;> omega
def hq (q : Nat) : Nat -> Int := fun k => if k = 0 then 0 else if k < q then -1 else 0
theorem hq_set (q : Nat) (h : 1 <= q) : upd (hq q) q (-1) = hq (q + 1) := by
  funext j
  unfold upd hq
  split
  · next e => subst e; rw [if_neg (by omega), if_pos (by omega)]
  · split
    · rfl
    · split
      · rw [if_pos (by omega)]
      · rw [if_neg (by omega)]
theorem hq_end (n : Nat) : ro (n + 1) (hq (n + 1)) = ro (n + 1) h0 := ro_congr fun k hk => by
  unfold hq h0
  by_cases e : k = 0 <;> simp [e, hk]
theorem hq_one (N : Nat) : (ro N fun _ => 0) = ro N (hq 1) := ro_congr fun k hk => by
  unfold hq
  split
  · rfl
  · rw [if_neg (by omega)]
theorem rcheck_c {K : Nat} {w : World} {v : Value} {L : List Ins} (hv : Cx K w v L) (hK : K <= w.heap.size) (t d : Int) :
    Calls prog 95 #[v, .int .i64 t, .int .i64 d] w fun e w' => e = .returned (.int .i64 (ck L t d)) /\ Below w.heap.size w w' := by
  have HV : Hid (Cx K w v L) := hv
  obtain ⟨a, cap, rfl, hl, hm, hnil, hL⟩ := hv
  clear hL hnil
  obtain ⟨R, hR⟩ : ∃ R, ck L t d = R := ⟨_, rfl⟩
  rw [hR]
  unfold ck at hR
  obtain ⟨n, hn⟩ : ∃ n, L.length = n := ⟨_, rfl⟩
  rw [hn] at hR hl ⊢
  by_cases h8 : 8192 < n
  · rw [if_pos h8] at hR
    subst hR
    have d8 : decide ((8192 : Int) < (n : Int)) = true := by simp; omega
    clear hn h8
    go_enter func95, ntmps95
    go_wp2_with fail
    go_ret
    exact ⟨rfl, Below.refl _ _⟩
  rw [if_neg h8] at hR
  have d8 : decide ((8192 : Int) < (n : Int)) = false := by simp; omega
  have HN : Hid (L.length = n) := hn
  have HR : Hid (fls n t d h0 0 L = R) := hR
  have h9 : n <= 8192 := by omega
  have hmk : ∀ w, (Instr.makeSlice 72 (.int .i64 ((n : Int) + 1)) (.int .i64 ((n : Int) + 1))).run prog w = .ok (.slice (some ⟨w.heap.size, 0, none⟩) (n + 1) (n + 1)) (w.alloc (.cells (mz (n + 1)) 3)) := fun w => make_ints (n := n + 1) (by omega) w
  have o0 := oi_made (n := n + 1) (by omega) w
  rw [hq_one] at o0
  have HO0 : Hid (Oi (w.alloc (.cells (mz (n + 1)) 3)) w.heap.size (.slice (some ⟨w.heap.size, 0, none⟩) (n + 1) (n + 1)) (ro (n + 1) (hq 1))) := o0
  have HB0 : Hid (Below w.heap.size w (w.alloc (.cells (mz (n + 1)) 3))) := (Below.refl _ w).alloc (Nat.le_refl _) _
  have hw1 : IntKind.i64.wrap ((n : Int) + 1) = (n : Int) + 1 := w64 (by omega) (by omega)
  have HLE : Hid (n <= 8192) := h9
  clear hn hR h8 o0
  go_enter func95, ntmps95
  go_wp2_with fail
  generalize w.alloc (.cells (mz (n + 1)) 3) = W0 at *
  go_loopw [8] (fun v1 wr => ∃ (q : Nat), v1 = .int .i64 q /\ 1 <= q /\ q <= n + 1 /\ Oi wr w.heap.size (.slice (some ⟨w.heap.size, 0, none⟩) (n + 1) (n + 1)) (ro (n + 1) (hq q)) /\ Below w.heap.size w wr) (fun v1 _ => n + 1 - (intOf v1).toNat)
  case atStart => exact ⟨1, rfl, by omega, by omega, HO0.out, HB0.out⟩
  case round =>
    clear HO0 HB0 hmk
    obtain ⟨q, rfl, hq1, hq2, ho, hB⟩ := hrel
    by_cases hlt : q < n + 1
    · have d0 : decide ((q : Int) < (n : Int) + 1) = true := by simp; omega
      obtain ⟨c0, f0⟩ := ho.at (k := q) (by rw [ro_len]; exact hlt)
      rw [Nat.zero_add] at c0 f0
      obtain ⟨s1, s2⟩ := ho.set q (-1)
      rw [ro_set, hq_set q hq1] at s1
      have HS : Hid _ := s1
      have HB : Hid (Below w.heap.size w (wr.setCell ⟨w.heap.size, q, none⟩ (.int .i64 (-1)))) := hB.setCell (p := ⟨w.heap.size, q, none⟩) (Nat.le_refl _) _
      clear ho hB s1 s2
      go_wp2_with fail
      go_roundw
      case rel => exact ⟨q + 1, by go_num, by omega, by omega, HS.out, HB.out⟩
      case measure => simp only [intOf]; omega
    · have d0 : decide ((q : Int) < (n : Int) + 1) = false := by simp; omega
      obtain rfl : q = n + 1 := by omega
      rw [hq_end] at ho
      have HO1 : Hid (Oi wr w.heap.size (.slice (some ⟨w.heap.size, 0, none⟩) (n + 1) (n + 1)) (ro (n + 1) h0)) := ho
      have HB1 : Hid (Below w.heap.size w wr) := hB
      clear ho hB hq1 hq2 hlt
      go_wp2_with fail
      clear d0
      rw [show ((n + 1 : Nat) : Int) = (n : Int) + 1 from rfl]
      go_loopw [9] (fun v1 wr => ∃ (q : Nat) (H : Nat -> Int), v1 = .int .i64 q /\ q <= n /\ Oi wr w.heap.size (.slice (some ⟨w.heap.size, 0, none⟩) (n + 1) (n + 1)) (ro (n + 1) H) /\ Hb H /\ Below w.heap.size w wr /\ fls n t d H q (L.drop q) = R) (fun v1 _ => n - (intOf v1).toNat)
      case atStart => exact ⟨0, h0, rfl, by omega, HO1.out, hb0, HB1.out, HR.out⟩
      case round =>
        clear HO1 HB1 HR
        obtain ⟨q, H, rfl, hq, hy, hh, hB, hF⟩ := hrel
        obtain ⟨c9, f9⟩ := hy.at (k := q) (by rw [ro_len]; omega)
        rw [ro_get, Nat.zero_add] at c9
        have HYR : Hid (Oi wr w.heap.size (.slice (some ⟨w.heap.size, 0, none⟩) (n + 1) (n + 1)) (ro (n + 1) H)) := hy
        have HBR : Hid (Below w.heap.size w wr) := hB
        have HHR : Hid (Hb H) := hh
        have HF : Hid (fls n t d H q (L.drop q) = R) := hF
        clear hy hh hB hF f9
        by_cases hlt : q < n
        · have d0 : decide ((q : Int) < (n : Int)) = true := by simp; omega
          obtain ⟨aa, cc, hsl, -, -, -, hL⟩ := HV.out
          cases hsl
          have hlq : q < L.length := by rw [HN.out]; exact hlt
          obtain ⟨g, og, rfl, hg, hc⟩ : ∃ g o, a = some ⟨g, o, none⟩ /\ g < K /\ ∀ j (h : j < L.length), w.cell? ⟨g, o + j * 2, none⟩ = some (.int .i64 L[j].1) /\ w.cell? ⟨g, o + j * 2 + 1, none⟩ = some (.int .i64 L[j].2) := by
            rcases hL with rfl | hL
            · simp at hlq
            · exact hL
          obtain ⟨k0, k1⟩ := hc q hlq
          have HD : Hid (L.drop q = L[q] :: L.drop (q + 1)) := List.drop_eq_getElem_cons hlq
          clear hc hL
          generalize L[q] = x at *
          obtain ⟨o, a⟩ := x
          dsimp only at k0 k1
          have HK : Hid (∀ W, Below w.heap.size w W -> W.cell? ⟨g, og + q * 2, none⟩ = some (.int .i64 o) /\ W.cell? ⟨g, og + q * 2 + 1, none⟩ = some (.int .i64 a)) := fun W hW => ⟨cell_keep (by omega : g < w.heap.size) k0 hW, cell_keep (by omega : g < w.heap.size) k1 hW⟩
          clear k0 k1
          obtain ⟨k0, k1⟩ := HK.out wr HBR.out
          have hF := HF.out
          rw [HD.out, fls] at hF
          obtain ⟨X, hX⟩ : ∃ X, fl n t d H q (o, a) = X := ⟨_, rfl⟩
          rw [hX] at hF
          have HX : Hid (fl n t d H q (o, a) = X) := hX
          clear hX HD HF
          have HF : Hid (_ = R) := hF
          clear hF
          obtain ⟨y, hyy⟩ : ∃ y, H q = y := ⟨_, rfl⟩
          rw [hyy] at c9
          have HY : Hid (H q = y) := hyy
          have hyr := HHR.out q
          rw [hyy] at hyr
          clear hyy
          by_cases h1 : y < 0
          · have hX := HX.out
            rw [fl_low (by rw [HY.out]; exact h1)] at hX
            subst hX
            have hF := HF.out
            dsimp only at hF
            subst hF
            have d1 : decide (y < 0) = true := by simp [h1]
            clear h1
            go_wp2_with fail
            go_ret
            exact ⟨rfl, HBR.out⟩
          have d1 : decide (y < 0) = false := by simp [h1]
          have cF := form_c n t d q o a wr
          go_wp2_with fail
          refine cF.mono ?_
          rintro e W1 ⟨rfl, b1⟩
          have HB1 : Hid (Below w.heap.size w W1) := HBR.out.trans (b1.mono HBR.out.size)
          have HO1 : Hid (Oi W1 w.heap.size (.slice (some ⟨w.heap.size, 0, none⟩) (n + 1) (n + 1)) (ro (n + 1) H)) := HYR.out.below b1
          have c9 := below_cell c9 b1
          obtain ⟨k0, k1⟩ := HK.out W1 HB1.out
          obtain ⟨x, hx⟩ : ∃ x, rfm n t d q o a = x := ⟨_, rfl⟩
          rw [hx]
          have HXX : Hid (rfm n t d q o a = x) := hx
          have HY0 : Hid (0 <= H q) := by show 0 <= H q; rw [HY.out]; omega
          clear hx cF b1 HBR HYR h1 d1
          by_cases hx0 : ¬ x = 0
          · have hX := HX.out
            rw [rfm_fl HY0.out (by rw [HXX.out]; exact hx0), HXX.out] at hX
            subst hX
            have hF := HF.out
            dsimp only at hF
            subst hF
            have d1 : (x == 0) = false := by simp [hx0]
            clear hx0
            go_wp2_with fail
            go_ret
            exact ⟨rfl, HB1.out⟩
          have hx0 : x = 0 := Decidable.not_not.1 hx0
          subst hx0
          obtain ⟨hfm, hnm', hjj⟩ := rfm_ok HXX.out
          obtain ⟨r1, r2⟩ := fmd_range hfm
          have HR3 : Hid (fmd o a = true /\ hnm t d o a = true /\ (ijp o = true -> (q : Int) < a /\ a <= (n : Int)) /\ 1 <= o /\ o <= 33) := ⟨hfm, hnm', hjj, r1, r2⟩
          have cN := rneeds_c o r1 r2 W1
          clear hfm hnm' hjj r1 r2 HXX
          go_wp2_with fail
          refine cN.mono ?_
          rintro e w2 ⟨rfl, rfl⟩
          clear cN
          by_cases h2 : y < nd o
          · have hX := HX.out
            rw [fl_none HY0.out HR3.out.1 HR3.out.2.1 HR3.out.2.2.1 (lon_low (by rw [HY.out]; exact h2))] at hX
            subst hX
            have hF := HF.out
            dsimp only at hF
            subst hF
            have d2 : decide (y < nd o) = true := by simp [h2]
            clear h2
            generalize nd o = q1 at *
            generalize nx o = q2 at *
            generalize jx o = q3 at *
            go_wp2_with fail
            go_ret
            exact ⟨rfl, HB1.out⟩
          have d2 : decide (y < nd o) = false := by simp [h2]
          have HN2 : Hid (nd o <= y) := by show nd o <= y; omega
          have hjx := jx_range o
          have hnx := nx_range o
          have hndr := nd_range o
          have hwj : IntKind.i64.wrap (y + jx o) = y + jx o := w64 (by omega) (by omega)
          have hwn : IntKind.i64.wrap (y + nx o) = y + nx o := w64 (by omega) (by omega)
          have hwq : IntKind.i64.wrap ((q : Int) + 1) = (q : Int) + 1 := w64 (by omega) (by omega)
          have cJ : ∀ m, Calls prog 149 #[.int .i64 o] (W1.drewN m) fun e w' => e = .returned (.bool (ijp o)) /\ w' = W1.drewN m := fun m => (jumps_c o (W1.drewN m)).mono fun _ _ h => ⟨h.1, h.2.symm⟩
          clear h2 hjx hnx hndr
          obtain ⟨J, hJ⟩ : ∃ J, ijp o = J := ⟨_, rfl⟩
          have HJ : Hid (ijp o = J) := hJ
          rw [hJ] at cJ
          clear hJ
          cases J with
          | false =>
            have hlon := lon_next (H := H) (i := q) (a := a) (by rw [HY.out]; have := HN2.out; omega) HR3.out.2.2.2.1 HR3.out.2.2.2.2 HJ.out
            rw [HY.out] at hlon
            have d33 : ¬ o = 33 := by have := HJ.out; simp [ijp] at this; have := HR3.out.2.2.2.2; omega
            have cL : ∀ m, Calls prog 150 #[.slice (some ⟨w.heap.size, 0, none⟩) (n + 1) (n + 1), .int .i64 ((q : Int) + 1), .int .i64 (y + nx o)] (W1.drewN m) fun e w' => RL w.heap.size (W1.drewN m) w.heap.size (n + 1) (n + 1) H (q + 1) (y + nx o) e w' := fun m => rlead_c (w := W1.drewN m) HO1.out ⟨Nat.le_refl _, by omega⟩ (k := q + 1) (by omega) (y + nx o)
            have HLN : Hid _ := hlon
            clear hlon
            generalize nd o = q1 at *
            generalize hxn : nx o = q2 at *
            generalize jx o = q3 at *
            have HXN : Hid (nx o = q2) := hxn
            clear hxn
            go_wp2_with fail
            go_quiet (first | (go_at_call 149; exact Calls.quiet_of_same (cJ _)))
            go_wp2_with fail
            refine (cL _).mono ?_
            rintro e W2 ⟨rfl, o2, b2, -⟩
            have HB2 : Hid (Below w.heap.size w W2) := (below_drewN HB1.out).trans b2
            obtain ⟨U, hU⟩ : ∃ U, ldb H (q + 1) (y + q2) = U := ⟨_, rfl⟩
            rw [hU]
            have HU : Hid (ldb H (q + 1) (y + q2) = U) := hU
            have HO2 : Hid (Oi W2 w.heap.size (.slice (some ⟨w.heap.size, 0, none⟩) (n + 1) (n + 1)) (ro (n + 1) (ld H (q + 1) (y + q2)))) := o2
            clear hU cL cJ b2 o2
            have hX := HX.out
            cases U with
            | false =>
              rw [fl_none HY0.out HR3.out.1 HR3.out.2.1 HR3.out.2.2.1 (HLN.out.trans (by unfold one; rw [HU.out]; rfl))] at hX
              subst hX
              have hF := HF.out
              dsimp only at hF
              subst hF
              go_wp2_with fail
              go_ret
              exact ⟨rfl, HB2.out⟩
            | true =>
              rw [fl_some HY0.out HR3.out.1 HR3.out.2.1 HR3.out.2.2.1 (HLN.out.trans (by unfold one; rw [HU.out]; rfl))] at hX
              subst hX
              go_wp2_with fail
              go_roundw
              case rel => exact ⟨q + 1, _, by go_num, by omega, HO2.out, fl_hb HHR.out HX.out, HB2.out, HF.out⟩
              case measure => simp only [intOf]; omega
          | true =>
            obtain ⟨k, rfl, hk1, hk2⟩ : ∃ k : Nat, a = k /\ q < k /\ k <= n := by
              have := HR3.out.2.2.1 HJ.out
              exact ⟨a.toNat, by omega, by omega, by omega⟩
            have cL : Calls prog 150 #[.slice (some ⟨w.heap.size, 0, none⟩) (n + 1) (n + 1), .int .i64 (k : Nat), .int .i64 (y + jx o)] W1.drew fun e w' => RL w.heap.size W1.drew w.heap.size (n + 1) (n + 1) H k (y + jx o) e w' := rlead_c (w := W1.drew) HO1.out ⟨Nat.le_refl _, by omega⟩ (k := k) (by omega) (y + jx o)
            have HB1d : Hid (Below w.heap.size w W1.drew) := by exact below_drewN (n := 1) HB1.out
            have HQ : Hid (∀ W H', Oi W w.heap.size (.slice (some ⟨w.heap.size, 0, none⟩) (n + 1) (n + 1)) (ro (n + 1) H') -> W.cell? ⟨w.heap.size, q, none⟩ = some (.int .i64 (H' q))) := fun W H' h => by
              obtain ⟨c, -⟩ := h.at (k := q) (by rw [ro_len]; omega)
              rw [ro_get, Nat.zero_add] at c
              exact c
            have HKQ : Hid (q < k /\ k <= n) := ⟨hk1, hk2⟩
            have cM : Hid (∀ W H', Oi W w.heap.size (.slice (some ⟨w.heap.size, 0, none⟩) (n + 1) (n + 1)) (ro (n + 1) H') -> Calls prog 150 #[.slice (some ⟨w.heap.size, 0, none⟩) (n + 1) (n + 1), .int .i64 ((q : Int) + 1), .int .i64 (y + nx o)] W fun e w' => RL w.heap.size W w.heap.size (n + 1) (n + 1) H' (q + 1) (y + nx o) e w') := fun W H' h => rlead_c (w := W) h ⟨Nat.le_refl _, by omega⟩ (k := q + 1) (by omega) (y + nx o)
            have HLJ : Hid (o = 33 -> lon H q o k = one H k (y + jx o)) := fun e => by
              subst e
              have := lon_jump (H := H) (i := q) (a := k) (by have := HY0.out; omega)
              rw [HY.out, Int.toNat_natCast] at this
              exact this
            have HLB : Hid (¬ o = 33 -> lon H q o k = both H k (y + jx o) (q + 1) (y + nx o)) := fun e => by
              have := lon_both (H := H) (i := q) (a := k) (o := o) (by rw [HY.out]; have := HN2.out; omega) (by have h1 := HJ.out; simp [ijp] at h1; omega)
              rw [HY.out, Int.toNat_natCast] at this
              exact this
            clear hk1 hk2
            generalize nd o = q1 at *
            generalize nx o = q2 at *
            generalize jx o = q3 at *
            obtain ⟨U, hU⟩ : ∃ U, ldb H k (y + q3) = U := ⟨_, rfl⟩
            have HU : Hid (ldb H k (y + q3) = U) := hU
            clear hU
            have hi1 : (q : Int) < (n : Int) + 1 := by omega
            have hi2 : (q : Int) < ((n + 1 : Nat) : Int) := by omega
            have hi3 : (q : Int) <= (n : Int) := by omega
            have hi4 : (0 : Int) <= (q : Int) := by omega
            go_wp2_with fail
            go_region_held3 (fun w' => (w'.cell? ⟨g, og + q * 2, none⟩ = some (.int .i64 o) /\ w'.cell? ⟨g, og + q * 2 + 1, none⟩ = some (.int .i64 (k : Nat))) /\ w'.cell? ⟨w.heap.size, q, none⟩ = some (.int .i64 y)) (go_keep) (first
              | (go_at_call 149; refine (jumps_c o _).mono ?_; rintro e w5 ⟨rfl, rfl⟩; rw [HJ.out])
              | (go_at_call 150; refine cL.mono ?_; rintro e W2 ⟨rfl, o2, b2, -⟩; rw [HU.out]; obtain ⟨k0, k1⟩ := HK.out W2 (HB1d.out.trans b2); have c9 : W2.cell? ⟨w.heap.size, q, none⟩ = some (.int .i64 y) := (HQ.out W2 _ o2).trans (by rw [ld_ne (by have := HKQ.out; omega), HY.out])))
            have HB2 : Hid (Below w.heap.size w W2) := HB1d.out.trans b2
            have HO2 : Hid (Oi W2 w.heap.size (.slice (some ⟨w.heap.size, 0, none⟩) (n + 1) (n + 1)) (ro (n + 1) (ld H k (y + q3)))) := o2
            have c3 := cM.out W2 _ o2
            clear b2 o2 cL
            have hX := HX.out
            cases U with
            | false =>
              rw [fl_none HY0.out HR3.out.1 HR3.out.2.1 HR3.out.2.2.1 (by
                by_cases e : o = 33
                · rw [HLJ.out e]; unfold one; rw [HU.out]; rfl
                · rw [HLB.out e]; unfold both; rw [HU.out]; rfl)] at hX
              subst hX
              have hF := HF.out
              dsimp only at hF
              subst hF
              clear c3
              go_wp2_with fail
              go_ret
              exact ⟨rfl, HB2.out⟩
            | true =>
              by_cases e : o = 33
              · rw [fl_some HY0.out HR3.out.1 HR3.out.2.1 HR3.out.2.2.1 ((HLJ.out e).trans (by unfold one; rw [HU.out]; rfl))] at hX
                subst hX
                subst e
                clear c3
                go_wp2_with fail
                go_roundw
                case rel => exact ⟨q + 1, _, by go_num, by omega, HO2.out, fl_hb HHR.out HX.out, HB2.out, HF.out⟩
                case measure => simp only [intOf]; omega
              · obtain ⟨V, hV⟩ : ∃ V, ldb (ld H k (y + q3)) (q + 1) (y + q2) = V := ⟨_, rfl⟩
                have HVV : Hid (ldb (ld H k (y + q3)) (q + 1) (y + q2) = V) := hV
                clear hV hX
                go_wp2_with fail
                refine c3.mono ?_
                rintro e3 W3 ⟨rfl, o3, b3, -⟩
                rw [HVV.out]
                have HB3 : Hid (Below w.heap.size w W3) := HB2.out.trans b3
                have HO3 : Hid (Oi W3 w.heap.size (.slice (some ⟨w.heap.size, 0, none⟩) (n + 1) (n + 1)) (ro (n + 1) (ld (ld H k (y + q3)) (q + 1) (y + q2)))) := o3
                clear c3 b3 o3
                have hX := HX.out
                cases V with
                | false =>
                  rw [fl_none HY0.out HR3.out.1 HR3.out.2.1 HR3.out.2.2.1 ((HLB.out e).trans (by unfold both; rw [HU.out, HVV.out]; rfl))] at hX
                  subst hX
                  have hF := HF.out
                  dsimp only at hF
                  subst hF
                  go_wp2_with fail
                  go_ret
                  exact ⟨rfl, HB3.out⟩
                | true =>
                  rw [fl_some HY0.out HR3.out.1 HR3.out.2.1 HR3.out.2.2.1 ((HLB.out e).trans (by unfold both; rw [HU.out, HVV.out]; rfl))] at hX
                  subst hX
                  go_wp2_with fail
                  go_roundw
                  case rel => exact ⟨q + 1, _, by go_num, by omega, HO3.out, fl_hb HHR.out HX.out, HB3.out, HF.out⟩
                  case measure => simp only [intOf]; omega
        · have d0 : decide ((q : Int) < (n : Int)) = false := by simp; omega
          obtain rfl : q = n := by omega
          have hF := HF.out
          rw [List.drop_eq_nil_of_le (by rw [HN.out]; exact Nat.le_refl _), fls] at hF
          generalize H q = y at *
          by_cases h1 : y = 1
          · rw [if_pos h1] at hF
            subst h1
            subst hF
            go_wp2_with fail
            go_ret
            exact ⟨rfl, HBR.out⟩
          · rw [if_neg h1] at hF
            have d1 : (y == 1) = false := by simp [h1]
            subst hF
            clear h1
            go_wp2_with fail
            go_ret
            exact ⟨rfl, HBR.out⟩
end Go.Proofs.YtaiackmmmlhgbaaGreat.CRc

/- The document's own way: contract of the reference's Longest. -/
import Derived.Test.YtkjgbmoimobgaaaIRefP
import Derived.Test.YtkjgbmoimobgaaaIInts
namespace Go.Proofs.Ytkjgbmoimobgaaa.IRef
open Go.RowKit Go.Proofs.Ytkjgbmoimobgaaa.IPure Go.Proofs.Ytkjgbmoimobgaaa.IBase Go.Proofs.Ytkjgbmoimobgaaa.IInts Go.Proofs.Ytkjgbmoimobgaaa.IRefP
set_option linter.unusedVariables false

/-- A row of counts. -/
def rn (n : Nat) (m : Nat → Nat) : List Int := ro n fun j => (m j : Int)
theorem rn_set (n : Nat) (m : Nat → Nat) (k x : Nat) : (rn n m).set k (x : Int) = rn n (upd m k x) := by
  unfold rn
  rw [ro_set]
  apply ro_congr
  intro j _
  unfold upd
  split <;> rfl
theorem rn_len (n : Nat) (m : Nat → Nat) : (rn n m).length = n := ro_len _ _
theorem rn_zero (n : Nat) : (ro n fun _ => 0) = rn n fun _ => 0 := rfl
theorem upd_same {α : Type} (f : Nat → α) (k : Nat) (x : α) : upd f k x k = x := by simp [upd]
theorem upd_other {α : Type} (f : Nat → α) {k j : Nat} (x : α) (h : j ≠ k) : upd f k x j = f j := by simp [upd, h]
theorem upd_upd {α : Type} (f : Nat → α) (k : Nat) (x y : α) : upd (upd f k x) k y = upd f k y := by
  funext j
  unfold upd
  split <;> rfl
/-- Cell k of the row. -/
theorem at_rn {w : World} {B g n c : Nat} {m : Nat → Nat} (h : Oi w B (.slice (some ⟨g, 0, none⟩) n c) (rn n m)) {k : Nat} (hk : k < n) : w.cell? ⟨g, k, none⟩ = some (.int .i64 (m k : Nat)) ∧ w.frozen? ⟨g, k, none⟩ = false := by
  have := h.at (k := k) (by rw [rn_len]; exact hk)
  unfold rn at this
  rwa [Nat.zero_add, ro_get] at this
theorem set_rn {w : World} {B g n c : Nat} {m : Nat → Nat} (h : Oi w B (.slice (some ⟨g, 0, none⟩) n c) (rn n m)) (k x : Nat) : Oi (w.setCell ⟨g, k, none⟩ (.int .i64 (x : Int))) B (.slice (some ⟨g, 0, none⟩) n c) (rn n (upd m k x)) := by
  have := (h.set k (x : Int)).1
  rwa [rn_set] at this
set_option maxRecDepth 20000 in
set_option maxHeartbeats 800000 in
theorem rlong_c {w : World} {v : Value} {L : List Int} (hv : Ix w v L) (hn : L.length ≤ 17592186044416) :
    Calls Try.prog 10 #[v] w fun e w' => ∃ u, e = .returned u ∧ Oi w' w.heap.size u (rn (K L) (fin L)) ∧ Below w.heap.size w w' := by
  obtain ⟨i0, hi, hz0, hz1, hz2⟩ := info_parts infoI
  obtain ⟨a, cap, rfl, hl, hm, hnil, hL⟩ := hv
  obtain ⟨n, hnn⟩ : ∃ n, L.length = n := ⟨_, rfl⟩
  have HN : Hid (L.length = n) := hnn
  rw [hnn] at hl hn ⊢
  have hmk := make_ints hn
  have ho0 := oi_made hn w
  have hb0 : Below w.heap.size w (w.alloc (.cells (mz n) 3)) := (Below.refl _ w).alloc (Nat.le_refl _) _
  have hs0 : (w.alloc (.cells (mz n) 3)).heap.size = w.heap.size + 1 := by simp
  rw [rn_zero] at ho0
  clear hnn
  go_enter Try.func10, Try.ntmps10
  go_wp2_with fail
  generalize w.alloc (.cells (mz n) 3) = w0 at *
  go_loopw [4, 5] (fun bv i wr => ∃ (r b : Nat) (m : Nat → Nat), i = .int .i64 ((r : Int) - 1) ∧ bv = .int .i64 (b : Nat) ∧ r ≤ n ∧ b ≤ n ∧ Oi wr w.heap.size (.slice (some ⟨w.heap.size, 0, none⟩) n n) (rn n m) ∧
      (∀ j, r ≤ j → j < n → St L j (m j)) ∧ (∀ j, r ≤ j → j < n → m j ≤ b) ∧ ((b = 0 ∧ r = n) ∨ ∃ j, r ≤ j ∧ j < n ∧ b = m j) ∧ Below w.heap.size w wr ∧ w.heap.size + 1 ≤ wr.heap.size) (fun _ i _ => (intOf i + 1).toNat)
  case atStart => exact ⟨n, 0, _, rfl, rfl, Nat.le_refl _, by omega, ho0, fun j h1 h2 => by omega, fun j h1 h2 => by omega, .inl ⟨rfl, rfl⟩, hb0, by omega⟩
  case round =>
    obtain ⟨r, b, m, rfl, rfl, hr, hbn, hO, hst, hle, hex, hb, hsz⟩ := hrel
    cases r with
    | zero =>
      rw [show (((0 : Nat) : Int) - 1) = -1 by omega]
      have hS : ∀ j, j < L.length → St L j (m j) := fun j h => hst j (by omega) (by rw [HN.out] at h; exact h)
      have hbK : b = K L := best_K hS (fun j h => hle j (by omega) (by rw [HN.out] at h; exact h)) (by
        rcases hex with ⟨h1, h2⟩ | ⟨j, _, h2, h3⟩
        · exact .inl ⟨h1, by rw [HN.out]; omega⟩
        · exact .inr ⟨j, by rw [HN.out]; exact h2, h3⟩)
      have HST : Hid (∀ j, j < L.length → St L j (m j)) := hS
      have hKl := K_le L
      rw [HN.out] at hKl
      rw [hbK]
      clear hst hle hex hS hbK
      go_wp2_with fail
      go_loopw [4, 7, 8] (fun bv ov i wi => ∃ (q k : Nat), i = .int .i64 (q : Nat) ∧ bv = .int .i64 ((K L - k : Nat) : Int) ∧ q ≤ n ∧ k ≤ K L ∧ Oi wi (w.heap.size + 1) ov (rn k (fin L)) ∧ Oi wi w.heap.size (.slice (some ⟨w.heap.size, 0, none⟩) n n) (rn n m) ∧
        (k = 0 ∨ fin L (k - 1) < q) ∧ (k < K L → q ≤ fin L k) ∧ Below w.heap.size w wi ∧ w.heap.size + 1 ≤ wi.heap.size) (fun _ _ i _ => n - (intOf i).toNat)
      case atStart => exact ⟨0, 0, rfl, by simp, by omega, by omega, oi_nil _ _, hO, .inl rfl, fun _ => by omega, hb, hsz⟩
      case round =>
        obtain ⟨q, k, rfl, rfl, hq, hk, hOut, hRow, hk1, hk2, hbi, hszi⟩ := hrel
        by_cases hlt : q < n ∧ k < K L
        · obtain ⟨hqn, hkK⟩ := hlt
          rcases hL with rfl | ⟨g, o, rfl, hc⟩
          · have := HN.out; simp at this; omega
          have hlq : q < L.length := by rw [HN.out]; exact hqn
          have x1 := below_cell (hc q hlq) hbi
          rw [← va_eq hlq] at x1
          obtain ⟨y1, -⟩ := at_rn hRow (k := q) hqn
          have hsq := HST.out q hlq
          have dB : decide ((0 : Int) < ((K L - k : Nat) : Int)) = true := decide_eq_true (by omega)
          have dq : decide ((q : Int) < (n : Int)) = true := decide_eq_true (by omega)
          have HRO : Hid (∀ j, Oi (wr.drewN j) w.heap.size (.slice (some ⟨w.heap.size, 0, none⟩) n n) (rn n m)) := fun _ => hRow
          have hout := hOut.shape
          rw [rn_len] at hout
          obtain ⟨oa, oc, rfl⟩ := hout
          have HOUT : Hid (∀ j, Oi (wr.drewN j) (w.heap.size + 1) (.slice oa k oc) (rn k (fin L))) := fun _ => hOut
          have HROW : Hid (∀ j, (wr.drewN j).ownsRow (w.heap.size + 1) 3 1 (.slice oa k oc) k ((rn k (fin L)).map (Value.int .i64))) := fun _ => by
            have h := hOut
            unfold Oi at h
            rw [rn_len] at h
            exact h
          have hprev : 0 < k → ∃ g2, oa = some ⟨g2, 0, none⟩ ∧ k ≤ oc ∧ oc ≤ 9223372036854775807 ∧ wr.cell? ⟨g2, k - 1, none⟩ = some (.int .i64 (fin L (k - 1) : Nat)) ∧ fin L (k - 1) < n ∧ wr.cell? ⟨g, o + fin L (k - 1), none⟩ = some (.int .i64 (va L (fin L (k - 1)))) := fun h0 => by
            obtain ⟨g2, c2, e, h1, h2⟩ := hOut.pos (by rw [rn_len]; exact h0)
            rw [rn_len] at e h1
            cases e
            have hf := (pk (L := L) (k := k - 1) (by omega)).lt
            have hf2 : fin L (k - 1) < n := by rw [HN.out] at hf; exact hf
            refine ⟨g2, rfl, h1, h2, (at_rn hOut (k := k - 1) (by omega)).1, hf2, ?_⟩
            have := below_cell (hc _ hf) hbi
            rwa [← va_eq hf] at this
          by_cases hqf : q = fin L k
          · have hyes := asked_yes hkK (by rw [← hqf]; exact hsq)
            have HQ : Hid (q = fin L k) := hqf
            have HSN : Hid (rn (k + 1) (fin L) = rn k (fin L) ++ [((q : Nat) : Int)]) := by
              show _ = _
              unfold rn ro
              rw [List.range_succ, List.map_append, hqf]
              rfl
            have HK2 : Hid (k + 1 < K L → q + 1 ≤ fin L (k + 1)) := fun h => by
              have := (fin_lt (L := L) (k + 1) k (by omega) h).1
              omega
            rw [hyes.1] at y1
            have e1 : (((K L - k : Nat) : Int) == ((K L - k : Nat) : Int)) = true := by simp
            have hv2 := hyes.2
            rw [← hqf] at hv2
            clear hc hsq hOut hRow hyes hqf hk1 hk2
            by_cases hk0 : k = 0
            · subst hk0
              clear hprev hv2
              generalize va L q = z1 at *
              go_wp2_with fail
              go_quiet (fail)
              go_wp2_with (first
                | (at_builtin; refine wpList_append_own _ rfl _ _ 22 rfl (w.heap.size + 1) 3 i0 (.int .i64 0) 1 8 Try.underlying22 hi hz0 hz1 hz2 rfl (by decide) _ _ _ rfl (World.ownsRow.alloc (HROW.out nq) _) ⟨wr.heap.size, 0, none⟩ 1 1 [.int .i64 (q : Nat)] rfl rfl (new_cells (wr.drewN nq) _ 3) (one_ints [((q : Nat) : Int)]) (by first | (simp [maxLen]; done) | (simp [maxLen]; omega)) (by omega) (by simp; omega) ?_))
              intro v' w2 hown' hgrow hnn2
              have hT2 : Oi w2 (w.heap.size + 1) v' (rn (0 + 1) (fin L)) := by
                rw [HSN.out]
                unfold Oi
                simpa [rn_len] using hown'
              have hO2 : Oi w2 w.heap.size (.slice (some ⟨w.heap.size, 0, none⟩) n n) (rn n m) := World.ownsRow.kept (World.ownsRow.alloc (HRO.out nq) _) hgrow (.inr fun e => by
                have := (World.ownsRow.lt (HROW.out nq) w.heap.size (by rw [← e]; rfl)).1
                omega)
              have hb2 : Below w.heap.size w w2 := ((below_drewN hbi).alloc (by have := hbi.size; exact this) _).grown hgrow (by simp; omega) (fun j hj => by have := (World.ownsRow.lt (HROW.out nq) j hj).1; omega)
              have hs2 : w.heap.size + 1 ≤ w2.heap.size := by have := hgrow.size; simp at this; omega
              clear hgrow hown' hnn2 HROW HRO
              go_wp2_with fail
              go_roundw
              case rel => exact ⟨q + 1, 0 + 1, by go_num, by congr 1; omega, by omega, by omega, hT2, hO2, .inr (by rw [Nat.add_sub_cancel, ← HQ.out]; omega), HK2.out, hb2, hs2⟩
              case measure => simp only [intOf]; omega
            · obtain ⟨g2, rfl, p1, p2, p3, p4, p5⟩ := hprev (by omega)
              have e2 : ((k : Int) == 0) = false := by simp; omega
              have d3 : decide (va L (fin L (k - 1)) < va L q) = true := decide_eq_true (by
                rcases hv2 with h | h
                · omega
                · exact h)
              clear hprev hv2
              generalize va L (fin L (k - 1)) = z2 at *
              generalize fin L (k - 1) = z3 at *
              generalize va L q = z1 at *
              go_wp2_with fail
              go_quiet (fail)
              go_wp2_with (first
                | (at_builtin; refine wpList_append_own _ rfl _ _ 22 rfl (w.heap.size + 1) 3 i0 (.int .i64 0) 1 8 Try.underlying22 hi hz0 hz1 hz2 rfl (by decide) _ _ _ rfl (World.ownsRow.alloc (HROW.out nq) _) ⟨wr.heap.size, 0, none⟩ 1 1 [.int .i64 (q : Nat)] rfl rfl (new_cells (wr.drewN nq) _ 3) (one_ints [((q : Nat) : Int)]) (by first | (simp [maxLen]; done) | (simp [maxLen]; omega)) (by omega) (by simp; omega) ?_))
              intro v' w2 hown' hgrow hnn2
              have hT2 : Oi w2 (w.heap.size + 1) v' (rn (k + 1) (fin L)) := by
                rw [HSN.out]
                unfold Oi
                simpa [rn_len] using hown'
              have hO2 : Oi w2 w.heap.size (.slice (some ⟨w.heap.size, 0, none⟩) n n) (rn n m) := World.ownsRow.kept (World.ownsRow.alloc (HRO.out nq) _) hgrow (.inr fun e => by
                have := (World.ownsRow.lt (HROW.out nq) w.heap.size (by rw [← e]; rfl)).1
                omega)
              have hb2 : Below w.heap.size w w2 := ((below_drewN hbi).alloc (by have := hbi.size; exact this) _).grown hgrow (by simp; omega) (fun j hj => by have := (World.ownsRow.lt (HROW.out nq) j hj).1; omega)
              have hs2 : w.heap.size + 1 ≤ w2.heap.size := by have := hgrow.size; simp at this; omega
              clear hgrow hown' hnn2 HROW HRO
              go_wp2_with fail
              go_roundw
              case rel => exact ⟨q + 1, k + 1, by go_num, by congr 1; omega, by omega, by omega, hT2, hO2, .inr (by rw [Nat.add_sub_cancel, ← HQ.out]; omega), HK2.out, hb2, hs2⟩
              case measure => simp only [intOf]; omega
          · have hqlt : q < fin L k := by have := hk2 hkK; omega
            have HK3 : Hid (k < K L → q + 1 ≤ fin L k) := fun _ => by omega
            by_cases hmq : m q = K L - k
            · have hno := asked_no hkK hsq hqlt hk1 hmq
              rw [hmq] at y1
              have e1 : (((K L - k : Nat) : Int) == ((K L - k : Nat) : Int)) = true := by simp
              obtain ⟨g2, rfl, p1, p2, p3, p4, p5⟩ := hprev (by omega)
              have e2 : ((k : Int) == 0) = false := by simp; omega
              have d3 : decide (va L (fin L (k - 1)) < va L q) = false := decide_eq_false (by omega)
              have hk1' : k = 0 ∨ fin L (k - 1) < q := hk1
              have hk0 : 0 < k := by have := hno.1; omega
              have HK1 : Hid (k = 0 ∨ fin L (k - 1) < q) := hk1
              clear hprev hno hc hsq hOut hRow hk1 hk1' hk2 hmq hqf hqlt
              obtain ⟨z3, hz3'⟩ : ∃ z, fin L (k - 1) = z := ⟨_, rfl⟩
              rw [hz3'] at p3 p4 p5 d3
              clear hz3'
              generalize va L z3 = z2 at *
              generalize va L q = z1 at *
              go_wp2_with fail
              go_quiet (fail)
              go_wp2_with fail
              go_roundw
              case rel => exact ⟨q + 1, k, by go_num, rfl, by omega, by omega, HOUT.out nq, HRO.out nq, HK1.out.imp id (fun h => by omega), HK3.out, below_drewN hbi, hszi⟩
              case measure => simp only [intOf]; omega
            · have hne : m q ≠ K L - k := hmq
              have e1 : ((m q : Int) == ((K L - k : Nat) : Int)) = false := by simp; omega
              have HK1 : Hid (k = 0 ∨ fin L (k - 1) < q) := hk1
              clear hprev hc hsq hOut hRow hk1 hk2 hmq hqf hqlt hne
              generalize va L q = z1 at *
              go_wp2_with fail
              go_quiet (fail)
              go_wp2_with fail
              go_roundw
              case rel => exact ⟨q + 1, k, by go_num, rfl, by omega, by omega, HOUT.out nq, HRO.out nq, HK1.out.imp id (fun h => by omega), HK3.out, below_drewN hbi, hszi⟩
              case measure => simp only [intOf]; omega
        · have hkK : k = K L := by
            by_cases h : k < K L
            · have h1 := hk2 h
              have h2 := (pk h).lt
              rw [HN.out] at h2
              omega
            · omega
          subst hkK
          rw [Nat.sub_self]
          have HO : Hid (Oi wr (w.heap.size + 1) u7 (rn (K L) (fin L))) := hOut
          clear hL hOut hRow HST hk1 hk2
          by_cases hqn : q < n
          · have dq : decide ((q : Int) < (n : Int)) = true := decide_eq_true (by omega)
            go_wp2_with fail
            go_ret
            exact ⟨_, rfl, HO.out.mono (by omega), hbi⟩
          · have dq : decide ((q : Int) < (n : Int)) = false := decide_eq_false (by omega)
            go_wp2_with fail
            go_ret
            exact ⟨_, rfl, HO.out.mono (by omega), hbi⟩
    | succ r =>
      rw [show (((r + 1 : Nat) : Int) - 1) = (r : Int) by omega]
      have d0 : decide ((0 : Int) ≤ (r : Int)) = true := decide_eq_true (by omega)
      obtain ⟨r1, r2⟩ := at_rn hO (k := r) (by omega)
      have hO1 := set_rn hO r 1
      have hb1 : Below w.heap.size w (wr.setCell ⟨w.heap.size, r, none⟩ (.int .i64 ((1 : Nat) : Int))) := hb.setCell (p := ⟨w.heap.size, r, none⟩) (Nat.le_refl _) _
      have hsz1 : w.heap.size + 1 ≤ (wr.setCell ⟨w.heap.size, r, none⟩ (.int .i64 ((1 : Nat) : Int))).heap.size := by simp [World.setCell]; omega
      have HST : Hid (∀ j, r + 1 ≤ j → j < n → St L j (m j)) := hst
      have HLE : Hid (∀ j, r + 1 ≤ j → j < n → m j ≤ b) := hle
      have HEX : Hid ((b = 0 ∧ r + 1 = n) ∨ ∃ j, r + 1 ≤ j ∧ j < n ∧ b = m j) := hex
      clear hst hle hex hO
      rw [show ((1 : Nat) : Int) = 1 from rfl] at hO1 hb1 hsz1
      go_wp2_with fail
      generalize wr.setCell ⟨w.heap.size, r, none⟩ (.int .i64 1) = W1 at *
      go_loopw [6] (fun kv wi => ∃ (q t : Nat), kv = .int .i64 (q : Nat) ∧ r + 1 ≤ q ∧ q ≤ n ∧ 1 ≤ t ∧ t ≤ n ∧ Oi wi w.heap.size (.slice (some ⟨w.heap.size, 0, none⟩) n n) (rn n (upd m r t)) ∧
        (t = 1 ∨ ∃ j, r < j ∧ j < n ∧ va L r < va L j ∧ t = m j + 1) ∧ (∀ j, r < j → j < q → va L r < va L j → m j + 1 ≤ t) ∧ Below w.heap.size w wi ∧ w.heap.size + 1 ≤ wi.heap.size) (fun kv _ => n - (intOf kv).toNat)
      case atStart => exact ⟨r + 1, 1, by go_num, by omega, by omega, by omega, by omega, hO1, .inl rfl, fun j h1 h2 => by omega, hb1, hsz1⟩
      case round =>
        obtain ⟨q, t, rfl, hq1, hq2, ht1, ht2, hOi, hti, htl, hbi, hszi⟩ := hrel
        have HTI : Hid (t = 1 ∨ ∃ j, r < j ∧ j < n ∧ va L r < va L j ∧ t = m j + 1) := hti
        have HTL : Hid (∀ j, r < j → j < q → va L r < va L j → m j + 1 ≤ t) := htl
        clear hti htl
        by_cases hlt : q < n
        · rcases hL with rfl | ⟨g, o, rfl, hc⟩
          · have := HN.out; simp at this; omega
          have hlq : q < L.length := by rw [HN.out]; exact hlt
          have hlr : r < L.length := by rw [HN.out]; omega
          have x1 := below_cell (hc q hlq) hbi
          have x2 := below_cell (hc r hlr) hbi
          rw [← va_eq hlq] at x1
          rw [← va_eq hlr] at x2
          obtain ⟨y1, -⟩ := at_rn hOi (k := q) hlt
          obtain ⟨y2, y3⟩ := at_rn hOi (k := r) (by omega)
          rw [upd_other _ _ (by omega : q ≠ r)] at y1
          rw [upd_same] at y2
          have hmq := (HST.out q (by omega) hlt).le_K
          have hKl := K_le L
          rw [HN.out] at hKl
          by_cases hv : va L r < va L q
          · have d1 : decide (va L r < va L q) = true := decide_eq_true hv
            by_cases hm2 : t < m q + 1
            · have d2 : decide ((t : Int) < (m q : Int) + 1) = true := decide_eq_true (by omega)
              have hmq1 : m q + 1 ≤ n := by
                obtain ⟨ps, hps, he⟩ := (HST.out q (by omega) hlt).ex
                have := ri_le (ri_cons hps (by omega : r < q) hv)
                simp at this
                omega
              have hS := set_rn hOi r (m q + 1)
              rw [upd_upd, show ((m q + 1 : Nat) : Int) = (m q : Int) + 1 from by omega] at hS
              have hFI : Hid (m q + 1 = 1 ∨ ∃ j, r < j ∧ j < n ∧ va L r < va L j ∧ m q + 1 = m j + 1) := .inr ⟨q, by omega, hlt, hv, rfl⟩
              have hFL : Hid (∀ j, r < j → j < q + 1 → va L r < va L j → m j + 1 ≤ m q + 1) := fun j h1 h2 h3 => by
                by_cases e : j = q
                · subst e; exact Nat.le_refl _
                · have := HTL.out j h1 (by omega) h3
                  omega
              have HS : Hid (∀ W : World, W.heap = wr.heap → Oi (W.setCell ⟨w.heap.size, r, none⟩ (.int .i64 ((m q : Int) + 1))) w.heap.size (.slice (some ⟨w.heap.size, 0, none⟩) n n) (rn n (upd m r (m q + 1)))) := fun W hW => by
                unfold Oi World.ownsRow World.setCell at hS ⊢
                rw [hW]
                exact hS
              clear hc hS hv hm2 HTI HTL
              generalize va L r = z1 at *
              generalize va L q = z2 at *
              generalize m q = z3 at *
              go_wp2_with fail
              go_quiet (fail)
              go_wp2_with fail
              go_roundw
              case rel => exact ⟨q + 1, z3 + 1, by go_num, by omega, by omega, by omega, by omega, HS.out _ rfl, hFI.out, hFL.out, (below_drewN hbi).setCell (p := ⟨w.heap.size, r, none⟩) (Nat.le_refl _) _, by simp [World.setCell]; omega⟩
              case measure => simp only [intOf]; omega
            · have d2 : decide ((t : Int) < (m q : Int) + 1) = false := decide_eq_false (by omega)
              have hFL : Hid (∀ j, r < j → j < q + 1 → va L r < va L j → m j + 1 ≤ t) := fun j h1 h2 h3 => by
                by_cases e : j = q
                · subst e; omega
                · exact HTL.out j h1 (by omega) h3
              have HS : Hid (∀ k, Oi (wr.drewN k) w.heap.size (.slice (some ⟨w.heap.size, 0, none⟩) n n) (rn n (upd m r t))) := fun _ => hOi
              clear hc hv hm2 HTL hOi
              generalize va L r = z1 at *
              generalize va L q = z2 at *
              generalize m q = z3 at *
              go_wp2_with fail
              go_quiet (fail)
              go_wp2_with fail
              go_roundw
              case rel => exact ⟨q + 1, t, by go_num, by omega, by omega, by omega, by omega, HS.out _, HTI.out, hFL.out, below_drewN hbi, hszi⟩
              case measure => simp only [intOf]; omega
          · have d1 : decide (va L r < va L q) = false := decide_eq_false hv
            have hFL : Hid (∀ j, r < j → j < q + 1 → va L r < va L j → m j + 1 ≤ t) := fun j h1 h2 h3 => by
              by_cases e : j = q
              · subst e; exact absurd h3 hv
              · exact HTL.out j h1 (by omega) h3
            have HS : Hid (∀ k, Oi (wr.drewN k) w.heap.size (.slice (some ⟨w.heap.size, 0, none⟩) n n) (rn n (upd m r t))) := fun _ => hOi
            clear hc hv HTL hOi
            generalize va L r = z1 at *
            generalize va L q = z2 at *
            generalize m q = z3 at *
            go_wp2_with fail
            go_quiet (fail)
            go_wp2_with fail
            go_roundw
            case rel => exact ⟨q + 1, t, by go_num, by omega, by omega, by omega, by omega, HS.out _, HTI.out, hFL.out, below_drewN hbi, hszi⟩
            case measure => simp only [intOf]; omega
        · obtain rfl : q = n := by omega
          have hnlt : decide ((q : Int) < (q : Int)) = false := by simp
          have hS : St L r t := St.of (by rw [HN.out]; omega) (fun j h1 h2 => HST.out j (by omega) (by rw [HN.out] at h2; exact h2)) (by
            rcases HTI.out with h | ⟨j, h1, h2, h3, h4⟩
            · exact .inl h
            · exact .inr ⟨j, h1, by rw [HN.out]; exact h2, h3, h4⟩) ht1 (fun j h1 h2 h3 => HTL.out j h1 (by rw [HN.out] at h2; exact h2) h3)
          obtain ⟨y2, y3⟩ := at_rn hOi (k := r) (by omega)
          rw [upd_same] at y2
          have HS2 : Hid (∀ j, r ≤ j → j < q → St L j (upd m r t j)) := fun j h1 h2 => by
            by_cases e : j = r
            · subst e; rw [upd_same]; exact hS
            · rw [upd_other _ _ e]; exact HST.out j (by omega) h2
          have HL2 : Hid (∀ j, r ≤ j → j < q → upd m r t j ≤ max b t) := fun j h1 h2 => by
            by_cases e : j = r
            · subst e; rw [upd_same]; omega
            · rw [upd_other _ _ e]
              have := HLE.out j (by omega) h2
              omega
          have HE2 : Hid ((max b t = 0 ∧ r = q) ∨ ∃ j, r ≤ j ∧ j < q ∧ max b t = upd m r t j) := .inr (by
            by_cases hbt : b ≤ t
            · exact ⟨r, Nat.le_refl _, by omega, by rw [upd_same]; omega⟩
            · rcases HEX.out with ⟨h, _⟩ | ⟨j, h1, h2, h3⟩
              · omega
              · exact ⟨j, by omega, h2, by rw [upd_other _ _ (by omega)]; omega⟩)
          clear hL HTI HTL hS
          go_wp2_with fail
          go_roundw
          case rel => exact ⟨r, max b t, _, rfl, by congr 1; split <;> omega, by omega, by omega, hOi, HS2.out, HL2.out, HE2.out, hbi, hszi⟩
          case measure => simp only [intOf]; omega
end Go.Proofs.Ytkjgbmoimobgaaa.IRef

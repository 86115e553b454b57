import Derived.Deep.RegionHeld3
import Derived.Deep.RegionWith
import Derived.Test.YtopjadjaknmfeabDoorPk05
import Derived.Test.YtopjadjaknmfeabDoorPk15
import Derived.Test.YtopjadjaknmfeabDoorPk22
namespace Go.Proofs.YtopjadjaknmfeabDoor.Unit
open Go.RowKit Go.Proofs.YtopjadjaknmfeabDoor.Base Go.Proofs.YtopjadjaknmfeabDoor.UBase Go.Proofs.YtopjadjaknmfeabDoor.Spec Go.Proofs.YtopjadjaknmfeabDoor.Rdr Go.Proofs.YtopjadjaknmfeabDoor.Take Go.Proofs.YtopjadjaknmfeabDoor.Skip Go.Proofs.YtopjadjaknmfeabDoor.Chr
set_option linter.unusedVariables false
/-- What of the bytes lies from a place on. -/
theorem rd_sub {w : World} {R : Nat} {a : Option Addr} {cap : Nat} {s : ByteArray} {i b : Nat} (h : Rd w R (.slice a s.size cap) s i b) (p : Nat) (hp : p ≤ s.size) {g o : Nat} (ha : a = some ⟨g, o, none⟩) (a' : Option Addr) (h' : a' = some ⟨g, o + p, none⟩ ∨ cap = p) :
    Sub w (.slice a' (s.size - p) (cap - p)) s p := by
  obtain ⟨a2, cap2, e, h2, h3, h4, h5⟩ := h.byt
  cases e
  subst ha
  refine ⟨a', cap - p, rfl, by omega, by unfold maxLen at *; omega, ?_⟩
  rcases h5 with h5 | ⟨g', o', e, hg, hc⟩
  · exact .inl (by omega)
  · cases e
    rcases h' with rfl | h'
    · refine .inr ⟨g, o + p, rfl, fun j hj => ?_⟩
      rw [Nat.add_assoc]
      exact hc (p + j) hj
    · exact .inl (by omega)
set_option maxRecDepth 20000 in
set_option maxHeartbeats 800000 in
theorem unit_end {w : World} {R g o cap : Nat} {s : ByteArray} {st b : Nat} (h : Rd w R (.slice (some ⟨g, o, none⟩) s.size cap) s (st + 2) b) (hcap : cap = st + 2) :
    Calls Tryd.prog 74 #[ptr R, .int .i64 st] w fun e w' => Kr R w w' ∧ e = .panicked (pk (600, st + 2)) := by
  have hle := h.le
  have hsz := h.sz
  obtain ⟨k0, k1, k2, f1, f2⟩ := h.cells
  have k1 : w.cell? ⟨R, 1, none⟩ = some (.int .i64 ((st : Int) + 2)) := k1
  have hcm : cap ≤ 9223372036854775807 := by obtain ⟨_, _, e, _, h3, _⟩ := h.byt; cases e; exact h3
  have hc : s.size ≤ cap := by obtain ⟨_, _, e, h2, _⟩ := h.byt; cases e; exact h2
  have hse : s.size = st + 2 := by omega
  subst hcap
  have hz : hcn s 4 (st + 2) = 0 := hcn_of 4 (st + 2) 0 (by omega) (fun j hj => by omega) (fun _ => by rw [at_out s _ (by omega)]; rfl)
  have c116 := hexu_c (rd_sub h.drew (st + 2) hle rfl (some ⟨g, o, none⟩) (.inr rfl)) hsz
  rw [hz] at c116
  have e0 : hvn s (st + 2) 0 = 0 := rfl
  rw [e0, show s.size - (st + 2) = 0 by omega, show st + 2 - (st + 2) = 0 by omega] at c116
  have h2 : Rd ((w.setCell ⟨R, 1, none⟩ (.int .i64 ((st : Int) + 2))).drew) R (.slice (some ⟨g, o, none⟩) s.size (st + 2)) s (st + 2) b := (h.go (st + 2) hle).drew
  have c41 := refuse_c h2
  have k3 := ((Kr.refl R w).set 1 (.int .i64 ((st : Int) + 2))).drew
  unfold ptr at c41 ⊢
  clear h h2 hz e0
  go_enter Tryd.func74, Tryd.ntmps74
  go_wp2_with fail
  go_region_with (go_at_call 82; refine c116.mono ?_; rintro e w' ⟨rfl, rfl⟩)
  all_goals go_wp2_with (go_at_call 32; refine c41.mono ?_; rintro e w' ⟨rfl, rfl⟩)
  all_goals exact ⟨rfl, k3, rfl⟩
set_option maxRecDepth 20000 in
set_option maxHeartbeats 800000 in
theorem unit_few {w : World} {R g o cap : Nat} {s : ByteArray} {st b : Nat} (h : Rd w R (.slice (some ⟨g, o, none⟩) s.size cap) s (st + 2) b) (hcap : ¬ cap = st + 2) (hQ4 : hcn s 4 (st + 2) < 4) :
    Calls Tryd.prog 74 #[ptr R, .int .i64 st] w fun e w' => Kr R w w' ∧ e = .panicked (pk (600, st + 2 + hcn s 4 (st + 2))) := by
  have hle := h.le
  have hsz := h.sz
  obtain ⟨k0, k1, k2, f1, f2⟩ := h.cells
  have k1 : w.cell? ⟨R, 1, none⟩ = some (.int .i64 ((st : Int) + 2)) := k1
  have hcm : cap ≤ 9223372036854775807 := by obtain ⟨_, _, e, _, h3, _⟩ := h.byt; cases e; exact h3
  have hc : s.size ≤ cap := by obtain ⟨_, _, e, h2, _⟩ := h.byt; cases e; exact h2
  have c116 := hexu_c (rd_sub h.drew (st + 2) hle rfl (some ⟨g, o + (st + 2), none⟩) (.inl rfl)) hsz
  have hQs := hcn_in s 4 (st + 2) hle
  generalize hcn s 4 (st + 2) = Q at *
  generalize hvn s (st + 2) Q = X at *
  have h2 : Rd ((w.setCell ⟨R, 1, none⟩ (.int .i64 ((st : Int) + 2 + (Q : Int)))).drew) R (.slice (some ⟨g, o, none⟩) s.size cap) s (st + 2 + Q) b := (h.go (st + 2 + Q) hQs).drew
  have k3 := ((Kr.refl R w).set 1 (.int .i64 ((st : Int) + 2 + (Q : Int)))).drew
  have c41 := refuse_c h2
  have d1 : decide ((Q : Int) < 4) = true := by simp; omega
  unfold ptr at c41 ⊢
  clear h h2
  go_enter Tryd.func74, Tryd.ntmps74
  go_wp2_with fail
  go_region_with (go_at_call 82; refine c116.mono ?_; rintro e w' ⟨rfl, rfl⟩)
  all_goals go_wp2_with (go_at_call 32; refine c41.mono ?_; rintro e w' ⟨rfl, rfl⟩)
  all_goals exact ⟨rfl, k3, rfl⟩
set_option maxRecDepth 20000 in
set_option maxHeartbeats 800000 in
theorem unit_low {w : World} {R g o cap : Nat} {s : ByteArray} {st b : Nat} (h : Rd w R (.slice (some ⟨g, o, none⟩) s.size cap) s (st + 2) b) (hcap : ¬ cap = st + 2) (hQ4 : hcn s 4 (st + 2) = 4) (h1 : 56320 ≤ hvl s (st + 2)) (h2 : hvl s (st + 2) ≤ 57343) :
    Calls Tryd.prog 74 #[ptr R, .int .i64 st] w fun e w' => Kr R w w' ∧ e = .panicked (pk (600, st)) := by
  have hle := h.le
  have hsz := h.sz
  obtain ⟨k0, k1, k2, f1, f2⟩ := h.cells
  have k1 : w.cell? ⟨R, 1, none⟩ = some (.int .i64 ((st : Int) + 2)) := k1
  have hcm : cap ≤ 9223372036854775807 := by obtain ⟨_, _, e, _, h3, _⟩ := h.byt; cases e; exact h3
  have hc : s.size ≤ cap := by obtain ⟨_, _, e, h2, _⟩ := h.byt; cases e; exact h2
  have c116 := hexu_c (rd_sub h.drew (st + 2) hle rfl (some ⟨g, o + (st + 2), none⟩) (.inl rfl)) hsz
  have hQs := hcn_in s 4 (st + 2) hle
  rw [hQ4] at c116 hQs
  have hv4 := hvn_four s (st + 2)
  rw [hv4] at c116
  have hX : hvl s (st + 2) < 65536 := by rw [← hv4]; exact hvn_lt 4 fun j hj => hcn_all hQ4 j hj
  generalize hvl s (st + 2) = X at *
  have h6 : Rd ((w.setCell ⟨R, 1, none⟩ (.int .i64 ((st : Int) + 6))).drew) R (.slice (some ⟨g, o, none⟩) s.size cap) s (st + 6) b := (h.go (st + 6) (by omega)).drew
  have k6 := ((Kr.refl R w).set 1 (.int .i64 ((st : Int) + 6))).drew
  have c117 := low_c X ((w.setCell ⟨R, 1, none⟩ (.int .i64 ((st : Int) + 6))).drew)
  have c118 := high_c X ((w.setCell ⟨R, 1, none⟩ (.int .i64 ((st : Int) + 6))).drew)
  rw [decide_eq_true h1, decide_eq_true h2] at c117
  unfold ptr pk
  clear h h6 hQ4 c118 hv4
  go_enter Tryd.func74, Tryd.ntmps74
  go_wp2_with fail
  go_region_with (go_at_call 82; refine c116.mono ?_; rintro e w' ⟨rfl, rfl⟩)
  all_goals go_wp2_with (go_at_call 83; refine c117.mono ?_; rintro e w' ⟨rfl, rfl⟩)
  all_goals exact ⟨rfl, k6, rfl⟩
set_option maxRecDepth 20000 in
set_option maxHeartbeats 800000 in
theorem unit_plain {w : World} {R g o cap : Nat} {s : ByteArray} {st b : Nat} (h : Rd w R (.slice (some ⟨g, o, none⟩) s.size cap) s (st + 2) b) (hcap : ¬ cap = st + 2) (hQ4 : hcn s 4 (st + 2) = 4) (h1 : hvl s (st + 2) < 55296 ∨ 57343 < hvl s (st + 2)) :
    Calls Tryd.prog 74 #[ptr R, .int .i64 st] w fun e w' => Kr R w w' ∧ e = .returned (.int .i32 (hvl s (st + 2) : Nat)) ∧ Rd w' R (.slice (some ⟨g, o, none⟩) s.size cap) s (st + 6) b := by
  have hle := h.le
  have hsz := h.sz
  obtain ⟨k0, k1, k2, f1, f2⟩ := h.cells
  have k1 : w.cell? ⟨R, 1, none⟩ = some (.int .i64 ((st : Int) + 2)) := k1
  have hcm : cap ≤ 9223372036854775807 := by obtain ⟨_, _, e, _, h3, _⟩ := h.byt; cases e; exact h3
  have hc : s.size ≤ cap := by obtain ⟨_, _, e, h2, _⟩ := h.byt; cases e; exact h2
  have c116 := hexu_c (rd_sub h.drew (st + 2) hle rfl (some ⟨g, o + (st + 2), none⟩) (.inl rfl)) hsz
  have hQs := hcn_in s 4 (st + 2) hle
  rw [hQ4] at c116 hQs
  have hv4 := hvn_four s (st + 2)
  rw [hv4] at c116
  have hX : hvl s (st + 2) < 65536 := by rw [← hv4]; exact hvn_lt 4 fun j hj => hcn_all hQ4 j hj
  generalize hvl s (st + 2) = X at *
  have h6 : Rd ((w.setCell ⟨R, 1, none⟩ (.int .i64 ((st : Int) + 6))).drew) R (.slice (some ⟨g, o, none⟩) s.size cap) s (st + 6) b := (h.go (st + 6) (by omega)).drew
  have k6 := ((Kr.refl R w).set 1 (.int .i64 ((st : Int) + 6))).drew
  have c117 := low_c X ((w.setCell ⟨R, 1, none⟩ (.int .i64 ((st : Int) + 6))).drew)
  have c118 := high_c X ((w.setCell ⟨R, 1, none⟩ (.int .i64 ((st : Int) + 6))).drew)
  have hl : (decide (56320 ≤ X) && decide (X ≤ 57343)) = false := by simp; omega
  have hh : (decide (55296 ≤ X) && decide (X < 56320)) = false := by simp; omega
  rw [hl] at c117
  rw [hh] at c118
  unfold ptr
  clear h hQ4 hl hh hv4
  go_enter Tryd.func74, Tryd.ntmps74
  go_wp2_with fail
  go_region_with (go_at_call 82; refine c116.mono ?_; rintro e w' ⟨rfl, rfl⟩)
  all_goals go_wp2_with (first | (go_at_call 83; refine c117.mono ?_; rintro e w' ⟨rfl, rfl⟩) | (go_at_call 84; refine c118.mono ?_; rintro e w' ⟨rfl, rfl⟩))
  all_goals go_ret
  all_goals exact ⟨k6, rfl, h6⟩
end Go.Proofs.YtopjadjaknmfeabDoor.Unit
namespace Go.Proofs.YtopjadjaknmfeabDoor.UnitH
open Go.RowKit Go.Proofs.YtopjadjaknmfeabDoor.Base Go.Proofs.YtopjadjaknmfeabDoor.UBase Go.Proofs.YtopjadjaknmfeabDoor.Spec Go.Proofs.YtopjadjaknmfeabDoor.Rdr Go.Proofs.YtopjadjaknmfeabDoor.Take Go.Proofs.YtopjadjaknmfeabDoor.Skip Go.Proofs.YtopjadjaknmfeabDoor.Chr
set_option linter.unusedVariables false
open Go.Proofs.YtopjadjaknmfeabDoor.Unit
theorem low_in {s : ByteArray} {p : Nat} (h : low s p = true) : p + 6 ≤ s.size := by
  unfold low at h
  simp at h
  have := hcn_all h.2.2.1 3 (by omega)
  have := at_in (s := s) (i := p + 2 + 3) (fun e => by rw [e] at this; exact absurd this (by decide))
  omega
theorem low_val {s : ByteArray} {p : Nat} (h : low s p = true) : 56320 ≤ hvl s (p + 2) ∧ hvl s (p + 2) ≤ 57343 := by
  unfold low at h
  simp at h
  exact h.2.2.2
set_option maxRecDepth 20000 in
set_option maxHeartbeats 3200000 in
theorem unit_high {w : World} {R g o cap : Nat} {s : ByteArray} {st b : Nat} (h : Rd w R (.slice (some ⟨g, o, none⟩) s.size cap) s (st + 2) b) (hcap : ¬ cap = st + 2) (hQ4 : hcn s 4 (st + 2) = 4) (h1 : 55296 ≤ hvl s (st + 2)) (h2 : hvl s (st + 2) < 56320) :
    Calls Tryd.prog 74 #[ptr R, .int .i64 st] w fun e w' => Kr R w w' ∧ (low s (st + 6) = true → e = .returned (.int .i32 (65536 + (hvl s (st + 2) - 55296) * 1024 + (hvl s (st + 8) - 56320) : Nat)) ∧ Rd w' R (.slice (some ⟨g, o, none⟩) s.size cap) s (st + 12) b) ∧ (low s (st + 6) = false → e = .panicked (pk (600, st))) := by
  have hle := h.le
  have hsz := h.sz
  obtain ⟨k0, k1, k2, f1, f2⟩ := h.cells
  have k1 : w.cell? ⟨R, 1, none⟩ = some (.int .i64 ((st : Int) + 2)) := k1
  have hcm : cap ≤ 9223372036854775807 := by obtain ⟨_, _, e, _, h3, _⟩ := h.byt; cases e; exact h3
  have hc : s.size ≤ cap := by obtain ⟨_, _, e, h2, _⟩ := h.byt; cases e; exact h2
  have c116 := hexu_c (rd_sub h.drew (st + 2) hle rfl (some ⟨g, o + (st + 2), none⟩) (.inl rfl)) hsz
  have hQs := hcn_in s 4 (st + 2) hle
  rw [hQ4] at c116 hQs
  have hv4 := hvn_four s (st + 2)
  rw [hv4] at c116
  have hX : hvl s (st + 2) < 65536 := by rw [← hv4]; exact hvn_lt 4 fun j hj => hcn_all hQ4 j hj
  generalize hvl s (st + 2) = X at *
  have h6 : Rd ((w.setCell ⟨R, 1, none⟩ (.int .i64 ((st : Int) + 6))).drew) R (.slice (some ⟨g, o, none⟩) s.size cap) s (st + 6) b := (h.go (st + 6) (by omega)).drew
  have k6 := ((Kr.refl R w).set 1 (.int .i64 ((st : Int) + 6))).drew
  have c117 := low_c X ((w.setCell ⟨R, 1, none⟩ (.int .i64 ((st : Int) + 6))).drew)
  have c118 := high_c X ((w.setCell ⟨R, 1, none⟩ (.int .i64 ((st : Int) + 6))).drew)
  have hl : (decide (56320 ≤ X) && decide (X ≤ 57343)) = false := by simp; omega
  have hh : (decide (55296 ≤ X) && decide (X < 56320)) = true := by simp; omega
  rw [hl] at c117
  rw [hh] at c118
  unfold ptr
  clear hQ4 hl hh hv4
  go_enter Tryd.func74, Tryd.ntmps74
  go_wp2_with fail
  go_region_with (go_at_call 82; refine c116.mono ?_; rintro e w' ⟨rfl, rfl⟩)
  all_goals go_wp2_with (first | (go_at_call 83; refine c117.mono ?_; rintro e w' ⟨rfl, rfl⟩) | (go_at_call 84; refine c118.mono ?_; rintro e w' ⟨rfl, rfl⟩))
  all_goals clear c116 c117 c118
  all_goals cases hlow : low s (st + 6) with
    | true =>
      have HL : Hid (low s (st + 6) = true) := hlow
      have hcap2 : ¬ cap = st + 6 := fun e => by have := low_in hlow; omega
      have c119 := lowu_c (rd_sub h6.drew (st + 6) (by omega) rfl (some ⟨g, o + (st + 6), none⟩) (.inl rfl)) hsz
      rw [hlow, if_pos rfl] at c119
      have hY := low_val hlow
      obtain ⟨Y, hYe⟩ : ∃ Y, hvl s (st + 6 + 2) = Y := ⟨_, rfl⟩
      rw [hYe] at c119 hY
      have h12 := low_in hlow
      have H6 : Hid (Rd ((w.setCell ⟨R, 1, none⟩ (.int .i64 ((st : Int) + 6))).drew) R (.slice (some ⟨g, o, none⟩) s.size cap) s (st + 6) b) := h6
      have HY : Hid (hvl s (st + 8) = Y) := hYe
      clear hYe hlow h6 h
      go_region_with (go_at_call 85; refine c119.mono ?_; rintro e w' ⟨rfl, b2⟩)
      all_goals (
        have h7 := (H6.out.drew).below b2
        obtain ⟨m0, m1, m2, n1, n2⟩ := h7.cells
        have m1 : w'.cell? ⟨R, 1, none⟩ = some (.int .i64 ((st : Int) + 6)) := m1
        have h8 : Rd (w'.setCell ⟨R, 1, none⟩ (.int .i64 ((st : Int) + 12))) R (.slice (some ⟨g, o, none⟩) s.size cap) s (st + 12) b := h7.go (st + 12) (by omega)
        have k8 := (k6.trans ((Kr.refl R _).drew.trans (.of_below b2 (by have := H6.out.drew.lt; omega)))).set 1 (.int .i64 ((st : Int) + 12))
        clear h7
        go_wp2_with fail
        go_ret
        refine ⟨k8, fun _ => ⟨?_, h8⟩, fun h => by rw [HL.out] at h; cases h⟩
        rw [HY.out]
        refine congrArg (fun x => Ending.returned (.int .i32 x)) ?_
        omega)
    | false =>
      have HL : Hid (low s (st + 6) = false) := hlow
      by_cases hcap2 : cap = st + 6
      · have hse : s.size = st + 6 := by omega
        subst hcap2
        have c119 := lowu_c (rd_sub h6.drew (st + 6) (by omega) rfl (some ⟨g, o, none⟩) (.inr rfl)) hsz
        rw [hlow, if_neg (by simp), show s.size - (st + 6) = 0 by omega, show st + 6 - (st + 6) = 0 by omega] at c119
        have H6 : Hid (Rd ((w.setCell ⟨R, 1, none⟩ (.int .i64 ((st : Int) + 6))).drew) R (.slice (some ⟨g, o, none⟩) s.size (st + 6)) s (st + 6) b) := h6
        clear h6 h hlow
        go_region_with (go_at_call 85; refine c119.mono ?_; rintro e w' ⟨rfl, b2⟩)
        all_goals (
          have k8 := k6.trans ((Kr.refl R _).drew.trans (.of_below b2 (by have := H6.out.drew.lt; omega)))
          go_wp2_with fail
          refine ⟨rfl, k8, ?_, ?_⟩
          · intro h; rw [HL.out] at h; cases h
          · intro _; rfl)
      · have c119 := lowu_c (rd_sub h6.drew (st + 6) (by omega) rfl (some ⟨g, o + (st + 6), none⟩) (.inl rfl)) hsz
        rw [hlow, if_neg (by simp)] at c119
        have H6 : Hid (Rd ((w.setCell ⟨R, 1, none⟩ (.int .i64 ((st : Int) + 6))).drew) R (.slice (some ⟨g, o, none⟩) s.size cap) s (st + 6) b) := h6
        clear h6 h hlow
        go_region_with (go_at_call 85; refine c119.mono ?_; rintro e w' ⟨rfl, b2⟩)
        all_goals (
          have k8 := k6.trans ((Kr.refl R _).drew.trans (.of_below b2 (by have := H6.out.drew.lt; omega)))
          go_wp2_with fail
          refine ⟨rfl, k8, ?_, ?_⟩
          · intro h; rw [HL.out] at h; cases h
          · intro _; rfl)
end Go.Proofs.YtopjadjaknmfeabDoor.UnitH
namespace Go.Proofs.YtopjadjaknmfeabDoor.Esc
open Go.RowKit Go.Proofs.YtopjadjaknmfeabDoor.Base Go.Proofs.YtopjadjaknmfeabDoor.UBase Go.Proofs.YtopjadjaknmfeabDoor.Spec Go.Proofs.YtopjadjaknmfeabDoor.Rdr Go.Proofs.YtopjadjaknmfeabDoor.Take Go.Proofs.YtopjadjaknmfeabDoor.Skip Go.Proofs.YtopjadjaknmfeabDoor.Chr Go.Proofs.YtopjadjaknmfeabDoor.Unit Go.Proofs.YtopjadjaknmfeabDoor.UnitH
set_option linter.unusedVariables false
theorem unit_c {w : World} {R : Nat} {v : Value} {s : ByteArray} {st b : Nat} (h : Rd w R v s (st + 2) b) :
    Calls Tryd.prog 74 #[ptr R, .int .i64 st] w fun e w' => Kr R w w' ∧ match unt s st with
      | .ok (x, j) => e = .returned (.int .i32 (x : Nat)) ∧ Rd w' R v s j b
      | .error x => e = .panicked (pk x) := by
  have hle := h.le
  obtain ⟨g, o, cap, rfl, hc, -⟩ := h.byte (j := st) (by omega)
  by_cases hcap : cap = st + 2
  · have hz : hcn s 4 (st + 2) = 0 := hcn_of 4 (st + 2) 0 (by omega) (fun j hj => by omega) (fun _ => by rw [at_out s _ (by omega)]; rfl)
    have hU : unt s st = .error (600, st + 2) := by unfold unt; rw [hz, if_pos (by omega)]
    rw [hU]
    exact unit_end h hcap
  by_cases hQ : hcn s 4 (st + 2) < 4
  · have hU : unt s st = .error (600, st + 2 + hcn s 4 (st + 2)) := by unfold unt; rw [if_pos hQ]
    rw [hU]
    exact unit_few h hcap hQ
  have hQ4 : hcn s 4 (st + 2) = 4 := by have := hcn_le s 4 (st + 2); omega
  by_cases h1 : hvl s (st + 2) < 55296 ∨ 57343 < hvl s (st + 2)
  · have hU : unt s st = .ok (hvl s (st + 2), st + 6) := by unfold unt; rw [if_neg hQ, if_pos h1]
    rw [hU]
    exact unit_plain h hcap hQ4 h1
  by_cases h2 : hvl s (st + 2) < 56320
  · refine (unit_high h hcap hQ4 (by omega) h2).mono ?_
    rintro e w' ⟨k, ht, hf⟩
    refine ⟨k, ?_⟩
    cases hl : low s (st + 6) with
    | true =>
      have hU : unt s st = .ok (65536 + (hvl s (st + 2) - 55296) * 1024 + (hvl s (st + 8) - 56320), st + 12) := by unfold unt; rw [if_neg hQ, if_neg h1, if_pos ⟨h2, hl⟩]
      rw [hU]
      exact ht hl
    | false =>
      have hU : unt s st = .error (600, st) := by unfold unt; rw [if_neg hQ, if_neg h1, if_neg (by rw [hl]; simp)]
      rw [hU]
      exact hf hl
  · have hU : unt s st = .error (600, st) := by unfold unt; rw [if_neg hQ, if_neg h1, if_neg (fun e => h2 e.1)]
    rw [hU]
    exact unit_low h hcap hQ4 (by omega) (by omega)
def lets : ByteArray := ⟨#[34, 92, 47, 98, 102, 110, 114, 116]⟩
def means : ByteArray := ⟨#[34, 92, 47, 8, 12, 10, 13, 9]⟩
def lix (c : Nat) : Int := Lib.indexByte lets.data.toList (c : Int).toNat.toUInt8
theorem lix_eq (c : Nat) (h : c < 256) : (ltr c = none ∧ lix c = -1) ∨ ∃ j, j < 8 ∧ lix c = (j : Nat) ∧ ltr c = some (at' means j) := by
  have : ∀ c : Fin 256, (ltr c.1 = none ∧ lix c.1 = -1) ∨ ∃ j, j < 8 ∧ lix c.1 = (j : Nat) ∧ ltr c.1 = some (at' means j) := by decide +kernel
  exact this ⟨c, h⟩
set_option maxRecDepth 20000 in
set_option maxHeartbeats 800000 in
theorem escape_c {w : World} {R : Nat} {v : Value} {s : ByteArray} {i b : Nat} (h : Rd w R v s i b) (h92 : at' s i = 92) :
    Calls Tryd.prog 64 #[ptr R] w fun e w' => Kr R w w' ∧ match esc s i with
      | .ok (x, j) => e = .returned (.int .i32 (x : Nat)) ∧ Rd w' R v s j b
      | .error x => e = .panicked (pk x) := by
  have c77 := take_c h h92 (by omega) (by omega)
  obtain ⟨k0, k1, k2, f1, f2⟩ := h.cells
  have hsz := h.sz
  have hi : i < s.size := at_in (by omega)
  obtain ⟨U, hU⟩ : ∃ U, esc s i = U := ⟨_, rfl⟩
  rw [hU]
  have HU : Hid (esc s i = U) := hU
  unfold ptr at c77 ⊢
  clear hU h h92
  go_enter Tryd.func64, Tryd.ntmps64
  go_wp2_with (go_at_call 52; refine c77.mono ?_; rintro e w1 ⟨rfl, h1, K1⟩)
  clear c77 k0 k1 k2 f1 f2
  by_cases hend : ¬ i + 1 < s.size
  · have c58 := next_end h1 hend
    have hU2 : U = .error (600, i + 1) := by rw [← HU.out]; unfold esc; rw [at_out s _ hend]; rfl
    subst hU2
    unfold ptr at c58
    clear h1
    go_wp2_with (go_at_call 41; refine c58.mono ?_; rintro e w' ⟨rfl, rfl⟩)
    exact ⟨rfl, K1.drew, rfl⟩
  have hend : i + 1 < s.size := Decidable.of_not_not hend
  have c58 := next_c h1 hend
  have h2 := h1.drew.drew
  obtain ⟨k0, k1, k2, f1, f2⟩ := h2.cells
  have k1 : w1.drew.drew.cell? ⟨R, 1, none⟩ = some (.int .i64 ((i : Int) + 1)) := k1
  have hb := at_lt s (i + 1)
  unfold ptr at c58
  by_cases hu : at' s (i + 1) = 117
  · have hne : (((at' s (i + 1) : Nat) : Int) == 117) = true := by simp; omega
    have hUe : U = unt s i := by rw [← HU.out]; unfold esc; rw [if_pos hu]
    have h3 : Rd ((w1.setCell ⟨R, 1, none⟩ (.int .i64 ((i : Int) + 2))).drew.drew) R v s (i + 2) b := (h1.go (i + 2) (by omega)).drew.drew
    have k3 := ((K1.set 1 (.int .i64 ((i : Int) + 2))).drew).drew
    have c108 := unit_c h3
    rw [← hUe] at c108
    unfold ptr at c108
    clear h1 h2 h3 hu
    generalize at' s (i + 1) = x at *
    clear hUe HU
    cases U with
    | error x =>
      go_wp2_with (first | (go_at_call 41; refine c58.mono ?_; rintro e w' ⟨rfl, rfl⟩) | (go_at_call 74; refine c108.mono ?_; rintro e w' ⟨k4, rfl⟩))
      exact ⟨rfl, k3.trans k4, rfl⟩
    | ok y =>
      obtain ⟨y, j⟩ := y
      go_wp2_with (first | (go_at_call 41; refine c58.mono ?_; rintro e w' ⟨rfl, rfl⟩) | (go_at_call 74; refine c108.mono ?_; rintro e w' ⟨k4, rfl, h5⟩))
      go_ret
      exact ⟨k3.trans k4, rfl, h5⟩
  · have hne : (((at' s (i + 1) : Nat) : Int) == 117) = false := by simp; omega
    have c94 := Tryd.strings_IndexByte lets (at' s (i + 1) : Nat) w1.drew.drew.drew.drew
    have c58b := next_c h2 hend
    have e94 : Lib.indexByte lets.data.toList ((at' s (i + 1) : Nat) : Int).toNat.toUInt8 = lix (at' s (i + 1)) := rfl
    rw [e94] at c94
    have hUe : U = match ltr (at' s (i + 1)) with
      | some x => .ok (x, i + 2)
      | none => .error (600, i + 1) := by rw [← HU.out]; unfold esc; rw [if_neg hu]; rfl
    rcases lix_eq (at' s (i + 1)) hb with ⟨hl, hx⟩ | ⟨j, hj, hx, hl⟩
    · rw [hl] at hUe
      rw [hx] at c94
      subst hUe
      have c41 := refuse_c h2.drew.drew
      unfold ptr at c58b c41
      unfold lets at c94
      clear h1 h2 hu hl hx e94 HU
      generalize at' s (i + 1) = x at *
      go_wp2_with (first | (go_at_call 32; refine c41.mono ?_; rintro e w' ⟨rfl, rfl⟩) | (go_at_call 50; refine c94.mono ?_; rintro e w' ⟨rfl, rfl⟩) | (go_at_call 41; refine c58.mono ?_; rintro e w' ⟨rfl, rfl⟩) | (go_at_call 41; refine c58b.mono ?_; rintro e w' ⟨rfl, rfl⟩))
      exact ⟨rfl, K1.drew.drew.drew.drew, rfl⟩
    · have hm : at' means j = ((⟨#[34, 92, 47, 8, 12, 10, 13, 9]⟩ : ByteArray)[j]'hj).toNat := at_get means j hj
      rw [hl, hm] at hUe
      rw [hx] at c94
      subst hUe
      have h3 : Rd ((w1.setCell ⟨R, 1, none⟩ (.int .i64 ((i : Int) + 2))).drew.drew.drew.drew) R v s (i + 2) b := (h1.go (i + 2) (by omega)).drew.drew.drew.drew
      have k3 := ((((K1.set 1 (.int .i64 ((i : Int) + 2))).drew).drew).drew).drew
      obtain ⟨p0, p1, p2, q1, q2⟩ := h2.drew.drew.cells
      have p1 : w1.drew.drew.drew.drew.cell? ⟨R, 1, none⟩ = some (.int .i64 ((i : Int) + 1)) := p1
      unfold ptr at c58b
      unfold lets at c94
      have hj' : (j : Int) < 8 := by omega
      have hmb : ((⟨#[34, 92, 47, 8, 12, 10, 13, 9]⟩ : ByteArray)[j]'hj).toNat < 256 := UInt8.toNat_lt _
      clear h1 h2 hu hl hx e94 HU hm
      generalize at' s (i + 1) = x at *
      generalize hmm : ((⟨#[34, 92, 47, 8, 12, 10, 13, 9]⟩ : ByteArray)[j]'hj).toNat = y at *
      go_wp2_with (first | (go_at_call 50; refine c94.mono ?_; rintro e w' ⟨rfl, rfl⟩) | (go_at_call 41; refine c58.mono ?_; rintro e w' ⟨rfl, rfl⟩) | (go_at_call 41; refine c58b.mono ?_; rintro e w' ⟨rfl, rfl⟩))
      go_ret
      exact ⟨k3, rfl, h3⟩
end Go.Proofs.YtopjadjaknmfeabDoor.Esc
namespace Go.Proofs.YtopjadjaknmfeabDoor.Char
open Go.RowKit Go.Proofs.YtopjadjaknmfeabDoor.Base Go.Proofs.YtopjadjaknmfeabDoor.UBase Go.Proofs.YtopjadjaknmfeabDoor.Spec Go.Proofs.YtopjadjaknmfeabDoor.Rdr Go.Proofs.YtopjadjaknmfeabDoor.Take Go.Proofs.YtopjadjaknmfeabDoor.Skip Go.Proofs.YtopjadjaknmfeabDoor.Chr Go.Proofs.YtopjadjaknmfeabDoor.Unit Go.Proofs.YtopjadjaknmfeabDoor.Esc Go.Proofs.YtopjadjaknmfeabDoor.Dec
set_option linter.unusedVariables false
theorem decode_c {w : World} {R g o cap : Nat} {s : ByteArray} {i b : Nat} (h : Rd w R (.slice (some ⟨g, o, none⟩) s.size cap) s i b) (hi : i < s.size) :
    Calls Tryd.prog 65 #[.slice (some ⟨g, o + i, none⟩) (s.size - i) (cap - i)] w fun e w' => e = .returned (.tuple #[.int .i32 (Utf8.decode s i).1, .int .i64 (Utf8.decode s i).2]) ∧ Below w.heap.size w w' := by
  have e1 : (s.extract i s.size).size = s.size - i := by simp
  have c := Tryd.utf8_DecodeRune (s.extract i s.size) g (o + i) (cap - i) w h.tab (fun j hj => by
    rw [e1] at hj
    obtain ⟨a, cap', e, -, -, -, h5⟩ := h.byt
    cases e
    rcases h5 with h5 | ⟨g', o', e, -, hc⟩
    · omega
    · cases e
      have := hc (i + j) (by omega)
      rw [← Nat.add_assoc] at this
      rw [this, ← at_extract s i j (Nat.le_of_lt hi)]
      rfl)
  rw [e1, dec_extract s i hi] at c
  exact c
set_option maxRecDepth 20000 in
set_option maxHeartbeats 1600000 in
theorem char_raw {w : World} {R g o cap : Nat} {s : ByteArray} {i b X L : Nat} (h : Rd w R (.slice (some ⟨g, o, none⟩) s.size cap) s i b) (hi : i < s.size) (h92 : at' s i ≠ 92) (hX : (Utf8.decode s i).1 = X) (hL : (Utf8.decode s i).2 = L)
    (d1 : decide ((X : Int) < 32) = false) (d2 : ((X : Int) == 65533) = false ∨ (((X : Int) == 65533) = true ∧ ((L : Int) == 1) = false)) (hb1 : X ≤ 1114111) (hb2 : i + L ≤ s.size) :
    Calls Tryd.prog 54 #[ptr R] w fun e w' => e = .returned (.int .i32 (X : Nat)) ∧ Rd w' R (.slice (some ⟨g, o, none⟩) s.size cap) s (i + L) b ∧ Kr R w w' := by
  have c58 := next_c h hi
  have hsz := h.sz
  have hcm : cap ≤ 9223372036854775807 := by obtain ⟨_, _, e, _, h3, _⟩ := h.byt; cases e; exact h3
  have hc : s.size ≤ cap := by obtain ⟨_, _, e, h2, _⟩ := h.byt; cases e; exact h2
  have h2 := h.drew.drew
  have H3 : Hid (Rd w.drew.drew.drew R (.slice (some ⟨g, o, none⟩) s.size cap) s i b) := h2.drew
  obtain ⟨k0, k1, k2, f1, f2⟩ := h2.cells
  have c100 := decode_c H3.out hi
  rw [hX, hL] at c100
  have hne : (((at' s i : Nat) : Int) == 92) = false := by simp; omega
  have hb := at_lt s i
  have hcap : ¬ cap = i := by omega
  unfold ptr at c58 ⊢
  clear h h2 hX hL h92
  generalize at' s i = x at *
  go_enter Tryd.func54, Tryd.ntmps54
  go_wp2_with (go_at_call 41; refine c58.mono ?_; rintro e w' ⟨rfl, rfl⟩)
  go_region_with (go_at_call 65; refine c100.mono ?_; rintro e w1 ⟨rfl, b1⟩)
  all_goals (
    have h7 := H3.out.below b1
    obtain ⟨m0, m1, m2, n1, n2⟩ := h7.cells
    have h8 : Rd (w1.setCell ⟨R, 1, none⟩ (.int .i64 ((i : Int) + (L : Int)))) R (.slice (some ⟨g, o, none⟩) s.size cap) s (i + L) b := h7.go (i + L) hb2
    have k8 := (((Kr.refl R w).drew.drew.drew).trans (.of_below b1 (by have := H3.out.lt; omega))).set 1 (.int .i64 ((i : Int) + (L : Int)))
    clear h7
    rcases d2 with d2 | ⟨d2, d3⟩
    · go_wp2_with fail
      go_ret
      exact ⟨rfl, h8, k8⟩
    · go_wp2_with fail
      go_ret
      exact ⟨rfl, h8, k8⟩)
set_option maxRecDepth 20000 in
set_option maxHeartbeats 1600000 in
theorem char_bad {w : World} {R g o cap : Nat} {s : ByteArray} {i b X L : Nat} (h : Rd w R (.slice (some ⟨g, o, none⟩) s.size cap) s i b) (hi : i < s.size) (h92 : at' s i ≠ 92) (hX : (Utf8.decode s i).1 = X) (hL : (Utf8.decode s i).2 = L)
    (d1 : decide ((X : Int) < 32) = true ∨ (decide ((X : Int) < 32) = false ∧ ((X : Int) == 65533) = true ∧ ((L : Int) == 1) = true)) (hb1 : X ≤ 1114111) :
    Calls Tryd.prog 54 #[ptr R] w fun e w' => e = .panicked (pk (600, i)) ∧ Kr R w w' := by
  have c58 := next_c h hi
  have hsz := h.sz
  have hcm : cap ≤ 9223372036854775807 := by obtain ⟨_, _, e, _, h3, _⟩ := h.byt; cases e; exact h3
  have hc : s.size ≤ cap := by obtain ⟨_, _, e, h2, _⟩ := h.byt; cases e; exact h2
  have h2 := h.drew.drew
  have H3 : Hid (Rd w.drew.drew.drew R (.slice (some ⟨g, o, none⟩) s.size cap) s i b) := h2.drew
  obtain ⟨k0, k1, k2, f1, f2⟩ := h2.cells
  have c100 := decode_c H3.out hi
  rw [hX, hL] at c100
  have hne : (((at' s i : Nat) : Int) == 92) = false := by simp; omega
  have hb := at_lt s i
  have hcap : ¬ cap = i := by omega
  unfold ptr at c58 ⊢
  clear h h2 hX hL h92
  generalize at' s i = x at *
  go_enter Tryd.func54, Tryd.ntmps54
  go_wp2_with (go_at_call 41; refine c58.mono ?_; rintro e w' ⟨rfl, rfl⟩)
  go_region_with (go_at_call 65; refine c100.mono ?_; rintro e w1 ⟨rfl, b1⟩)
  all_goals (
    have h7 := H3.out.below b1
    have c41 := refuse_c h7
    have k8 := ((Kr.refl R w).drew.drew.drew).trans (.of_below b1 (by have := H3.out.lt; omega))
    unfold ptr at c41
    clear h7
    rcases d1 with d1 | ⟨d1, d2, d3⟩
    · go_wp2_with (go_at_call 32; refine c41.mono ?_; rintro e w' ⟨rfl, rfl⟩)
      exact ⟨rfl, rfl, k8⟩
    · go_wp2_with (go_at_call 32; refine c41.mono ?_; rintro e w' ⟨rfl, rfl⟩)
      exact ⟨rfl, rfl, k8⟩)
theorem char_c {w : World} {R : Nat} {v : Value} {s : ByteArray} {i b : Nat} (h : Rd w R v s i b) (hi : i < s.size) :
    Calls Tryd.prog 54 #[ptr R] w fun e w' => Kr R w w' ∧ match chr s i with
      | .ok (x, j) => e = .returned (.int .i32 (x : Nat)) ∧ Rd w' R v s j b
      | .error x => e = .panicked (pk x) := by
  obtain ⟨g, o, cap, rfl, hc, -⟩ := h.byte hi
  by_cases h92 : at' s i = 92
  · have hC : chr s i = esc s i := by unfold chr; rw [if_pos h92]
    rw [hC]
    have c58 := next_c h hi
    have c99 := escape_c h.drew.drew h92
    have hne : (((at' s i : Nat) : Int) == 92) = true := by simp; omega
    unfold ptr at c58 c99 ⊢
    clear h hC
    rw [h92] at c58
    obtain ⟨U, hU⟩ : ∃ U, esc s i = U := ⟨_, rfl⟩
    rw [hU] at c99 ⊢
    clear hU
    cases U with
    | error x =>
      go_enter Tryd.func54, Tryd.ntmps54
      go_wp2_with (first | (go_at_call 41; refine c58.mono ?_; rintro e w' ⟨rfl, rfl⟩) | (go_at_call 64; refine c99.mono ?_; rintro e w' ⟨k4, rfl⟩))
      exact ⟨rfl, ((Kr.refl R w).drew.drew).trans k4, rfl⟩
    | ok y =>
      obtain ⟨y, j⟩ := y
      go_enter Tryd.func54, Tryd.ntmps54
      go_wp2_with (first | (go_at_call 41; refine c58.mono ?_; rintro e w' ⟨rfl, rfl⟩) | (go_at_call 64; refine c99.mono ?_; rintro e w' ⟨k4, rfl, h5⟩))
      go_ret
      exact ⟨((Kr.refl R w).drew.drew).trans k4, rfl, h5⟩
  by_cases hb : at' s i < 32 ∨ len s i = 0
  · have hC : chr s i = .error (600, i) := by unfold chr; rw [if_neg h92, if_pos hb]
    rw [hC]
    have hd : decide (((Utf8.decode s i).1 : Int) < 32) = true ∨ (decide (((Utf8.decode s i).1 : Int) < 32) = false ∧ (((Utf8.decode s i).1 : Int) == 65533) = true ∧ (((Utf8.decode s i).2 : Int) == 1) = true) := by
      by_cases h32 : at' s i < 32
      · left; rw [dec_small (by omega)]; simp; omega
      · right; rw [dec_bad (by omega)]; decide
    refine (char_bad h hi h92 rfl rfl hd (dec_le s i)).mono ?_
    rintro e w' ⟨h1, h2⟩
    exact ⟨h2, h1⟩
  · have hC : chr s i = .ok ((Utf8.decode s i).1, i + len s i) := by unfold chr; rw [if_neg h92, if_neg hb]
    rw [hC]
    have hl : len s i ≠ 0 := fun e => hb (.inr e)
    have h32 : 32 ≤ at' s i := by omega
    have hL := (dec_len s i).2.1 hl
    have hd1 : decide (((Utf8.decode s i).1 : Int) < 32) = false := by
      by_cases h128 : at' s i < 128
      · rw [dec_small h128]; simp; omega
      · have := (dec_good hl (by omega)).2.2; simp; omega
    have hd2 : (((Utf8.decode s i).1 : Int) == 65533) = false ∨ ((((Utf8.decode s i).1 : Int) == 65533) = true ∧ (((Utf8.decode s i).2 : Int) == 1) = false) := by
      by_cases h128 : at' s i < 128
      · left; rw [dec_small h128]; simp; omega
      · have := dec_good hl (by omega)
        by_cases e : (Utf8.decode s i).1 = 65533
        · right; refine ⟨by simp [e], ?_⟩; rw [this.1]; simp; omega
        · left; simp; omega
    refine (char_raw h hi h92 rfl hL hd1 (by rw [hL] at hd2; exact hd2) (dec_le s i) (len_in hi)).mono ?_
    rintro e w' ⟨h1, h2, h3⟩
    exact ⟨h3, h1, h2⟩
end Go.Proofs.YtopjadjaknmfeabDoor.Char
namespace Go.Proofs.YtopjadjaknmfeabDoor.Text
open Go.RowKit Go.Proofs.YtopjadjaknmfeabDoor.Base Go.Proofs.YtopjadjaknmfeabDoor.UBase Go.Proofs.YtopjadjaknmfeabDoor.Spec Go.Proofs.YtopjadjaknmfeabDoor.Rdr Go.Proofs.YtopjadjaknmfeabDoor.Take Go.Proofs.YtopjadjaknmfeabDoor.Skip Go.Proofs.YtopjadjaknmfeabDoor.Chr Go.Proofs.YtopjadjaknmfeabDoor.Unit Go.Proofs.YtopjadjaknmfeabDoor.Esc Go.Proofs.YtopjadjaknmfeabDoor.Dec Go.Proofs.YtopjadjaknmfeabDoor.Char Go.Proofs.YtopjadjaknmfeabDoor.Byts
set_option linter.unusedVariables false
theorem unt_in {s : ByteArray} {i x j : Nat} (hi : i + 2 ≤ s.size) (h : unt s i = .ok (x, j)) : i < j ∧ j ≤ s.size ∧ x ≤ 1114111 := by
  unfold unt at h
  split at h
  · cases h
  next h4 =>
  have hc := hcn_in s 4 (i + 2) hi
  have hle := hcn_le s 4 (i + 2)
  have hv : hvl s (i + 2) < 65536 := by rw [← hvn_four]; exact hvn_lt 4 fun j hj => hcn_all (by omega) j hj
  split at h
  · have h' := Prod.mk.inj (Except.ok.inj h)
    exact ⟨by omega, by omega, by omega⟩
  · split at h
    · next hl =>
      have h1 := UnitH.low_in hl.2
      have h2 := UnitH.low_val hl.2
      have h' := Prod.mk.inj (Except.ok.inj h)
      rw [show i + 6 + 2 = i + 8 by omega] at h2
      generalize hvl s (i + 2) = A at *
      generalize hvl s (i + 8) = B at *
      exact ⟨by omega, by omega, by omega⟩
    · cases h
theorem esc_in {s : ByteArray} {i x j : Nat} (hi : i < s.size) (h : esc s i = .ok (x, j)) : i < j ∧ j ≤ s.size ∧ x ≤ 1114111 := by
  unfold esc at h
  split at h
  · next hu => exact unt_in (by have := at_in (s := s) (i := i + 1) (by omega); omega) h
  · split at h
    · next y hl =>
      cases h
      have hn : at' s (i + 1) ≠ 0 := fun e => by rw [e] at hl; cases hl
      have := at_in hn
      have : ∀ c : Fin 256, ∀ y, ltr c.1 = some y → y ≤ 1114111 := by
        intro c y hy
        unfold ltr at hy
        repeat' split at hy
        all_goals (simp at hy; try omega)
      exact ⟨by omega, by omega, this ⟨at' s (i + 1), at_lt ..⟩ _ hl⟩
    · cases h
theorem chr_in {s : ByteArray} {i x j : Nat} (hi : i < s.size) (h : chr s i = .ok (x, j)) : i < j ∧ j ≤ s.size ∧ x ≤ 1114111 := by
  unfold chr at h
  split at h
  · exact esc_in hi h
  · split at h
    · cases h
    · next hb =>
      have := len_in hi
      cases h
      exact ⟨by omega, this, dec_le s i⟩
theorem enc_len (x : Int) : (Lib.encodeRune x).length ≤ 4 := by rw [← Lib.runeCells_length]; exact (Lib.runeCells_le x).2
/-- One character more, or the fault. -/
def txk (s : ByteArray) (f : Nat) (L : List UInt8) : Except F (Nat × Nat) → Except F (List UInt8 × Nat)
  | .error e => .error e
  | .ok (x, j) => txl s f j (L ++ Lib.encodeRune x)
theorem txl_step (s : ByteArray) (f q : Nat) (L : List UInt8) : txl s (f + 1) q L = if at' s q = 34 then .ok (L, q + 1) else txk s f L (chr s q) := by
  rw [txl]
  rfl
/-- What a text's characters make. -/
def txd (i : Nat) : Except F (List UInt8 × Nat) → Except F (ByteArray × Nat)
  | .error e => .error e
  | .ok (L, j) => if 4096 < L.length then .error (605, i) else .ok (⟨L.toArray⟩, j)
theorem txt_is {s : ByteArray} {i : Nat} (h : at' s i = 34) : txt s i = txd i (txl s (s.size + 1) (i + 1) []) := by
  unfold txt
  rw [if_pos h]
  rfl
set_option maxRecDepth 20000 in
set_option maxHeartbeats 1600000 in
/-- A text: its bytes and the place behind it, or the fault. -/
theorem text_c {w : World} {R : Nat} {v : Value} {s : ByteArray} {i b : Nat} (h : Rd w R v s i b) :
    Calls Tryd.prog 43 #[ptr R] w fun e w' => Kr R w w' ∧ match txt s i with
      | .ok (t, j) => e = .returned (.string t) ∧ Rd w' R v s j b
      | .error x => e = .panicked (pk x) := by
  have hRlt := h.lt
  have hsz := h.sz
  obtain ⟨k0, k1, k2, f1, f2⟩ := h.cells
  obtain ⟨U, hU⟩ : ∃ U, txt s i = U := ⟨_, rfl⟩
  rw [hU]
  by_cases hq : ¬ at' s i = 34
  · have hU2 : U = .error (600, i) := by rw [← hU]; unfold txt; rw [if_neg hq]
    subst hU2
    have c77 := take_no h hq (by omega) (by omega)
    unfold ptr at c77 ⊢
    clear hU h hq
    go_enter Tryd.func43, Tryd.ntmps43
    go_wp2_with (go_at_call 52; refine c77.mono ?_; rintro e w' ⟨rfl, k⟩)
    exact ⟨rfl, k, rfl⟩
  have hq : at' s i = 34 := Decidable.of_not_not hq
  have c77 := take_c h hq (by omega) (by omega)
  have hi : i < s.size := at_in (by omega)
  have hUe : U = txd i (txl s (s.size + 1) (i + 1) []) := by rw [← hU, txt_is hq]
  have HU : Hid (U = txd i (txl s (s.size + 1) (i + 1) [])) := hUe
  unfold ptr at c77 ⊢
  clear hU hUe h hq
  go_enter Tryd.func43, Tryd.ntmps43
  go_wp2_with (go_at_call 52; refine c77.mono ?_; rintro e w1 ⟨rfl, h1, K1⟩)
  clear c77 k0 k1 k2 f1 f2
  have hs1 := K1.below.size
  go_loopw [4] (fun out wr => ∃ (q f : Nat) (L : List UInt8), q ≤ s.size ∧ L.length ≤ 4 * q ∧ Rd wr R v s q b ∧ Kr R w wr ∧ Own wr w.heap.size out L ∧ txl s f q L = txl s (s.size + 1) (i + 1) [] ∧ s.size < q + f) (fun out wr => s.size - plc R wr)
  case atStart => exact ⟨i + 1, s.size + 1, [], by omega, by simp, h1, K1, Own.nil _ _, rfl, by omega⟩
  case round =>
    obtain ⟨q, f, L, hq, hlen, hr, hk, hown, htx, hf⟩ := hrel
    have HTX : Hid (txl s f q L = txl s (s.size + 1) (i + 1) []) := htx
    have HP : Hid (plc R wr = q) := hr.plc
    obtain ⟨f, rfl⟩ : ∃ f', f = f' + 1 := ⟨f - 1, by omega⟩
    have HS : Hid (txl s (f + 1) q L = if at' s q = 34 then .ok (L, q + 1) else txk s f L (chr s q)) := txl_step s f q L
    clear htx
    by_cases hend : ¬ q < s.size
    · have c58 := next_end hr hend
      have hU2 : U = .error (600, q) := by
        rw [HU.out, ← HTX.out, HS.out, at_out s q hend, if_neg (by omega)]
        have : chr s q = .error (600, q) := by unfold chr; rw [at_out s q hend]; rfl
        rw [this]
        rfl
      subst hU2
      unfold ptr at c58
      clear hr hown
      go_wp2_with (go_at_call 41; refine c58.mono ?_; rintro e w' ⟨rfl, rfl⟩)
      exact ⟨rfl, hk.drew, rfl⟩
    have hlt : q < s.size := Decidable.of_not_not hend
    clear hend
    have c58 := next_c hr hlt
    have hb := at_lt s q
    unfold ptr at c58
    by_cases h34 : at' s q = 34
    · have hne : (((at' s q : Nat) : Int) != 34) = false := by simp; omega
      have h2 := hr.drew.drew
      have c77 := take_c h2 h34 (by omega) (by omega)
      have hown2 : Own wr.drew.drew w.heap.size u4 L := own_keep hown fun _ _ _ _ => rfl
      unfold ptr at c77
      obtain ⟨a, cap, rfl, hc1, hc2⟩ := hown.len
      have hUe : U = if 4096 < L.length then .error (605, i) else .ok (⟨L.toArray⟩, q + 1) := by
        rw [HU.out, ← HTX.out, HS.out, if_pos h34]
        rfl
      have HOWN : Hid (Own wr.drew.drew w.heap.size (.slice a L.length cap) L) := hown2
      clear hr hown h2 hown2
      rw [h34] at c58
      by_cases hlong : 4096 < L.length
      · have hU2 : U = .error (605, i) := by rw [hUe, if_pos hlong]
        subst hU2
        have dl : decide ((4096 : Int) < (L.length : Int)) = true := by simp; omega
        have e605 : pk (605, i) = [{ v := .iface 46 (.agg #[.int .i64 605, .int .i64 (i : Nat)]), recovered := false }] := rfl
        clear hUe
        go_wp2_with (first | (go_at_call 41; refine c58.mono ?_; rintro e w' ⟨rfl, rfl⟩) | (go_at_call 52; refine c77.mono ?_; rintro e w' ⟨rfl, h3, k3⟩))
        exact ⟨rfl, hk.drew.drew.trans k3, rfl⟩
      · have hU2 : U = .ok (⟨L.toArray⟩, q + 1) := by rw [hUe, if_neg hlong]
        subst hU2
        have dl : decide ((4096 : Int) < (L.length : Int)) = false := by simp; omega
        clear hUe
        go_wp2_with (first | (go_at_call 41; refine c58.mono ?_; rintro e w' ⟨rfl, rfl⟩) | (go_at_call 52; refine c77.mono ?_; rintro e w3 ⟨rfl, h3, k3⟩; have hcv := own_conv (own_kr HOWN.out k3 hRlt)))
        go_ret
        exact ⟨hk.drew.drew.trans k3, rfl, h3⟩
    · have hne : (((at' s q : Nat) : Int) != 34) = true := by simp; omega
      have h2 := hr.drew.drew
      have c79 := char_c h2 hlt
      have hs2 : Hid (wr.drew.drew.heap.size = wr.heap.size) := rfl
      have HOWN : Hid (Own wr.drew.drew w.heap.size u4 L) := own_keep hown fun _ _ _ _ => rfl
      unfold ptr at c79
      obtain ⟨X, hX⟩ : ∃ X, chr s q = X := ⟨_, rfl⟩
      rw [hX] at c79
      have HS2 : Hid (txl s (f + 1) q L = txk s f L X) := by
        show _ = _
        rw [HS.out, if_neg h34, hX]
      have HX : Hid (chr s q = X) := hX
      clear hr h2 hown hX h34 HS
      generalize at' s q = z at *
      cases X with
      | error x =>
        have hU2 : U = .error x := by rw [HU.out, ← HTX.out, HS2.out]; rfl
        subst hU2
        go_wp2_with (first | (go_at_call 41; refine c58.mono ?_; rintro e w' ⟨rfl, rfl⟩) | (go_at_call 54; refine c79.mono ?_; rintro e w' ⟨k3, rfl⟩))
        exact ⟨rfl, hk.drew.drew.trans k3, rfl⟩
      | ok y =>
        obtain ⟨x, j⟩ := y
        have hin := chr_in hlt HX.out
        have hel := enc_len (x : Int)
        have C78 : Hid (∀ w3, Own w3 w.heap.size u4 L → w.heap.size ≤ w3.heap.size → Calls Tryd.prog 53 #[u4, .int .i32 (x : Nat)] w3 fun e w' => ∃ v', e = .returned v' ∧ w'.ownsRow w.heap.size 5 1 v' (L.length + (Lib.runeCells (x : Int)).length) (Lib.byteCells L ++ Lib.runeCells (x : Int)) ∧ ∃ o, (w3.alloc o).grownBy w' u4.ownBlock) := fun w3 ho hs => Tryd.utf8_AppendRune_plain w.heap.size u4 L.length (Lib.byteCells L) (x : Int) (by omega) (by omega) w3 ho (by omega) hs
        go_wp2_with (first | (go_at_call 41; refine c58.mono ?_; rintro e w' ⟨rfl, rfl⟩) | (go_at_call 54; refine c79.mono ?_; rintro e w3 ⟨k3, rfl, h3⟩; have hs3 := k3.below.size; have hown3 := own_kr HOWN.out k3 hRlt; have c78 := C78.out w3 hown3 (by have := hk.below.size; have := hs2.out; omega)) | (go_at_call 53; refine c78.mono ?_; rintro e w4 ⟨v4, rfl, ho4, o4, hg4⟩))
        have hlt4 := World.ownsRow.lt hown3
        have k4 : Kr R w w4 := kr_grown ((hk.drew.drew.trans k3).alloc (by have := h3.lt; omega) o4) rfl hRlt hg4 (fun k hk' => (hlt4 k hk').1)
        have h4 : Rd w4 R v s j b := rd_grown (h3.below ((Below.refl _ w3).alloc (Nat.le_refl _) o4)) hRlt hg4 (fun k hk' => (hlt4 k hk').1)
        have HO4 : Hid (Own w4 w.heap.size v4 (L ++ Lib.encodeRune (x : Int))) := own_rune ho4
        clear ho4 hg4 hown3 c78 c79 c58
        go_wp2_with fail
        go_roundw
        case rel => exact ⟨j, f, L ++ Lib.encodeRune (x : Int), hin.2.1, by rw [List.length_append]; omega, h4, k4, HO4.out, HS2.out.symm.trans HTX.out, by omega⟩
        case measure =>
          have e1 := HP.out
          have e2 := h4.plc
          show s.size - plc R w4 < s.size - plc R wr
          rw [e1, e2]
          omega
end Go.Proofs.YtopjadjaknmfeabDoor.Text

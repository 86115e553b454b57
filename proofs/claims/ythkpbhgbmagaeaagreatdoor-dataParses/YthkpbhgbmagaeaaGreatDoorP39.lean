import Derived.Test.YthkpbhgbmagaeaaGreatDoorP05
import Derived.Test.YthkpbhgbmagaeaaGreatDoorP30
namespace Go.Proofs.YthkpbhgbmagaeaaGreatDoor.RNum
open Go.RowKit Go.Proofs.YthkpbhgbmagaeaaGreatDoor.Base Go.Proofs.YthkpbhgbmagaeaaGreatDoor.UBase Go.Proofs.YthkpbhgbmagaeaaGreatDoor.Spec Go.Proofs.YthkpbhgbmagaeaaGreatDoor.Sums Go.Proofs.YthkpbhgbmagaeaaGreatDoor.Nums Go.Proofs.YthkpbhgbmagaeaaGreatDoor.Rdr Go.Proofs.YthkpbhgbmagaeaaGreatDoor.RRd Go.Proofs.YthkpbhgbmagaeaaGreatDoor.RWd
set_option linter.unusedVariables false
def NmR (w : World) (R : Nat) (s : ByteArray) (b : Nat) (e : Ending) : Except F (Int × Nat) → Prop
 | .ok (x, j) => e = .returned (.int .i64 x) ∧ Rr w R s j 0 0 b
 | .error x => (∃ y, e = .returned (.int .i64 y)) ∧ Flt w R s x
set_option maxRecDepth 20000 in
set_option maxHeartbeats 3200000 in
theorem number_c {w : World} {R : Nat} {s : ByteArray} {i b : Nat} (hi : i < s.size) (h : Rr w R s i 0 0 b) :
  Calls Tryz.prog 33 #[ptr R] w fun e w' => NmR w' R s b e (nm s i) ∧ Kr R w w' := by
 obtain ⟨X, hX⟩ : ∃ X, nm s i = X := ⟨_, rfl⟩
 rw [hX]
 have hsz := h.sz
 obtain ⟨k0, k1, -, -, -⟩ := h.cells
 have f1 := h.free 1
 unfold nm at hX
 by_cases hm : at' s i = 45
 ·skip
  have hs : sgn s i = i + 1 := if_pos hm
  rw [hs] at hX
  have e45 : ((at' s i : Int) == 45) = true := by simp; omega
  have cP := peek_c h
  unfold ptr at cP ⊢
  have H1 : Hid (∀ k, Rr ((w.drewN k).setCell ⟨R, 1, none⟩ (.int .i64 ((i : Int) + 1))) R s (i + 1) 0 0 b) := fun k => by
   have := (h.drewN k).go (i + 1) (by omega)
   rwa [show ((i + 1 : Nat) : Int) = (i : Int) + 1 from by omega] at this
  obtain ⟨g, hg⟩ : ∃ g, i + 1 = g := ⟨_, rfl⟩
  have hgi : i < g := by omega
  have hgs : g ≤ s.size := by omega
  have HX : Hid (_ = X) := hX
  rw [hg] at HX H1
  clear hs hm h hX hg
  generalize hy : at' s i = y at *
  clear hy
  go_enter Tryz.func33, Tryz.ntmps33
  go_wp2_with fail
  refine cP.mono ?_
  rintro e w1 ⟨rfl, n1, rfl⟩
  go_wp2_with fail
  have h1 := H1.out n1
  have hk1 : Kr R w ((w.drewN n1).setCell ⟨R, 1, none⟩ (.int .i64 ((i : Int) + 1))) := ((Kr.refl R w).drewN n1).set 1 _
  generalize (w.drewN n1).setCell ⟨R, 1, none⟩ (.int .i64 ((i : Int) + 1)) = W1 at *
  clear k0 k1 f1 cP H1
  by_cases hd : dig (at' s g) = false
  ·have HX2 : Hid (X = .error (600, g)) := by
    have := HX.out
    rw [if_pos hd] at this
    exact this.symm
   have cD := digit_c (at' s g) (at_lt s g) 
   rw [hd] at cD
   have c2 := peek_c h1
   unfold ptr at c2
   clear HX hd
   refine c2.mono ?_
   rintro e w2 ⟨rfl, n2, rfl⟩
   go_wp2_with fail
   refine (cD _).mono ?_
   rintro e w3 ⟨rfl, rfl⟩
   have h2 := h1.drewN n2
   obtain ⟨-, q1, -, -, -⟩ := h2.cells
   have cF := fail_first h2 600 g (by omega) (by omega)
   unfold ptr at cF
   go_wp2_with fail
   refine cF.mono ?_
   rintro e w4 ⟨rfl, h4, hk4⟩
   go_wp2_with fail
   go_ret
   rw [HX2.out]
   exact ⟨⟨⟨0, rfl⟩, by simp, _, _, h4⟩, (hk1.drewN n2).trans hk4⟩
  ·have hd' : dig (at' s g) = true := by cases h : dig (at' s g); exact absurd h hd; rfl
   rw [if_neg hd] at HX
   have hgl : g < s.size := by
    apply at_in
    intro h0
    rw [h0] at hd'
    exact absurd hd' (by decide)
   have cD := digit_c (at' s g) (at_lt s g)
   rw [hd'] at cD
   have c2 := peek_c h1
   unfold ptr at c2
   clear hd hd'
   refine c2.mono ?_
   rintro e w2 ⟨rfl, n2, rfl⟩
   go_wp2_with fail
   refine (cD _).mono ?_
   rintro e w3 ⟨rfl, rfl⟩
   have h2 := h1.drewN n2
   have c3 := peek_c h2
   unfold ptr at c3
   have hk2 := hk1.drewN n2
   generalize W1.drewN n2 = W2 at *
   clear c2 cD h1 hk1
   go_wp2_with fail
   refine c3.mono ?_
   rintro e w4 ⟨rfl, n3, rfl⟩
   have h3 := h2.drewN n3
   have hk3 := hk2.drewN n3
   generalize W2.drewN n3 = W3 at *
   clear c3 h2 hk2
   obtain ⟨q0, q1, -, -, -⟩ := h3.cells
   have qf := h3.free 1
   by_cases h48 : at' s g = 48
   ·have e48 : ((at' s g : Int) == 48) = true := by simp; omega
    have HX2 : Hid (X = .error (600, g)) := by
     have := HX.out
     rw [if_pos h48, if_pos hgi] at this
     exact this.symm
    have cF := fail_first h3 600 g (by omega) (by omega)
    unfold ptr at cF
    clear HX h48
    generalize at' s g = y at *
    go_wp2_with fail
    refine cF.mono ?_
    rintro e w5 ⟨rfl, h5, hk5⟩
    go_wp2_with fail
    go_ret
    rw [HX2.out]
    exact ⟨⟨⟨0, rfl⟩, by simp, _, _, h5⟩, hk3.trans hk5⟩
   ·have e48 : ((at' s g : Int) == 48) = false := by simp; omega
    have hX3 := HX.out
    rw [if_neg h48] at hX3
    have HX3 : Hid (rd s i (dgs s g) = X) := hX3
    have hig : i ≤ g := by omega
    clear HX h48 hX3
    generalize at' s g = y at *
    clear q0 q1 qf
    go_wp2_with fail
    obtain ⟨D, hD⟩ : ∃ D, dgs s g = D := ⟨_, rfl⟩
    rw [hD] at HX3
    go_loopw [] (fun wr => ∃ j : Nat, dgs s j = D ∧ g ≤ j ∧ j ≤ s.size ∧ Rr wr R s j 0 0 b ∧ Kr R w wr) (fun wr => s.size - (intOf ((wr.cell? ⟨R, 1, none⟩).getD undef)).toNat)
    case atStart => exact ⟨g, hD, Nat.le_refl _, by omega, h3, hk3⟩
    case round =>
     clear hD h3 hk3
     obtain ⟨j, hD, hgj, hjs, hr, hk⟩ := hrel
     have c5 := peek_c hr
     unfold ptr at c5
     have cD := digit_c (at' s j) (at_lt s j)
     obtain ⟨q0, q1, -, -, -⟩ := hr.cells
     have qf := hr.free 1
     have hM0 : (intOf ((wr.cell? ⟨R, 1, none⟩).getD undef)).toNat = j := by rw [q1]; simp [intOf]
     by_cases hdj : dig (at' s j) = true
     ·have hjl : j < s.size := by
       apply at_in
       intro h0
       rw [h0] at hdj
       exact absurd hdj (by decide)
      have HD : Hid (dgs s (j + 1) = D) := by
       show _ = _
       rw [← hD, dgs_step hjl hdj]
      rw [hdj] at cD
      have HS : Hid (∀ k, Rr ((wr.drewN k).setCell ⟨R, 1, none⟩ (.int .i64 ((j : Int) + 1))) R s (j + 1) 0 0 b) := fun k => by
       have := (hr.drewN k).go (j + 1) (by omega)
       rwa [show ((j + 1 : Nat) : Int) = (j : Int) + 1 from by omega] at this
      have HM : Hid (∀ k, s.size - (intOf ((((wr.drewN k).setCell ⟨R, 1, none⟩ (.int .i64 ((j : Int) + 1))).cell? ⟨R, 1, none⟩).getD undef)).toNat < s.size - (intOf ((wr.cell? ⟨R, 1, none⟩).getD undef)).toNat) := fun k => by
       rw [(HS.out k).cells.2.1, hM0]
       simp [intOf]
       omega
      clear hdj hD hM0 hr
      generalize at' s j = y2 at *
      go_wp2_with fail
      refine c5.mono ?_
      rintro e w5 ⟨rfl, n5, rfl⟩
      go_wp2_with fail
      refine (cD _).mono ?_
      rintro e w6 ⟨rfl, rfl⟩
      go_wp2_with fail
      go_roundw
      case rel => exact ⟨j + 1, HD.out, by omega, by omega, HS.out n5, (hk.drewN n5).set 1 _⟩
      case measure => exact HM.out n5
     ·have hdf : dig (at' s j) = false := by cases h : dig (at' s j); rfl; exact absurd h hdj
      have HD : Hid (j = D) := by
       show _ = _
       rw [← hD, dgs_stop hdf]
      rw [hdf] at cD
      have HR : Hid (∀ k, Rr (wr.drewN k) R s j 0 0 b) := fun k => hr.drewN k
      have cR := Reads.rparse (s.extract i j) (by rw [ByteArray.size_extract]; omega)
      have HX4 : Hid (X = if perr (bs (s.extract i j)) = 0 then .ok (pnum (bs (s.extract i j)), j) else .error (601, i)) := by
       have := HX3.out
       rw [← HD.out] at this
       exact this.symm
      have hij : i ≤ j := by omega
      clear hdj hdf hD hM0 hr HX3 HD
      generalize at' s j = y2 at *
      generalize pnum (bs (s.extract i j)) = xv at *
      go_wp2_with fail
      refine c5.mono ?_
      rintro e w5 ⟨rfl, n5, rfl⟩
      go_wp2_with fail
      refine (cD _).mono ?_
      rintro e w6 ⟨rfl, rfl⟩
      have h6 := HR.out n5
      have hk6 := hk.drewN n5
      clear q0 q1 qf c5 cD
      generalize wr.drewN n5 = W6 at *
      obtain ⟨q0, q1, -, -, -⟩ := h6.cells
      go_wp2_with fail
      go_quiet (first | (go_at_call 47; exact Calls.quiet_of_same (cR _)))
      by_cases he : perr (bs (s.extract i j)) = 0
      ·rw [if_pos he] at HX4
       rw [he]
       clear he cR
       go_wp2_with fail
       go_ret
       rw [HX4.out]
       exact ⟨⟨rfl, h6.drewN _⟩, hk6.drewN _⟩
      ·rw [if_neg he] at HX4
       have ee : ((perr (bs (s.extract i j)) : Int) == 0) = false := by simp; omega
       have h7 := h6.drewN nq
       have cF := fail_first h7 601 i (by omega) (by omega)
       unfold ptr at cF
       clear he cR
       generalize perr (bs (s.extract i j)) = ev at *
       go_wp2_with fail
       refine cF.mono ?_
       rintro e w8 ⟨rfl, h8, hk8⟩
       go_wp2_with fail
       go_ret
       rw [HX4.out]
       exact ⟨⟨⟨_, rfl⟩, by simp, _, _, h8⟩, (hk6.drewN _).trans hk8⟩
 ·skip
  have hs : sgn s i = i := if_neg hm
  rw [hs] at hX
  have e45 : ((at' s i : Int) == 45) = false := by simp; omega
  have cP := peek_c h
  unfold ptr at cP ⊢
  have H1 : Hid (∀ k, Rr (w.drewN k) R s i 0 0 b) := fun k => h.drewN k
  have HX : Hid (_ = X) := hX
  have hgs : i ≤ s.size := by omega
  clear hs hm h hX
  generalize hy : at' s i = y at e45 cP
  clear hy
  go_enter Tryz.func33, Tryz.ntmps33
  go_wp2_with fail
  refine cP.mono ?_
  rintro e w1 ⟨rfl, n1, rfl⟩
  go_wp2_with fail
  have h1 := H1.out n1
  have hk1 : Kr R w (w.drewN n1) := (Kr.refl R w).drewN n1
  generalize w.drewN n1 = W1 at *
  clear k0 k1 f1 cP H1
  by_cases hd : dig (at' s i) = false
  ·have HX2 : Hid (X = .error (600, i)) := by
    have := HX.out
    rw [if_pos hd] at this
    exact this.symm
   have cD := digit_c (at' s i) (at_lt s i) 
   rw [hd] at cD
   have c2 := peek_c h1
   unfold ptr at c2
   clear HX hd
   refine c2.mono ?_
   rintro e w2 ⟨rfl, n2, rfl⟩
   go_wp2_with fail
   refine (cD _).mono ?_
   rintro e w3 ⟨rfl, rfl⟩
   have h2 := h1.drewN n2
   obtain ⟨-, q1, -, -, -⟩ := h2.cells
   have cF := fail_first h2 600 i (by omega) (by omega)
   unfold ptr at cF
   go_wp2_with fail
   refine cF.mono ?_
   rintro e w4 ⟨rfl, h4, hk4⟩
   go_wp2_with fail
   go_ret
   rw [HX2.out]
   exact ⟨⟨⟨0, rfl⟩, by simp, _, _, h4⟩, (hk1.drewN n2).trans hk4⟩
  ·have hd' : dig (at' s i) = true := by cases h : dig (at' s i); exact absurd h hd; rfl
   rw [if_neg hd] at HX
   have hgl : i < s.size := by
    apply at_in
    intro h0
    rw [h0] at hd'
    exact absurd hd' (by decide)
   have cD := digit_c (at' s i) (at_lt s i)
   rw [hd'] at cD
   have c2 := peek_c h1
   unfold ptr at c2
   clear hd hd'
   refine c2.mono ?_
   rintro e w2 ⟨rfl, n2, rfl⟩
   go_wp2_with fail
   refine (cD _).mono ?_
   rintro e w3 ⟨rfl, rfl⟩
   have h2 := h1.drewN n2
   have c3 := peek_c h2
   unfold ptr at c3
   have hk2 := hk1.drewN n2
   generalize W1.drewN n2 = W2 at *
   clear c2 cD h1 hk1
   go_wp2_with fail
   refine c3.mono ?_
   rintro e w4 ⟨rfl, n3, rfl⟩
   have h3 := h2.drewN n3
   have hk3 := hk2.drewN n3
   generalize W2.drewN n3 = W3 at *
   clear c3 h2 hk2
   obtain ⟨q0, q1, -, -, -⟩ := h3.cells
   have qf := h3.free 1
   by_cases h48 : at' s i = 48
   ·have e48 : ((at' s i : Int) == 48) = true := by simp; omega
    have hX3 := HX.out
    rw [if_pos h48, if_neg (Nat.lt_irrefl i)] at hX3
    have HX3 : Hid ((if dig (at' s (i + 1)) = true then Except.error (600, i + 1) else .ok (0, i + 1)) = X) := hX3
    have h4 := h3.go (i + 1) (by omega)
    rw [show ((i + 1 : Nat) : Int) = (i : Int) + 1 from by omega] at h4
    have hk4 := hk3.set 1 (.int .i64 ((i : Int) + 1))
    clear HX h48 hX3
    generalize at' s i = y at *
    go_wp2_with fail
    generalize W3.setCell ⟨R, 1, none⟩ (.int .i64 ((i : Int) + 1)) = W4 at *
    have c5 := peek_c h4
    unfold ptr at c5
    clear h3 hk3 q0 q1 qf
    refine c5.mono ?_
    rintro e w5 ⟨rfl, n5, rfl⟩
    have h5 := h4.drewN n5
    have hk5 := hk4.drewN n5
    have cD := digit_c (at' s (i + 1)) (at_lt s (i + 1))
    clear c5 h4 hk4
    generalize W4.drewN n5 = W5 at *
    obtain ⟨q0, q1, -, -, -⟩ := h5.cells
    rw [show ((i + 1 : Nat) : Int) = (i : Int) + 1 from by omega] at q1
    by_cases hd1 : dig (at' s (i + 1)) = true
    ·rw [hd1] at cD
     have HX2 : Hid (X = .error (600, i + 1)) := by
      have := HX3.out
      rw [if_pos hd1] at this
      exact this.symm
     have cF := fail_first h5 600 (i + 1) (by omega) (by omega)
     unfold ptr at cF
     rw [show ((i + 1 : Nat) : Int) = (i : Int) + 1 from by omega] at cF
     clear HX3 hd1
     generalize at' s (i + 1) = y1 at *
     go_wp2_with fail
     refine (cD _).mono ?_
     rintro e w6 ⟨rfl, rfl⟩
     go_wp2_with fail
     refine cF.mono ?_
     rintro e w7 ⟨rfl, h7, hk7⟩
     go_wp2_with fail
     go_ret
     rw [HX2.out]
     exact ⟨⟨⟨0, rfl⟩, by simp, _, _, h7⟩, hk5.trans hk7⟩
    ·have hd2 : dig (at' s (i + 1)) = false := by cases h : dig (at' s (i + 1)); rfl; exact absurd h hd1
     rw [hd2] at cD
     have HX2 : Hid (X = .ok (0, i + 1)) := by
      have := HX3.out
      rw [if_neg hd1] at this
      exact this.symm
     clear HX3 hd1 hd2
     generalize at' s (i + 1) = y1 at *
     go_wp2_with fail
     refine (cD _).mono ?_
     rintro e w6 ⟨rfl, rfl⟩
     go_wp2_with fail
     go_ret
     rw [HX2.out]
     exact ⟨⟨rfl, h5⟩, hk5⟩
   ·have e48 : ((at' s i : Int) == 48) = false := by simp; omega
    have hX3 := HX.out
    rw [if_neg h48] at hX3
    have HX3 : Hid (rd s i (dgs s i) = X) := hX3
    have hig : i ≤ i := by omega
    clear HX h48 hX3
    generalize at' s i = y at *
    clear q0 q1 qf
    go_wp2_with fail
    obtain ⟨D, hD⟩ : ∃ D, dgs s i = D := ⟨_, rfl⟩
    rw [hD] at HX3
    go_loopw [] (fun wr => ∃ j : Nat, dgs s j = D ∧ i ≤ j ∧ j ≤ s.size ∧ Rr wr R s j 0 0 b ∧ Kr R w wr) (fun wr => s.size - (intOf ((wr.cell? ⟨R, 1, none⟩).getD undef)).toNat)
    case atStart => exact ⟨i, hD, Nat.le_refl _, by omega, h3, hk3⟩
    case round =>
     clear hD h3 hk3
     obtain ⟨j, hD, hgj, hjs, hr, hk⟩ := hrel
     have c5 := peek_c hr
     unfold ptr at c5
     have cD := digit_c (at' s j) (at_lt s j)
     obtain ⟨q0, q1, -, -, -⟩ := hr.cells
     have qf := hr.free 1
     have hM0 : (intOf ((wr.cell? ⟨R, 1, none⟩).getD undef)).toNat = j := by rw [q1]; simp [intOf]
     by_cases hdj : dig (at' s j) = true
     ·have hjl : j < s.size := by
       apply at_in
       intro h0
       rw [h0] at hdj
       exact absurd hdj (by decide)
      have HD : Hid (dgs s (j + 1) = D) := by
       show _ = _
       rw [← hD, dgs_step hjl hdj]
      rw [hdj] at cD
      have HS : Hid (∀ k, Rr ((wr.drewN k).setCell ⟨R, 1, none⟩ (.int .i64 ((j : Int) + 1))) R s (j + 1) 0 0 b) := fun k => by
       have := (hr.drewN k).go (j + 1) (by omega)
       rwa [show ((j + 1 : Nat) : Int) = (j : Int) + 1 from by omega] at this
      have HM : Hid (∀ k, s.size - (intOf ((((wr.drewN k).setCell ⟨R, 1, none⟩ (.int .i64 ((j : Int) + 1))).cell? ⟨R, 1, none⟩).getD undef)).toNat < s.size - (intOf ((wr.cell? ⟨R, 1, none⟩).getD undef)).toNat) := fun k => by
       rw [(HS.out k).cells.2.1, hM0]
       simp [intOf]
       omega
      clear hdj hD hM0 hr
      generalize at' s j = y2 at *
      go_wp2_with fail
      refine c5.mono ?_
      rintro e w5 ⟨rfl, n5, rfl⟩
      go_wp2_with fail
      refine (cD _).mono ?_
      rintro e w6 ⟨rfl, rfl⟩
      go_wp2_with fail
      go_roundw
      case rel => exact ⟨j + 1, HD.out, by omega, by omega, HS.out n5, (hk.drewN n5).set 1 _⟩
      case measure => exact HM.out n5
     ·have hdf : dig (at' s j) = false := by cases h : dig (at' s j); rfl; exact absurd h hdj
      have HD : Hid (j = D) := by
       show _ = _
       rw [← hD, dgs_stop hdf]
      rw [hdf] at cD
      have HR : Hid (∀ k, Rr (wr.drewN k) R s j 0 0 b) := fun k => hr.drewN k
      have cR := Reads.rparse (s.extract i j) (by rw [ByteArray.size_extract]; omega)
      have HX4 : Hid (X = if perr (bs (s.extract i j)) = 0 then .ok (pnum (bs (s.extract i j)), j) else .error (601, i)) := by
       have := HX3.out
       rw [← HD.out] at this
       exact this.symm
      have hij : i ≤ j := by omega
      clear hdj hdf hD hM0 hr HX3 HD
      generalize at' s j = y2 at *
      generalize pnum (bs (s.extract i j)) = xv at *
      go_wp2_with fail
      refine c5.mono ?_
      rintro e w5 ⟨rfl, n5, rfl⟩
      go_wp2_with fail
      refine (cD _).mono ?_
      rintro e w6 ⟨rfl, rfl⟩
      have h6 := HR.out n5
      have hk6 := hk.drewN n5
      clear q0 q1 qf c5 cD
      generalize wr.drewN n5 = W6 at *
      obtain ⟨q0, q1, -, -, -⟩ := h6.cells
      go_wp2_with fail
      go_quiet (first | (go_at_call 47; exact Calls.quiet_of_same (cR _)))
      by_cases he : perr (bs (s.extract i j)) = 0
      ·rw [if_pos he] at HX4
       rw [he]
       clear he cR
       go_wp2_with fail
       go_ret
       rw [HX4.out]
       exact ⟨⟨rfl, h6.drewN _⟩, hk6.drewN _⟩
      ·rw [if_neg he] at HX4
       have ee : ((perr (bs (s.extract i j)) : Int) == 0) = false := by simp; omega
       have h7 := h6.drewN nq
       have cF := fail_first h7 601 i (by omega) (by omega)
       unfold ptr at cF
       clear he cR
       generalize perr (bs (s.extract i j)) = ev at *
       go_wp2_with fail
       refine cF.mono ?_
       rintro e w8 ⟨rfl, h8, hk8⟩
       go_wp2_with fail
       go_ret
       rw [HX4.out]
       exact ⟨⟨⟨_, rfl⟩, by simp, _, _, h8⟩, (hk6.drewN _).trans hk8⟩
end Go.Proofs.YthkpbhgbmagaeaaGreatDoor.RNum

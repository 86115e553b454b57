/- May a node be, but for its expressions and kids: the document's own answer (stencilref15.alone, More). -/
import Derived.Test.YtofjedecjlodmaaGreatKRu
import Derived.Test.YtofjedecjlodmaaGreatKNp
namespace Go.Proofs.YtofjedecjlodmaaGreat.KRa
open Go.RowKit Go.Proofs.YtofjedecjlodmaaGreat.Base Go.Proofs.YtofjedecjlodmaaGreat.EPure Go.Proofs.YtofjedecjlodmaaGreat.KBase Go.Proofs.YtofjedecjlodmaaGreat.KSh Go.Proofs.YtofjedecjlodmaaGreat.KAr Go.Proofs.YtofjedecjlodmaaGreat.KNp
open Go.Proofs.YtofjedecjlodmaaGreat.SFit (ne ret_bool ret_int)
set_option linter.unusedVariables false

theorem pos_eq (n : Nat) : ((n : Int) == 0) = !(decide (0 < n)) := by
  cases n with
  | zero => rfl
  | succ n => simp; omega
theorem posI (n : Nat) : decide ((0 : Int) < (n : Int)) = decide (0 < n) := by
  apply decide_eq_decide.2
  omega
set_option maxRecDepth 20000 in
set_option maxHeartbeats 3200000 in
theorem alone1 {t : ByteArray} {a1 : Option Addr} {n1 c1 : Nat} {a2 : Option Addr} {n2 c2 : Nat} {a3 : Option Addr} {n3 c3 : Nat} {a4 : Option Addr} {n4 c4 : Nat} {a5 : Option Addr} {n5 c5 : Nat} {w : World} {P : Bool} (hP : ∀ W, Below w.heap.size w W → Calls Tryz.prog 67 #[.slice a2 n2 c2] W fun e w' => e = .returned (.bool P) ∧ Below W.heap.size W w') :
    Calls Tryz.prog 42 #[.agg #[.int .i64 1, .string t, .slice a1 n1 c1, .slice a2 n2 c2, .slice a3 n3 c3, .slice a4 n4 c4, .slice a5 n5 c5]] w fun e w' => e = .returned (.bool (P && bare t n1 0 n3 n4 n5)) ∧ Below w.heap.size w w' := by
  obtain ⟨W0, hW0⟩ : ∃ W0, w.alloc (.cells #[.int .i64 1, .string t, .slice a1 n1 c1, .slice a2 n2 c2, .slice a3 n3 c3, .slice a4 n4 c4, .slice a5 n5 c5] 40) = W0 := ⟨_, rfl⟩
  have b0 : Below w.heap.size w W0 := by rw [← hW0]; exact (Below.refl _ w).alloc (Nat.le_refl _) _
  have s0 : W0.heap.size = w.heap.size + 1 := by rw [← hW0]; simp
  have x0 : W0.heap[w.heap.size]? = some (.cells #[.int .i64 1, .string t, .slice a1 n1 c1, .slice a2 n2 c2, .slice a3 n3 c3, .slice a4 n4 c4, .slice a5 n5 c5] 40 (0, 0)) := by rw [← hW0]; exact heap_alloc_new w _
  obtain ⟨g0, g1, g2, g3, g4, g5, g6⟩ := seven_box x0
  have HB0 : Hid (Below w.heap.size w W0) := b0
  have HX0 : Hid (W0.heap[w.heap.size]? = some (.cells #[.int .i64 1, .string t, .slice a1 n1 c1, .slice a2 n2 c2, .slice a3 n3 c3, .slice a4 n4 c4, .slice a5 n5 c5] 40 (0, 0))) := x0
  have HW0 : Hid (w.alloc (.cells #[.int .i64 1, .string t, .slice a1 n1 c1, .slice a2 n2 c2, .slice a3 n3 c3, .slice a4 n4 c4, .slice a5 n5 c5] 40) = W0) := hW0
  have cP : Hid (∀ W, Below w.heap.size w W → Calls Tryz.prog 67 #[.slice a2 n2 c2] W fun e w' => e = .returned (.bool P) ∧ Below W.heap.size W w') := hP
  clear hP
  obtain ⟨zt, hzt⟩ : ∃ zt, t.toList.isEmpty = zt := ⟨_, rfl⟩
  obtain ⟨y1, hy1⟩ : ∃ y1, decide (0 < n1) = y1 := ⟨_, rfl⟩
  obtain ⟨y5, hy5⟩ : ∃ y5, decide (0 < n5) = y5 := ⟨_, rfl⟩
  obtain ⟨e3, he3⟩ : ∃ e3, ((n3 : Int) == 0) = e3 := ⟨_, rfl⟩
  obtain ⟨e4, he4⟩ : ∃ e4, ((n4 : Int) == 0) = e4 := ⟨_, rfl⟩
  have iy1 : decide ((0 : Int) < (n1 : Int)) = y1 := by rw [posI, hy1]
  have iy5 : decide ((0 : Int) < (n5 : Int)) = y5 := by rw [posI, hy5]
  have hB : (P && bare t n1 0 n3 n4 n5) = (P && (zt && (!y1 && (e3 && (e4 && !y5))))) := by
    unfold bare
    try rw [← ne t]
    rw [pos_eq n1, pos_eq n5, hy1, hy5, he3, he4, hzt]
    simp only [Int.cast_ofNat_Int, beq_self_eq_true, Bool.true_and]
  rw [hB]
  clear hB hW0 x0 b0
  cases zt with
  | false =>
    go_enter Tryz.func42, Tryz.ntmps42
    go_wp2_with fail
    try rw [HW0.out]
    go_ret
    exact ⟨ret_bool (by simp), HB0.out⟩
  | true =>
    cases y1 with
    | true =>
      go_enter Tryz.func42, Tryz.ntmps42
      go_wp2_with fail
      try rw [HW0.out]
      go_ret
      exact ⟨ret_bool (by simp), HB0.out⟩
    | false =>
      cases y5 with
      | true =>
        go_enter Tryz.func42, Tryz.ntmps42
        go_wp2_with fail
        try rw [HW0.out]
        go_ret
        exact ⟨ret_bool (by simp), HB0.out⟩
      | false =>
        cases P with
        | false =>
          go_enter Tryz.func42, Tryz.ntmps42
          go_wp2_with fail
          try rw [HW0.out]
          refine (cP.out _ HB0.out).mono ?_
          rintro e W1 ⟨rfl, b1⟩
          obtain ⟨k0, k1, k2, k3, k4, k5, k6⟩ := seven_box ((b1.block w.heap.size (by omega)).trans HX0.out)
          have HB1 : Hid (Below w.heap.size w W1) := nx HB0.out b1
          clear b1
          go_wp2_with fail
          go_ret
          exact ⟨ret_bool (by simp), HB1.out⟩
        | true =>
          cases e3 with
          | false =>
            go_enter Tryz.func42, Tryz.ntmps42
            go_wp2_with fail
            try rw [HW0.out]
            refine (cP.out _ HB0.out).mono ?_
            rintro e W1 ⟨rfl, b1⟩
            obtain ⟨k0, k1, k2, k3, k4, k5, k6⟩ := seven_box ((b1.block w.heap.size (by omega)).trans HX0.out)
            have HB1 : Hid (Below w.heap.size w W1) := nx HB0.out b1
            clear b1
            go_wp2_with fail
            go_ret
            exact ⟨ret_bool (by simp), HB1.out⟩
          | true =>
            go_enter Tryz.func42, Tryz.ntmps42
            go_wp2_with fail
            try rw [HW0.out]
            refine (cP.out _ HB0.out).mono ?_
            rintro e W1 ⟨rfl, b1⟩
            obtain ⟨k0, k1, k2, k3, k4, k5, k6⟩ := seven_box ((b1.block w.heap.size (by omega)).trans HX0.out)
            have HB1 : Hid (Below w.heap.size w W1) := nx HB0.out b1
            clear b1
            go_wp2_with fail
            go_ret
            exact ⟨ret_bool (by simp), HB1.out⟩
set_option maxRecDepth 20000 in
set_option maxHeartbeats 3200000 in
theorem alone2 {t : ByteArray} {a1 : Option Addr} {n1 c1 : Nat} {a2 : Option Addr} {n2 c2 : Nat} {a3 : Option Addr} {n3 c3 : Nat} {a4 : Option Addr} {n4 c4 : Nat} {a5 : Option Addr} {n5 c5 : Nat} {w : World} {Tg F : Bool} (hT : ∀ W, Calls Tryz.prog 68 #[.string t] W fun e w' => e = .returned (.bool Tg) ∧ w' = W) (hF : ∀ W, Below w.heap.size w W → Calls Tryz.prog 69 #[.slice a1 n1 c1] W fun e w' => e = .returned (.bool F) ∧ Below W.heap.size W w') :
    Calls Tryz.prog 42 #[.agg #[.int .i64 2, .string t, .slice a1 n1 c1, .slice a2 n2 c2, .slice a3 n3 c3, .slice a4 n4 c4, .slice a5 n5 c5]] w fun e w' => e = .returned (.bool ((Tg && F) && bare ⟨#[]⟩ 0 n2 n3 0 n5)) ∧ Below w.heap.size w w' := by
  obtain ⟨W0, hW0⟩ : ∃ W0, w.alloc (.cells #[.int .i64 2, .string t, .slice a1 n1 c1, .slice a2 n2 c2, .slice a3 n3 c3, .slice a4 n4 c4, .slice a5 n5 c5] 40) = W0 := ⟨_, rfl⟩
  have b0 : Below w.heap.size w W0 := by rw [← hW0]; exact (Below.refl _ w).alloc (Nat.le_refl _) _
  have s0 : W0.heap.size = w.heap.size + 1 := by rw [← hW0]; simp
  have x0 : W0.heap[w.heap.size]? = some (.cells #[.int .i64 2, .string t, .slice a1 n1 c1, .slice a2 n2 c2, .slice a3 n3 c3, .slice a4 n4 c4, .slice a5 n5 c5] 40 (0, 0)) := by rw [← hW0]; exact heap_alloc_new w _
  obtain ⟨g0, g1, g2, g3, g4, g5, g6⟩ := seven_box x0
  have HB0 : Hid (Below w.heap.size w W0) := b0
  have HX0 : Hid (W0.heap[w.heap.size]? = some (.cells #[.int .i64 2, .string t, .slice a1 n1 c1, .slice a2 n2 c2, .slice a3 n3 c3, .slice a4 n4 c4, .slice a5 n5 c5] 40 (0, 0))) := x0
  have HW0 : Hid (w.alloc (.cells #[.int .i64 2, .string t, .slice a1 n1 c1, .slice a2 n2 c2, .slice a3 n3 c3, .slice a4 n4 c4, .slice a5 n5 c5] 40) = W0) := hW0
  have cT : Hid (∀ W, Calls Tryz.prog 68 #[.string t] W fun e w' => e = .returned (.bool Tg) ∧ w' = W) := hT
  have cF : Hid (∀ W, Below w.heap.size w W → Calls Tryz.prog 69 #[.slice a1 n1 c1] W fun e w' => e = .returned (.bool F) ∧ Below W.heap.size W w') := hF
  clear hT hF
  obtain ⟨y2, hy2⟩ : ∃ y2, decide (0 < n2) = y2 := ⟨_, rfl⟩
  obtain ⟨y5, hy5⟩ : ∃ y5, decide (0 < n5) = y5 := ⟨_, rfl⟩
  obtain ⟨e3, he3⟩ : ∃ e3, ((n3 : Int) == 0) = e3 := ⟨_, rfl⟩
  have iy2 : decide ((0 : Int) < (n2 : Int)) = y2 := by rw [posI, hy2]
  have iy5 : decide ((0 : Int) < (n5 : Int)) = y5 := by rw [posI, hy5]
  have hB : ((Tg && F) && bare ⟨#[]⟩ 0 n2 n3 0 n5) = ((Tg && F) && (!y2 && (e3 && !y5))) := by
    unfold bare
    try rw [← ne t]
    rw [pos_eq n2, pos_eq n5, hy2, hy5, he3]
    simp [ByteArray.size]
  rw [hB]
  clear hB hW0 x0 b0
  cases y2 with
  | true =>
    go_enter Tryz.func42, Tryz.ntmps42
    go_wp2_with fail
    try rw [HW0.out]
    go_ret
    exact ⟨ret_bool (by simp), HB0.out⟩
  | false =>
    cases y5 with
    | true =>
      go_enter Tryz.func42, Tryz.ntmps42
      go_wp2_with fail
      try rw [HW0.out]
      go_ret
      exact ⟨ret_bool (by simp), HB0.out⟩
    | false =>
      cases Tg with
      | false =>
        go_enter Tryz.func42, Tryz.ntmps42
        go_wp2_with fail
        try rw [HW0.out]
        refine (cT.out _).mono ?_
        rintro e w' ⟨rfl, hw'⟩
        subst w'
        go_wp2_with fail
        go_ret
        exact ⟨ret_bool (by simp), HB0.out⟩
      | true =>
        cases F with
        | false =>
          go_enter Tryz.func42, Tryz.ntmps42
          go_wp2_with fail
          try rw [HW0.out]
          refine (cT.out _).mono ?_
          rintro e w' ⟨rfl, hw'⟩
          subst w'
          go_wp2_with fail
          refine (cF.out _ HB0.out).mono ?_
          rintro e W1 ⟨rfl, b1⟩
          obtain ⟨k0, k1, k2, k3, k4, k5, k6⟩ := seven_box ((b1.block w.heap.size (by omega)).trans HX0.out)
          have HB1 : Hid (Below w.heap.size w W1) := nx HB0.out b1
          clear b1
          go_wp2_with fail
          go_ret
          exact ⟨ret_bool (by simp), HB1.out⟩
        | true =>
          go_enter Tryz.func42, Tryz.ntmps42
          go_wp2_with fail
          try rw [HW0.out]
          refine (cT.out _).mono ?_
          rintro e w' ⟨rfl, hw'⟩
          subst w'
          go_wp2_with fail
          refine (cF.out _ HB0.out).mono ?_
          rintro e W1 ⟨rfl, b1⟩
          obtain ⟨k0, k1, k2, k3, k4, k5, k6⟩ := seven_box ((b1.block w.heap.size (by omega)).trans HX0.out)
          have HB1 : Hid (Below w.heap.size w W1) := nx HB0.out b1
          clear b1
          go_wp2_with fail
          go_ret
          exact ⟨ret_bool (by simp), HB1.out⟩
set_option maxRecDepth 20000 in
set_option maxHeartbeats 3200000 in
theorem alone3 {t : ByteArray} {a1 : Option Addr} {n1 c1 : Nat} {a2 : Option Addr} {n2 c2 : Nat} {a3 : Option Addr} {n3 c3 : Nat} {a4 : Option Addr} {n4 c4 : Nat} {a5 : Option Addr} {n5 c5 : Nat} {w : World}  :
    Calls Tryz.prog 42 #[.agg #[.int .i64 3, .string t, .slice a1 n1 c1, .slice a2 n2 c2, .slice a3 n3 c3, .slice a4 n4 c4, .slice a5 n5 c5]] w fun e w' => e = .returned (.bool (((n3 : Int) == 1) && bare t n1 n2 0 0 0)) ∧ Below w.heap.size w w' := by
  obtain ⟨W0, hW0⟩ : ∃ W0, w.alloc (.cells #[.int .i64 3, .string t, .slice a1 n1 c1, .slice a2 n2 c2, .slice a3 n3 c3, .slice a4 n4 c4, .slice a5 n5 c5] 40) = W0 := ⟨_, rfl⟩
  have b0 : Below w.heap.size w W0 := by rw [← hW0]; exact (Below.refl _ w).alloc (Nat.le_refl _) _
  have s0 : W0.heap.size = w.heap.size + 1 := by rw [← hW0]; simp
  have x0 : W0.heap[w.heap.size]? = some (.cells #[.int .i64 3, .string t, .slice a1 n1 c1, .slice a2 n2 c2, .slice a3 n3 c3, .slice a4 n4 c4, .slice a5 n5 c5] 40 (0, 0)) := by rw [← hW0]; exact heap_alloc_new w _
  obtain ⟨g0, g1, g2, g3, g4, g5, g6⟩ := seven_box x0
  have HB0 : Hid (Below w.heap.size w W0) := b0
  have HX0 : Hid (W0.heap[w.heap.size]? = some (.cells #[.int .i64 3, .string t, .slice a1 n1 c1, .slice a2 n2 c2, .slice a3 n3 c3, .slice a4 n4 c4, .slice a5 n5 c5] 40 (0, 0))) := x0
  have HW0 : Hid (w.alloc (.cells #[.int .i64 3, .string t, .slice a1 n1 c1, .slice a2 n2 c2, .slice a3 n3 c3, .slice a4 n4 c4, .slice a5 n5 c5] 40) = W0) := hW0
  obtain ⟨zt, hzt⟩ : ∃ zt, t.toList.isEmpty = zt := ⟨_, rfl⟩
  obtain ⟨y1, hy1⟩ : ∃ y1, decide (0 < n1) = y1 := ⟨_, rfl⟩
  obtain ⟨y2, hy2⟩ : ∃ y2, decide (0 < n2) = y2 := ⟨_, rfl⟩
  obtain ⟨o3, ho3⟩ : ∃ o3, ((n3 : Int) == 1) = o3 := ⟨_, rfl⟩
  have iy1 : decide ((0 : Int) < (n1 : Int)) = y1 := by rw [posI, hy1]
  have iy2 : decide ((0 : Int) < (n2 : Int)) = y2 := by rw [posI, hy2]
  have hB : (((n3 : Int) == 1) && bare t n1 n2 0 0 0) = (o3 && (zt && (!y1 && !y2))) := by
    unfold bare
    try rw [← ne t]
    rw [pos_eq n1, pos_eq n2, hy1, hy2, ho3, hzt]
    simp
  rw [hB]
  clear hB hW0 x0 b0
  cases zt with
  | false =>
    go_enter Tryz.func42, Tryz.ntmps42
    go_wp2_with fail
    try rw [HW0.out]
    go_ret
    exact ⟨ret_bool (by simp), HB0.out⟩
  | true =>
    cases y1 with
    | true =>
      go_enter Tryz.func42, Tryz.ntmps42
      go_wp2_with fail
      try rw [HW0.out]
      go_ret
      exact ⟨ret_bool (by simp), HB0.out⟩
    | false =>
      cases y2 with
      | true =>
        go_enter Tryz.func42, Tryz.ntmps42
        go_wp2_with fail
        try rw [HW0.out]
        go_ret
        exact ⟨ret_bool (by simp), HB0.out⟩
      | false =>
        go_enter Tryz.func42, Tryz.ntmps42
        go_wp2_with fail
        try rw [HW0.out]
        go_ret
        exact ⟨ret_bool (by simp), HB0.out⟩
set_option maxRecDepth 20000 in
set_option maxHeartbeats 3200000 in
theorem alone4 {t : ByteArray} {a1 : Option Addr} {n1 c1 : Nat} {a2 : Option Addr} {n2 c2 : Nat} {a3 : Option Addr} {n3 c3 : Nat} {a4 : Option Addr} {n4 c4 : Nat} {a5 : Option Addr} {n5 c5 : Nat} {w : World} {kk : Int} (hK : (n4 : Int) = 1 → ∃ g o, a4 = some ⟨g, o, none⟩ ∧ w.cell? ⟨g, o, none⟩ = some (.int .i64 kk)) :
    Calls Tryz.prog 42 #[.agg #[.int .i64 4, .string t, .slice a1 n1 c1, .slice a2 n2 c2, .slice a3 n3 c3, .slice a4 n4 c4, .slice a5 n5 c5]] w fun e w' => e = .returned (.bool ((((n3 : Int) == 2) && (((n4 : Int) == 1) && (kk == 2))) && bare t n1 n2 0 0 n5)) ∧ Below w.heap.size w w' := by
  obtain ⟨W0, hW0⟩ : ∃ W0, w.alloc (.cells #[.int .i64 4, .string t, .slice a1 n1 c1, .slice a2 n2 c2, .slice a3 n3 c3, .slice a4 n4 c4, .slice a5 n5 c5] 40) = W0 := ⟨_, rfl⟩
  have b0 : Below w.heap.size w W0 := by rw [← hW0]; exact (Below.refl _ w).alloc (Nat.le_refl _) _
  have s0 : W0.heap.size = w.heap.size + 1 := by rw [← hW0]; simp
  have x0 : W0.heap[w.heap.size]? = some (.cells #[.int .i64 4, .string t, .slice a1 n1 c1, .slice a2 n2 c2, .slice a3 n3 c3, .slice a4 n4 c4, .slice a5 n5 c5] 40 (0, 0)) := by rw [← hW0]; exact heap_alloc_new w _
  obtain ⟨g0, g1, g2, g3, g4, g5, g6⟩ := seven_box x0
  have HB0 : Hid (Below w.heap.size w W0) := b0
  have HX0 : Hid (W0.heap[w.heap.size]? = some (.cells #[.int .i64 4, .string t, .slice a1 n1 c1, .slice a2 n2 c2, .slice a3 n3 c3, .slice a4 n4 c4, .slice a5 n5 c5] 40 (0, 0))) := x0
  have HW0 : Hid (w.alloc (.cells #[.int .i64 4, .string t, .slice a1 n1 c1, .slice a2 n2 c2, .slice a3 n3 c3, .slice a4 n4 c4, .slice a5 n5 c5] 40) = W0) := hW0
  have HK : Hid ((n4 : Int) = 1 → ∃ g o, a4 = some ⟨g, o, none⟩ ∧ w.cell? ⟨g, o, none⟩ = some (.int .i64 kk)) := hK
  clear hK
  obtain ⟨zt, hzt⟩ : ∃ zt, t.toList.isEmpty = zt := ⟨_, rfl⟩
  obtain ⟨y1, hy1⟩ : ∃ y1, decide (0 < n1) = y1 := ⟨_, rfl⟩
  obtain ⟨y2, hy2⟩ : ∃ y2, decide (0 < n2) = y2 := ⟨_, rfl⟩
  obtain ⟨y5, hy5⟩ : ∃ y5, decide (0 < n5) = y5 := ⟨_, rfl⟩
  obtain ⟨d3, hd3⟩ : ∃ d3, ((n3 : Int) == 2) = d3 := ⟨_, rfl⟩
  obtain ⟨o4, ho4⟩ : ∃ o4, ((n4 : Int) == 1) = o4 := ⟨_, rfl⟩
  obtain ⟨q2, hq2⟩ : ∃ q2, (kk == 2) = q2 := ⟨_, rfl⟩
  have iy1 : decide ((0 : Int) < (n1 : Int)) = y1 := by rw [posI, hy1]
  have iy2 : decide ((0 : Int) < (n2 : Int)) = y2 := by rw [posI, hy2]
  have iy5 : decide ((0 : Int) < (n5 : Int)) = y5 := by rw [posI, hy5]
  have hB : ((((n3 : Int) == 2) && (((n4 : Int) == 1) && (kk == 2))) && bare t n1 n2 0 0 n5) = ((d3 && (o4 && q2)) && (zt && (!y1 && (!y2 && !y5)))) := by
    unfold bare
    try rw [← ne t]
    rw [pos_eq n1, pos_eq n2, pos_eq n5, hy1, hy2, hy5, hd3, ho4, hq2, hzt]
    simp
  rw [hB]
  clear hB hW0 x0 b0
  cases zt with
  | false =>
    go_enter Tryz.func42, Tryz.ntmps42
    go_wp2_with fail
    try rw [HW0.out]
    go_ret
    exact ⟨ret_bool (by simp), HB0.out⟩
  | true =>
    cases y1 with
    | true =>
      go_enter Tryz.func42, Tryz.ntmps42
      go_wp2_with fail
      try rw [HW0.out]
      go_ret
      exact ⟨ret_bool (by simp), HB0.out⟩
    | false =>
      cases y2 with
      | true =>
        go_enter Tryz.func42, Tryz.ntmps42
        go_wp2_with fail
        try rw [HW0.out]
        go_ret
        exact ⟨ret_bool (by simp), HB0.out⟩
      | false =>
        cases y5 with
        | true =>
          go_enter Tryz.func42, Tryz.ntmps42
          go_wp2_with fail
          try rw [HW0.out]
          go_ret
          exact ⟨ret_bool (by simp), HB0.out⟩
        | false =>
          cases d3 with
          | false =>
            go_enter Tryz.func42, Tryz.ntmps42
            go_wp2_with fail
            try rw [HW0.out]
            go_ret
            exact ⟨ret_bool (by simp), HB0.out⟩
          | true =>
            cases o4 with
            | false =>
              go_enter Tryz.func42, Tryz.ntmps42
              go_wp2_with fail
              try rw [HW0.out]
              go_ret
              exact ⟨ret_bool (by simp), HB0.out⟩
            | true =>
              obtain ⟨g, o, rfl, hc⟩ := HK.out (by simpa using ho4)
              have hn4 : n4 = 1 := by have : (n4 : Int) = 1 := (by simpa using ho4); omega
              subst hn4
              have hc := below_cell hc HB0.out
              rw [← HW0.out] at hc
              go_enter Tryz.func42, Tryz.ntmps42
              go_wp2_with fail
              try rw [HW0.out]
              go_ret
              exact ⟨ret_bool (by simp), HB0.out⟩
set_option maxRecDepth 20000 in
set_option maxHeartbeats 3200000 in
theorem alone5 {t : ByteArray} {a1 : Option Addr} {n1 c1 : Nat} {a2 : Option Addr} {n2 c2 : Nat} {a3 : Option Addr} {n3 c3 : Nat} {a4 : Option Addr} {n4 c4 : Nat} {a5 : Option Addr} {n5 c5 : Nat} {w : World}  :
    Calls Tryz.prog 42 #[.agg #[.int .i64 5, .string t, .slice a1 n1 c1, .slice a2 n2 c2, .slice a3 n3 c3, .slice a4 n4 c4, .slice a5 n5 c5]] w fun e w' => e = .returned (.bool (bare t n1 n2 0 0 n5)) ∧ Below w.heap.size w w' := by
  obtain ⟨W0, hW0⟩ : ∃ W0, w.alloc (.cells #[.int .i64 5, .string t, .slice a1 n1 c1, .slice a2 n2 c2, .slice a3 n3 c3, .slice a4 n4 c4, .slice a5 n5 c5] 40) = W0 := ⟨_, rfl⟩
  have b0 : Below w.heap.size w W0 := by rw [← hW0]; exact (Below.refl _ w).alloc (Nat.le_refl _) _
  have s0 : W0.heap.size = w.heap.size + 1 := by rw [← hW0]; simp
  have x0 : W0.heap[w.heap.size]? = some (.cells #[.int .i64 5, .string t, .slice a1 n1 c1, .slice a2 n2 c2, .slice a3 n3 c3, .slice a4 n4 c4, .slice a5 n5 c5] 40 (0, 0)) := by rw [← hW0]; exact heap_alloc_new w _
  obtain ⟨g0, g1, g2, g3, g4, g5, g6⟩ := seven_box x0
  have HB0 : Hid (Below w.heap.size w W0) := b0
  have HX0 : Hid (W0.heap[w.heap.size]? = some (.cells #[.int .i64 5, .string t, .slice a1 n1 c1, .slice a2 n2 c2, .slice a3 n3 c3, .slice a4 n4 c4, .slice a5 n5 c5] 40 (0, 0))) := x0
  have HW0 : Hid (w.alloc (.cells #[.int .i64 5, .string t, .slice a1 n1 c1, .slice a2 n2 c2, .slice a3 n3 c3, .slice a4 n4 c4, .slice a5 n5 c5] 40) = W0) := hW0
  obtain ⟨zt, hzt⟩ : ∃ zt, t.toList.isEmpty = zt := ⟨_, rfl⟩
  obtain ⟨y1, hy1⟩ : ∃ y1, decide (0 < n1) = y1 := ⟨_, rfl⟩
  obtain ⟨y2, hy2⟩ : ∃ y2, decide (0 < n2) = y2 := ⟨_, rfl⟩
  obtain ⟨y5, hy5⟩ : ∃ y5, decide (0 < n5) = y5 := ⟨_, rfl⟩
  have iy1 : decide ((0 : Int) < (n1 : Int)) = y1 := by rw [posI, hy1]
  have iy2 : decide ((0 : Int) < (n2 : Int)) = y2 := by rw [posI, hy2]
  have iy5 : decide ((0 : Int) < (n5 : Int)) = y5 := by rw [posI, hy5]
  have hB : (bare t n1 n2 0 0 n5) = (zt && (!y1 && (!y2 && !y5))) := by
    unfold bare
    try rw [← ne t]
    rw [pos_eq n1, pos_eq n2, pos_eq n5, hy1, hy2, hy5, hzt]
    simp
  rw [hB]
  clear hB hW0 x0 b0
  cases zt with
  | false =>
    go_enter Tryz.func42, Tryz.ntmps42
    go_wp2_with fail
    try rw [HW0.out]
    go_ret
    exact ⟨ret_bool (by simp), HB0.out⟩
  | true =>
    cases y1 with
    | true =>
      go_enter Tryz.func42, Tryz.ntmps42
      go_wp2_with fail
      try rw [HW0.out]
      go_ret
      exact ⟨ret_bool (by simp), HB0.out⟩
    | false =>
      cases y2 with
      | true =>
        go_enter Tryz.func42, Tryz.ntmps42
        go_wp2_with fail
        try rw [HW0.out]
        go_ret
        exact ⟨ret_bool (by simp), HB0.out⟩
      | false =>
        cases y5 with
        | true =>
          go_enter Tryz.func42, Tryz.ntmps42
          go_wp2_with fail
          try rw [HW0.out]
          go_ret
          exact ⟨ret_bool (by simp), HB0.out⟩
        | false =>
          go_enter Tryz.func42, Tryz.ntmps42
          go_wp2_with fail
          try rw [HW0.out]
          go_ret
          exact ⟨ret_bool (by simp), HB0.out⟩
set_option maxRecDepth 20000 in
set_option maxHeartbeats 3200000 in
theorem aloneN {t : ByteArray} {a1 : Option Addr} {n1 c1 : Nat} {a2 : Option Addr} {n2 c2 : Nat} {a3 : Option Addr} {n3 c3 : Nat} {a4 : Option Addr} {n4 c4 : Nat} {a5 : Option Addr} {n5 c5 : Nat} {w : World} {k : Int} (h1 : k ≠ 1) (h2 : k ≠ 2) (h3 : k ≠ 3) (h4 : k ≠ 4) (h5 : k ≠ 5) :
    Calls Tryz.prog 42 #[.agg #[.int .i64 k, .string t, .slice a1 n1 c1, .slice a2 n2 c2, .slice a3 n3 c3, .slice a4 n4 c4, .slice a5 n5 c5]] w fun e w' => e = .returned (.bool false) ∧ Below w.heap.size w w' := by
  obtain ⟨W0, hW0⟩ : ∃ W0, w.alloc (.cells #[.int .i64 k, .string t, .slice a1 n1 c1, .slice a2 n2 c2, .slice a3 n3 c3, .slice a4 n4 c4, .slice a5 n5 c5] 40) = W0 := ⟨_, rfl⟩
  have b0 : Below w.heap.size w W0 := by rw [← hW0]; exact (Below.refl _ w).alloc (Nat.le_refl _) _
  have s0 : W0.heap.size = w.heap.size + 1 := by rw [← hW0]; simp
  have x0 : W0.heap[w.heap.size]? = some (.cells #[.int .i64 k, .string t, .slice a1 n1 c1, .slice a2 n2 c2, .slice a3 n3 c3, .slice a4 n4 c4, .slice a5 n5 c5] 40 (0, 0)) := by rw [← hW0]; exact heap_alloc_new w _
  obtain ⟨g0, g1, g2, g3, g4, g5, g6⟩ := seven_box x0
  have HB0 : Hid (Below w.heap.size w W0) := b0
  have HX0 : Hid (W0.heap[w.heap.size]? = some (.cells #[.int .i64 k, .string t, .slice a1 n1 c1, .slice a2 n2 c2, .slice a3 n3 c3, .slice a4 n4 c4, .slice a5 n5 c5] 40 (0, 0))) := x0
  have HW0 : Hid (w.alloc (.cells #[.int .i64 k, .string t, .slice a1 n1 c1, .slice a2 n2 c2, .slice a3 n3 c3, .slice a4 n4 c4, .slice a5 n5 c5] 40) = W0) := hW0
  have k1 : (k == 1) = false := by simp [h1]
  have m1 : (k != 1) = true := by simp [h1]
  have k2 : (k == 2) = false := by simp [h2]
  have m2 : (k != 2) = true := by simp [h2]
  have k3 : (k == 3) = false := by simp [h3]
  have m3 : (k != 3) = true := by simp [h3]
  have k4 : (k == 4) = false := by simp [h4]
  have m4 : (k != 4) = true := by simp [h4]
  have k5 : (k == 5) = false := by simp [h5]
  have m5 : (k != 5) = true := by simp [h5]
  clear h1 h2 h3 h4 h5
  obtain ⟨zt, hzt⟩ : ∃ zt, t.toList.isEmpty = zt := ⟨_, rfl⟩
  obtain ⟨y1, hy1⟩ : ∃ y1, decide (0 < n1) = y1 := ⟨_, rfl⟩
  obtain ⟨y2, hy2⟩ : ∃ y2, decide (0 < n2) = y2 := ⟨_, rfl⟩
  obtain ⟨y5, hy5⟩ : ∃ y5, decide (0 < n5) = y5 := ⟨_, rfl⟩
  have iy1 : decide ((0 : Int) < (n1 : Int)) = y1 := by rw [posI, hy1]
  have iy2 : decide ((0 : Int) < (n2 : Int)) = y2 := by rw [posI, hy2]
  have iy5 : decide ((0 : Int) < (n5 : Int)) = y5 := by rw [posI, hy5]
  clear hW0 x0 b0
  cases zt with
  | false =>
    go_enter Tryz.func42, Tryz.ntmps42
    go_wp2_with fail
    try rw [HW0.out]
    go_ret
    exact ⟨ret_bool (by simp), HB0.out⟩
  | true =>
    cases y1 with
    | true =>
      go_enter Tryz.func42, Tryz.ntmps42
      go_wp2_with fail
      try rw [HW0.out]
      go_ret
      exact ⟨ret_bool (by simp), HB0.out⟩
    | false =>
      cases y2 with
      | true =>
        go_enter Tryz.func42, Tryz.ntmps42
        go_wp2_with fail
        try rw [HW0.out]
        go_ret
        exact ⟨ret_bool (by simp), HB0.out⟩
      | false =>
        cases y5 with
        | true =>
          go_enter Tryz.func42, Tryz.ntmps42
          go_wp2_with fail
          try rw [HW0.out]
          go_ret
          exact ⟨ret_bool (by simp), HB0.out⟩
        | false =>
          go_enter Tryz.func42, Tryz.ntmps42
          go_wp2_with fail
          try rw [HW0.out]
          go_ret
          exact ⟨ret_bool (by simp), HB0.out⟩
theorem alone_c {m : Nat} {v : Value} {c : Co} {w : World} (hin : In false (fun _ => True) w m v c) (s e l : Int) :
    Calls Tryz.prog 42 #[v] w fun x w' => x = .returned (.bool (ent c s e l).2) ∧ Below w.heap.size w w' := by
  obtain ⟨m', fv, pv, xv, lv, uv, rfl, rfl, -, ht, hF, hP, ⟨mx, hX⟩, hL, hU⟩ := hin.shape
  have hF0 := hF
  have hP0 := hP
  have hL0 := hL
  obtain ⟨a1, c1, rfl, hc1, hm1, hl1, -, hLF⟩ := hF
  obtain ⟨a2, c2, rfl, hc2, hm2, hl2, -, hLP⟩ := hP
  obtain ⟨a3, c3, rfl, hc3, hm3, hl3, -, hLX⟩ := hX
  obtain ⟨a4, c4, rfl, hc4, hm4, hl4, -, hLL⟩ := hL
  obtain ⟨a5, c5, rfl, hc5, hm5, hl5, -, hLU⟩ := hU
  obtain ⟨k, hk⟩ : ∃ k, c.k = k := ⟨_, rfl⟩
  rw [hk]
  by_cases h1 : k = 1
  · subst h1
    have e0 : (ent c s e l).2 = (KRo.prOk c.p && bare c.t c.f.length 0 c.x.length c.l.length c.u.length) := by unfold ent; rw [if_pos hk]
    rw [e0]
    exact alone1 (fun W hW => KRt.partsR_c (RP.keep (Keep.of_below hW) hP0))
  by_cases h2 : k = 2
  · subst h2
    have e0 : (ent c s e l).2 = ((UBase.word c.t 45 && KFd.fl1 none c.f) && bare ⟨#[]⟩ 0 c.p.length c.x.length 0 c.u.length) := by unfold ent; rw [if_neg (by rw [hk]; omega), if_pos hk]
    rw [e0]
    exact alone2 (fun W => KRt.tagR_c c.t ht W) (fun W hW => KRu.fieldsR_c (RF.keep (Keep.of_below hW) hF0))
  by_cases h3 : k = 3
  · subst h3
    have e0 : (ent c s e l).2 = (((c.x.length : Int) == 1) && bare c.t c.f.length c.p.length 0 0 0) := by unfold ent; rw [if_neg (by rw [hk]; omega), if_neg (by rw [hk]; omega), if_pos hk]
    rw [e0]
    exact alone3
  by_cases h4 : k = 4
  · subst h4
    have e0 : (ent c s e l).2 = ((((c.x.length : Int) == 2) && (((c.l.length : Int) == 1) && (kk c == 2))) && bare c.t c.f.length c.p.length 0 0 c.u.length) := by unfold ent; rw [if_neg (by rw [hk]; omega), if_neg (by rw [hk]; omega), if_neg (by rw [hk]; omega), if_pos hk]
    rw [e0]
    refine alone4 (kk := kk c) (fun h1 => ?_)
    obtain ⟨g, o, u, ha, -, hu, hi⟩ := hLL.elem (q := 0) (by omega)
    refine ⟨g, o, ha, ?_⟩
    obtain ⟨v0, v1, v2, v3, v4, v5, v6, rfl, k0, -⟩ := hu
    obtain ⟨m2, _, _, _, _, _, -, hv, -⟩ := hi.shape
    simp only [Value.agg.injEq, Array.mk.injEq, List.cons.injEq, and_true] at hv
    obtain ⟨rfl, -⟩ := hv
    rw [kk_eq c (by omega)]
    rw [Nat.zero_mul, Nat.add_zero] at k0
    exact k0
  by_cases h5 : k = 5
  · subst h5
    have e0 : (ent c s e l).2 = (bare c.t c.f.length c.p.length 0 0 c.u.length) := by unfold ent; rw [if_neg (by rw [hk]; omega), if_neg (by rw [hk]; omega), if_neg (by rw [hk]; omega), if_neg (by rw [hk]; omega), if_pos hk]
    rw [e0]
    exact alone5
  · have e0 : (ent c s e l).2 = false := by unfold ent; rw [if_neg (by rw [hk]; omega), if_neg (by rw [hk]; omega), if_neg (by rw [hk]; omega), if_neg (by rw [hk]; omega), if_neg (by rw [hk]; omega)]
    rw [e0]
    exact aloneN h1 h2 h3 h4 h5
/-- How many values a node puts on the stack. -/
def mr (c : Co) : Int := if c.k = 4 then 2 else if c.k = 5 then c.x.length else 0
set_option maxRecDepth 20000 in
set_option maxHeartbeats 1600000 in
theorem more_c {v : Value} {c : Co} {w : World} {fv pv lv uv : Value} {a : Option Addr} {cap : Nat} (hx : c.x.length ≤ 140737488351232) :
    Calls Tryz.prog 40 #[.agg #[.int .i64 c.k, .string c.t, fv, pv, .slice a c.x.length cap, lv, uv]] w fun x w' => x = .returned (.int .i64 (mr c)) ∧ Below w.heap.size w w' := by
  have b0 : Below w.heap.size w (w.alloc (.cells #[.int .i64 c.k, .string c.t, fv, pv, .slice a c.x.length cap, lv, uv] 40)) := (Below.refl _ w).alloc (Nat.le_refl _) _
  unfold mr
  obtain ⟨k, hk⟩ : ∃ k, c.k = k := ⟨_, rfl⟩
  obtain ⟨n, hn⟩ : ∃ n, c.x.length = n := ⟨_, rfl⟩
  rw [hk, hn] at b0 ⊢
  rw [hn] at hx
  clear hk hn
  by_cases h4 : k = 4
  · subst h4
    rw [if_pos rfl]
    go_enter Tryz.func40, Tryz.ntmps40
    go_wp2_with fail
    go_ret
    exact ⟨rfl, b0⟩
  rw [if_neg h4]
  have k4 : (k == 4) = false := by simp [h4]
  by_cases h5 : k = 5
  · subst h5
    rw [if_pos rfl]
    clear h4
    go_enter Tryz.func40, Tryz.ntmps40
    go_wp2_with fail
    go_ret
    exact ⟨rfl, b0⟩
  · rw [if_neg h5]
    have k5 : (k == 5) = false := by simp [h5]
    clear h4 h5
    go_enter Tryz.func40, Tryz.ntmps40
    go_wp2_with fail
    go_ret
    exact ⟨rfl, b0⟩
theorem ent_more (c : Co) (s e l : Int) : (ent c s e l).1 = (s + mr c, e + (if c.k = 2 then 1 else 0), l + (if c.k = 4 then 1 else 0)) := by
  unfold ent mr
  by_cases h1 : c.k = 1
  · rw [if_pos h1, if_neg (by omega), if_neg (by omega), if_neg (by omega), if_neg (by omega)]; simp
  by_cases h2 : c.k = 2
  · rw [if_neg h1, if_pos h2, if_neg (by omega), if_neg (by omega), if_pos h2, if_neg (by omega)]; simp
  by_cases h3 : c.k = 3
  · rw [if_neg h1, if_neg h2, if_pos h3, if_neg (by omega), if_neg (by omega), if_neg h2, if_neg (by omega)]; simp
  by_cases h4 : c.k = 4
  · rw [if_neg h1, if_neg h2, if_neg h3, if_pos h4, if_pos h4, if_neg h2, if_pos h4]; simp
  by_cases h5 : c.k = 5
  · rw [if_neg h1, if_neg h2, if_neg h3, if_neg h4, if_pos h5, if_neg h4, if_pos h5, if_neg h2, if_neg h4]; simp
  · rw [if_neg h1, if_neg h2, if_neg h3, if_neg h4, if_neg h5, if_neg h4, if_neg h5, if_neg h2, if_neg h4]; simp
end Go.Proofs.YtofjedecjlodmaaGreat.KRa

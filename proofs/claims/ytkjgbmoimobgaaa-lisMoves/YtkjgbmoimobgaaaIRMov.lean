/- The document's own way with keys: contracts of the reference's twice and Moves. -/
import Derived.Test.YtkjgbmoimobgaaaIPlace
import Derived.Test.YtkjgbmoimobgaaaIRef
import Derived.Deep.RegionWith
namespace Go.Proofs.Ytkjgbmoimobgaaa.IRMov
open Go.RowKit Go.Proofs.Ytkjgbmoimobgaaa.IPure Go.Proofs.Ytkjgbmoimobgaaa.IBase Go.Proofs.Ytkjgbmoimobgaaa.IInts Go.Proofs.Ytkjgbmoimobgaaa.IKey Go.Proofs.Ytkjgbmoimobgaaa.IKrow Go.Proofs.Ytkjgbmoimobgaaa.IMoves Go.Proofs.Ytkjgbmoimobgaaa.IAw Go.Proofs.Ytkjgbmoimobgaaa.IKeys Go.Proofs.Ytkjgbmoimobgaaa.IPlace Go.Proofs.Ytkjgbmoimobgaaa.IRef
set_option linter.unusedVariables false

theorem pn_yes {ks : List Ky} {x : Ky} {j : Nat} (h : fd ks x = some j) : pn ks x = (j : Int) := by unfold pn; rw [h]
theorem pn_no {ks : List Ky} {x : Ky} (h : fd ks x = none) : pn ks x = -1 := by unfold pn; rw [h]
theorem kx_take {w : World} {g o n cap q : Nat} {ks : List Ky} (hl : n ≤ cap) (hm : cap ≤ 9223372036854775807) (hq : q ≤ n) (hn : ks.length = n) (hc : ∀ j (h : j < ks.length), Three w g (o + j * 3) ks[j]) : Kx w (.slice (some ⟨g, o, none⟩) q cap) (ks.take q) := by
  refine ⟨_, cap, by rw [List.length_take, hn, Nat.min_eq_left hq], by rw [List.length_take]; omega, hm, (fun h => by cases h), .inr ⟨g, o, rfl, fun j hj => ?_⟩⟩
  rw [List.getElem_take]
  exact hc j _
set_option maxRecDepth 20000 in
set_option maxHeartbeats 800000 in
theorem twice_c {w : World} {v : Value} {ks : List Ky} (hv : Kx w v ks) (hk : OkL ks) :
    Calls Try.prog 26 #[v] w fun e w' => e = .returned (.bool (decide (¬ ks.Nodup))) ∧ Below w.heap.size w w' := by
  obtain ⟨a, cap, rfl, hl, hm, hnil, hL⟩ := hv
  obtain ⟨n, hnn⟩ : ∃ n, ks.length = n := ⟨_, rfl⟩
  have HN : Hid (ks.length = n) := hnn
  have HO : Hid (OkL ks) := hk
  have hn := hk.2
  rw [hnn] at hl hn ⊢
  clear hk hnn
  go_enter Try.func26, Try.ntmps26
  go_wp2_with fail
  go_loopw [3] (fun i wr => ∃ q : Nat, i = .int .i64 (q : Nat) ∧ q ≤ n ∧ (ks.take q).Nodup ∧ Below w.heap.size w wr) (fun i _ => n - (intOf i).toNat)
  case atStart => exact ⟨0, rfl, by omega, by simp, Below.refl _ _⟩
  case round =>
    obtain ⟨q, rfl, hq, hnd, hb⟩ := hrel
    have HD : Hid ((ks.take q).Nodup) := hnd
    clear hnd
    by_cases hlt : q < n
    · rcases hL with rfl | ⟨g, o, rfl, hc⟩
      · have := HN.out; simp at this; omega
      have hlq : q < ks.length := by rw [HN.out]; exact hlt
      have hbd : Below w.heap.size w wr.drew := hb.drew
      have hc2 : ∀ j (h : j < ks.length), Three wr.drew g (o + j * 3) ks[j] := fun j h => (hc j h).below hbd
      have hkx := kx_take hl hm hq HN.out hc2
      have hxo := HO.out.1 ks[q] (List.getElem_mem _)
      have cP := place_c hkx ⟨fun x hx => HO.out.1 x (List.mem_of_mem_take hx), by rw [List.length_take]; omega⟩ ks[q] hxo
      obtain ⟨d0, d1, d2⟩ := (hc q hlq).below hb
      have hsucc : ks.take (q + 1) = ks.take q ++ [ks[q]] := List.take_succ_eq_append_getElem hlq
      have hmem : fd (ks.take q) ks[q] = none ∨ ∃ j, fd (ks.take q) ks[q] = some j := by
        cases fd (ks.take q) ks[q] with
        | none => exact .inl rfl
        | some j => exact .inr ⟨j, rfl⟩
      rcases hmem with hm0 | ⟨j, hj⟩
      · rw [pn_no hm0] at cP
        have HD2 : Hid ((ks.take (q + 1)).Nodup) := by
          show List.Nodup _
          rw [hsucc]
          refine List.nodup_append.2 ⟨HD.out, by simp, fun a ha b hb e => ?_⟩
          simp at hb
          subst hb
          subst e
          exact fd_none.1 hm0 ha
        clear hc hc2 hkx hxo hsucc hm0 HD
        generalize ks[q] = x at *
        obtain ⟨x0, x1, x2⟩ := x
        dsimp only at d0 d1 d2 cP
        go_wp2_with fail
        go_region_with (go_at_call 27; refine cP.mono ?_; rintro e w1 ⟨rfl, b1⟩)
        all_goals go_wp2_with fail
        all_goals go_roundw
        all_goals first
          | (case rel => exact ⟨q + 1, by go_num, by omega, HD2.out, hbd.trans (b1.mono hbd.size)⟩)
          | (case measure => simp only [intOf]; omega)
      · rw [pn_yes hj] at cP
        have HD2 : Hid (decide (¬ ks.Nodup) = true) := decide_eq_true fun h => by
          have h2 : (ks.take (q + 1)).Nodup := h.sublist (List.take_sublist _ _)
          rw [hsucc] at h2
          exact (List.nodup_append.1 h2).2.2 ks[q] (List.mem_of_getElem? (fd_some hj).1) ks[q] (by simp) rfl
        clear hc hc2 hkx hxo hsucc hj HD
        generalize ks[q] = x at *
        obtain ⟨x0, x1, x2⟩ := x
        dsimp only at d0 d1 d2 cP
        go_wp2_with fail
        go_region_with (go_at_call 27; refine cP.mono ?_; rintro e w1 ⟨rfl, b1⟩)
        all_goals go_wp2_with fail
        all_goals go_ret
        all_goals exact ⟨by rw [HD2.out]; rfl, hbd.trans (b1.mono hbd.size)⟩
    · obtain rfl : q = n := by omega
      have hnlt : decide ((q : Int) < (q : Int)) = false := by simp
      have HD2 : Hid (decide (¬ ks.Nodup) = false) := decide_eq_false fun h => h (by
        have := HD.out
        rw [← HN.out, List.take_length] at this
        exact this)
      clear hL HD
      go_wp2_with fail
      go_ret
      exact ⟨by rw [HD2.out]; rfl, hb⟩
set_option maxRecDepth 20000 in
set_option maxHeartbeats 1600000 in
theorem rmoves_c {w : World} {v u : Value} {olds news : List Ky} (hv : Kx w v olds) (hu : Kx w u news) (ho : OkL olds) (hn : OkL news) :
    Calls Try.prog 17 #[v, u] w fun e w' => e = .returned (.tuple #[.int .i64 (mv olds news).1, .int .i64 (mv olds news).2.1, .int .i64 (mv olds news).2.2]) ∧ Below w.heap.size w w' := by
  obtain ⟨i0, hi, hz0, hz1, hz2⟩ := info_parts infoI
  have c1 := twice_c hv ho
  have C2 : Hid (∀ w1, Below w.heap.size w w1 → _) := fun w1 h => twice_c (hu.below h) hn
  have HV : Hid (∀ w1, Below w.heap.size w w1 → Kx w1 v olds) := fun w1 h => hv.below h
  have HU : Hid (∀ w1, Below w.heap.size w w1 → Kx w1 u news) := fun w1 h => hu.below h
  have hus : ∃ a cap, u = .slice a news.length cap := by
    obtain ⟨a, cap, rfl, -⟩ := hu
    exact ⟨a, cap, rfl⟩
  obtain ⟨a2, cap2, rfl⟩ := hus
  have HO : Hid (OkL olds) := ho
  have HN2 : Hid (OkL news) := hn
  have hln := hn.2
  clear hv hu ho hn
  obtain ⟨n2, hn2⟩ : ∃ n, news.length = n := ⟨_, rfl⟩
  have H2 : Hid (news.length = n2) := hn2
  rw [hn2] at hln HU C2 ⊢
  clear hn2
  by_cases hd1 : olds.Nodup
  · rw [decide_eq_false (fun h => h hd1)] at c1
    by_cases hd2 : news.Nodup
    · have HMV : Hid (mv olds news = (((rowOf olds news).length : Int), ((rowOf olds news).length : Int) - K (rowOf olds news), 0)) := if_pos ⟨hd1, hd2⟩
      rw [decide_eq_false (fun h => h hd2)] at C2
      clear hd1 hd2
      go_enter Try.func17, Try.ntmps17
      go_wp2_with (first | (go_at_call 26; refine c1.mono ?_; clear c1; rintro e w1 ⟨rfl, b1⟩))
      refine (C2.out w1 b1).mono ?_
      rintro e w2 ⟨rfl, b2⟩
      have B2 := nx b1 b2
      go_wp2_with fail
      go_loopw [7, 8] (fun rv i wr => ∃ q : Nat, i = .int .i64 (q : Nat) ∧ q ≤ n2 ∧ Oi wr w2.heap.size rv (rowOf olds (news.take q)) ∧ Below w2.heap.size w2 wr) (fun _ i _ => n2 - (intOf i).toNat)
      case atStart => exact ⟨0, rfl, by omega, by rw [List.take_zero]; exact oi_nil _ _, Below.refl _ _⟩
      case round =>
        obtain ⟨q, rfl, hq, hO, hb⟩ := hrel
        have hsz := hb.size
        have hBw := nx B2 hb
        by_cases hlt : q < n2
        · obtain ⟨a3, cap3, e3, hl3, hm3, -, hN⟩ := HU.out _ hBw
          simp only [Value.slice.injEq] at e3
          obtain ⟨ea, -, ec⟩ := e3
          subst ea ec
          rcases hN with rfl | ⟨g, o, rfl, hc⟩
          · have := H2.out; simp at this; omega
          have hlq : q < news.length := by rw [H2.out]; exact hlt
          have h3 := hc q hlq
          have hxo := HN2.out.1 news[q] (List.getElem_mem _)
          have cP := place_c (HV.out _ hBw) HO.out news[q] hxo
          have hnx := rowOf_succ (olds := olds) hlq
          have hrl : (rowOf olds (news.take q)).length ≤ q := by
            have := rowOf_len olds (news.take q)
            rw [List.length_take] at this
            omega
          rw [H2.out] at hl3
          have hfd : (∃ j, fd olds news[q] = some j) ∨ fd olds news[q] = none := by
            cases fd olds news[q] with
            | none => exact .inr rfl
            | some j => exact .inl ⟨j, rfl⟩
          rcases hfd with ⟨j, hj⟩ | hj
          · rw [pn_yes hj] at cP
            have hjl := fd_lt hj
            have hjl2 := HO.out.2
            unfold wh at hnx
            rw [hj] at hnx
            have HNX : Hid (rowOf olds (news.take (q + 1)) = rowOf olds (news.take q) ++ [(j : Int)]) := hnx
            have hj3 : j ≤ 4398046511104 := by omega
            clear hj hnx hxo hc hjl hjl2
            generalize news[q] = x at *
            obtain ⟨x0, x1, x2⟩ := x
            obtain ⟨d0, d1', d2'⟩ := h3
            dsimp only at d0 d1' d2' cP
            generalize rowOf olds (news.take q) = R at *
            have HR : Hid (Oi wr w2.heap.size u7 R) := hO
            obtain ⟨ra, rc, rfl⟩ := hO.shape
            clear hO
            have dj : decide ((0 : Int) ≤ (j : Int)) = true := decide_eq_true (by omega)
            go_wp2_with (first
              | (go_at_call 27; refine cP.mono ?_; clear cP; rintro e w3 ⟨rfl, b3⟩; have hrow : w3.ownsRow w2.heap.size 3 1 (.slice ra R.length rc) R.length (R.map (Value.int .i64)) := HR.out.below b3; have hs3 := b3.size)
              | (at_builtin; refine wpList_append_own _ rfl _ _ 22 rfl w2.heap.size 3 i0 (.int .i64 0) 1 8 Try.underlying22 hi hz0 hz1 hz2 rfl (by decide) _ _ _ rfl (World.ownsRow.alloc hrow _) ⟨w3.heap.size, 0, none⟩ 1 1 [.int .i64 (j : Int)] rfl rfl (new_cells w3 _ 3) (one_ints [(j : Int)]) (by simp [maxLen]; omega) (by omega) (by simp; omega) ?_))
            intro v' w4 hown' hgrow hnn2
            have hO2 : Oi w4 w2.heap.size v' (R ++ [(j : Int)]) := by
              unfold Oi
              simpa using hown'
            rw [← HNX.out] at hO2
            have hb4 : Below w2.heap.size w2 w4 := ((hb.trans (b3.mono hsz)).alloc (by omega) _).grown hgrow (by simp; omega) (fun k hk => (World.ownsRow.lt hrow k hk).1)
            clear hown' hgrow hnn2 hrow HR
            go_wp2_with fail
            go_roundw
            case rel => exact ⟨q + 1, by go_num, by omega, hO2, hb4⟩
            case measure => simp only [intOf]; omega
          · rw [pn_no hj] at cP
            unfold wh at hnx
            rw [hj] at hnx
            have HO2 : Hid (Oi wr w2.heap.size u7 (rowOf olds (news.take (q + 1)))) := by
              show Oi _ _ _ _
              rw [hnx]
              simpa using hO
            clear hj hnx hxo hc hO
            generalize news[q] = x at *
            obtain ⟨x0, x1, x2⟩ := x
            obtain ⟨d0, d1', d2'⟩ := h3
            dsimp only at d0 d1' d2' cP
            go_wp2_with (first
              | (go_at_call 27; refine cP.mono ?_; clear cP; rintro e w3 ⟨rfl, b3⟩))
            go_roundw
            case rel => exact ⟨q + 1, by go_num, by omega, HO2.out.below b3, hb.trans (b3.mono hsz)⟩
            case measure => simp only [intOf]; omega
        · obtain rfl : q = n2 := by omega
          have hnlt : decide ((q : Int) < (q : Int)) = false := by simp
          have hO1 : Oi wr w2.heap.size u7 (rowOf olds news) := by
            have := hO
            rw [← H2.out, List.take_length] at this
            exact this
          have hrl := rowOf_len olds news
          rw [H2.out] at hrl
          generalize rowOf olds news = R at *
          have cL := rlong_c hO1.ix (by omega)
          have hKR := K_le R
          obtain ⟨ra, rc, rfl⟩ := hO1.shape
          clear hO hO1
          go_wp2_with (first | (go_at_call 10; refine cL.mono ?_; rintro e w4 ⟨lu, rfl, hLo, hb4⟩; obtain ⟨la, lc, rfl⟩ := hLo.shape; rw [rn_len]))
          refine bodyPost_ret (v := .tuple #[.int .i64 R.length, .int .i64 ((R.length : Int) - K R), .int .i64 0]) (by simp [results, Try.results17, go_sem]) rfl ⟨by rw [HMV.out], nx hBw hb4⟩
    · have HMV : Hid (mv olds news = (0, 0, 900)) := if_neg fun h => hd2 h.2
      rw [decide_eq_true hd2] at C2
      clear hd1 hd2
      go_enter Try.func17, Try.ntmps17
      go_wp2_with (first | (go_at_call 26; refine c1.mono ?_; clear c1; rintro e w1 ⟨rfl, b1⟩))
      refine (C2.out w1 b1).mono ?_
      rintro e w2 ⟨rfl, b2⟩
      go_wp2_with fail
      refine bodyPost_ret (v := .tuple #[.int .i64 0, .int .i64 0, .int .i64 900]) (by simp [results, Try.results17, go_sem]) rfl ⟨by rw [HMV.out], nx b1 b2⟩
  · have HMV : Hid (mv olds news = (0, 0, 900)) := if_neg fun h => hd1 h.1
    rw [decide_eq_true hd1] at c1
    clear hd1
    go_enter Try.func17, Try.ntmps17
    go_wp2_with (first | (go_at_call 26; refine c1.mono ?_; clear c1; rintro e w1 ⟨rfl, b1⟩))
    refine bodyPost_ret (v := .tuple #[.int .i64 0, .int .i64 0, .int .i64 900]) (by simp [results, Try.results17, go_sem]) rfl ⟨by rw [HMV.out], b1⟩
end Go.Proofs.Ytkjgbmoimobgaaa.IRMov

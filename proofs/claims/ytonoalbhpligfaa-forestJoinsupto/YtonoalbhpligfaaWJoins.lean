/- The walk of the law ForestJoins. -/
import Derived.Test.YtonoalbhpligfaaTJoin
import Derived.Test.YtonoalbhpligfaaTRowJ
import Derived.Test.YtonoalbhpligfaaTAw
namespace Go.Proofs.Ytonoalbhpligfaa.WJoins
open Go.RowKit Go.Proofs.Ytonoalbhpligfaa.TBase Go.Proofs.Ytonoalbhpligfaa.TPure Go.Proofs.Ytonoalbhpligfaa.TMay Go.Proofs.Ytonoalbhpligfaa.TMeas Go.Proofs.Ytonoalbhpligfaa.TShallow Go.Proofs.Ytonoalbhpligfaa.TSpecH Go.Proofs.Ytonoalbhpligfaa.TWrite Go.Proofs.Ytonoalbhpligfaa.TJoin Go.Proofs.Ytonoalbhpligfaa.TRowJ Go.Proofs.Ytonoalbhpligfaa.TAw
set_option linter.unusedVariables false

theorem len_wt (l : List T) : l.length ≤ wt l := by
  induction l with
  | nil => simp
  | cons c cs ih => rw [wt_cons, List.length_cons]; unfold TSpecH.w1; omega
set_option maxRecDepth 20000 in
set_option maxHeartbeats 12800000 in
theorem walk_of {m : Nat} {u v : Value} {L M : List T} {w : World} (hu : InL false All w m u L) (hv : InL false All w m v M) (wL : wt L ≤ 1048576) (wM : wt M ≤ 1048576) :
    Calls Try.prog 5 #[u, v] w fun r w' => r = .returned (.bool true) ∧ Below w.heap.size w w' := by
  obtain ⟨i0, hi, hz0, hz1, hz2⟩ := info_parts infoT
  have c19 := awake_c w
  have HU : Hid (InL false All w m u L) := hu
  have HV : Hid (InL false All w m v M) := hv
  have lL := len_wt L
  have lM := len_wt M
  obtain ⟨a, cap, rfl, -⟩ := hu
  obtain ⟨a', cap', rfl, -⟩ := hv
  go_enter Try.func5, Try.ntmps5
  go_wp2_with fail
  refine c19.mono ?_
  rintro e w1 ⟨rfl, b1⟩
  clear c19
  have c1 := shallow_c m _ L w1 (HU.out.below b1)
  cases h1 : decide (depL L ≤ 4096) with
  | false =>
    rw [h1] at c1
    go_wp2_with fail
    refine c1.mono ?_
    rintro e w2 ⟨rfl, b2⟩
    go_wp2_with fail
    go_ret
    exact ⟨rfl, nx b1 b2⟩
  | true =>
  rw [h1] at c1
  go_wp2_with fail
  refine c1.mono ?_
  rintro e w2 ⟨rfl, b2⟩
  have B2 := nx b1 b2
  clear c1 b1 b2
  have c2 := shallow_c m _ M w2 (HV.out.below B2)
  cases h2 : decide (depL M ≤ 4096) with
  | false =>
    rw [h2] at c2
    go_wp2_with fail
    refine c2.mono ?_
    rintro e w3 ⟨rfl, b3⟩
    go_wp2_with fail
    go_ret
    exact ⟨rfl, nx B2 b3⟩
  | true =>
  rw [h2] at c2
  go_wp2_with fail
  refine c2.mono ?_
  rintro e w3 ⟨rfl, b3⟩
  have B3 := nx B2 b3
  clear c2 b3
  have c3 := copyO_c m _ L w3 (HU.out.below B3)
  go_wp2_with fail
  refine c3.mono ?_
  rintro e w4 ⟨u1, us1, rfl, ho1, hl1, k1, b4⟩
  have B4 := nx B3 b4
  clear c3
  have c4 := copyO_c m _ M w4 (HV.out.below B4)
  have HO1 : Hid (OwnV w4 w3.heap.size u1 us1) := ho1
  have Hl1 : Hid (us1.length = L.length) := hl1
  obtain ⟨a1, n1, cc1, rfl⟩ : ∃ a n c, u1 = .slice a n c := by
    rcases ho1.1.2 with ⟨h0, _⟩ | ⟨g, cap, cur, hv, _⟩
    · exact ⟨_, _, _, h0⟩
    · exact ⟨_, _, _, hv⟩
  clear ho1 hl1
  go_wp2_with fail
  refine c4.mono ?_
  rintro e w5 ⟨u2, us2, rfl, ho2, hl2, k2, b5⟩
  have B5 := nx B4 b5
  clear c4
  have Hl2 : Hid (us2.length = M.length) := hl2
  clear hl2
  have hs4 := b4.size
  have hs5 := b5.size
  rcases ho2.1.2 with ⟨rfl, h0⟩ | ⟨g2, cap2, cur2, rfl, _, _, hn2, hm2, _⟩
  · have hM : M = [] := List.eq_nil_of_length_eq_zero (by have := Hl2.out; omega)
    have hc : InL false All w5 m (.slice a1 n1 cc1) (L ++ M) := by
      rw [hM, List.append_nil]
      exact (inL_of_own HO1.out Hl1.out (by omega) (fun j h h' => (k1.out j h h').plain)).below b5
    obtain ⟨W6, hW6⟩ : ∃ W6, w5 = W6 := ⟨_, rfl⟩
    have hB6 : Below w.heap.size w W6 := by rw [← hW6]; exact B5
    rw [hW6] at hc ⊢
    clear hM
    rcases HO1.out.1.2 with ⟨E1, -⟩ | ⟨g1, cap1, cur1, E1, _, _, hn1, hm1, _⟩
    · cases E1
      clear ho2 k1 k2 b4 b5 B5 hW6 HO1 Hl1 Hl2
      go_wp2_with fail
      have HC : Hid (InL false All W6 m (.slice none 0 0) (L ++ M)) := hc
      have B6 : Below w.heap.size w W6 := hB6
      clear hc
      clear hB6
      have c12a := html_c m _ L W6 (HU.out.below B6) (fun _ => by omega)
      go_wp2_with fail
      refine c12a.mono ?_
      rintro e w7 ⟨rfl, b7⟩
      have B7 := nx B6 b7
      clear c12a
      have c12b := html_c m _ M w7 (HV.out.below B7) (fun _ => by omega)
      go_wp2_with fail
      refine c12b.mono ?_
      rintro e w8 ⟨rfl, b8⟩
      have B8 := nx B7 b8
      have C8 := nx b7 b8
      clear c12b
      have c12c := html_c m _ (L ++ M) w8 (HC.out.below C8) (fun _ => by rw [wt_append]; omega)
      go_wp2_with fail
      refine c12c.mono ?_
      rintro e w9 ⟨rfl, b9⟩
      have B9 := nx B8 b9
      have C9 := nx C8 b9
      clear c12c b7 b8 b9
      have hkL := (ck_ok L).1
      have hkM := (ck_ok M).1
      have hkC := (ck_ok (L ++ M)).1
      by_cases e1 : ck L = 0
      · by_cases e2 : ck M = 0
        · obtain ⟨p1, p2, p3, p4, p5⟩ := ck_inv e1
          obtain ⟨q1, q2, q3, q4, q5⟩ := ck_inv e2
          have c10a := count_c m _ L w9 (HU.out.below B9)
          rw [p2] at c10a
          rw [e1, e2]
          clear hkL hkM
          go_wp2_with (first | (go_at_call 14; refine (num_c _ _).mono ?_; rintro e w' ⟨rfl, rfl⟩))
          refine c10a.mono ?_
          rintro e w10 ⟨rfl, b10⟩
          have B10 := nx B9 b10
          have C10 := nx C9 b10
          clear c10a b10
          have c10b := count_c m _ M w10 (HV.out.below B10)
          rw [q2] at c10b
          go_wp2_with fail
          refine c10b.mono ?_
          rintro e w11 ⟨rfl, b11⟩
          have B11 := nx B10 b11
          have C11 := nx C10 b11
          clear c10b b11
          by_cases hbig : 4096 ≤ cn L + cn M
          · have hbig' : decide ((4096 : Int) ≤ (cn L : Int) + (cn M : Int)) = true := by simp; omega
            go_wp2_with fail
            go_ret
            exact ⟨rfl, B11⟩
          · have hbig' : decide ((4096 : Int) ≤ (cn L : Int) + (cn M : Int)) = false := by simp; omega
            obtain ⟨z1, z2, z3⟩ := ck_yes (l := L ++ M) (by rw [ak_append, p1, q1]; rfl) (by rw [cn_append]; omega) (by rw [depL_append]; omega)
            have hs : htB (L ++ M) = htB L ++ htB M := by
              rw [htB_ok z1, htB_ok e1, htB_ok e2, ht_append]
              apply ByteArray.ext
              apply Array.toList_inj.1
              rw [dat]
            have hsL : (htB L).size ≤ 16777216 := by rw [htB_ok e1, ← size_list]; have := ht_len _ L (Nat.le_refl _); show (ht L).length ≤ 16777216; omega
            have hsM : (htB M).size ≤ 16777216 := by rw [htB_ok e2, ← size_list]; have := ht_len _ M (Nat.le_refl _); show (ht M).length ≤ 16777216; omega
            rw [cn_append] at z2
            rw [depL_append] at z3
            obtain ⟨r1, r2, r3, r4, r5⟩ := q_parts (L ++ M)
            have hq : ck [tq (L ++ M)] = 0 → htB [tq (L ++ M)] = ((⟨#[60, 113, 62]⟩ : ByteArray) ++ (htB L ++ htB M)) ++ ⟨#[60, 47, 113, 62]⟩ := by
              intro h
              rw [← hs, htB_ok h, htB_ok z1, r4]
              apply ByteArray.ext
              apply Array.toList_inj.1
              rw [dat, dat]
              simp
            rw [cn_append] at r2
            rw [depL_append] at r3
            rw [ak_append, p1, q1] at r1
            rw [hs, z1]
            have Hq : Hid (ck [tq (L ++ M)] = 0 → htB [tq (L ++ M)] = ((⟨#[60, 113, 62]⟩ : ByteArray) ++ (htB L ++ htB M)) ++ ⟨#[60, 47, 113, 62]⟩) := hq
            have Hz2 : Hid (ct (L ++ M) = cn L + cn M) := z2
            have Hz3 : Hid (dp (L ++ M) = max (depL L) (depL M)) := z3
            have Hp4 : Hid (dp L = depL L) := p4
            have Hq4 : Hid (dp M = depL M) := q4
            have Hp2 : Hid (ct L = cn L) := p2
            have Hq2 : Hid (ct M = cn M) := q2
            have Hr : Hid (ak [tq (L ++ M)] = true ∧ cn [tq (L ++ M)] = 1 + (cn L + cn M) ∧ depL [tq (L ++ M)] = 1 + max (depL L) (depL M)) := ⟨r1, r2, r3⟩
            have Hr5 : Hid (wt [tq (L ++ M)] = 2 + wt (L ++ M)) := r5
            clear hq hs z2 z3 r1 r2 r3 r4 r5 p1 p2 p4 q1 q2 q4 hkC z1 e1 e2
            generalize htB L = S at *
            generalize htB M = U at *
            generalize cn L = x at *
            generalize cn M = y at *
            generalize depL L = xd at *
            generalize depL M = yd at *
            have n1 : ∀ W, (Op.stringOp .add S U).run Try.prog W = .ok (.string (S ++ U)) W := fun W => run_string_add_sum W _ _ (by omega)
            have z1 : (⟨#[60, 113, 62]⟩ : ByteArray).size = 3 := rfl
            have n2 : ∀ W, (Op.stringOp .add (⟨#[60, 113, 62]⟩ : ByteArray) (S ++ U)).run Try.prog W = .ok (.string (⟨#[60, 113, 62]⟩ ++ (S ++ U))) W := fun W => run_string_add_sum W _ _ (by rw [ByteArray.size_append, z1]; omega)
            have z2 : (⟨#[60, 47, 113, 62]⟩ : ByteArray).size = 4 := rfl
            have n3 : ∀ W, (Op.stringOp .add ((⟨#[60, 113, 62]⟩ : ByteArray) ++ (S ++ U)) ⟨#[60, 47, 113, 62]⟩).run Try.prog W = .ok (.string ((⟨#[60, 113, 62]⟩ ++ (S ++ U)) ++ ⟨#[60, 47, 113, 62]⟩)) W := fun W => run_string_add_sum W _ _ (by rw [ByteArray.size_append, ByteArray.size_append, z1, z2]; omega)
            have d1 := count_c m _ (L ++ M) w11 (HC.out.below C11)
            rw [Hz2.out] at d1
            go_wp2_with (first | (go_at_call 14; refine (num_c _ _).mono ?_; rintro e w' ⟨rfl, rfl⟩))
            refine d1.mono ?_
            rintro e w12 ⟨rfl, b12⟩
            have B12 := nx B11 b12
            have C12 := nx C11 b12
            clear d1 b12
            have d2 := count_c m _ L w12 (HU.out.below B12)
            rw [Hp2.out] at d2
            go_wp2_with fail
            refine d2.mono ?_
            rintro e w13 ⟨rfl, b13⟩
            have B13 := nx B12 b13
            have C13 := nx C12 b13
            clear d2 b13
            have d3 := count_c m _ M w13 (HV.out.below B13)
            rw [Hq2.out] at d3
            go_wp2_with fail
            refine d3.mono ?_
            rintro e w14 ⟨rfl, b14⟩
            have B14 := nx B13 b14
            have C14 := nx C13 b14
            clear d3 b14
            have d4 := depth_c m _ (L ++ M) w14 (HC.out.below C14)
            rw [Hz3.out] at d4
            obtain ⟨mx, hmx⟩ : ∃ mx, max xd yd = mx := ⟨_, rfl⟩
            rw [hmx] at d4
            go_wp2_with fail
            refine d4.mono ?_
            rintro e w15 ⟨rfl, b15⟩
            have B15 := nx B14 b15
            have C15 := nx C14 b15
            clear d4 b15
            have d5 := depth_c m _ L w15 (HU.out.below B15)
            rw [Hp4.out] at d5
            go_wp2_with fail
            refine d5.mono ?_
            rintro e w16 ⟨rfl, b16⟩
            have B16 := nx B15 b16
            have C16 := nx C15 b16
            clear d5 b16
            have d6 := depth_c m _ M w16 (HV.out.below B16)
            rw [Hq4.out] at d6
            go_wp2_with fail
            refine d6.mono ?_
            rintro e w17 ⟨rfl, b17⟩
            have B17 := nx B16 b17
            have C17 := nx C16 b17
            clear d6 b17
            have bp : Below w17.heap.size w17 (w17.alloc (.cells #[.string ⟨#[113]⟩, .string ⟨#[]⟩, .slice none 0 0, .slice none 0 0] 37)) := bx
            have hp : Hid (InL false All (w17.alloc (.cells #[.string ⟨#[113]⟩, .string ⟨#[]⟩, .slice none 0 0, .slice none 0 0] 37)) (m + 1) (.slice (some ⟨w17.heap.size, 0, none⟩) 1 1) [tq (L ++ M)]) := by
              refine one_in (heap_alloc_new w17 _) ?_
              unfold tq
              rw [in_iff]
              exact ⟨_, _, rfl, by decide, by decide, ax0 _, HC.out.below (nx C17 bp)⟩
            have d7 := html_c (m + 1) _ _ _ hp.out (fun _ => by rw [Hr5.out, wt_append]; omega)
            have B18 := nx B17 bp
            have C18 := nx C17 bp
            have hxy : (xd < yd ∧ mx = yd) ∨ (¬ xd < yd ∧ mx = xd) := by omega
            have hkq := (ck_ok [tq (L ++ M)]).1
            rcases hxy with ⟨hxy, rfl⟩ | ⟨hxy, rfl⟩
            · by_cases hdeep : 64 ≤ mx
              · have hdeep' : decide ((64 : Int) ≤ (mx : Int)) = true := by simp; omega
                have hck : ck [tq (L ++ M)] = 701 := ck_deep Hr.out.1 (by rw [Hr.out.2.1]; omega) (by rw [Hr.out.2.2]; omega)
                rw [hck] at d7
                generalize htB [tq (L ++ M)] = X at *
                clear hck hkq
                go_wp2_with fail
                refine d7.mono ?_
                rintro e w19 ⟨rfl, b19⟩
                have B19 := nx B18 b19
                have C19 := nx C18 b19
                have d8 := depth_c m _ (L ++ M) w19 (HC.out.below C19)
                rw [Hz3.out, hmx] at d8
                clear d7
                go_wp2_with fail
                refine d8.mono ?_
                rintro e w20 ⟨rfl, b20⟩
                clear d8
                go_wp2_with (first | (go_at_call 14; refine (num_c _ _).mono ?_; rintro e w' ⟨rfl, rfl⟩))
                go_ret
                exact ⟨rfl, nx B19 b20⟩
              · have hdeep' : decide ((64 : Int) ≤ (mx : Int)) = false := by simp; omega
                obtain ⟨g1, g2, g3⟩ := ck_yes Hr.out.1 (by rw [Hr.out.2.1]; omega) (by rw [Hr.out.2.2]; omega)
                rw [Hr.out.2.1] at g2
                rw [Hr.out.2.2, hmx] at g3
                rw [g1, Hq.out g1] at d7
                have G2 : Hid (ct [tq (L ++ M)] = 1 + (x + y)) := g2
                have G3 : Hid (dp [tq (L ++ M)] = 1 + mx) := g3
                clear g1 g2 g3 hkq
                go_wp2_with fail
                refine d7.mono ?_
                rintro e w19 ⟨rfl, b19⟩
                have B19 := nx B18 b19
                have C19 := nx C18 b19
                have D19 := b19
                have d8 := depth_c m _ (L ++ M) w19 (HC.out.below C19)
                rw [Hz3.out, hmx] at d8
                clear d7 b19
                go_wp2_with fail
                refine d8.mono ?_
                rintro e w20 ⟨rfl, b20⟩
                have B20 := nx B19 b20
                have C20 := nx C19 b20
                have D20 := nx D19 b20
                clear d8 b20
                have d9 := count_c (m + 1) _ _ w20 (hp.out.below D20)
                rw [G2.out] at d9
                go_wp2_with (first | (go_at_call 14; refine (num_c _ _).mono ?_; rintro e w' ⟨rfl, rfl⟩))
                refine d9.mono ?_
                rintro e w21 ⟨rfl, b21⟩
                have B21 := nx B20 b21
                have C21 := nx C20 b21
                have D21 := nx D20 b21
                clear d9 b21
                have d10 := count_c m _ (L ++ M) w21 (HC.out.below C21)
                rw [Hz2.out] at d10
                go_wp2_with fail
                refine d10.mono ?_
                rintro e w22 ⟨rfl, b22⟩
                have B22 := nx B21 b22
                have C22 := nx C21 b22
                have D22 := nx D21 b22
                clear d10 b22
                have d11 := depth_c (m + 1) _ _ w22 (hp.out.below D22)
                rw [G3.out] at d11
                go_wp2_with fail
                refine d11.mono ?_
                rintro e w23 ⟨rfl, b23⟩
                have B23 := nx B22 b23
                have C23 := nx C22 b23
                clear d11 b23
                have d12 := depth_c m _ (L ++ M) w23 (HC.out.below C23)
                rw [Hz3.out, hmx] at d12
                go_wp2_with fail
                refine d12.mono ?_
                rintro e w24 ⟨rfl, b24⟩
                clear d12
                go_wp2_with fail
                go_ret
                exact ⟨rfl, nx B23 b24⟩
            · by_cases hdeep : 64 ≤ mx
              · have hdeep' : decide ((64 : Int) ≤ (mx : Int)) = true := by simp; omega
                have hck : ck [tq (L ++ M)] = 701 := ck_deep Hr.out.1 (by rw [Hr.out.2.1]; omega) (by rw [Hr.out.2.2]; omega)
                rw [hck] at d7
                generalize htB [tq (L ++ M)] = X at *
                clear hck hkq
                go_wp2_with fail
                refine d7.mono ?_
                rintro e w19 ⟨rfl, b19⟩
                have B19 := nx B18 b19
                have C19 := nx C18 b19
                have d8 := depth_c m _ (L ++ M) w19 (HC.out.below C19)
                rw [Hz3.out, hmx] at d8
                clear d7
                go_wp2_with fail
                refine d8.mono ?_
                rintro e w20 ⟨rfl, b20⟩
                clear d8
                go_wp2_with (first | (go_at_call 14; refine (num_c _ _).mono ?_; rintro e w' ⟨rfl, rfl⟩))
                go_ret
                exact ⟨rfl, nx B19 b20⟩
              · have hdeep' : decide ((64 : Int) ≤ (mx : Int)) = false := by simp; omega
                obtain ⟨g1, g2, g3⟩ := ck_yes Hr.out.1 (by rw [Hr.out.2.1]; omega) (by rw [Hr.out.2.2]; omega)
                rw [Hr.out.2.1] at g2
                rw [Hr.out.2.2, hmx] at g3
                rw [g1, Hq.out g1] at d7
                have G2 : Hid (ct [tq (L ++ M)] = 1 + (x + y)) := g2
                have G3 : Hid (dp [tq (L ++ M)] = 1 + mx) := g3
                clear g1 g2 g3 hkq
                go_wp2_with fail
                refine d7.mono ?_
                rintro e w19 ⟨rfl, b19⟩
                have B19 := nx B18 b19
                have C19 := nx C18 b19
                have D19 := b19
                have d8 := depth_c m _ (L ++ M) w19 (HC.out.below C19)
                rw [Hz3.out, hmx] at d8
                clear d7 b19
                go_wp2_with fail
                refine d8.mono ?_
                rintro e w20 ⟨rfl, b20⟩
                have B20 := nx B19 b20
                have C20 := nx C19 b20
                have D20 := nx D19 b20
                clear d8 b20
                have d9 := count_c (m + 1) _ _ w20 (hp.out.below D20)
                rw [G2.out] at d9
                go_wp2_with (first | (go_at_call 14; refine (num_c _ _).mono ?_; rintro e w' ⟨rfl, rfl⟩))
                refine d9.mono ?_
                rintro e w21 ⟨rfl, b21⟩
                have B21 := nx B20 b21
                have C21 := nx C20 b21
                have D21 := nx D20 b21
                clear d9 b21
                have d10 := count_c m _ (L ++ M) w21 (HC.out.below C21)
                rw [Hz2.out] at d10
                go_wp2_with fail
                refine d10.mono ?_
                rintro e w22 ⟨rfl, b22⟩
                have B22 := nx B21 b22
                have C22 := nx C21 b22
                have D22 := nx D21 b22
                clear d10 b22
                have d11 := depth_c (m + 1) _ _ w22 (hp.out.below D22)
                rw [G3.out] at d11
                go_wp2_with fail
                refine d11.mono ?_
                rintro e w23 ⟨rfl, b23⟩
                have B23 := nx B22 b23
                have C23 := nx C22 b23
                clear d11 b23
                have d12 := depth_c m _ (L ++ M) w23 (HC.out.below C23)
                rw [Hz3.out, hmx] at d12
                go_wp2_with fail
                refine d12.mono ?_
                rintro e w24 ⟨rfl, b24⟩
                clear d12
                go_wp2_with fail
                go_ret
                exact ⟨rfl, nx B23 b24⟩
        · have e2' : (((ck M : Nat) : Int) == 0) = false := by simp; omega
          rw [e1]
          generalize ck M = x2 at *
          generalize htB M = U at *
          generalize htB L = S at *
          generalize htB (L ++ M) = V2 at *
          generalize ck (L ++ M) = x3 at *
          go_wp2_with (first | (go_at_call 14; refine (num_c _ _).mono ?_; rintro e w' ⟨rfl, rfl⟩))
          go_ret
          exact ⟨rfl, B9⟩
      · have e1' : (((ck L : Nat) : Int) == 0) = false := by simp; omega
        generalize ck M = x2 at *
        generalize ck L = x1 at *
        generalize htB M = U at *
        generalize htB L = S at *
        generalize htB (L ++ M) = V2 at *
        generalize ck (L ++ M) = x3 at *
        go_wp2_with (first | (go_at_call 14; refine (num_c _ _).mono ?_; rintro e w' ⟨rfl, rfl⟩))
        go_ret
        exact ⟨rfl, B9⟩
    · cases E1
      have hm1' : cc1 ≤ 9223372036854775807 := hm1
      clear ho2 k1 k2 b4 b5 B5 hW6 HO1 Hl1 Hl2
      go_wp2_with fail
      have HC : Hid (InL false All W6 m (.slice (some ⟨g1, 0, none⟩) us1.length cc1) (L ++ M)) := hc
      have B6 : Below w.heap.size w W6 := hB6
      clear hc
      clear hB6
      have c12a := html_c m _ L W6 (HU.out.below B6) (fun _ => by omega)
      go_wp2_with fail
      refine c12a.mono ?_
      rintro e w7 ⟨rfl, b7⟩
      have B7 := nx B6 b7
      clear c12a
      have c12b := html_c m _ M w7 (HV.out.below B7) (fun _ => by omega)
      go_wp2_with fail
      refine c12b.mono ?_
      rintro e w8 ⟨rfl, b8⟩
      have B8 := nx B7 b8
      have C8 := nx b7 b8
      clear c12b
      have c12c := html_c m _ (L ++ M) w8 (HC.out.below C8) (fun _ => by rw [wt_append]; omega)
      go_wp2_with fail
      refine c12c.mono ?_
      rintro e w9 ⟨rfl, b9⟩
      have B9 := nx B8 b9
      have C9 := nx C8 b9
      clear c12c b7 b8 b9
      have hkL := (ck_ok L).1
      have hkM := (ck_ok M).1
      have hkC := (ck_ok (L ++ M)).1
      by_cases e1 : ck L = 0
      · by_cases e2 : ck M = 0
        · obtain ⟨p1, p2, p3, p4, p5⟩ := ck_inv e1
          obtain ⟨q1, q2, q3, q4, q5⟩ := ck_inv e2
          have c10a := count_c m _ L w9 (HU.out.below B9)
          rw [p2] at c10a
          rw [e1, e2]
          clear hkL hkM
          go_wp2_with (first | (go_at_call 14; refine (num_c _ _).mono ?_; rintro e w' ⟨rfl, rfl⟩))
          refine c10a.mono ?_
          rintro e w10 ⟨rfl, b10⟩
          have B10 := nx B9 b10
          have C10 := nx C9 b10
          clear c10a b10
          have c10b := count_c m _ M w10 (HV.out.below B10)
          rw [q2] at c10b
          go_wp2_with fail
          refine c10b.mono ?_
          rintro e w11 ⟨rfl, b11⟩
          have B11 := nx B10 b11
          have C11 := nx C10 b11
          clear c10b b11
          by_cases hbig : 4096 ≤ cn L + cn M
          · have hbig' : decide ((4096 : Int) ≤ (cn L : Int) + (cn M : Int)) = true := by simp; omega
            go_wp2_with fail
            go_ret
            exact ⟨rfl, B11⟩
          · have hbig' : decide ((4096 : Int) ≤ (cn L : Int) + (cn M : Int)) = false := by simp; omega
            obtain ⟨z1, z2, z3⟩ := ck_yes (l := L ++ M) (by rw [ak_append, p1, q1]; rfl) (by rw [cn_append]; omega) (by rw [depL_append]; omega)
            have hs : htB (L ++ M) = htB L ++ htB M := by
              rw [htB_ok z1, htB_ok e1, htB_ok e2, ht_append]
              apply ByteArray.ext
              apply Array.toList_inj.1
              rw [dat]
            have hsL : (htB L).size ≤ 16777216 := by rw [htB_ok e1, ← size_list]; have := ht_len _ L (Nat.le_refl _); show (ht L).length ≤ 16777216; omega
            have hsM : (htB M).size ≤ 16777216 := by rw [htB_ok e2, ← size_list]; have := ht_len _ M (Nat.le_refl _); show (ht M).length ≤ 16777216; omega
            rw [cn_append] at z2
            rw [depL_append] at z3
            obtain ⟨r1, r2, r3, r4, r5⟩ := q_parts (L ++ M)
            have hq : ck [tq (L ++ M)] = 0 → htB [tq (L ++ M)] = ((⟨#[60, 113, 62]⟩ : ByteArray) ++ (htB L ++ htB M)) ++ ⟨#[60, 47, 113, 62]⟩ := by
              intro h
              rw [← hs, htB_ok h, htB_ok z1, r4]
              apply ByteArray.ext
              apply Array.toList_inj.1
              rw [dat, dat]
              simp
            rw [cn_append] at r2
            rw [depL_append] at r3
            rw [ak_append, p1, q1] at r1
            rw [hs, z1]
            have Hq : Hid (ck [tq (L ++ M)] = 0 → htB [tq (L ++ M)] = ((⟨#[60, 113, 62]⟩ : ByteArray) ++ (htB L ++ htB M)) ++ ⟨#[60, 47, 113, 62]⟩) := hq
            have Hz2 : Hid (ct (L ++ M) = cn L + cn M) := z2
            have Hz3 : Hid (dp (L ++ M) = max (depL L) (depL M)) := z3
            have Hp4 : Hid (dp L = depL L) := p4
            have Hq4 : Hid (dp M = depL M) := q4
            have Hp2 : Hid (ct L = cn L) := p2
            have Hq2 : Hid (ct M = cn M) := q2
            have Hr : Hid (ak [tq (L ++ M)] = true ∧ cn [tq (L ++ M)] = 1 + (cn L + cn M) ∧ depL [tq (L ++ M)] = 1 + max (depL L) (depL M)) := ⟨r1, r2, r3⟩
            have Hr5 : Hid (wt [tq (L ++ M)] = 2 + wt (L ++ M)) := r5
            clear hq hs z2 z3 r1 r2 r3 r4 r5 p1 p2 p4 q1 q2 q4 hkC z1 e1 e2
            generalize htB L = S at *
            generalize htB M = U at *
            generalize cn L = x at *
            generalize cn M = y at *
            generalize depL L = xd at *
            generalize depL M = yd at *
            have n1 : ∀ W, (Op.stringOp .add S U).run Try.prog W = .ok (.string (S ++ U)) W := fun W => run_string_add_sum W _ _ (by omega)
            have z1 : (⟨#[60, 113, 62]⟩ : ByteArray).size = 3 := rfl
            have n2 : ∀ W, (Op.stringOp .add (⟨#[60, 113, 62]⟩ : ByteArray) (S ++ U)).run Try.prog W = .ok (.string (⟨#[60, 113, 62]⟩ ++ (S ++ U))) W := fun W => run_string_add_sum W _ _ (by rw [ByteArray.size_append, z1]; omega)
            have z2 : (⟨#[60, 47, 113, 62]⟩ : ByteArray).size = 4 := rfl
            have n3 : ∀ W, (Op.stringOp .add ((⟨#[60, 113, 62]⟩ : ByteArray) ++ (S ++ U)) ⟨#[60, 47, 113, 62]⟩).run Try.prog W = .ok (.string ((⟨#[60, 113, 62]⟩ ++ (S ++ U)) ++ ⟨#[60, 47, 113, 62]⟩)) W := fun W => run_string_add_sum W _ _ (by rw [ByteArray.size_append, ByteArray.size_append, z1, z2]; omega)
            have d1 := count_c m _ (L ++ M) w11 (HC.out.below C11)
            rw [Hz2.out] at d1
            go_wp2_with (first | (go_at_call 14; refine (num_c _ _).mono ?_; rintro e w' ⟨rfl, rfl⟩))
            refine d1.mono ?_
            rintro e w12 ⟨rfl, b12⟩
            have B12 := nx B11 b12
            have C12 := nx C11 b12
            clear d1 b12
            have d2 := count_c m _ L w12 (HU.out.below B12)
            rw [Hp2.out] at d2
            go_wp2_with fail
            refine d2.mono ?_
            rintro e w13 ⟨rfl, b13⟩
            have B13 := nx B12 b13
            have C13 := nx C12 b13
            clear d2 b13
            have d3 := count_c m _ M w13 (HV.out.below B13)
            rw [Hq2.out] at d3
            go_wp2_with fail
            refine d3.mono ?_
            rintro e w14 ⟨rfl, b14⟩
            have B14 := nx B13 b14
            have C14 := nx C13 b14
            clear d3 b14
            have d4 := depth_c m _ (L ++ M) w14 (HC.out.below C14)
            rw [Hz3.out] at d4
            obtain ⟨mx, hmx⟩ : ∃ mx, max xd yd = mx := ⟨_, rfl⟩
            rw [hmx] at d4
            go_wp2_with fail
            refine d4.mono ?_
            rintro e w15 ⟨rfl, b15⟩
            have B15 := nx B14 b15
            have C15 := nx C14 b15
            clear d4 b15
            have d5 := depth_c m _ L w15 (HU.out.below B15)
            rw [Hp4.out] at d5
            go_wp2_with fail
            refine d5.mono ?_
            rintro e w16 ⟨rfl, b16⟩
            have B16 := nx B15 b16
            have C16 := nx C15 b16
            clear d5 b16
            have d6 := depth_c m _ M w16 (HV.out.below B16)
            rw [Hq4.out] at d6
            go_wp2_with fail
            refine d6.mono ?_
            rintro e w17 ⟨rfl, b17⟩
            have B17 := nx B16 b17
            have C17 := nx C16 b17
            clear d6 b17
            have bp : Below w17.heap.size w17 (w17.alloc (.cells #[.string ⟨#[113]⟩, .string ⟨#[]⟩, .slice none 0 0, .slice (some ⟨g1, 0, none⟩) us1.length cc1] 37)) := bx
            have hp : Hid (InL false All (w17.alloc (.cells #[.string ⟨#[113]⟩, .string ⟨#[]⟩, .slice none 0 0, .slice (some ⟨g1, 0, none⟩) us1.length cc1] 37)) (m + 1) (.slice (some ⟨w17.heap.size, 0, none⟩) 1 1) [tq (L ++ M)]) := by
              refine one_in (heap_alloc_new w17 _) ?_
              unfold tq
              rw [in_iff]
              exact ⟨_, _, rfl, by decide, by decide, ax0 _, HC.out.below (nx C17 bp)⟩
            have d7 := html_c (m + 1) _ _ _ hp.out (fun _ => by rw [Hr5.out, wt_append]; omega)
            have B18 := nx B17 bp
            have C18 := nx C17 bp
            have hxy : (xd < yd ∧ mx = yd) ∨ (¬ xd < yd ∧ mx = xd) := by omega
            have hkq := (ck_ok [tq (L ++ M)]).1
            rcases hxy with ⟨hxy, rfl⟩ | ⟨hxy, rfl⟩
            · by_cases hdeep : 64 ≤ mx
              · have hdeep' : decide ((64 : Int) ≤ (mx : Int)) = true := by simp; omega
                have hck : ck [tq (L ++ M)] = 701 := ck_deep Hr.out.1 (by rw [Hr.out.2.1]; omega) (by rw [Hr.out.2.2]; omega)
                rw [hck] at d7
                generalize htB [tq (L ++ M)] = X at *
                clear hck hkq
                go_wp2_with fail
                refine d7.mono ?_
                rintro e w19 ⟨rfl, b19⟩
                have B19 := nx B18 b19
                have C19 := nx C18 b19
                have d8 := depth_c m _ (L ++ M) w19 (HC.out.below C19)
                rw [Hz3.out, hmx] at d8
                clear d7
                go_wp2_with fail
                refine d8.mono ?_
                rintro e w20 ⟨rfl, b20⟩
                clear d8
                go_wp2_with (first | (go_at_call 14; refine (num_c _ _).mono ?_; rintro e w' ⟨rfl, rfl⟩))
                go_ret
                exact ⟨rfl, nx B19 b20⟩
              · have hdeep' : decide ((64 : Int) ≤ (mx : Int)) = false := by simp; omega
                obtain ⟨g1, g2, g3⟩ := ck_yes Hr.out.1 (by rw [Hr.out.2.1]; omega) (by rw [Hr.out.2.2]; omega)
                rw [Hr.out.2.1] at g2
                rw [Hr.out.2.2, hmx] at g3
                rw [g1, Hq.out g1] at d7
                have G2 : Hid (ct [tq (L ++ M)] = 1 + (x + y)) := g2
                have G3 : Hid (dp [tq (L ++ M)] = 1 + mx) := g3
                clear g1 g2 g3 hkq
                go_wp2_with fail
                refine d7.mono ?_
                rintro e w19 ⟨rfl, b19⟩
                have B19 := nx B18 b19
                have C19 := nx C18 b19
                have D19 := b19
                have d8 := depth_c m _ (L ++ M) w19 (HC.out.below C19)
                rw [Hz3.out, hmx] at d8
                clear d7 b19
                go_wp2_with fail
                refine d8.mono ?_
                rintro e w20 ⟨rfl, b20⟩
                have B20 := nx B19 b20
                have C20 := nx C19 b20
                have D20 := nx D19 b20
                clear d8 b20
                have d9 := count_c (m + 1) _ _ w20 (hp.out.below D20)
                rw [G2.out] at d9
                go_wp2_with (first | (go_at_call 14; refine (num_c _ _).mono ?_; rintro e w' ⟨rfl, rfl⟩))
                refine d9.mono ?_
                rintro e w21 ⟨rfl, b21⟩
                have B21 := nx B20 b21
                have C21 := nx C20 b21
                have D21 := nx D20 b21
                clear d9 b21
                have d10 := count_c m _ (L ++ M) w21 (HC.out.below C21)
                rw [Hz2.out] at d10
                go_wp2_with fail
                refine d10.mono ?_
                rintro e w22 ⟨rfl, b22⟩
                have B22 := nx B21 b22
                have C22 := nx C21 b22
                have D22 := nx D21 b22
                clear d10 b22
                have d11 := depth_c (m + 1) _ _ w22 (hp.out.below D22)
                rw [G3.out] at d11
                go_wp2_with fail
                refine d11.mono ?_
                rintro e w23 ⟨rfl, b23⟩
                have B23 := nx B22 b23
                have C23 := nx C22 b23
                clear d11 b23
                have d12 := depth_c m _ (L ++ M) w23 (HC.out.below C23)
                rw [Hz3.out, hmx] at d12
                go_wp2_with fail
                refine d12.mono ?_
                rintro e w24 ⟨rfl, b24⟩
                clear d12
                go_wp2_with fail
                go_ret
                exact ⟨rfl, nx B23 b24⟩
            · by_cases hdeep : 64 ≤ mx
              · have hdeep' : decide ((64 : Int) ≤ (mx : Int)) = true := by simp; omega
                have hck : ck [tq (L ++ M)] = 701 := ck_deep Hr.out.1 (by rw [Hr.out.2.1]; omega) (by rw [Hr.out.2.2]; omega)
                rw [hck] at d7
                generalize htB [tq (L ++ M)] = X at *
                clear hck hkq
                go_wp2_with fail
                refine d7.mono ?_
                rintro e w19 ⟨rfl, b19⟩
                have B19 := nx B18 b19
                have C19 := nx C18 b19
                have d8 := depth_c m _ (L ++ M) w19 (HC.out.below C19)
                rw [Hz3.out, hmx] at d8
                clear d7
                go_wp2_with fail
                refine d8.mono ?_
                rintro e w20 ⟨rfl, b20⟩
                clear d8
                go_wp2_with (first | (go_at_call 14; refine (num_c _ _).mono ?_; rintro e w' ⟨rfl, rfl⟩))
                go_ret
                exact ⟨rfl, nx B19 b20⟩
              · have hdeep' : decide ((64 : Int) ≤ (mx : Int)) = false := by simp; omega
                obtain ⟨g1, g2, g3⟩ := ck_yes Hr.out.1 (by rw [Hr.out.2.1]; omega) (by rw [Hr.out.2.2]; omega)
                rw [Hr.out.2.1] at g2
                rw [Hr.out.2.2, hmx] at g3
                rw [g1, Hq.out g1] at d7
                have G2 : Hid (ct [tq (L ++ M)] = 1 + (x + y)) := g2
                have G3 : Hid (dp [tq (L ++ M)] = 1 + mx) := g3
                clear g1 g2 g3 hkq
                go_wp2_with fail
                refine d7.mono ?_
                rintro e w19 ⟨rfl, b19⟩
                have B19 := nx B18 b19
                have C19 := nx C18 b19
                have D19 := b19
                have d8 := depth_c m _ (L ++ M) w19 (HC.out.below C19)
                rw [Hz3.out, hmx] at d8
                clear d7 b19
                go_wp2_with fail
                refine d8.mono ?_
                rintro e w20 ⟨rfl, b20⟩
                have B20 := nx B19 b20
                have C20 := nx C19 b20
                have D20 := nx D19 b20
                clear d8 b20
                have d9 := count_c (m + 1) _ _ w20 (hp.out.below D20)
                rw [G2.out] at d9
                go_wp2_with (first | (go_at_call 14; refine (num_c _ _).mono ?_; rintro e w' ⟨rfl, rfl⟩))
                refine d9.mono ?_
                rintro e w21 ⟨rfl, b21⟩
                have B21 := nx B20 b21
                have C21 := nx C20 b21
                have D21 := nx D20 b21
                clear d9 b21
                have d10 := count_c m _ (L ++ M) w21 (HC.out.below C21)
                rw [Hz2.out] at d10
                go_wp2_with fail
                refine d10.mono ?_
                rintro e w22 ⟨rfl, b22⟩
                have B22 := nx B21 b22
                have C22 := nx C21 b22
                have D22 := nx D21 b22
                clear d10 b22
                have d11 := depth_c (m + 1) _ _ w22 (hp.out.below D22)
                rw [G3.out] at d11
                go_wp2_with fail
                refine d11.mono ?_
                rintro e w23 ⟨rfl, b23⟩
                have B23 := nx B22 b23
                have C23 := nx C22 b23
                clear d11 b23
                have d12 := depth_c m _ (L ++ M) w23 (HC.out.below C23)
                rw [Hz3.out, hmx] at d12
                go_wp2_with fail
                refine d12.mono ?_
                rintro e w24 ⟨rfl, b24⟩
                clear d12
                go_wp2_with fail
                go_ret
                exact ⟨rfl, nx B23 b24⟩
        · have e2' : (((ck M : Nat) : Int) == 0) = false := by simp; omega
          rw [e1]
          generalize ck M = x2 at *
          generalize htB M = U at *
          generalize htB L = S at *
          generalize htB (L ++ M) = V2 at *
          generalize ck (L ++ M) = x3 at *
          go_wp2_with (first | (go_at_call 14; refine (num_c _ _).mono ?_; rintro e w' ⟨rfl, rfl⟩))
          go_ret
          exact ⟨rfl, B9⟩
      · have e1' : (((ck L : Nat) : Int) == 0) = false := by simp; omega
        generalize ck M = x2 at *
        generalize ck L = x1 at *
        generalize htB M = U at *
        generalize htB L = S at *
        generalize htB (L ++ M) = V2 at *
        generalize ck (L ++ M) = x3 at *
        go_wp2_with (first | (go_at_call 14; refine (num_c _ _).mono ?_; rintro e w' ⟨rfl, rfl⟩))
        go_ret
        exact ⟨rfl, B9⟩
  · have hrow := own_below HO1.out.1 b5
    have hle1 : us1.length ≤ 1048576 := by have := Hl1.out; omega
    have hle2 : us2.length ≤ 1048576 := by have := Hl2.out; omega
    have hcells := fun j x (hj : (flat us2)[j]? = some x) => World.ownsRow.cells (g := g2) ho2.1 rfl j x hj
    have hone := flat_one ho2.2
    have hfl := flat_len ho2.2
    go_wp2_with (first
      | (at_builtin; refine wpList_append_own _ rfl _ _ 22 rfl w3.heap.size 37 i0 (.agg #[.string ⟨#[]⟩, .string ⟨#[]⟩, .slice none 0 0, .slice none 0 0]) 4 80 Try.underlying22 hi hz0 hz1 hz2 rfl (by decide) _ _ _ rfl hrow ⟨g2, 0, none⟩ us2.length cap2 (flat us2) rfl hfl hcells hone (by unfold maxLen; omega) (by omega) (by omega) ?_))
    intro v' W6 hown hgrow _
    have hc : InL false All W6 m v' (L ++ M) := joined HO1.out Hl1.out k1.out b5 ho2 Hl2.out k2.out hown hgrow (by rw [List.length_append]; omega)
    have hB6 : Below w.heap.size w W6 := B5.grown hgrow B5.size (fun k hk => by have := (World.ownsRow.lt HO1.out.1 k hk).1; have := B3.size; omega)
    clear ho2 k1 k2 b4 b5 B5 HO1 Hl1 Hl2 hown hgrow hrow hcells hone hfl
    have HC : Hid (InL false All W6 m v' (L ++ M)) := hc
    have B6 : Below w.heap.size w W6 := hB6
    obtain ⟨ac, cc, rfl, -⟩ := hc
    generalize (L ++ M).length = nn at *
    clear hB6
    have c12a := html_c m _ L W6 (HU.out.below B6) (fun _ => by omega)
    go_wp2_with fail
    refine c12a.mono ?_
    rintro e w7 ⟨rfl, b7⟩
    have B7 := nx B6 b7
    clear c12a
    have c12b := html_c m _ M w7 (HV.out.below B7) (fun _ => by omega)
    go_wp2_with fail
    refine c12b.mono ?_
    rintro e w8 ⟨rfl, b8⟩
    have B8 := nx B7 b8
    have C8 := nx b7 b8
    clear c12b
    have c12c := html_c m _ (L ++ M) w8 (HC.out.below C8) (fun _ => by rw [wt_append]; omega)
    go_wp2_with fail
    refine c12c.mono ?_
    rintro e w9 ⟨rfl, b9⟩
    have B9 := nx B8 b9
    have C9 := nx C8 b9
    clear c12c b7 b8 b9
    have hkL := (ck_ok L).1
    have hkM := (ck_ok M).1
    have hkC := (ck_ok (L ++ M)).1
    by_cases e1 : ck L = 0
    · by_cases e2 : ck M = 0
      · obtain ⟨p1, p2, p3, p4, p5⟩ := ck_inv e1
        obtain ⟨q1, q2, q3, q4, q5⟩ := ck_inv e2
        have c10a := count_c m _ L w9 (HU.out.below B9)
        rw [p2] at c10a
        rw [e1, e2]
        clear hkL hkM
        go_wp2_with (first | (go_at_call 14; refine (num_c _ _).mono ?_; rintro e w' ⟨rfl, rfl⟩))
        refine c10a.mono ?_
        rintro e w10 ⟨rfl, b10⟩
        have B10 := nx B9 b10
        have C10 := nx C9 b10
        clear c10a b10
        have c10b := count_c m _ M w10 (HV.out.below B10)
        rw [q2] at c10b
        go_wp2_with fail
        refine c10b.mono ?_
        rintro e w11 ⟨rfl, b11⟩
        have B11 := nx B10 b11
        have C11 := nx C10 b11
        clear c10b b11
        by_cases hbig : 4096 ≤ cn L + cn M
        · have hbig' : decide ((4096 : Int) ≤ (cn L : Int) + (cn M : Int)) = true := by simp; omega
          go_wp2_with fail
          go_ret
          exact ⟨rfl, B11⟩
        · have hbig' : decide ((4096 : Int) ≤ (cn L : Int) + (cn M : Int)) = false := by simp; omega
          obtain ⟨z1, z2, z3⟩ := ck_yes (l := L ++ M) (by rw [ak_append, p1, q1]; rfl) (by rw [cn_append]; omega) (by rw [depL_append]; omega)
          have hs : htB (L ++ M) = htB L ++ htB M := by
            rw [htB_ok z1, htB_ok e1, htB_ok e2, ht_append]
            apply ByteArray.ext
            apply Array.toList_inj.1
            rw [dat]
          have hsL : (htB L).size ≤ 16777216 := by rw [htB_ok e1, ← size_list]; have := ht_len _ L (Nat.le_refl _); show (ht L).length ≤ 16777216; omega
          have hsM : (htB M).size ≤ 16777216 := by rw [htB_ok e2, ← size_list]; have := ht_len _ M (Nat.le_refl _); show (ht M).length ≤ 16777216; omega
          rw [cn_append] at z2
          rw [depL_append] at z3
          obtain ⟨r1, r2, r3, r4, r5⟩ := q_parts (L ++ M)
          have hq : ck [tq (L ++ M)] = 0 → htB [tq (L ++ M)] = ((⟨#[60, 113, 62]⟩ : ByteArray) ++ (htB L ++ htB M)) ++ ⟨#[60, 47, 113, 62]⟩ := by
            intro h
            rw [← hs, htB_ok h, htB_ok z1, r4]
            apply ByteArray.ext
            apply Array.toList_inj.1
            rw [dat, dat]
            simp
          rw [cn_append] at r2
          rw [depL_append] at r3
          rw [ak_append, p1, q1] at r1
          rw [hs, z1]
          have Hq : Hid (ck [tq (L ++ M)] = 0 → htB [tq (L ++ M)] = ((⟨#[60, 113, 62]⟩ : ByteArray) ++ (htB L ++ htB M)) ++ ⟨#[60, 47, 113, 62]⟩) := hq
          have Hz2 : Hid (ct (L ++ M) = cn L + cn M) := z2
          have Hz3 : Hid (dp (L ++ M) = max (depL L) (depL M)) := z3
          have Hp4 : Hid (dp L = depL L) := p4
          have Hq4 : Hid (dp M = depL M) := q4
          have Hp2 : Hid (ct L = cn L) := p2
          have Hq2 : Hid (ct M = cn M) := q2
          have Hr : Hid (ak [tq (L ++ M)] = true ∧ cn [tq (L ++ M)] = 1 + (cn L + cn M) ∧ depL [tq (L ++ M)] = 1 + max (depL L) (depL M)) := ⟨r1, r2, r3⟩
          have Hr5 : Hid (wt [tq (L ++ M)] = 2 + wt (L ++ M)) := r5
          clear hq hs z2 z3 r1 r2 r3 r4 r5 p1 p2 p4 q1 q2 q4 hkC z1 e1 e2
          generalize htB L = S at *
          generalize htB M = U at *
          generalize cn L = x at *
          generalize cn M = y at *
          generalize depL L = xd at *
          generalize depL M = yd at *
          have n1 : ∀ W, (Op.stringOp .add S U).run Try.prog W = .ok (.string (S ++ U)) W := fun W => run_string_add_sum W _ _ (by omega)
          have z1 : (⟨#[60, 113, 62]⟩ : ByteArray).size = 3 := rfl
          have n2 : ∀ W, (Op.stringOp .add (⟨#[60, 113, 62]⟩ : ByteArray) (S ++ U)).run Try.prog W = .ok (.string (⟨#[60, 113, 62]⟩ ++ (S ++ U))) W := fun W => run_string_add_sum W _ _ (by rw [ByteArray.size_append, z1]; omega)
          have z2 : (⟨#[60, 47, 113, 62]⟩ : ByteArray).size = 4 := rfl
          have n3 : ∀ W, (Op.stringOp .add ((⟨#[60, 113, 62]⟩ : ByteArray) ++ (S ++ U)) ⟨#[60, 47, 113, 62]⟩).run Try.prog W = .ok (.string ((⟨#[60, 113, 62]⟩ ++ (S ++ U)) ++ ⟨#[60, 47, 113, 62]⟩)) W := fun W => run_string_add_sum W _ _ (by rw [ByteArray.size_append, ByteArray.size_append, z1, z2]; omega)
          have d1 := count_c m _ (L ++ M) w11 (HC.out.below C11)
          rw [Hz2.out] at d1
          go_wp2_with (first | (go_at_call 14; refine (num_c _ _).mono ?_; rintro e w' ⟨rfl, rfl⟩))
          refine d1.mono ?_
          rintro e w12 ⟨rfl, b12⟩
          have B12 := nx B11 b12
          have C12 := nx C11 b12
          clear d1 b12
          have d2 := count_c m _ L w12 (HU.out.below B12)
          rw [Hp2.out] at d2
          go_wp2_with fail
          refine d2.mono ?_
          rintro e w13 ⟨rfl, b13⟩
          have B13 := nx B12 b13
          have C13 := nx C12 b13
          clear d2 b13
          have d3 := count_c m _ M w13 (HV.out.below B13)
          rw [Hq2.out] at d3
          go_wp2_with fail
          refine d3.mono ?_
          rintro e w14 ⟨rfl, b14⟩
          have B14 := nx B13 b14
          have C14 := nx C13 b14
          clear d3 b14
          have d4 := depth_c m _ (L ++ M) w14 (HC.out.below C14)
          rw [Hz3.out] at d4
          obtain ⟨mx, hmx⟩ : ∃ mx, max xd yd = mx := ⟨_, rfl⟩
          rw [hmx] at d4
          go_wp2_with fail
          refine d4.mono ?_
          rintro e w15 ⟨rfl, b15⟩
          have B15 := nx B14 b15
          have C15 := nx C14 b15
          clear d4 b15
          have d5 := depth_c m _ L w15 (HU.out.below B15)
          rw [Hp4.out] at d5
          go_wp2_with fail
          refine d5.mono ?_
          rintro e w16 ⟨rfl, b16⟩
          have B16 := nx B15 b16
          have C16 := nx C15 b16
          clear d5 b16
          have d6 := depth_c m _ M w16 (HV.out.below B16)
          rw [Hq4.out] at d6
          go_wp2_with fail
          refine d6.mono ?_
          rintro e w17 ⟨rfl, b17⟩
          have B17 := nx B16 b17
          have C17 := nx C16 b17
          clear d6 b17
          have bp : Below w17.heap.size w17 (w17.alloc (.cells #[.string ⟨#[113]⟩, .string ⟨#[]⟩, .slice none 0 0, .slice ac nn cc] 37)) := bx
          have hp : Hid (InL false All (w17.alloc (.cells #[.string ⟨#[113]⟩, .string ⟨#[]⟩, .slice none 0 0, .slice ac nn cc] 37)) (m + 1) (.slice (some ⟨w17.heap.size, 0, none⟩) 1 1) [tq (L ++ M)]) := by
            refine one_in (heap_alloc_new w17 _) ?_
            unfold tq
            rw [in_iff]
            exact ⟨_, _, rfl, by decide, by decide, ax0 _, HC.out.below (nx C17 bp)⟩
          have d7 := html_c (m + 1) _ _ _ hp.out (fun _ => by rw [Hr5.out, wt_append]; omega)
          have B18 := nx B17 bp
          have C18 := nx C17 bp
          have hxy : (xd < yd ∧ mx = yd) ∨ (¬ xd < yd ∧ mx = xd) := by omega
          have hkq := (ck_ok [tq (L ++ M)]).1
          rcases hxy with ⟨hxy, rfl⟩ | ⟨hxy, rfl⟩
          · by_cases hdeep : 64 ≤ mx
            · have hdeep' : decide ((64 : Int) ≤ (mx : Int)) = true := by simp; omega
              have hck : ck [tq (L ++ M)] = 701 := ck_deep Hr.out.1 (by rw [Hr.out.2.1]; omega) (by rw [Hr.out.2.2]; omega)
              rw [hck] at d7
              generalize htB [tq (L ++ M)] = X at *
              clear hck hkq
              go_wp2_with fail
              refine d7.mono ?_
              rintro e w19 ⟨rfl, b19⟩
              have B19 := nx B18 b19
              have C19 := nx C18 b19
              have d8 := depth_c m _ (L ++ M) w19 (HC.out.below C19)
              rw [Hz3.out, hmx] at d8
              clear d7
              go_wp2_with fail
              refine d8.mono ?_
              rintro e w20 ⟨rfl, b20⟩
              clear d8
              go_wp2_with (first | (go_at_call 14; refine (num_c _ _).mono ?_; rintro e w' ⟨rfl, rfl⟩))
              go_ret
              exact ⟨rfl, nx B19 b20⟩
            · have hdeep' : decide ((64 : Int) ≤ (mx : Int)) = false := by simp; omega
              obtain ⟨g1, g2, g3⟩ := ck_yes Hr.out.1 (by rw [Hr.out.2.1]; omega) (by rw [Hr.out.2.2]; omega)
              rw [Hr.out.2.1] at g2
              rw [Hr.out.2.2, hmx] at g3
              rw [g1, Hq.out g1] at d7
              have G2 : Hid (ct [tq (L ++ M)] = 1 + (x + y)) := g2
              have G3 : Hid (dp [tq (L ++ M)] = 1 + mx) := g3
              clear g1 g2 g3 hkq
              go_wp2_with fail
              refine d7.mono ?_
              rintro e w19 ⟨rfl, b19⟩
              have B19 := nx B18 b19
              have C19 := nx C18 b19
              have D19 := b19
              have d8 := depth_c m _ (L ++ M) w19 (HC.out.below C19)
              rw [Hz3.out, hmx] at d8
              clear d7 b19
              go_wp2_with fail
              refine d8.mono ?_
              rintro e w20 ⟨rfl, b20⟩
              have B20 := nx B19 b20
              have C20 := nx C19 b20
              have D20 := nx D19 b20
              clear d8 b20
              have d9 := count_c (m + 1) _ _ w20 (hp.out.below D20)
              rw [G2.out] at d9
              go_wp2_with (first | (go_at_call 14; refine (num_c _ _).mono ?_; rintro e w' ⟨rfl, rfl⟩))
              refine d9.mono ?_
              rintro e w21 ⟨rfl, b21⟩
              have B21 := nx B20 b21
              have C21 := nx C20 b21
              have D21 := nx D20 b21
              clear d9 b21
              have d10 := count_c m _ (L ++ M) w21 (HC.out.below C21)
              rw [Hz2.out] at d10
              go_wp2_with fail
              refine d10.mono ?_
              rintro e w22 ⟨rfl, b22⟩
              have B22 := nx B21 b22
              have C22 := nx C21 b22
              have D22 := nx D21 b22
              clear d10 b22
              have d11 := depth_c (m + 1) _ _ w22 (hp.out.below D22)
              rw [G3.out] at d11
              go_wp2_with fail
              refine d11.mono ?_
              rintro e w23 ⟨rfl, b23⟩
              have B23 := nx B22 b23
              have C23 := nx C22 b23
              clear d11 b23
              have d12 := depth_c m _ (L ++ M) w23 (HC.out.below C23)
              rw [Hz3.out, hmx] at d12
              go_wp2_with fail
              refine d12.mono ?_
              rintro e w24 ⟨rfl, b24⟩
              clear d12
              go_wp2_with fail
              go_ret
              exact ⟨rfl, nx B23 b24⟩
          · by_cases hdeep : 64 ≤ mx
            · have hdeep' : decide ((64 : Int) ≤ (mx : Int)) = true := by simp; omega
              have hck : ck [tq (L ++ M)] = 701 := ck_deep Hr.out.1 (by rw [Hr.out.2.1]; omega) (by rw [Hr.out.2.2]; omega)
              rw [hck] at d7
              generalize htB [tq (L ++ M)] = X at *
              clear hck hkq
              go_wp2_with fail
              refine d7.mono ?_
              rintro e w19 ⟨rfl, b19⟩
              have B19 := nx B18 b19
              have C19 := nx C18 b19
              have d8 := depth_c m _ (L ++ M) w19 (HC.out.below C19)
              rw [Hz3.out, hmx] at d8
              clear d7
              go_wp2_with fail
              refine d8.mono ?_
              rintro e w20 ⟨rfl, b20⟩
              clear d8
              go_wp2_with (first | (go_at_call 14; refine (num_c _ _).mono ?_; rintro e w' ⟨rfl, rfl⟩))
              go_ret
              exact ⟨rfl, nx B19 b20⟩
            · have hdeep' : decide ((64 : Int) ≤ (mx : Int)) = false := by simp; omega
              obtain ⟨g1, g2, g3⟩ := ck_yes Hr.out.1 (by rw [Hr.out.2.1]; omega) (by rw [Hr.out.2.2]; omega)
              rw [Hr.out.2.1] at g2
              rw [Hr.out.2.2, hmx] at g3
              rw [g1, Hq.out g1] at d7
              have G2 : Hid (ct [tq (L ++ M)] = 1 + (x + y)) := g2
              have G3 : Hid (dp [tq (L ++ M)] = 1 + mx) := g3
              clear g1 g2 g3 hkq
              go_wp2_with fail
              refine d7.mono ?_
              rintro e w19 ⟨rfl, b19⟩
              have B19 := nx B18 b19
              have C19 := nx C18 b19
              have D19 := b19
              have d8 := depth_c m _ (L ++ M) w19 (HC.out.below C19)
              rw [Hz3.out, hmx] at d8
              clear d7 b19
              go_wp2_with fail
              refine d8.mono ?_
              rintro e w20 ⟨rfl, b20⟩
              have B20 := nx B19 b20
              have C20 := nx C19 b20
              have D20 := nx D19 b20
              clear d8 b20
              have d9 := count_c (m + 1) _ _ w20 (hp.out.below D20)
              rw [G2.out] at d9
              go_wp2_with (first | (go_at_call 14; refine (num_c _ _).mono ?_; rintro e w' ⟨rfl, rfl⟩))
              refine d9.mono ?_
              rintro e w21 ⟨rfl, b21⟩
              have B21 := nx B20 b21
              have C21 := nx C20 b21
              have D21 := nx D20 b21
              clear d9 b21
              have d10 := count_c m _ (L ++ M) w21 (HC.out.below C21)
              rw [Hz2.out] at d10
              go_wp2_with fail
              refine d10.mono ?_
              rintro e w22 ⟨rfl, b22⟩
              have B22 := nx B21 b22
              have C22 := nx C21 b22
              have D22 := nx D21 b22
              clear d10 b22
              have d11 := depth_c (m + 1) _ _ w22 (hp.out.below D22)
              rw [G3.out] at d11
              go_wp2_with fail
              refine d11.mono ?_
              rintro e w23 ⟨rfl, b23⟩
              have B23 := nx B22 b23
              have C23 := nx C22 b23
              clear d11 b23
              have d12 := depth_c m _ (L ++ M) w23 (HC.out.below C23)
              rw [Hz3.out, hmx] at d12
              go_wp2_with fail
              refine d12.mono ?_
              rintro e w24 ⟨rfl, b24⟩
              clear d12
              go_wp2_with fail
              go_ret
              exact ⟨rfl, nx B23 b24⟩
      · have e2' : (((ck M : Nat) : Int) == 0) = false := by simp; omega
        rw [e1]
        generalize ck M = x2 at *
        generalize htB M = U at *
        generalize htB L = S at *
        generalize htB (L ++ M) = V2 at *
        generalize ck (L ++ M) = x3 at *
        go_wp2_with (first | (go_at_call 14; refine (num_c _ _).mono ?_; rintro e w' ⟨rfl, rfl⟩))
        go_ret
        exact ⟨rfl, B9⟩
    · have e1' : (((ck L : Nat) : Int) == 0) = false := by simp; omega
      generalize ck M = x2 at *
      generalize ck L = x1 at *
      generalize htB M = U at *
      generalize htB L = S at *
      generalize htB (L ++ M) = V2 at *
      generalize ck (L ++ M) = x3 at *
      go_wp2_with (first | (go_at_call 14; refine (num_c _ _).mono ?_; rintro e w' ⟨rfl, rfl⟩))
      go_ret
      exact ⟨rfl, B9⟩
theorem walk {m n : Nat} {u v : Value} {L M : List T} {w : World} (hu : InL false All w m u L) (hv : InL false All w n v M) (wL : wt L ≤ 1048576) (wM : wt M ≤ 1048576) :
    Calls Try.prog 5 #[u, v] w fun r w' => r = .returned (.bool true) ∧ Below w.heap.size w w' :=
  walk_of (hu.weak (fun _ h => h) false id (max m n) (by omega)) (hv.weak (fun _ h => h) false id (max m n) (by omega)) wL wM
end Go.Proofs.Ytonoalbhpligfaa.WJoins

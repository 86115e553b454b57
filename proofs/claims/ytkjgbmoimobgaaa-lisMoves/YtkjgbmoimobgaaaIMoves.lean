/- How many are kept, and how many of them are moved: contract of Moves. -/
import Derived.Test.YtkjgbmoimobgaaaIKrow
import Derived.Test.YtkjgbmoimobgaaaILong
namespace Go.Proofs.Ytkjgbmoimobgaaa.IMoves
open Go.RowKit Go.Maps Go.Proofs.Ytkjgbmoimobgaaa.IPure Go.Proofs.Ytkjgbmoimobgaaa.IBase Go.Proofs.Ytkjgbmoimobgaaa.IInts Go.Proofs.Ytkjgbmoimobgaaa.IKey Go.Proofs.Ytkjgbmoimobgaaa.IKrow Go.Proofs.Ytkjgbmoimobgaaa.ILong
set_option linter.unusedVariables false

/-- The first place of a key. -/
def fd : List Ky → Ky → Option Nat
  | [], _ => none
  | a :: r, x => if a = x then some 0 else (fd r x).map (· + 1)
theorem fd_none : ∀ {ks : List Ky} {x : Ky}, fd ks x = none ↔ x ∉ ks
  | [], x => by simp [fd]
  | a :: r, x => by
    rw [fd]
    by_cases h : a = x
    · simp [h]
    · rw [if_neg h]
      simp only [Option.map_eq_none_iff, fd_none (ks := r), List.mem_cons, not_or]
      exact ⟨fun k => ⟨fun e => h e.symm, k⟩, fun k => k.2⟩
theorem fd_some : ∀ {ks : List Ky} {x : Ky} {j : Nat}, fd ks x = some j → ks[j]? = some x ∧ ∀ i, i < j → ks[i]? ≠ some x
  | [], x, j, h => by simp [fd] at h
  | a :: r, x, j, h => by
    rw [fd] at h
    by_cases e : a = x
    · rw [if_pos e] at h
      cases h
      exact ⟨by simp [e], fun i hi => by omega⟩
    · rw [if_neg e] at h
      obtain ⟨i, hi, rfl⟩ := Option.map_eq_some_iff.1 h
      obtain ⟨h1, h2⟩ := fd_some hi
      refine ⟨by simpa using h1, fun k hk => ?_⟩
      cases k with
      | zero => simp [e]
      | succ k => simpa using h2 k (by omega)
theorem fd_lt {ks : List Ky} {x : Ky} {j : Nat} (h : fd ks x = some j) : j < ks.length := (List.getElem?_eq_some_iff.1 (fd_some h).1).1
/-- Where the kept ones were. -/
def wh (olds : List Ky) (x : Ky) : Option Int := (fd olds x).map fun j => (j : Int)
def rowOf (olds news : List Ky) : List Int := news.filterMap (wh olds)
theorem rowOf_succ {olds news : List Ky} {q : Nat} (h : q < news.length) : rowOf olds (news.take (q + 1)) = rowOf olds (news.take q) ++ (wh olds news[q]).toList := by
  unfold rowOf
  rw [List.take_succ_eq_append_getElem h, List.filterMap_append]
  cases h2 : wh olds news[q] <;> simp [h2]
theorem rowOf_len (olds news : List Ky) : (rowOf olds news).length ≤ news.length := List.length_filterMap_le _ _
def mv (olds news : List Ky) : Int × Int × Int := if olds.Nodup ∧ news.Nodup then ((rowOf olds news).length, ((rowOf olds news).length : Int) - K (rowOf olds news), 0) else (0, 0, 900)
theorem own_map_below {w w' : World} {b n : Nat} {D : DataW Unit} (h : w.ownsMap Try.prog 44 (plainElem Try.prog 3) b n D) (hb : Below w.heap.size w w') : w'.ownsMap Try.prog 44 (plainElem Try.prog 3) b n D := by
  have hlt := h.lt
  obtain ⟨es, c, h1, h2⟩ := h
  exact ⟨es, c, (hb.block b hlt).trans h1, h2⟩
set_option maxRecDepth 20000 in
set_option maxHeartbeats 400000 in
theorem moves_c {w : World} {v u : Value} {olds news : List Ky} (hv : Kx w v olds) (hu : Kx w u news) (ho : OkL olds) (hn : OkL news) :
    Calls Try.prog 16 #[v, u] w fun e w' => e = .returned (.tuple #[.int .i64 (mv olds news).1, .int .i64 (mv olds news).2.1, .int .i64 (mv olds news).2.2]) ∧ Below w.heap.size w w' := by
  obtain ⟨i0, hi, hz0, hz1, hz2⟩ := info_parts infoI
  have c1 := places_c hv ho
  have hu1 : ∀ w1, Below w.heap.size w w1 → Kx w1 u news := fun w1 h => hu.below h
  have c2 : Hid (∀ w1, Below w.heap.size w w1 → _) := fun w1 h => places_c (hu.below h) hn
  have HU : Hid (∀ w1, Below w.heap.size w w1 → Kx w1 u news) := hu1
  have hz3 : ∀ w, (zeroValue 3).run Try.prog w = .ok (.int .i64 0) w := Try.zeroValue3
  obtain ⟨a, cap, rfl, hl, hm, hnil, hL⟩ := hv
  obtain ⟨a2, cap2, rfl, hl2, hm2, hnil2, hL2⟩ := hu
  have hlo := ho.2
  have hln := hn.2
  have HN2 : Hid (OkL news) := hn
  clear hL hL2 hnil hnil2 ho hn hu1
  obtain ⟨n1, hn1⟩ : ∃ n, olds.length = n := ⟨_, rfl⟩
  obtain ⟨n2, hn2⟩ : ∃ n, news.length = n := ⟨_, rfl⟩
  have H1 : Hid (olds.length = n1) := hn1
  have H2 : Hid (news.length = n2) := hn2
  rw [hn1] at hl hlo c1 ⊢
  rw [hn2] at hl2 hln HU c2 ⊢
  clear hn1 hn2
  go_enter Try.func16, Try.ntmps16
  go_wp2_with (first
    | (go_at_call 25; refine c1.mono ?_; clear c1; rintro e w1 ⟨rfl, ⟨D1, hown1, hD1⟩, hb1⟩))
  refine (c2.out w1 hb1).mono ?_
  rintro e w2 ⟨rfl, ⟨D2, hown2, hD2⟩, hb2⟩
  have hown3 := own_map_below hown1 hb2
  have hl1' := fun ty => hown3.len Try.underlying46 ty
  have hl2' := fun ty => hown2.len Try.underlying46 ty
  have hle1 := hD1.le
  have hle2 := hD2.le
  rw [H1.out] at hle1
  rw [H2.out] at hle2
  have hf1 := hD1.full
  have hf2 := hD2.full
  rw [H1.out] at hf1
  rw [H2.out] at hf2
  have hbb : Below w.heap.size w w2 := hb1.trans (hb2.mono hb1.size)
  by_cases hd1 : olds.Nodup
  · have d1 : decide (Maps.size D1 < n1) = false := decide_eq_false (by have := hf1.1 hd1; omega)
    by_cases hd2 : news.Nodup
    · have d2 : decide (Maps.size D2 < n2) = false := decide_eq_false (by have := hf2.1 hd2; omega)
      have HMV : Hid (mv olds news = (((rowOf olds news).length : Int), ((rowOf olds news).length : Int) - K (rowOf olds news), 0)) := if_pos ⟨hd1, hd2⟩
      have HA : Hid (∀ (j : Nat) x l, Kl x l → olds[j]? = some x → ∀ z, D1.atKey l z = .lit (.int .i64 j)) := hD1.at' hd1
      have HH : Hid (∀ x l, Kl x l → (Maps.has D1 l = true ↔ x ∈ olds)) := hD1.has
      have HU2 := HU.out w2 hbb
      obtain ⟨a3, cap3, e3, -, -, -, hN⟩ := HU2
      simp only [Value.slice.injEq] at e3
      obtain ⟨ea, -, ec⟩ := e3
      subst ea ec
      have hs1 := hb1.size
      have hs2 := hb2.size
      have hml := World.ownsMap.lt hown1
      clear hf1 hf2 hle1 hle2 hD1 hD2 hown1 hown2 hd1 hd2
      go_wp2_with fail
      go_loopw [9, 32] (fun rv i wr => ∃ q : Nat, i = .int .i64 q ∧ q ≤ n2 ∧ Oi wr w2.heap.size rv (rowOf olds (news.take q)) ∧ Below w2.heap.size w2 wr) (fun _ i _ => n2 - (intOf i).toNat)
      case atStart => exact ⟨0, rfl, by omega, by rw [List.take_zero]; exact oi_nil _ _, Below.refl _ _⟩
      case round =>
        obtain ⟨q, rfl, hq, hO, hb⟩ := hrel
        have hsz := hb.size
        by_cases hlt : q < n2
        · rcases hN with rfl | ⟨g, o, rfl, hc⟩
          · have := H2.out; simp at this; omega
          · have hlq : q < news.length := by rw [H2.out]; exact hlt
            have h3 := (hc q hlq).below hb
            have hx := HN2.out.1 news[q] (List.getElem_mem _)
            obtain ⟨l, hkey⟩ := key_of hx
            have hnx := rowOf_succ (olds := olds) hlq
            have hrl : (rowOf olds (news.take q)).length ≤ q := by
              have := rowOf_len olds (news.take q)
              rw [List.length_take] at this
              omega
            have hown4 := own_map_below hown3 hb
            have HAx := fun j => HA.out j news[q] l hkey
            have HHx := HH.out news[q] l hkey
            have HX1 : Hid (∀ j, olds[j]? = some news[q] → ∀ z, D1.atKey l z = .lit (.int .i64 (j : Nat))) := HAx
            have hfd : (∃ j, fd olds news[q] = some j) ∨ fd olds news[q] = none := by
              cases fd olds news[q] with
              | none => exact .inr rfl
              | some j => exact .inl ⟨j, rfl⟩
            rcases hfd with ⟨j, hj⟩ | hj
            · have hhas : Maps.has D1 l = true := HHx.2 (List.mem_of_getElem? (fd_some hj).1)
              have hat0 := HX1.out j (fd_some hj).1 (.lit (.int .i64 0))
              have hjl := fd_lt hj
              rw [H1.out] at hjl
              unfold wh at hnx
              rw [hj] at hnx
              have HNX : Hid (rowOf olds (news.take (q + 1)) = rowOf olds (news.take q) ++ [(j : Int)]) := hnx
              clear HX1 HAx HHx hj hnx hx
              generalize news[q] = x at *
              obtain ⟨x0, x1, x2⟩ := x
              obtain ⟨d0, d1', d2'⟩ := h3
              have hkey' : keyOf Try.prog 44 (.agg #[.int .i64 x0, .int .i64 x1, .string x2]) = some l := hkey
              generalize rowOf olds (news.take q) = R at *
              obtain ⟨ra, rc, rfl⟩ := hO.shape
              have hrow : wr.ownsRow w2.heap.size 3 1 (.slice ra R.length rc) R.length (R.map (Value.int .i64)) := hO
              clear hc hO hkey
              go_wp2_with (first
                | (at_lookup; refine wpList_lookup_own_ok_int _ rfl _ _ 46 rfl 44 3 .i64 keyed Try.underlying46 Try.underlying3 (hz3 _) w.heap.size n1 D1 rfl (hown4.alloc _) _ _ rfl hkey' ?_; intro c hat hwc; rw [hhas]; obtain rfl : c = (j : Int) := (by rw [hat0] at hat; simp at hat; exact hat.symm); clear hat)
                | (at_builtin; refine wpList_append_own _ rfl _ _ 22 rfl w2.heap.size 3 i0 (.int .i64 0) 1 8 Try.underlying22 hi hz0 hz1 hz2 rfl (by decide) _ _ _ rfl (World.ownsRow.alloc (World.ownsRow.alloc hrow _) _) ⟨wr.heap.size + 1, 0, none⟩ 1 1 [.int .i64 (j : Int)] rfl rfl (by intro i u hi; have := new_cells (wr.alloc (.cells #[.int .i64 x0, .int .i64 x1, .string x2] 44)) [.int .i64 (j : Int)] 3 i u hi; rw [World.size_alloc] at this; exact this) (one_ints [(j : Int)]) (by simp [maxLen]; omega) (by omega) (by simp; omega) ?_))
              intro v' w3 hown' hgrow hnn2
              have hO2 : Oi w3 w2.heap.size v' (R ++ [(j : Int)]) := by
                unfold Oi
                simpa using hown'
              rw [← HNX.out] at hO2
              have hb3 : Below w2.heap.size w2 w3 := ((hb.alloc hb.size _).alloc (by simp; omega) _).grown hgrow (by simp; omega) (fun k hk => (World.ownsRow.lt hrow k hk).1)
              clear hown' hgrow hnn2 hrow hown4
              go_wp2_with fail
              go_roundw
              case rel => exact ⟨q + 1, by go_num, by omega, hO2, hb3⟩
              case measure => simp only [intOf]; omega
            · have hhas : Maps.has D1 l = false := by
                cases hh : Maps.has D1 l with
                | false => rfl
                | true => exact absurd (HHx.1 hh) (fd_none.1 hj)
              unfold wh at hnx
              rw [hj] at hnx
              have HO2 : Hid (Oi wr w2.heap.size u9 (rowOf olds (news.take (q + 1)))) := by
                show Oi _ _ _ _
                rw [hnx]
                simpa using hO
              clear HX1 HAx HHx hj hnx hx hO
              generalize news[q] = x at *
              obtain ⟨x0, x1, x2⟩ := x
              obtain ⟨d0, d1', d2'⟩ := h3
              have hkey' : keyOf Try.prog 44 (.agg #[.int .i64 x0, .int .i64 x1, .string x2]) = some l := hkey
              clear hc hkey
              go_wp2_with (first
                | (at_lookup; refine wpList_lookup_own_ok_int _ rfl _ _ 46 rfl 44 3 .i64 keyed Try.underlying46 Try.underlying3 (hz3 _) w.heap.size n1 D1 rfl (hown4.alloc _) _ _ rfl hkey' ?_; intro c hat hwc; rw [hhas]; clear hat))
              go_roundw
              case rel => exact ⟨q + 1, by go_num, by omega, HO2.out.below ((Below.refl _ wr).alloc (Nat.le_refl _) _), hb.alloc hb.size _⟩
              case measure => simp only [intOf]; omega
        · obtain rfl : q = n2 := by omega
          have hnlt : decide ((q : Int) < (q : Int)) = false := by simp
          have hO1 : Oi wr w2.heap.size u9 (rowOf olds news) := by
            have := hO
            rw [← H2.out, List.take_length] at this
            exact this
          have hrl := rowOf_len olds news
          rw [H2.out] at hrl
          generalize rowOf olds news = R at *
          have cL := long_c hO1.ix (by omega)
          have hKR := K_le R
          obtain ⟨ra, rc, rfl⟩ := hO1.shape
          have hbw : Below w.heap.size w wr := hbb.trans (hb.mono (by omega))
          clear hN hO hO1
          go_wp2_with (first | (go_at_call 9; refine cL.mono ?_; rintro e w4 ⟨lu, rfl, hLo, hb4⟩; obtain ⟨la, lc, rfl⟩ := hLo.shape; rw [ro_len]))
          refine bodyPost_ret (v := .tuple #[.int .i64 R.length, .int .i64 ((R.length : Int) - K R), .int .i64 0]) (by simp [results, Try.results16, go_sem]) rfl ⟨by rw [HMV.out], hbw.trans (hb4.mono hbw.size)⟩
    · have d2 : decide (Maps.size D2 < n2) = true := decide_eq_true (Nat.lt_of_le_of_ne hle2 fun h => hd2 (hf2.2 h))
      have HMV : Hid (mv olds news = (0, 0, 900)) := if_neg fun h => hd2 h.2
      clear hf1 hf2 hle1 hle2 hD1 hD2 hd1 hd2
      go_wp2_with fail
      refine bodyPost_ret (v := .tuple #[.int .i64 0, .int .i64 0, .int .i64 900]) (by simp [results, Try.results16, go_sem]) rfl ⟨by rw [HMV.out], hbb⟩
  · have d1 : decide (Maps.size D1 < n1) = true := decide_eq_true (Nat.lt_of_le_of_ne hle1 fun h => hd1 (hf1.2 h))
    have HMV : Hid (mv olds news = (0, 0, 900)) := if_neg fun h => hd1 h.1
    clear hf1 hf2 hle1 hle2 hD1 hD2 hd1
    go_wp2_with fail
    refine bodyPost_ret (v := .tuple #[.int .i64 0, .int .i64 0, .int .i64 900]) (by simp [results, Try.results16, go_sem]) rfl ⟨by rw [HMV.out], hbb⟩
end Go.Proofs.Ytkjgbmoimobgaaa.IMoves

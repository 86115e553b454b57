import Derived.Deep.RegionWith
import Derived.Lib.ItoaLen
import Derived.Test.YtnoohlmlpijhaaaDoorPX22
namespace Go.Proofs.YtnoohlmlpijhaaaDoor.PPb
open Go.RowKit Go.Proofs.YtnoohlmlpijhaaaDoor.Base Go.Proofs.YtnoohlmlpijhaaaDoor.EPure Go.Proofs.YtnoohlmlpijhaaaDoor.ENd Go.Proofs.YtnoohlmlpijhaaaDoor.PPk Go.Proofs.YtnoohlmlpijhaaaDoor.PPl Go.Proofs.YtnoohlmlpijhaaaDoor.PPr Go.Proofs.YtnoohlmlpijhaaaDoor.PBt Go.Proofs.YtnoohlmlpijhaaaDoor.PSg Go.Proofs.YtnoohlmlpijhaaaDoor.PPa
open Go.Proofs.YtnoohlmlpijhaaaDoor.PTx (qt)
open Go.Proofs.YtnoohlmlpijhaaaDoor.XBase (four_box two_box frozen_box Rg)
set_option linter.unusedVariables false
/-- A call of appendBetween amid a row that grows. -/
theorem bet {m : Nat} {x : Ex} (h : Ap m (-1) x) {B : Nat} {W W1 : World} {u : Value} (hin : XBase.In false (fun b => b < B) W m u x) (hT : ∀ W', Below B W W' → Digits.Tab W') (hb : Below B W W1) {w : World} {v : Value} {M : List UInt8} {lits : List (Nat × List UInt8)} (hq : Pk B W1 w v M lits) {c1 c2 : UInt8} {k1 k2 : Int} (h1 : (c1.toNat : Int) = k1) (h2 : (c2.toNat : Int) = k2) (hl : M.length + (pr (-1) x).length + 2 ≤ 100000000000) :
    Calls Tryd.prog 26 #[v, .int .u8 k1, u, .int .u8 k2] w fun e w' => ∃ v', e = .returned v' ∧ Pk B W1 w' v' (M ++ (c1 :: pr (-1) x ++ [c2])) [] :=
  (between_c h h1 h2 (hin.keep (keepB (hb.trans hq.bel))) (fun W' hW => hT W' ((hb.trans hq.bel).trans hW)) (Pk.start hq.own hq.le hq.nil) hl).mono fun e w' ⟨v', he, hk⟩ => ⟨v', he, hq.trans hk⟩
set_option maxRecDepth 20000 in
set_option maxHeartbeats 3200000 in
theorem part_field {m : Nat} {y : Ex} {i : Int} {s : ByteArray} (hy : Ap m 12 y) {B : Nat} {W : World} {v u : Value} {L : List UInt8} (hin : XBase.In false (fun b => b < B) W (m + 1) u (.mk 7 i s [y])) (hT : ∀ W', Below B W W' → Digits.Tab W') (hp : Pk B W W v L []) (hl : L.length + (pr 12 y ++ [46] ++ s.data.toList).length ≤ 100000000000) :
    Calls Tryd.prog 28 #[v, u] W fun e w' => ∃ v', e = .returned v' ∧ Pk B W w' v' (L ++ (pr 12 y ++ [46] ++ s.data.toList)) [] := by
  obtain ⟨m', lv, hm, hu, hoo, hi, hs, hL⟩ := hin.shape
  obtain rfl : m = m' := by omega
  have hL0 := hL
  obtain ⟨a, cap, rfl, hcap, hcap2, hLr⟩ := hL0
  obtain ⟨g, oo, v0, v1, v2, v3, rfl, hg, d0, d1, d2, d3, hk0⟩ := kid hL (j := 0) (by show 0 < 1; omega)
  have HK0 : Hid (XBase.In false (fun b => b < B) W m (.agg #[v0, v1, v2, v3]) y) := hk0
  have HD0 : Hid (W.cell? ⟨g, oo, none⟩ = some v0 ∧ W.cell? ⟨g, oo + 1, none⟩ = some v1 ∧ W.cell? ⟨g, oo + 2, none⟩ = some v2 ∧ W.cell? ⟨g, oo + 3, none⟩ = some v3) := ⟨by simpa [Nat.add_assoc] using d0, by simpa [Nat.add_assoc] using d1, by simpa [Nat.add_assoc] using d2, by simpa [Nat.add_assoc] using d3⟩
  clear hk0 d0 d1 d2 d3
  have hcap : 1 ≤ cap := hcap
  have hu : u = .agg #[.int .i64 7, .int .i64 i, .string s, .slice (some ⟨g, oo, none⟩) 1 cap] := hu
  have hi : -9223372036854775808 ≤ i ∧ i ≤ 9223372036854775807 := hi
  have hs : s.size ≤ 140737488351232 := hs
  have HT : Hid (∀ W', Below B W W' → Digits.Tab W') := hT
  have HAy : Hid (Ap m 12 y) := hy
  clear hy
  have HL : Hid (L.length + (pr 12 y ++ [46] ++ s.data.toList).length ≤ 100000000000) := hl
  have hll : L.length ≤ 100000000000 := by omega
  have hsz := hp.le
  clear hin hT hLr hl hL hm
  subst hu
  obtain ⟨ap, np, cp, rfl⟩ := hp.shape
  obtain ⟨W1, hW1⟩ : ∃ W1, W.alloc (.cells #[.int .i64 7, .int .i64 i, .string s, .slice (some ⟨g, oo, none⟩) 1 cap] 24) = W1 := ⟨_, rfl⟩
  have hb0 : Below W.heap.size W W1 := by rw [← hW1]; exact (Below.refl _ W).alloc (Nat.le_refl _) _
  have hp0 : Hid (Pk B W W1 (.slice ap np cp) L []) := hp.below hb0
  have hbx : W1.heap[W.heap.size]? = some (.cells #[.int .i64 7, .int .i64 i, .string s, .slice (some ⟨g, oo, none⟩) 1 cap] 24 (0, 0)) := by rw [← hW1]; exact heap_alloc_new W _
  have HX : Hid (W1.heap[W.heap.size]? = some (.cells #[.int .i64 7, .int .i64 i, .string s, .slice (some ⟨g, oo, none⟩) 1 cap] 24 (0, 0))) := hbx
  have hp1 := Pk.start hp0.out.own hp0.out.le hp0.out.nil
  obtain ⟨y0, y1, y2, y3⟩ := four_box hbx
  have hB : Below B W W1 := hb0.mono hp.le
  clear hp hbx
  have hkk := keepB hB
  have d0 := hkk.cell hg HD0.out.1
  have d1 := hkk.cell hg HD0.out.2.1
  have d2 := hkk.cell hg HD0.out.2.2.1
  have d3 := hkk.cell hg HD0.out.2.2.2
  clear hkk
  have hlen : L.length + (pr 12 y).length + 1 + s.size ≤ 100000000000 := by have := HL.out; simp only [List.length_append, List.length_cons, List.length_nil, size_list] at this; omega
  have cE : ∀ (w : World) (v : Value) (lits : List (Nat × List UInt8)), Pk B W1 w v L lits → Calls Tryd.prog 17 #[v, .agg #[v0, v1, v2, v3], .int .i64 12] w fun e w' => ∃ v', e = .returned v' ∧ Pk B W1 w' v' (L ++ pr 12 y) [] := fun w v lits hq => HAy.out.at HK0.out HT.out hB hq (by omega)
  go_enter Tryd.func28, Tryd.ntmps28
  go_wp2_with fail
  refine (cE _ _ _ hp1).mono ?_
  rintro e W2 ⟨v2, rfl, hq2⟩
  obtain ⟨a2, n2, c2, rfl⟩ := hq2.shape
  have HX2 := hq2.ty _ _ _ _ HX.out (by decide)
  clear y0 y1 y2 y3 d0 d1 d2 d3 cE hp1 hW1
  obtain ⟨y0, y1, y2, y3⟩ := four_box HX2
  have hq3 := hq2.lay [46] #[.int .u8 46] rfl
  have hlM : (L ++ pr 12 y).length + 1 + s.size ≤ 100000000000 := by simp only [List.length_append]; omega
  have HEQ : Hid (L ++ pr 12 y ++ [46] ++ s.data.toList = L ++ (pr 12 y ++ [46] ++ s.data.toList)) := by show _ = _; simp
  obtain ⟨M, hM⟩ : ∃ M, L ++ pr 12 y = M := ⟨_, rfl⟩
  rw [hM] at hq3 hlM HEQ
  clear hM hq2 hlen HX2
  go_wp2_with (first | (at_builtin; refine list_bytes rfl _ _ rfl hq3 rfl _ _ [46] rfl (by simp) (by simp only [List.length_cons, List.length_nil]; omega) ?_))
  intro v4 W4 hq4
  have hq5 := hq4.bare
  obtain ⟨a4, n4, c4, rfl⟩ := hq4.shape
  have HX4 := hq4.ty _ _ _ _ HX.out (by decide)
  clear y0 y1 y2 y3 hq4 hq3
  obtain ⟨y0, y1, y2, y3⟩ := four_box HX4
  clear HX4
  go_wp2_with (first | (at_builtin; refine list_text rfl _ _ rfl hq5 rfl s rfl (by simp only [List.length_append, List.length_cons, List.length_nil]; omega) ?_))
  intro v9 W9 hq9
  have hq9 : Pk B W1 W9 v9 (M ++ [46] ++ s.data.toList) [] := by simpa using hq9
  clear hq5
  have HP9 : Hid (Pk B W W9 v9 (L ++ (pr 12 y ++ [46] ++ s.data.toList)) []) := by show Pk B W W9 v9 _ []; rw [← HEQ.out]; exact hp0.out.trans hq9
  obtain ⟨a9, n9, c9, rfl⟩ := hq9.shape
  clear hq9
  go_wp2_with fail
  go_ret
  exact ⟨_, rfl, HP9.out⟩
set_option maxRecDepth 20000 in
set_option maxHeartbeats 3200000 in
theorem part_index {m : Nat} {y x : Ex} {i : Int} {s : ByteArray} (hy : Ap m 12 y) (hx : Ap m (-1) x) {B : Nat} {W : World} {v u : Value} {L : List UInt8} (hin : XBase.In false (fun b => b < B) W (m + 1) u (.mk 8 i s [y, x])) (hT : ∀ W', Below B W W' → Digits.Tab W') (hp : Pk B W W v L []) (hl : L.length + (pr 12 y ++ (91 :: pr (-1) x ++ [93])).length ≤ 100000000000) :
    Calls Tryd.prog 28 #[v, u] W fun e w' => ∃ v', e = .returned v' ∧ Pk B W w' v' (L ++ (pr 12 y ++ (91 :: pr (-1) x ++ [93]))) [] := by
  obtain ⟨m', lv, hm, hu, hoo, hi, hs, hL⟩ := hin.shape
  obtain rfl : m = m' := by omega
  have hL0 := hL
  obtain ⟨a, cap, rfl, hcap, hcap2, hLr⟩ := hL0
  obtain ⟨g, oo, v0, v1, v2, v3, rfl, hg, d0, d1, d2, d3, hk0⟩ := kid hL (j := 0) (by show 0 < 2; omega)
  have HK0 : Hid (XBase.In false (fun b => b < B) W m (.agg #[v0, v1, v2, v3]) y) := hk0
  have HD0 : Hid (W.cell? ⟨g, oo, none⟩ = some v0 ∧ W.cell? ⟨g, oo + 1, none⟩ = some v1 ∧ W.cell? ⟨g, oo + 2, none⟩ = some v2 ∧ W.cell? ⟨g, oo + 3, none⟩ = some v3) := ⟨by simpa [Nat.add_assoc] using d0, by simpa [Nat.add_assoc] using d1, by simpa [Nat.add_assoc] using d2, by simpa [Nat.add_assoc] using d3⟩
  clear hk0 d0 d1 d2 d3
  obtain ⟨g1, o1, p10, p11, p12, p13, E1, _, b10, b11, b12, b13, hk1⟩ := kid hL (j := 1) (by show 1 < 2; omega)
  cases E1
  have HK1 : Hid (XBase.In false (fun b => b < B) W m (.agg #[p10, p11, p12, p13]) x) := hk1
  have HD1 : Hid (W.cell? ⟨g, oo + 4, none⟩ = some p10 ∧ W.cell? ⟨g, oo + 5, none⟩ = some p11 ∧ W.cell? ⟨g, oo + 6, none⟩ = some p12 ∧ W.cell? ⟨g, oo + 7, none⟩ = some p13) := ⟨by simpa [Nat.add_assoc] using b10, by simpa [Nat.add_assoc] using b11, by simpa [Nat.add_assoc] using b12, by simpa [Nat.add_assoc] using b13⟩
  clear hk1 b10 b11 b12 b13
  have hcap : 2 ≤ cap := hcap
  have hu : u = .agg #[.int .i64 8, .int .i64 i, .string s, .slice (some ⟨g, oo, none⟩) 2 cap] := hu
  have hi : -9223372036854775808 ≤ i ∧ i ≤ 9223372036854775807 := hi
  have hs : s.size ≤ 140737488351232 := hs
  have HT : Hid (∀ W', Below B W W' → Digits.Tab W') := hT
  have HAy : Hid (Ap m 12 y) := hy
  clear hy
  have HAx : Hid (Ap m (-1) x) := hx
  clear hx
  have HL : Hid (L.length + (pr 12 y ++ (91 :: pr (-1) x ++ [93])).length ≤ 100000000000) := hl
  have hll : L.length ≤ 100000000000 := by omega
  have hsz := hp.le
  clear hin hT hLr hl hL hm
  subst hu
  obtain ⟨ap, np, cp, rfl⟩ := hp.shape
  obtain ⟨W1, hW1⟩ : ∃ W1, W.alloc (.cells #[.int .i64 8, .int .i64 i, .string s, .slice (some ⟨g, oo, none⟩) 2 cap] 24) = W1 := ⟨_, rfl⟩
  have hb0 : Below W.heap.size W W1 := by rw [← hW1]; exact (Below.refl _ W).alloc (Nat.le_refl _) _
  have hp0 : Hid (Pk B W W1 (.slice ap np cp) L []) := hp.below hb0
  have hbx : W1.heap[W.heap.size]? = some (.cells #[.int .i64 8, .int .i64 i, .string s, .slice (some ⟨g, oo, none⟩) 2 cap] 24 (0, 0)) := by rw [← hW1]; exact heap_alloc_new W _
  have HX : Hid (W1.heap[W.heap.size]? = some (.cells #[.int .i64 8, .int .i64 i, .string s, .slice (some ⟨g, oo, none⟩) 2 cap] 24 (0, 0))) := hbx
  have hp1 := Pk.start hp0.out.own hp0.out.le hp0.out.nil
  obtain ⟨y0, y1, y2, y3⟩ := four_box hbx
  have hB : Below B W W1 := hb0.mono hp.le
  clear hp hbx
  have hkk := keepB hB
  have d0 := hkk.cell hg HD0.out.1
  have d1 := hkk.cell hg HD0.out.2.1
  have d2 := hkk.cell hg HD0.out.2.2.1
  have d3 := hkk.cell hg HD0.out.2.2.2
  clear hkk
  have hlen : L.length + (pr 12 y).length + (pr (-1) x).length + 2 ≤ 100000000000 := by have := HL.out; simp only [List.length_append, List.length_cons, List.length_nil] at this; omega
  have cE : ∀ (w : World) (v : Value) (lits : List (Nat × List UInt8)), Pk B W1 w v L lits → Calls Tryd.prog 17 #[v, .agg #[v0, v1, v2, v3], .int .i64 12] w fun e w' => ∃ v', e = .returned v' ∧ Pk B W1 w' v' (L ++ pr 12 y) [] := fun w v lits hq => HAy.out.at HK0.out HT.out hB hq (by omega)
  go_enter Tryd.func28, Tryd.ntmps28
  go_wp2_with fail
  refine (cE _ _ _ hp1).mono ?_
  rintro e W2 ⟨v2, rfl, hq2⟩
  obtain ⟨a2, n2, c2, rfl⟩ := hq2.shape
  have HX2 := hq2.ty _ _ _ _ HX.out (by decide)
  clear y0 y1 y2 y3 d0 d1 d2 d3 cE hp1 hW1
  obtain ⟨y0, y1, y2, y3⟩ := four_box HX2
  have hkk := keepB (hB.trans hq2.bel)
  have b10 := hkk.cell hg HD1.out.1
  have b11 := hkk.cell hg HD1.out.2.1
  have b12 := hkk.cell hg HD1.out.2.2.1
  have b13 := hkk.cell hg HD1.out.2.2.2
  clear hkk
  have cB := bet HAx.out HK1.out HT.out hB hq2 (c1 := 91) (c2 := 93) (k1 := 91) (k2 := 93) rfl rfl (by simp only [List.length_append]; omega)
  have HEQ : Hid (L ++ pr 12 y ++ (91 :: pr (-1) x ++ [93]) = L ++ (pr 12 y ++ (91 :: pr (-1) x ++ [93]))) := by show _ = _; simp
  clear hq2 HX2 hlen
  go_wp2_with fail
  refine cB.mono ?_
  rintro e W9 ⟨v9, rfl, hq9⟩
  clear cB
  have HP9 : Hid (Pk B W W9 v9 (L ++ (pr 12 y ++ (91 :: pr (-1) x ++ [93]))) []) := by show Pk B W W9 v9 _ []; rw [← HEQ.out]; exact hp0.out.trans hq9
  obtain ⟨a9, n9, c9, rfl⟩ := hq9.shape
  clear hq9
  go_wp2_with fail
  go_ret
  exact ⟨_, rfl, HP9.out⟩
set_option maxRecDepth 20000 in
set_option maxHeartbeats 3200000 in
theorem part_call {m : Nat} {y : Ex} {i : Int} {s : ByteArray} (hi1 : 1 ≤ i) (hi8 : i ≤ 8) (hy : Ap m (-1) y) {B : Nat} {W : World} {v u : Value} {L : List UInt8} (hin : XBase.In false (fun b => b < B) W (m + 1) u (.mk 9 i s [y])) (hT : ∀ W', Below B W W' → Digits.Tab W') (hp : Pk B W W v L []) (hl : L.length + ((cll.getD i.toNat ByteArray.empty).data.toList ++ (40 :: pr (-1) y ++ [41])).length ≤ 100000000000) :
    Calls Tryd.prog 28 #[v, u] W fun e w' => ∃ v', e = .returned v' ∧ Pk B W w' v' (L ++ ((cll.getD i.toNat ByteArray.empty).data.toList ++ (40 :: pr (-1) y ++ [41]))) [] := by
  obtain ⟨m', lv, hm, hu, hoo, hi, hs, hL⟩ := hin.shape
  obtain rfl : m = m' := by omega
  have hL0 := hL
  obtain ⟨a, cap, rfl, hcap, hcap2, hLr⟩ := hL0
  obtain ⟨g, oo, v0, v1, v2, v3, rfl, hg, d0, d1, d2, d3, hk0⟩ := kid hL (j := 0) (by show 0 < 1; omega)
  have HK0 : Hid (XBase.In false (fun b => b < B) W m (.agg #[v0, v1, v2, v3]) y) := hk0
  have HD0 : Hid (W.cell? ⟨g, oo, none⟩ = some v0 ∧ W.cell? ⟨g, oo + 1, none⟩ = some v1 ∧ W.cell? ⟨g, oo + 2, none⟩ = some v2 ∧ W.cell? ⟨g, oo + 3, none⟩ = some v3) := ⟨by simpa [Nat.add_assoc] using d0, by simpa [Nat.add_assoc] using d1, by simpa [Nat.add_assoc] using d2, by simpa [Nat.add_assoc] using d3⟩
  clear hk0 d0 d1 d2 d3
  have hcap : 1 ≤ cap := hcap
  have hu : u = .agg #[.int .i64 9, .int .i64 i, .string s, .slice (some ⟨g, oo, none⟩) 1 cap] := hu
  have hi : -9223372036854775808 ≤ i ∧ i ≤ 9223372036854775807 := hi
  have hs : s.size ≤ 140737488351232 := hs
  have HT : Hid (∀ W', Below B W W' → Digits.Tab W') := hT
  have HAy : Hid (Ap m (-1) y) := hy
  clear hy
  have HL : Hid (L.length + ((cll.getD i.toNat ByteArray.empty).data.toList ++ (40 :: pr (-1) y ++ [41])).length ≤ 100000000000) := hl
  have hll : L.length ≤ 100000000000 := by omega
  have hsz := hp.le
  clear hin hT hLr hl hL hm
  subst hu
  obtain ⟨ap, np, cp, rfl⟩ := hp.shape
  obtain ⟨W1, hW1⟩ : ∃ W1, W.alloc (.cells #[.int .i64 9, .int .i64 i, .string s, .slice (some ⟨g, oo, none⟩) 1 cap] 24) = W1 := ⟨_, rfl⟩
  have hb0 : Below W.heap.size W W1 := by rw [← hW1]; exact (Below.refl _ W).alloc (Nat.le_refl _) _
  have hp0 : Hid (Pk B W W1 (.slice ap np cp) L []) := hp.below hb0
  have hbx : W1.heap[W.heap.size]? = some (.cells #[.int .i64 9, .int .i64 i, .string s, .slice (some ⟨g, oo, none⟩) 1 cap] 24 (0, 0)) := by rw [← hW1]; exact heap_alloc_new W _
  have HX : Hid (W1.heap[W.heap.size]? = some (.cells #[.int .i64 9, .int .i64 i, .string s, .slice (some ⟨g, oo, none⟩) 1 cap] 24 (0, 0))) := hbx
  have hp1 := Pk.start hp0.out.own hp0.out.le hp0.out.nil
  obtain ⟨y0, y1, y2, y3⟩ := four_box hbx
  have hB : Below B W W1 := hb0.mono hp.le
  clear hp hbx
  have hkk := keepB hB
  have d0 := hkk.cell hg HD0.out.1
  have d1 := hkk.cell hg HD0.out.2.1
  have d2 := hkk.cell hg HD0.out.2.2.1
  have d3 := hkk.cell hg HD0.out.2.2.2
  clear hkk
  obtain ⟨n, rfl⟩ : ∃ n : Nat, i = n := ⟨i.toNat, by omega⟩
  have HTN : Hid ((n : Int).toNat = n) := Int.toNat_natCast n
  rw [HTN.out] at HL ⊢
  have hlen : L.length + (cll.getD n ByteArray.empty).size + (pr (-1) y).length + 2 ≤ 100000000000 := by have := HL.out; simp only [List.length_append, List.length_cons, List.length_nil, size_list] at this; omega
  obtain ⟨X, hX⟩ : ∃ X, cll.getD n ByteArray.empty = X := ⟨_, rfl⟩
  have HXX : Hid (cll.getD n ByteArray.empty = X) := hX
  rw [hX] at hlen HL ⊢
  have HL2 : Hid (L.length + X.size + (pr (-1) y).length + 2 ≤ 100000000000) := hlen
  clear hX HTN hlen
  have hn0 : (0 : Int) ≤ (n : Int) := by omega
  have hn4 : (n : Int) < 9 := by omega
  go_enter Tryd.func28, Tryd.ntmps28
  have hq := hp1.drew
  go_wp2_with fail
  clear hW1 hp1
  refine wp_region_held_drew (S := fun w' => w'.cell? ⟨W.heap.size, 1, none⟩ = some (.int .i64 (n : Int))) (by kernel_rfl) (by go_keep) (fun hHeld => ?_)
  refine wpAnyH_take (i := 0) (v := ?_) rfl (by kernel_rfl) (by kernel_rfl) (by kernel_rfl) (fun _ _ _ h => h) (Or.inl ⟨by rfl, ?_⟩) (by assumption) ?_
  rotate_left 1
  · intro w hSw; (try dsimp only at hSw); go_simp; first | done | with_reducible rfl
  try simp only [Act.put, List.getElem_toArray, List.getElem_cons_zero, List.setIfInBounds_toArray, List.set_cons_zero, List.set_cons_succ]
  refine wpAnyH_take (i := 2) (v := ?_) rfl (by kernel_rfl) (by kernel_rfl) (by kernel_rfl) (fun _ _ _ h => h) (Or.inl ⟨by rfl, ?_⟩) (by assumption) ?_
  rotate_left 1
  · intro w hSw; (try dsimp only at hSw); go_simp; first | done | with_reducible rfl
  try simp only [Act.put, List.getElem_toArray, List.getElem_cons_zero, List.getElem_cons_succ, List.setIfInBounds_toArray, List.set_cons_zero, List.set_cons_succ]
  refine wpAnyH_take (i := 3) (v := ?_) rfl (by kernel_rfl) (by kernel_rfl) (by kernel_rfl) (fun _ _ _ h => h) (Or.inl ⟨by rfl, ?_⟩) (by assumption) ?_
  rotate_left 1
  · intro w hSw; (try dsimp only at hSw); go_simp; first | done | with_reducible rfl
  try simp only [Act.put, List.getElem_toArray, List.getElem_cons_zero, List.getElem_cons_succ, List.setIfInBounds_toArray, List.set_cons_zero, List.set_cons_succ]
  refine wpAnyH_ready (rs := [1]) (by kernel_rfl) (by simp) ?_
  refine AllReadyH.cons rfl (fun K hK => ?_) AllReadyH.nil
  go_simp
  go_at_call 41
  refine (calls_c _).mono ?_
  rintro e W2 ⟨rfl, b2, hc⟩
  have z0 : W2.cell? ⟨W1.heap.size, n, none⟩ = some (.string X) := (by have t := hc n (by show n < 9; omega); rw [Nat.zero_add, HXX.out] at t; exact t)
  have hq := hq.below b2
  have HX2 := hq.ty _ _ _ _ HX.out (by decide)
  clear y0 y1 y2 y3 hc
  obtain ⟨y0, y1, y2, y3⟩ := four_box HX2
  refine hK.out _ _ (by go_keep) (fun hHeld => ?_)
  clear hK K
  try simp only [Act.put, List.getElem_toArray, List.getElem_cons_zero, List.getElem_cons_succ, List.setIfInBounds_toArray, List.set_cons_zero, List.set_cons_succ]
  refine wpAnyH_ready (rs := [4]) (by kernel_rfl) (by simp) ?_
  refine AllReadyH.cons rfl (fun K hK => ?_) AllReadyH.nil
  go_simp
  refine hK.out _ _ (by go_keep) (fun hHeld => ?_)
  clear hK K
  try simp only [Act.put, List.getElem_toArray, List.getElem_cons_zero, List.getElem_cons_succ, List.setIfInBounds_toArray, List.set_cons_zero, List.set_cons_succ]
  refine wpAnyH_ready (rs := [5]) (by kernel_rfl) (by simp) ?_
  refine AllReadyH.cons rfl (fun K hK => ?_) AllReadyH.nil
  go_simp
  refine hK.out _ _ (by go_keep) (fun hHeld => ?_)
  clear hK K
  try simp only [Act.put, List.getElem_toArray, List.getElem_cons_zero, List.getElem_cons_succ, List.setIfInBounds_toArray, List.set_cons_zero, List.set_cons_succ]
  refine wpAnyH_ready (rs := [6]) (by kernel_rfl) (by simp) ?_
  refine AllReadyH.cons rfl (fun K hK => ?_) AllReadyH.nil
  refine step_text (by rfl) _ _ (by rfl) hq (by rfl) X (by rfl) (by have := HL2.out; omega) ?_
  clear hq
  intro v8 W8 hqq
  obtain ⟨a8, n8, c8, rfl⟩ := hqq.shape
  have HX8 := hqq.ty _ _ _ _ HX.out (by decide)
  clear y0 y1 y2 y3 HX2 z0
  obtain ⟨y0, y1, y2, y3⟩ := four_box HX8
  refine hK.out _ _ (by go_keep) (fun hHeld => ?_)
  clear hK K
  try simp only [Act.put, List.getElem_toArray, List.getElem_cons_zero, List.getElem_cons_succ, List.setIfInBounds_toArray, List.set_cons_zero, List.set_cons_succ]
  refine wpAnyH_take (i := 7) (v := ?_) rfl (by kernel_rfl) (by kernel_rfl) (by kernel_rfl) (fun _ _ _ h => h) (Or.inl ⟨by rfl, ?_⟩) (by assumption) ?_
  rotate_left 1
  · intro w hSw; (try dsimp only at hSw); go_simp; first | done | with_reducible rfl
  try simp only [Act.put, List.getElem_toArray, List.getElem_cons_zero, List.getElem_cons_succ, List.setIfInBounds_toArray, List.set_cons_zero]
  refine wpAnyH_done (by kernel_rfl) ?_ _
  clear hHeld d0 d1 d2 d3 HX8
  have hkk := keepB (hB.trans hqq.bel)
  have d0 := hkk.cell hg HD0.out.1
  have d1 := hkk.cell hg HD0.out.2.1
  have d2 := hkk.cell hg HD0.out.2.2.1
  have d3 := hkk.cell hg HD0.out.2.2.2
  clear hkk
  have cB := bet HAy.out HK0.out HT.out hB hqq (c1 := 40) (c2 := 41) (k1 := 40) (k2 := 41) rfl rfl (by have := HL2.out; simp only [List.length_append, size_list]; omega)
  have HEQ : Hid (L ++ X.data.toList ++ (40 :: pr (-1) y ++ [41]) = L ++ (X.data.toList ++ (40 :: pr (-1) y ++ [41]))) := by show _ = _; simp
  clear hqq
  go_wp2_with fail
  refine cB.mono ?_
  rintro e W9 ⟨v9, rfl, hq9⟩
  clear cB
  have HP9 : Hid (Pk B W W9 v9 (L ++ (X.data.toList ++ (40 :: pr (-1) y ++ [41]))) []) := by show Pk B W W9 v9 _ []; rw [← HEQ.out]; exact hp0.out.trans hq9
  obtain ⟨a9, n9, c9, rfl⟩ := hq9.shape
  clear hq9
  go_wp2_with fail
  go_ret
  exact ⟨_, rfl, HP9.out⟩
end Go.Proofs.YtnoohlmlpijhaaaDoor.PPb
namespace Go.Proofs.YtnoohlmlpijhaaaDoor.PPc
open Go.RowKit Go.Proofs.YtnoohlmlpijhaaaDoor.Base Go.Proofs.YtnoohlmlpijhaaaDoor.EPure Go.Proofs.YtnoohlmlpijhaaaDoor.ENd Go.Proofs.YtnoohlmlpijhaaaDoor.PPk Go.Proofs.YtnoohlmlpijhaaaDoor.PPl Go.Proofs.YtnoohlmlpijhaaaDoor.PPr Go.Proofs.YtnoohlmlpijhaaaDoor.PBt Go.Proofs.YtnoohlmlpijhaaaDoor.PSg Go.Proofs.YtnoohlmlpijhaaaDoor.PPa Go.Proofs.YtnoohlmlpijhaaaDoor.PPb
open Go.Proofs.YtnoohlmlpijhaaaDoor.PTx (qt)
open Go.Proofs.YtnoohlmlpijhaaaDoor.XBase (four_box two_box frozen_box Rg)
set_option linter.unusedVariables false
/-- A callee that appends R. -/
def Cl (k : Nat) (m : Nat) (x : Ex) (R : List UInt8) : Prop := ∀ (B : Nat) (W : World) (v u : Value) (L : List UInt8), XBase.In false (fun b => b < B) W m u x → (∀ W', Below B W W' → Digits.Tab W') → Pk B W W v L [] → L.length + R.length ≤ 100000000000 →
    Calls Tryd.prog k #[v, u] W fun e w' => ∃ v', e = .returned v' ∧ Pk B W w' v' (L ++ R) []
theorem lvl_ge (o : Int) : -1 ≤ lvl o := by unfold lvl; repeat' split
                                            all_goals omega
set_option maxRecDepth 20000 in
set_option maxHeartbeats 3200000 in
theorem expr_par {m : Nat} {x : Ex} {z : Int} (hr : 1 ≤ x.o ∧ x.o ≤ 31) (hz : lvl x.o < z) (hc : Ap m (-1) x) {B : Nat} {W : World} {v u : Value} {L : List UInt8} (hin : XBase.In false (fun b => b < B) W m u x) (hT : ∀ W', Below B W W' → Digits.Tab W') (hp : Pk B W W v L []) (hl : L.length + (40 :: pr (-1) x ++ [41]).length ≤ 100000000000) :
    Calls Tryd.prog 17 #[v, u, .int .i64 z] W fun e w' => ∃ v', e = .returned v' ∧ Pk B W w' v' (L ++ (40 :: pr (-1) x ++ [41])) [] := by
  obtain ⟨m', lv, rfl, hu, ho, hi, hs, hL⟩ := hin.shape
  obtain ⟨a, cap, rfl, hLr⟩ := hL
  have HIN : Hid (XBase.In false (fun b => b < B) W (m' + 1) u x) := hin
  have HT : Hid (∀ W', Below B W W' → Digits.Tab W') := hT
  have HL : Hid (L.length + (40 :: pr (-1) x ++ [41]).length ≤ 100000000000) := hl
  have HC : Hid (Ap (m' + 1) (-1) x) := hc
  clear hin hT hLr hl hc
  subst hu
  obtain ⟨ap, np, cp, rfl⟩ := hp.shape
  obtain ⟨W1, hW1⟩ : ∃ W1, W.alloc (.cells #[.int .i64 x.o, .int .i64 x.i, .string x.s, .slice a x.l.length cap] 24) = W1 := ⟨_, rfl⟩
  have hb0 : Below W.heap.size W W1 := by rw [← hW1]; exact (Below.refl _ W).alloc (Nat.le_refl _) _
  have hp0 : Hid (Pk B W W1 (.slice ap np cp) L []) := hp.below hb0
  have hbx : W1.heap[W.heap.size]? = some (.cells #[.int .i64 x.o, .int .i64 x.i, .string x.s, .slice a x.l.length cap] 24 (0, 0)) := by rw [← hW1]; exact heap_alloc_new W _
  have HX : Hid (W1.heap[W.heap.size]? = some (.cells #[.int .i64 x.o, .int .i64 x.i, .string x.s, .slice a x.l.length cap] 24 (0, 0))) := hbx
  have hp1 := Pk.start hp0.out.own hp0.out.le hp0.out.nil
  obtain ⟨y0, y1, y2, y3⟩ := four_box hbx
  have hB : Below B W W1 := hb0.mono hp.le
  have cP := placeOf_c hr.1 hr.2 W1
  have dz : decide (lvl x.o < z) = true := decide_eq_true hz
  clear hz
  generalize lvl x.o = lx at *
  generalize (⟨(sgo x.o).toArray⟩ : ByteArray) = sx at *
  clear hp hbx hr
  go_enter Tryd.func17, Tryd.ntmps17
  go_wp2_with fail
  refine cP.mono ?_
  rintro e W2 ⟨rfl, b2⟩
  have hq2 := hp1.below b2
  have HX2 := hq2.ty _ _ _ _ HX.out (by decide)
  clear y0 y1 y2 y3 cP hp1 hW1
  obtain ⟨y0, y1, y2, y3⟩ := four_box HX2
  have hB2 := hB.trans hq2.bel
  have c2 := between_c HC.out (c1 := 40) (c2 := 41) (k1 := 40) (k2 := 41) rfl rfl (HIN.out.keep (keepB hB2)) (fun W' hW => HT.out W' (hB2.trans hW)) (Pk.start hq2.own hq2.le hq2.nil) (by have := HL.out; simp only [List.length_append, List.length_cons, List.length_nil] at this; omega)
  clear HX2
  go_wp2_with fail
  refine c2.mono ?_
  rintro e W9 ⟨v9, rfl, hq9⟩
  have HP9 : Hid (Pk B W W9 v9 (L ++ (40 :: pr (-1) x ++ [41])) []) := by show Pk B W W9 v9 _ []; exact (hp0.out.trans hq2).trans hq9
  obtain ⟨a9, n9, c9, rfl⟩ := hq9.shape
  clear hq9 c2 hq2
  go_wp2_with fail
  go_ret
  exact ⟨_, rfl, HP9.out⟩
set_option maxRecDepth 20000 in
set_option maxHeartbeats 3200000 in
theorem expr_sign {m : Nat} {x : Ex} {z : Int} {R : List UInt8} (hr : 1 ≤ x.o ∧ x.o ≤ 31) (hz : ¬ lvl x.o < z) (hlv : lvl x.o = 11) (hc : Cl 27 m x R) {B : Nat} {W : World} {v u : Value} {L : List UInt8} (hin : XBase.In false (fun b => b < B) W m u x) (hT : ∀ W', Below B W W' → Digits.Tab W') (hp : Pk B W W v L []) (hl : L.length + (R).length ≤ 100000000000) :
    Calls Tryd.prog 17 #[v, u, .int .i64 z] W fun e w' => ∃ v', e = .returned v' ∧ Pk B W w' v' (L ++ (R)) [] := by
  obtain ⟨m', lv, rfl, hu, ho, hi, hs, hL⟩ := hin.shape
  obtain ⟨a, cap, rfl, hLr⟩ := hL
  have HIN : Hid (XBase.In false (fun b => b < B) W (m' + 1) u x) := hin
  have HT : Hid (∀ W', Below B W W' → Digits.Tab W') := hT
  have HL : Hid (L.length + (R).length ≤ 100000000000) := hl
  have HC : Hid (Cl 27 (m' + 1) x R) := hc
  clear hin hT hLr hl hc
  subst hu
  obtain ⟨ap, np, cp, rfl⟩ := hp.shape
  obtain ⟨W1, hW1⟩ : ∃ W1, W.alloc (.cells #[.int .i64 x.o, .int .i64 x.i, .string x.s, .slice a x.l.length cap] 24) = W1 := ⟨_, rfl⟩
  have hb0 : Below W.heap.size W W1 := by rw [← hW1]; exact (Below.refl _ W).alloc (Nat.le_refl _) _
  have hp0 : Hid (Pk B W W1 (.slice ap np cp) L []) := hp.below hb0
  have hbx : W1.heap[W.heap.size]? = some (.cells #[.int .i64 x.o, .int .i64 x.i, .string x.s, .slice a x.l.length cap] 24 (0, 0)) := by rw [← hW1]; exact heap_alloc_new W _
  have HX : Hid (W1.heap[W.heap.size]? = some (.cells #[.int .i64 x.o, .int .i64 x.i, .string x.s, .slice a x.l.length cap] 24 (0, 0))) := hbx
  have hp1 := Pk.start hp0.out.own hp0.out.le hp0.out.nil
  obtain ⟨y0, y1, y2, y3⟩ := four_box hbx
  have hB : Below B W W1 := hb0.mono hp.le
  have cP := placeOf_c hr.1 hr.2 W1
  rw [hlv] at cP hz
  have dz : decide ((11 : Int) < z) = false := decide_eq_false hz
  clear hz hlv
  generalize (⟨(sgo x.o).toArray⟩ : ByteArray) = sx at *
  clear hp hbx hr
  go_enter Tryd.func17, Tryd.ntmps17
  go_wp2_with fail
  refine cP.mono ?_
  rintro e W2 ⟨rfl, b2⟩
  have hq2 := hp1.below b2
  have HX2 := hq2.ty _ _ _ _ HX.out (by decide)
  clear y0 y1 y2 y3 cP hp1 hW1
  obtain ⟨y0, y1, y2, y3⟩ := four_box HX2
  have hB2 := hB.trans hq2.bel
  have c2 := HC.out B W2 _ _ L (HIN.out.keep (keepB hB2)) (fun W' hW => HT.out W' (hB2.trans hW)) (Pk.start hq2.own hq2.le hq2.nil) HL.out
  clear HX2
  go_wp2_with fail
  refine c2.mono ?_
  rintro e W9 ⟨v9, rfl, hq9⟩
  have HP9 : Hid (Pk B W W9 v9 (L ++ (R)) []) := by show Pk B W W9 v9 _ []; exact (hp0.out.trans hq2).trans hq9
  obtain ⟨a9, n9, c9, rfl⟩ := hq9.shape
  clear hq9 c2 hq2
  go_wp2_with fail
  go_ret
  exact ⟨_, rfl, HP9.out⟩
set_option maxRecDepth 20000 in
set_option maxHeartbeats 3200000 in
theorem expr_part {m : Nat} {x : Ex} {z : Int} {R : List UInt8} (hr : 1 ≤ x.o ∧ x.o ≤ 31) (hz : ¬ lvl x.o < z) (hlv : lvl x.o = 12) (hc : Cl 28 m x R) {B : Nat} {W : World} {v u : Value} {L : List UInt8} (hin : XBase.In false (fun b => b < B) W m u x) (hT : ∀ W', Below B W W' → Digits.Tab W') (hp : Pk B W W v L []) (hl : L.length + (R).length ≤ 100000000000) :
    Calls Tryd.prog 17 #[v, u, .int .i64 z] W fun e w' => ∃ v', e = .returned v' ∧ Pk B W w' v' (L ++ (R)) [] := by
  obtain ⟨m', lv, rfl, hu, ho, hi, hs, hL⟩ := hin.shape
  obtain ⟨a, cap, rfl, hLr⟩ := hL
  have HIN : Hid (XBase.In false (fun b => b < B) W (m' + 1) u x) := hin
  have HT : Hid (∀ W', Below B W W' → Digits.Tab W') := hT
  have HL : Hid (L.length + (R).length ≤ 100000000000) := hl
  have HC : Hid (Cl 28 (m' + 1) x R) := hc
  clear hin hT hLr hl hc
  subst hu
  obtain ⟨ap, np, cp, rfl⟩ := hp.shape
  obtain ⟨W1, hW1⟩ : ∃ W1, W.alloc (.cells #[.int .i64 x.o, .int .i64 x.i, .string x.s, .slice a x.l.length cap] 24) = W1 := ⟨_, rfl⟩
  have hb0 : Below W.heap.size W W1 := by rw [← hW1]; exact (Below.refl _ W).alloc (Nat.le_refl _) _
  have hp0 : Hid (Pk B W W1 (.slice ap np cp) L []) := hp.below hb0
  have hbx : W1.heap[W.heap.size]? = some (.cells #[.int .i64 x.o, .int .i64 x.i, .string x.s, .slice a x.l.length cap] 24 (0, 0)) := by rw [← hW1]; exact heap_alloc_new W _
  have HX : Hid (W1.heap[W.heap.size]? = some (.cells #[.int .i64 x.o, .int .i64 x.i, .string x.s, .slice a x.l.length cap] 24 (0, 0))) := hbx
  have hp1 := Pk.start hp0.out.own hp0.out.le hp0.out.nil
  obtain ⟨y0, y1, y2, y3⟩ := four_box hbx
  have hB : Below B W W1 := hb0.mono hp.le
  have cP := placeOf_c hr.1 hr.2 W1
  rw [hlv] at cP hz
  have dz : decide ((12 : Int) < z) = false := decide_eq_false hz
  clear hz hlv
  generalize (⟨(sgo x.o).toArray⟩ : ByteArray) = sx at *
  clear hp hbx hr
  go_enter Tryd.func17, Tryd.ntmps17
  go_wp2_with fail
  refine cP.mono ?_
  rintro e W2 ⟨rfl, b2⟩
  have hq2 := hp1.below b2
  have HX2 := hq2.ty _ _ _ _ HX.out (by decide)
  clear y0 y1 y2 y3 cP hp1 hW1
  obtain ⟨y0, y1, y2, y3⟩ := four_box HX2
  have hB2 := hB.trans hq2.bel
  have c2 := HC.out B W2 _ _ L (HIN.out.keep (keepB hB2)) (fun W' hW => HT.out W' (hB2.trans hW)) (Pk.start hq2.own hq2.le hq2.nil) HL.out
  clear HX2
  go_wp2_with fail
  refine c2.mono ?_
  rintro e W9 ⟨v9, rfl, hq9⟩
  have HP9 : Hid (Pk B W W9 v9 (L ++ (R)) []) := by show Pk B W W9 v9 _ []; exact (hp0.out.trans hq2).trans hq9
  obtain ⟨a9, n9, c9, rfl⟩ := hq9.shape
  clear hq9 c2 hq2
  go_wp2_with fail
  go_ret
  exact ⟨_, rfl, HP9.out⟩
end Go.Proofs.YtnoohlmlpijhaaaDoor.PPc
namespace Go.Proofs.YtnoohlmlpijhaaaDoor.PPd
open Go.RowKit Go.Proofs.YtnoohlmlpijhaaaDoor.Base Go.Proofs.YtnoohlmlpijhaaaDoor.EPure Go.Proofs.YtnoohlmlpijhaaaDoor.ENd Go.Proofs.YtnoohlmlpijhaaaDoor.PPk Go.Proofs.YtnoohlmlpijhaaaDoor.PPl Go.Proofs.YtnoohlmlpijhaaaDoor.PPr Go.Proofs.YtnoohlmlpijhaaaDoor.PBt Go.Proofs.YtnoohlmlpijhaaaDoor.PSg Go.Proofs.YtnoohlmlpijhaaaDoor.PPa Go.Proofs.YtnoohlmlpijhaaaDoor.PPb Go.Proofs.YtnoohlmlpijhaaaDoor.PPc
open Go.Proofs.YtnoohlmlpijhaaaDoor.PTx (qt)
open Go.Proofs.YtnoohlmlpijhaaaDoor.XBase (four_box two_box frozen_box Rg)
set_option linter.unusedVariables false
set_option maxRecDepth 20000 in
set_option maxHeartbeats 3200000 in
theorem expr_choice {m : Nat} {y x t : Ex} {i z : Int} {s : ByteArray} (hz : z ≤ -1) (hy : Ap m 0 y) (hx : Ap m (-1) x) (ht : Ap m (-1) t) {B : Nat} {W : World} {v u : Value} {L : List UInt8} (hin : XBase.In false (fun b => b < B) W (m + 1) u (.mk 31 i s [y, x, t])) (hT : ∀ W', Below B W W' → Digits.Tab W') (hp : Pk B W W v L []) (hl : L.length + (pr 0 y ++ [32, 63, 32] ++ pr (-1) x ++ [32, 58, 32] ++ pr (-1) t).length ≤ 100000000000) :
    Calls Tryd.prog 17 #[v, u, .int .i64 z] W fun e w' => ∃ v', e = .returned v' ∧ Pk B W w' v' (L ++ (pr 0 y ++ [32, 63, 32] ++ pr (-1) x ++ [32, 58, 32] ++ pr (-1) t)) [] := by
  obtain ⟨m', lv, hm, hu, hoo, hi, hs, hL⟩ := hin.shape
  obtain rfl : m = m' := by omega
  have hL0 := hL
  obtain ⟨a, cap, rfl, hcap, hcap2, hLr⟩ := hL0
  obtain ⟨g, oo, v0, v1, v2, v3, rfl, hg, d0, d1, d2, d3, hk0⟩ := kid hL (j := 0) (by show 0 < 3; omega)
  have HK0 : Hid (XBase.In false (fun b => b < B) W m (.agg #[v0, v1, v2, v3]) y) := hk0
  have HD0 : Hid (W.cell? ⟨g, oo, none⟩ = some v0 ∧ W.cell? ⟨g, oo + 1, none⟩ = some v1 ∧ W.cell? ⟨g, oo + 2, none⟩ = some v2 ∧ W.cell? ⟨g, oo + 3, none⟩ = some v3) := ⟨by simpa [Nat.add_assoc] using d0, by simpa [Nat.add_assoc] using d1, by simpa [Nat.add_assoc] using d2, by simpa [Nat.add_assoc] using d3⟩
  clear hk0 d0 d1 d2 d3
  obtain ⟨g1, o1, p10, p11, p12, p13, E1, _, b10, b11, b12, b13, hk1⟩ := kid hL (j := 1) (by show 1 < 3; omega)
  cases E1
  have HK1 : Hid (XBase.In false (fun b => b < B) W m (.agg #[p10, p11, p12, p13]) x) := hk1
  have HD1 : Hid (W.cell? ⟨g, oo + 4, none⟩ = some p10 ∧ W.cell? ⟨g, oo + 5, none⟩ = some p11 ∧ W.cell? ⟨g, oo + 6, none⟩ = some p12 ∧ W.cell? ⟨g, oo + 7, none⟩ = some p13) := ⟨by simpa [Nat.add_assoc] using b10, by simpa [Nat.add_assoc] using b11, by simpa [Nat.add_assoc] using b12, by simpa [Nat.add_assoc] using b13⟩
  clear hk1 b10 b11 b12 b13
  obtain ⟨g2, o2, p20, p21, p22, p23, E2, _, b20, b21, b22, b23, hk2⟩ := kid hL (j := 2) (by show 2 < 3; omega)
  cases E2
  have HK2 : Hid (XBase.In false (fun b => b < B) W m (.agg #[p20, p21, p22, p23]) t) := hk2
  have HD2 : Hid (W.cell? ⟨g, oo + 8, none⟩ = some p20 ∧ W.cell? ⟨g, oo + 9, none⟩ = some p21 ∧ W.cell? ⟨g, oo + 10, none⟩ = some p22 ∧ W.cell? ⟨g, oo + 11, none⟩ = some p23) := ⟨by simpa [Nat.add_assoc] using b20, by simpa [Nat.add_assoc] using b21, by simpa [Nat.add_assoc] using b22, by simpa [Nat.add_assoc] using b23⟩
  clear hk2 b20 b21 b22 b23
  have hcap : 3 ≤ cap := hcap
  have hu : u = .agg #[.int .i64 31, .int .i64 i, .string s, .slice (some ⟨g, oo, none⟩) 3 cap] := hu
  have hi : -9223372036854775808 ≤ i ∧ i ≤ 9223372036854775807 := hi
  have hs : s.size ≤ 140737488351232 := hs
  have HT : Hid (∀ W', Below B W W' → Digits.Tab W') := hT
  have HAy : Hid (Ap m 0 y) := hy
  clear hy
  have HAx : Hid (Ap m (-1) x) := hx
  clear hx
  have HAt : Hid (Ap m (-1) t) := ht
  clear ht
  have HL : Hid (L.length + (pr 0 y ++ [32, 63, 32] ++ pr (-1) x ++ [32, 58, 32] ++ pr (-1) t).length ≤ 100000000000) := hl
  have hll : L.length ≤ 100000000000 := by omega
  have hsz := hp.le
  clear hin hT hLr hl hL hm
  subst hu
  obtain ⟨ap, np, cp, rfl⟩ := hp.shape
  obtain ⟨W1, hW1⟩ : ∃ W1, W.alloc (.cells #[.int .i64 31, .int .i64 i, .string s, .slice (some ⟨g, oo, none⟩) 3 cap] 24) = W1 := ⟨_, rfl⟩
  have hb0 : Below W.heap.size W W1 := by rw [← hW1]; exact (Below.refl _ W).alloc (Nat.le_refl _) _
  have hp0 : Hid (Pk B W W1 (.slice ap np cp) L []) := hp.below hb0
  have hbx : W1.heap[W.heap.size]? = some (.cells #[.int .i64 31, .int .i64 i, .string s, .slice (some ⟨g, oo, none⟩) 3 cap] 24 (0, 0)) := by rw [← hW1]; exact heap_alloc_new W _
  have HX : Hid (W1.heap[W.heap.size]? = some (.cells #[.int .i64 31, .int .i64 i, .string s, .slice (some ⟨g, oo, none⟩) 3 cap] 24 (0, 0))) := hbx
  have hp1 := Pk.start hp0.out.own hp0.out.le hp0.out.nil
  obtain ⟨y0, y1, y2, y3⟩ := four_box hbx
  have hB : Below B W W1 := hb0.mono hp.le
  clear hp hbx
  have hkk := keepB hB
  have d0 := hkk.cell hg HD0.out.1
  have d1 := hkk.cell hg HD0.out.2.1
  have d2 := hkk.cell hg HD0.out.2.2.1
  have d3 := hkk.cell hg HD0.out.2.2.2
  clear hkk
  have hlen : L.length + (pr 0 y).length + (pr (-1) x).length + (pr (-1) t).length + 6 ≤ 100000000000 := by have := HL.out; simp only [List.length_append, List.length_cons, List.length_nil] at this; omega
  have cP : Calls Tryd.prog 25 #[.int .i64 31] W1 fun e w' => e = .returned (.tuple #[.int .i64 (-1), .string ⟨#[]⟩]) ∧ Below W1.heap.size W1 w' := placeOf_c (o := 31) (by omega) (by omega) W1
  have dz : decide ((-1 : Int) < z) = false := decide_eq_false (by omega)
  clear hz d0 d1 d2 d3
  go_enter Tryd.func17, Tryd.ntmps17
  go_wp2_with fail
  refine cP.mono ?_
  rintro e W2 ⟨rfl, b2⟩
  have hq2 := hp1.below b2
  have HX2 := hq2.ty _ _ _ _ HX.out (by decide)
  clear y0 y1 y2 y3 cP hp1 hW1
  obtain ⟨y0, y1, y2, y3⟩ := four_box HX2
  clear HX2
  have hkk := keepB (hB.trans hq2.bel)
  have d0 := hkk.cell hg HD0.out.1
  have d1 := hkk.cell hg HD0.out.2.1
  have d2 := hkk.cell hg HD0.out.2.2.1
  have d3 := hkk.cell hg HD0.out.2.2.2
  clear hkk
  have c2 := HAy.out.at HK0.out HT.out hB hq2 (by omega)
  go_wp2_with fail
  refine c2.mono ?_
  rintro e W3 ⟨v3', rfl, hq3⟩
  obtain ⟨a3, n3, c3, rfl⟩ := hq3.shape
  clear c2 hq2
  have HX3 := hq3.ty _ _ _ _ HX.out (by decide)
  clear y0 y1 y2 y3 d0 d1 d2 d3
  obtain ⟨y0, y1, y2, y3⟩ := four_box HX3
  clear HX3
  have HM1 : Hid ((L ++ pr 0 y).length + (pr (-1) x).length + (pr (-1) t).length + 6 ≤ 100000000000) := by show _ ≤ _; simp only [List.length_append]; omega
  have HEQ : Hid (L ++ pr 0 y ++ [32, 63, 32] ++ pr (-1) x ++ [32, 58, 32] ++ pr (-1) t = L ++ (pr 0 y ++ [32, 63, 32] ++ pr (-1) x ++ [32, 58, 32] ++ pr (-1) t)) := by show _ = _; simp
  obtain ⟨M1, hM1⟩ : ∃ M1, L ++ pr 0 y = M1 := ⟨_, rfl⟩
  rw [hM1] at hq3 HM1 HEQ
  clear hM1 hlen
  go_wp2_with (first | (at_builtin; refine list_text rfl _ _ rfl hq3 rfl ⟨#[32, 63, 32]⟩ rfl (by have := HM1.out; show M1.length + 3 ≤ _; omega) ?_))
  intro v4 W4 hq4
  obtain ⟨a4, n4, c4, rfl⟩ := hq4.shape
  clear hq3
  have HX4 := hq4.ty _ _ _ _ HX.out (by decide)
  clear y0 y1 y2 y3 
  obtain ⟨y0, y1, y2, y3⟩ := four_box HX4
  clear HX4
  have hkk := keepB (hB.trans hq4.bel)
  have b10 := hkk.cell hg HD1.out.1
  have b11 := hkk.cell hg HD1.out.2.1
  have b12 := hkk.cell hg HD1.out.2.2.1
  have b13 := hkk.cell hg HD1.out.2.2.2
  clear hkk
  have hq4 : Pk B W1 W4 (.slice a4 n4 c4) (M1 ++ [32, 63, 32]) [] := hq4
  have c4' := HAx.out.at HK1.out HT.out hB hq4 (by have := HM1.out; simp only [List.length_append, List.length_cons, List.length_nil]; omega)
  clear hq4
  go_wp2_with fail
  refine c4'.mono ?_
  rintro e W5 ⟨v5, rfl, hq5⟩
  obtain ⟨a5, n5, c5, rfl⟩ := hq5.shape
  clear c4'
  have HX5 := hq5.ty _ _ _ _ HX.out (by decide)
  clear y0 y1 y2 y3 b10 b11 b12 b13
  obtain ⟨y0, y1, y2, y3⟩ := four_box HX5
  clear HX5
  have HM2 : Hid ((M1 ++ [32, 63, 32] ++ pr (-1) x).length + (pr (-1) t).length + 3 ≤ 100000000000) := by have := HM1.out; show _ ≤ _; simp only [List.length_append, List.length_cons, List.length_nil]; omega
  obtain ⟨M2, hM2⟩ : ∃ M2, M1 ++ [32, 63, 32] ++ pr (-1) x = M2 := ⟨_, rfl⟩
  rw [hM2] at hq5 HM2 HEQ
  clear hM2
  go_wp2_with (first | (at_builtin; refine list_text rfl _ _ rfl hq5 rfl ⟨#[32, 58, 32]⟩ rfl (by have := HM2.out; show M2.length + 3 ≤ _; omega) ?_))
  intro v6 W6 hq6
  obtain ⟨a6, n6, c6, rfl⟩ := hq6.shape
  clear hq5
  have HX6 := hq6.ty _ _ _ _ HX.out (by decide)
  clear y0 y1 y2 y3 
  obtain ⟨y0, y1, y2, y3⟩ := four_box HX6
  clear HX6
  have hkk := keepB (hB.trans hq6.bel)
  have b20 := hkk.cell hg HD2.out.1
  have b21 := hkk.cell hg HD2.out.2.1
  have b22 := hkk.cell hg HD2.out.2.2.1
  have b23 := hkk.cell hg HD2.out.2.2.2
  clear hkk
  have hq6 : Pk B W1 W6 (.slice a6 n6 c6) (M2 ++ [32, 58, 32]) [] := hq6
  have c6' := HAt.out.at HK2.out HT.out hB hq6 (by have := HM2.out; simp only [List.length_append, List.length_cons, List.length_nil]; omega)
  clear hq6
  go_wp2_with fail
  refine c6'.mono ?_
  rintro e W9 ⟨v9, rfl, hq9⟩
  clear c6'
  have HP9 : Hid (Pk B W W9 v9 (L ++ (pr 0 y ++ [32, 63, 32] ++ pr (-1) x ++ [32, 58, 32] ++ pr (-1) t)) []) := by show Pk B W W9 v9 _ []; rw [← HEQ.out]; exact hp0.out.trans hq9
  obtain ⟨a9, n9, c9, rfl⟩ := hq9.shape
  clear hq9
  go_wp2_with fail
  go_ret
  exact ⟨_, rfl, HP9.out⟩
set_option maxRecDepth 20000 in
set_option maxHeartbeats 3200000 in
theorem expr_bin {m : Nat} {y x : Ex} {o i l z : Int} {sg : ByteArray} {s : ByteArray} (hr : 1 ≤ o ∧ o ≤ 31) (hlv : lvl o = l) (hsg : (⟨(sgo o).toArray⟩ : ByteArray) = sg) (hl0 : 0 ≤ l) (hl10 : l ≤ 10) (hz : ¬ l < z) (hy : Ap m l y) (hx : Ap m (l + 1) x) {B : Nat} {W : World} {v u : Value} {L : List UInt8} (hin : XBase.In false (fun b => b < B) W (m + 1) u (.mk o i s [y, x])) (hT : ∀ W', Below B W W' → Digits.Tab W') (hp : Pk B W W v L []) (hl : L.length + (pr l y ++ [32] ++ sg.data.toList ++ [32] ++ pr (l + 1) x).length ≤ 100000000000) :
    Calls Tryd.prog 17 #[v, u, .int .i64 z] W fun e w' => ∃ v', e = .returned v' ∧ Pk B W w' v' (L ++ (pr l y ++ [32] ++ sg.data.toList ++ [32] ++ pr (l + 1) x)) [] := by
  obtain ⟨m', lv, hm, hu, hoo, hi, hs, hL⟩ := hin.shape
  obtain rfl : m = m' := by omega
  have hL0 := hL
  obtain ⟨a, cap, rfl, hcap, hcap2, hLr⟩ := hL0
  obtain ⟨g, oo, v0, v1, v2, v3, rfl, hg, d0, d1, d2, d3, hk0⟩ := kid hL (j := 0) (by show 0 < 2; omega)
  have HK0 : Hid (XBase.In false (fun b => b < B) W m (.agg #[v0, v1, v2, v3]) y) := hk0
  have HD0 : Hid (W.cell? ⟨g, oo, none⟩ = some v0 ∧ W.cell? ⟨g, oo + 1, none⟩ = some v1 ∧ W.cell? ⟨g, oo + 2, none⟩ = some v2 ∧ W.cell? ⟨g, oo + 3, none⟩ = some v3) := ⟨by simpa [Nat.add_assoc] using d0, by simpa [Nat.add_assoc] using d1, by simpa [Nat.add_assoc] using d2, by simpa [Nat.add_assoc] using d3⟩
  clear hk0 d0 d1 d2 d3
  obtain ⟨g1, o1, p10, p11, p12, p13, E1, _, b10, b11, b12, b13, hk1⟩ := kid hL (j := 1) (by show 1 < 2; omega)
  cases E1
  have HK1 : Hid (XBase.In false (fun b => b < B) W m (.agg #[p10, p11, p12, p13]) x) := hk1
  have HD1 : Hid (W.cell? ⟨g, oo + 4, none⟩ = some p10 ∧ W.cell? ⟨g, oo + 5, none⟩ = some p11 ∧ W.cell? ⟨g, oo + 6, none⟩ = some p12 ∧ W.cell? ⟨g, oo + 7, none⟩ = some p13) := ⟨by simpa [Nat.add_assoc] using b10, by simpa [Nat.add_assoc] using b11, by simpa [Nat.add_assoc] using b12, by simpa [Nat.add_assoc] using b13⟩
  clear hk1 b10 b11 b12 b13
  have hcap : 2 ≤ cap := hcap
  have hu : u = .agg #[.int .i64 o, .int .i64 i, .string s, .slice (some ⟨g, oo, none⟩) 2 cap] := hu
  have hoo : -9223372036854775808 ≤ o ∧ o ≤ 9223372036854775807 := hoo
  have hi : -9223372036854775808 ≤ i ∧ i ≤ 9223372036854775807 := hi
  have hs : s.size ≤ 140737488351232 := hs
  have HT : Hid (∀ W', Below B W W' → Digits.Tab W') := hT
  have HAy : Hid (Ap m l y) := hy
  clear hy
  have HAx : Hid (Ap m (l + 1) x) := hx
  clear hx
  have HL : Hid (L.length + (pr l y ++ [32] ++ sg.data.toList ++ [32] ++ pr (l + 1) x).length ≤ 100000000000) := hl
  have hll : L.length ≤ 100000000000 := by omega
  have hsz := hp.le
  clear hin hT hLr hl hL hm
  subst hu
  obtain ⟨ap, np, cp, rfl⟩ := hp.shape
  obtain ⟨W1, hW1⟩ : ∃ W1, W.alloc (.cells #[.int .i64 o, .int .i64 i, .string s, .slice (some ⟨g, oo, none⟩) 2 cap] 24) = W1 := ⟨_, rfl⟩
  have hb0 : Below W.heap.size W W1 := by rw [← hW1]; exact (Below.refl _ W).alloc (Nat.le_refl _) _
  have hp0 : Hid (Pk B W W1 (.slice ap np cp) L []) := hp.below hb0
  have hbx : W1.heap[W.heap.size]? = some (.cells #[.int .i64 o, .int .i64 i, .string s, .slice (some ⟨g, oo, none⟩) 2 cap] 24 (0, 0)) := by rw [← hW1]; exact heap_alloc_new W _
  have HX : Hid (W1.heap[W.heap.size]? = some (.cells #[.int .i64 o, .int .i64 i, .string s, .slice (some ⟨g, oo, none⟩) 2 cap] 24 (0, 0))) := hbx
  have hp1 := Pk.start hp0.out.own hp0.out.le hp0.out.nil
  obtain ⟨y0, y1, y2, y3⟩ := four_box hbx
  have hB : Below B W W1 := hb0.mono hp.le
  clear hp hbx
  have hkk := keepB hB
  have d0 := hkk.cell hg HD0.out.1
  have d1 := hkk.cell hg HD0.out.2.1
  have d2 := hkk.cell hg HD0.out.2.2.1
  have d3 := hkk.cell hg HD0.out.2.2.2
  clear hkk
  have hlen : L.length + (pr l y).length + sg.size + (pr (l + 1) x).length + 2 ≤ 100000000000 := by have := HL.out; simp only [List.length_append, List.length_cons, List.length_nil, size_list] at this; omega
  have cP := placeOf_c hr.1 hr.2 W1
  rw [hlv, hsg] at cP
  have dz : decide (l < z) = false := decide_eq_false hz
  have e1 : (l == -1) = false := by simp; omega
  have e2 : (l == 11) = false := by simp; omega
  have e3 : (l == 12) = false := by simp; omega
  have hwr : IntKind.i64.wrap (l + 1) = l + 1 := by rw [IntKind.wrap_i64]; omega
  clear hz d0 d1 d2 d3 hlv hsg hr
  go_enter Tryd.func17, Tryd.ntmps17
  go_wp2_with fail
  refine cP.mono ?_
  rintro e W2 ⟨rfl, b2⟩
  have hq2 := hp1.below b2
  have HX2 := hq2.ty _ _ _ _ HX.out (by decide)
  clear y0 y1 y2 y3 cP hp1 hW1
  obtain ⟨y0, y1, y2, y3⟩ := four_box HX2
  clear HX2
  have hkk := keepB (hB.trans hq2.bel)
  have d0 := hkk.cell hg HD0.out.1
  have d1 := hkk.cell hg HD0.out.2.1
  have d2 := hkk.cell hg HD0.out.2.2.1
  have d3 := hkk.cell hg HD0.out.2.2.2
  clear hkk
  have c2 := HAy.out.at HK0.out HT.out hB hq2 (by omega)
  go_wp2_with fail
  refine c2.mono ?_
  rintro e W3 ⟨v3', rfl, hq3⟩
  obtain ⟨a3, n3, c3, rfl⟩ := hq3.shape
  clear c2 hq2
  have HX3 := hq3.ty _ _ _ _ HX.out (by decide)
  clear y0 y1 y2 y3 d0 d1 d2 d3
  obtain ⟨y0, y1, y2, y3⟩ := four_box HX3
  clear HX3
  have HM1 : Hid ((L ++ pr l y).length + sg.size + (pr (l + 1) x).length + 2 ≤ 100000000000) := by show _ ≤ _; simp only [List.length_append]; omega
  have HEQ : Hid (L ++ pr l y ++ [32] ++ sg.data.toList ++ [32] ++ pr (l + 1) x = L ++ (pr l y ++ [32] ++ sg.data.toList ++ [32] ++ pr (l + 1) x)) := by show _ = _; simp
  obtain ⟨M1, hM1⟩ : ∃ M1, L ++ pr l y = M1 := ⟨_, rfl⟩
  rw [hM1] at hq3 HM1 HEQ
  have hq3 := hq3.lay [32] #[.int .u8 32] rfl
  clear hM1 hlen
  go_wp2_with (first | (at_builtin; refine list_bytes rfl _ _ rfl hq3 rfl _ _ [32] rfl (by simp) (by have := HM1.out; simp only [List.length_cons, List.length_nil]; omega) ?_))
  intro v4 W4 hq4
  obtain ⟨a4, n4, c4, rfl⟩ := hq4.shape
  have hq4 := hq4.bare
  clear hq3
  have HX4 := hq4.ty _ _ _ _ HX.out (by decide)
  clear y0 y1 y2 y3 
  obtain ⟨y0, y1, y2, y3⟩ := four_box HX4
  clear HX4
  have hq4 : Pk B W1 W4 (.slice a4 n4 c4) (M1 ++ [32]) [] := hq4
  go_wp2_with (first | (at_builtin; refine list_text rfl _ _ rfl hq4 rfl sg rfl (by have := HM1.out; simp only [List.length_append, List.length_cons, List.length_nil]; omega) ?_))
  intro v5 W5 hq5
  have hq5 : Pk B W1 W5 v5 (M1 ++ [32] ++ sg.data.toList) [] := by simpa using hq5
  have HM2 : Hid ((M1 ++ [32] ++ sg.data.toList).length + (pr (l + 1) x).length + 1 ≤ 100000000000) := by have := HM1.out; show _ ≤ _; simp only [List.length_append, List.length_cons, List.length_nil, size_list]; omega
  obtain ⟨M2, hM2⟩ : ∃ M2, M1 ++ [32] ++ sg.data.toList = M2 := ⟨_, rfl⟩
  rw [hM2] at hq5 HM2 HEQ
  obtain ⟨a5, n5, c5, rfl⟩ := hq5.shape
  clear hM2 hq4
  have HX5 := hq5.ty _ _ _ _ HX.out (by decide)
  clear y0 y1 y2 y3 
  obtain ⟨y0, y1, y2, y3⟩ := four_box HX5
  clear HX5
  have hq6 := hq5.lay [32] #[.int .u8 32] rfl
  clear hq5
  go_wp2_with (first | (at_builtin; refine list_bytes rfl _ _ rfl hq6 rfl _ _ [32] rfl (by simp) (by have := HM2.out; simp only [List.length_cons, List.length_nil]; omega) ?_))
  intro v7 W7 hq7
  obtain ⟨a7, n7, c7, rfl⟩ := hq7.shape
  have hq7 := hq7.bare
  clear hq6
  have HX7 := hq7.ty _ _ _ _ HX.out (by decide)
  clear y0 y1 y2 y3 
  obtain ⟨y0, y1, y2, y3⟩ := four_box HX7
  clear HX7
  have hkk := keepB (hB.trans hq7.bel)
  have b10 := hkk.cell hg HD1.out.1
  have b11 := hkk.cell hg HD1.out.2.1
  have b12 := hkk.cell hg HD1.out.2.2.1
  have b13 := hkk.cell hg HD1.out.2.2.2
  clear hkk
  have hq7 : Pk B W1 W7 (.slice a7 n7 c7) (M2 ++ [32]) [] := hq7
  have c7' := HAx.out.at HK1.out HT.out hB hq7 (by have := HM2.out; simp only [List.length_append, List.length_cons, List.length_nil]; omega)
  clear hq7
  go_wp2_with fail
  refine c7'.mono ?_
  rintro e W9 ⟨v9, rfl, hq9⟩
  clear c7'
  have HP9 : Hid (Pk B W W9 v9 (L ++ (pr l y ++ [32] ++ sg.data.toList ++ [32] ++ pr (l + 1) x)) []) := by show Pk B W W9 v9 _ []; rw [← HEQ.out]; exact hp0.out.trans hq9
  obtain ⟨a9, n9, c9, rfl⟩ := hq9.shape
  clear hq9
  go_wp2_with fail
  go_ret
  exact ⟨_, rfl, HP9.out⟩
end Go.Proofs.YtnoohlmlpijhaaaDoor.PPd

import Derived.LoopTactic
import Derived.Maps.OwnSet
import Derived.Maps.Views
import Derived.StringKeys
import Derived.Test.YtdeigdbnnbikgaaGreatDoorPL33
set_option linter.unusedVariables false
namespace Go.Proofs.YtdeigdbnnbikgaaGreatDoor.VMp
open Go.RowKit Go.Maps Base EPure VPure VSm VIn VJn VRs VVr
/-- A name and what it is bound to. -/
abbrev Bn := ByteArray × C
/-- The last value that a name is bound to. -/
def rho (bs : List Bn) (s : ByteArray) : Option C := bs.foldl (fun acc b => if b.1 = s then some b.2 else acc) none
theorem rho_nil (s : ByteArray) : rho [] s = none := rfl
theorem rho_snoc (bs : List Bn) (b : Bn) (s : ByteArray) : rho (bs ++ [b]) s = if b.1 = s then some b.2 else rho bs s := by
 unfold rho
 rw [List.foldl_append]
 rfl
/-- What a map knows a name by. -/
abbrev ky (s : ByteArray) : Lit := .string s.data.toList
theorem ky_inj {s t : ByteArray} (h : ky s = ky t) : s = t := by
 injection h with h
 have : s.data = t.data := by rw [← Array.toArray_toList (xs := s.data), ← Array.toArray_toList (xs := t.data), h]
 cases s
 cases t
 simp at this
 rw [this]
theorem keyed : Keyed Tryz.prog 9 := string_keyed Tryz.underlying9
theorem key_of {s : ByteArray} (h : s.size ≤ 140737488351232) : keyOf Tryz.prog 9 (.string s) = some (ky s) := Go.WideMaps.keyOf_string_mk Tryz.underlying9 (by unfold maxLen; omega)
structure Mb {H : Type} (D : DataW H) (bs : List Bn) : Prop where
 tidy : Tidy D
 no : ∀ s, s.size ≤ 140737488351232 → rho bs s = none → Maps.has D (ky s) = false
 yes : ∀ s c, s.size ≤ 140737488351232 → rho bs s = some c → ∃ j, ∃ h : j < bs.length, bs[j].2 = c ∧ Maps.has D (ky s) = true ∧ ∀ z, D.atKey (ky s) z = .lit (.int .i64 (j : Nat))
theorem Mb.nil {H : Type} : Mb (.map [] : DataW H) [] := ⟨tidy_empty, fun s _ _ => by simp [Maps.has], fun s c _ h => by rw [rho_nil] at h; cases h⟩
theorem Mb.put {H : Type} {D : DataW H} {bs : List Bn} (h : Mb D bs) {b : Bn} (hb : b.1.size ≤ 140737488351232) : Mb (D.put (ky b.1) (.lit (.int .i64 (bs.length : Nat)))) (bs ++ [b]) := by
 have hk := keyed.key (key_of hb)
 refine ⟨h.tidy.put hk _, fun s hs hr => ?_, fun s c hs hr => ?_⟩
 ·rw [rho_snoc] at hr
  by_cases e : b.1 = s
  ·rw [if_pos e] at hr; cases hr
  ·rw [if_neg e] at hr
   rw [has_put_other (fun e2 => e (ky_inj e2).symm)]
   exact h.no s hs hr
 ·rw [rho_snoc] at hr
  by_cases e : b.1 = s
  ·rw [if_pos e] at hr
   injection hr with hr
   refine ⟨bs.length, by simp, by simp [hr], ?_, fun z => ?_⟩
   ·rw [← e, has_put_same h.tidy.isMap hk]
   ·rw [← e, atKey_put_same h.tidy.isMap hk]
  ·rw [if_neg e] at hr
   obtain ⟨j, hj, e1, e2, e3⟩ := h.yes s c hs hr
   refine ⟨j, by simp; omega, by rw [List.getElem_append_left hj]; exact e1, ?_, fun z => ?_⟩
   ·rw [has_put_other (fun e2 => e (ky_inj e2).symm)]; exact e2
   ·rw [atKey_put_other (fun e2 => e (ky_inj e2).symm)]; exact e3 z
/-- A row of names bound, below K: seven cells each. -/
def Bl (K m : Nat) (w : World) (v : Value) (bs : List Bn) : Prop :=
 ∃ a cap, v = .slice a bs.length cap ∧ bs.length ≤ cap ∧ cap ≤ 9223372036854775807 ∧ (a = none → cap = 0) ∧ bs.length ≤ 4398046511104 ∧ (∀ b ∈ bs, b.1.size ≤ 140737488351232) ∧ (bs = [] ∨ ∃ g o, a = some ⟨g, o, none⟩ ∧ g < K ∧
  ∀ j (h : j < bs.length), ∃ an ln cn al ll cl, w.cell? ⟨g, o + j * 7, none⟩ = some (.string bs[j].1) ∧ w.cell? ⟨g, o + j * 7 + 1, none⟩ = some (.int .i64 bs[j].2.k) ∧ w.cell? ⟨g, o + j * 7 + 2, none⟩ = some (.bool bs[j].2.b) ∧ w.cell? ⟨g, o + j * 7 + 3, none⟩ = some (.int .i64 bs[j].2.i) ∧
   w.cell? ⟨g, o + j * 7 + 4, none⟩ = some (.string bs[j].2.s) ∧ w.cell? ⟨g, o + j * 7 + 5, none⟩ = some (.slice an ln cn) ∧ w.cell? ⟨g, o + j * 7 + 6, none⟩ = some (.slice al ll cl) ∧ Base.In false (fun b => b < K) w m (vl bs[j].2.k bs[j].2.b bs[j].2.i bs[j].2.s (.slice an ln cn) (.slice al ll cl)) bs[j].2)
theorem Bl.low {K m : Nat} {w w' : World} {v : Value} {bs : List Bn} (h : Bl K m w v bs) (hb : Below K w w') : Bl K m w' v bs := by
 obtain ⟨a, cap, h1, h2, h3, h4, h5, h6, h7⟩ := h
 refine ⟨a, cap, h1, h2, h3, h4, h5, h6, ?_⟩
 rcases h7 with h7 | ⟨g, o, e, hg, hc⟩
 ·exact .inl h7
 ·refine .inr ⟨g, o, e, hg, fun j hj => ?_⟩
  obtain ⟨an, ln, cn, al, ll, cl, c0, c1, c2, c3, c4, c5, c6, hin⟩ := hc j hj
  have kw : ∀ (q : Nat) (v : Value), w.cell? ⟨g, q, none⟩ = some v → w'.cell? ⟨g, q, none⟩ = some v := fun q v h => (World.cell?_of_block (w := w) (hb.block g hg)).trans h
  exact ⟨an, ln, cn, al, ll, cl, kw _ _ c0, kw _ _ c1, kw _ _ c2, kw _ _ c3, kw _ _ c4, kw _ _ c5, kw _ _ c6, in_low hin hb⟩
theorem wf_nat {n : Nat} (h : n ≤ 4398046511104) : (Lit.int .i64 (n : Int)).wf = true := by
 simp [Lit.wf, IntKind.min, IntKind.max, IntKind.signed, IntKind.bits]
 omega
theorem make_map (n : Nat) (w : World) : (Instr.makeMap 68 (some (.int .i64 n))).run Tryz.prog w = .ok (.map (some w.heap.size)) (w.alloc (.map #[] 0)) := by
 simp [Instr.makeMap, go_sem]
set_option maxRecDepth 20000 in
set_option maxHeartbeats 1600000 in
theorem places_c {K m : Nat} {w : World} {v : Value} {bs : List Bn} (hv : Bl K m w v bs) (hK : K ≤ w.heap.size) :
  Calls Tryz.prog 46 #[v] w fun e w' => e = .returned (.map (some w.heap.size)) ∧ (∃ D : DataW Unit, w'.ownsMap Tryz.prog 9 (plainElem Tryz.prog 3) w.heap.size bs.length D ∧ Mb D bs) ∧ Below w.heap.size w w' := by
 obtain ⟨a, cap, rfl, hl, hm, hnil, hlen, hok, hL⟩ := hv
 obtain ⟨n, hnn⟩ : ∃ n, bs.length = n := ⟨_, rfl⟩
 rw [hnn] at hl hlen ⊢
 have hmk := make_map n
 have hm0 := World.ownsMap_made w Tryz.prog 9 (plainElem (H := Unit) Tryz.prog 3)
 have hb0 : Below w.heap.size w (w.alloc (.map #[] 0)) := (Below.refl _ w).alloc (Nat.le_refl _) _
 have hs0 : (w.alloc (.map #[] 0)).heap.size = w.heap.size + 1 := by simp
 have HK : Hid (K ≤ w.heap.size) := hK
 clear hK
 go_enter Tryz.func46, Tryz.ntmps46
 go_wp2_with fail
 generalize w.alloc (.map #[] 0) = w0 at *
 go_loopw [11] (fun i wr => ∃ q : Nat, i = .int .i64 q ∧ q ≤ n ∧ (∃ D : DataW Unit, wr.ownsMap Tryz.prog 9 (plainElem Tryz.prog 3) w.heap.size q D ∧ Mb D (bs.take q)) ∧ Below w.heap.size w wr ∧ w.heap.size + 1 ≤ wr.heap.size) (fun i _ => n - (intOf i).toNat)
 case atStart => exact ⟨0, rfl, by omega, ⟨_, hm0, by rw [List.take_zero]; exact Mb.nil⟩, hb0, by omega⟩
 case round =>
  obtain ⟨q, rfl, hq, ⟨D, hown, hD⟩, hb, hsz⟩ := hrel
  by_cases hlt : q < n
  ·rcases hL with rfl | ⟨g, o, rfl, hg, hc⟩
   ·simp at hnn; omega
   ·obtain ⟨an, ln, cn, al, ll, cl, c0, c1, c2, c3, c4, c5, c6, -⟩ := hc q (by omega)
    have kw : ∀ (q : Nat) (v : Value), w.cell? ⟨g, q, none⟩ = some v → wr.cell? ⟨g, q, none⟩ = some v := fun q v h => (World.cell?_of_block (w := w) (hb.block g (Nat.lt_of_lt_of_le hg HK.out))).trans h
    replace c0 := kw _ _ c0
    replace c1 := kw _ _ c1
    replace c2 := kw _ _ c2
    replace c3 := kw _ _ c3
    replace c4 := kw _ _ c4
    replace c5 := kw _ _ c5
    replace c6 := kw _ _ c6
    have hx := hok bs[q] (List.getElem_mem _)
    have hput := hD.put hx
    rw [List.length_take, show min q bs.length = q by omega, ← List.take_succ_eq_append_getElem] at hput
    have HM : Hid (Mb (D.put (ky bs[q].1) (.lit (.int .i64 (q : Nat)))) (bs.take (q + 1))) := hput
    have hkey := key_of hx
    have hwf := wf_nat (n := q) (by omega)
    generalize bs[q].2.k = vk at *
    generalize bs[q].2.b = vb at *
    generalize bs[q].2.i = vi at *
    generalize bs[q].2.s = vs at *
    generalize bs[q].1 = nm at *
    clear hc hok hput hx hD kw
    go_wp2_with (first
     | (at_mapUpdate; refine wpList_mapUpdate_own _ rfl _ _ _ 68 rfl 9 3 keyed Tryz.underlying68 (plainElem Tryz.prog 3) w.heap.size q D rfl (hown.alloc _) (by simp [maxLen]; omega) _ _ _ rfl rfl hkey (.lit (.int .i64 (q : Nat))) [] (plainElem_int Tryz.underlying3 hwf) ?_; intro w2 hown2 hg2))
    go_roundw
    case rel => exact ⟨q + 1, by go_num, by omega, ⟨_, hown2, HM.out⟩, (hb.alloc hb.size _).grown hg2 (by simp; omega) (fun k e => by cases e; exact Nat.le_refl _), by have := hg2.size; simp at this; omega⟩
    case measure => simp only [intOf]; omega
  ·obtain rfl : q = n := by omega
   have hnlt : decide ((q : Int) < (q : Int)) = false := by simp
   rw [← hnn, List.take_length] at hD
   have HD : Hid (Mb D bs) := hD
   have HO : Hid (wr.ownsMap Tryz.prog 9 (plainElem Tryz.prog 3) w.heap.size q D) := hown
   clear hL hok hD hown
   go_wp2_with fail
   go_ret
   exact ⟨rfl, ⟨D, HO.out, HD.out⟩, hb⟩
end Go.Proofs.YtdeigdbnnbikgaaGreatDoor.VMp
namespace Go.Proofs.YtdeigdbnnbikgaaGreatDoor.VBd
open Go.RowKit Go.Maps Base EPure VPure VSm VIn VJn VRs VVr VMp
theorem own_map_below {w w' : World} {b n : Nat} {D : DataW Unit} (h : w.ownsMap Tryz.prog 9 (plainElem Tryz.prog 3) b n D) (hb : Below w.heap.size w w') (hl : b < w.heap.size) : w'.ownsMap Tryz.prog 9 (plainElem Tryz.prog 3) b n D := by
 obtain ⟨es, c, h1, h2⟩ := h
 exact ⟨es, c, (hb.block b hl).trans h1, h2⟩
set_option maxRecDepth 20000 in
set_option maxHeartbeats 1600000 in
theorem bound_c {K m : Nat} {w : World} {Mq Eb M n : Nat} {D : DataW Unit} {v : Value} {bs : List Bn} (hM : w.heap[Mq]? = some (.cells #[.map (some M)] 68 (0, 0))) (hE : w.heap[Eb]? = some (.cells #[v] 25 (0, 0))) (hMl : M < w.heap.size) (hown : w.ownsMap Tryz.prog 9 (plainElem Tryz.prog 3) M n D) (hD : Mb D bs)
  (hv : Bl K m w v bs) (hK : K ≤ w.heap.size) : Bd K m w Mq Eb (rho bs) := by
 intro W hW o i s lv hs
 have hMw := (Array.getElem?_eq_some_iff.1 hM).1
 have hEw := (Array.getElem?_eq_some_iff.1 hE).1
 have hz3 : ∀ w, (zeroValue 3).run Tryz.prog w = .ok (.int .i64 0) w := Tryz.zeroValue3
 obtain ⟨W0, hW0⟩ : ∃ W0, (W.alloc (.cells #[.int .i64 o, .int .i64 i, .string s, lv] 24)).alloc (.cells #[.int .i64 0, .bool false, .int .i64 0, .string ⟨#[]⟩, .slice none 0 0, .slice none 0 0] 32) = W0 := ⟨_, rfl⟩
 have hs0 : W0.heap.size = W.heap.size + 2 := by rw [← hW0]; simp
 have hb0 : Below W.heap.size W W0 := by rw [← hW0]; exact ((Below.refl _ W).alloc (Nat.le_refl _) _).alloc (by simp) _
 have hx : W0.heap[W.heap.size]? = some (.cells #[.int .i64 o, .int .i64 i, .string s, lv] 24 (0, 0)) := by rw [← hW0, Below.heap_alloc _ _ _ (by simp), heap_alloc_new]
 have hr : W0.heap[W.heap.size + 1]? = some (.cells #[.int .i64 0, .bool false, .int .i64 0, .string ⟨#[]⟩, .slice none 0 0, .slice none 0 0] 32 (0, 0)) := by
  have := heap_alloc_new (W.alloc (.cells #[.int .i64 o, .int .i64 i, .string s, lv] 24)) (.cells #[.int .i64 0, .bool false, .int .i64 0, .string ⟨#[]⟩, .slice none 0 0, .slice none 0 0] 32)
  rw [World.size_alloc, hW0] at this
  exact this
 have hwW := hW.size
 have hbW0 : Below w.heap.size w W0 := hW.trans (hb0.mono hW.size)
 have hM0 : W0.cell? ⟨Mq, 0, none⟩ = some (.map (some M)) := by have := (hbW0.block Mq hMw).trans hM; simp [World.cell?, this]
 have hE0 : W0.cell? ⟨Eb, 0, none⟩ = some v := by have := (hbW0.block Eb hEw).trans hE; simp [World.cell?, this]
 obtain ⟨x0, x1, x2, x3⟩ := XBase.four_box hx
 have hown0 := own_map_below hown hbW0 hMl
 have hv0 := hv.low (hbW0.mono hK)
 have hkey := key_of hs
 have HR : Hid (W0.heap[W.heap.size + 1]? = some (.cells #[.int .i64 0, .bool false, .int .i64 0, .string ⟨#[]⟩, .slice none 0 0, .slice none 0 0] 32 (0, 0))) := hr
 have HB : Hid (Below W.heap.size W W0) := hb0
 obtain ⟨r0, r1, r2, r3, r4, r5⟩ := six_box hr
 have rf0 := frozen_box hr 0
 have rf1 := frozen_box hr 1
 have rf2 := frozen_box hr 2
 have rf3 := frozen_box hr 3
 have rf4 := frozen_box hr 4
 have rf5 := frozen_box hr 5
 cases hρ : rho bs s with
 | none =>
  have hhas := hD.no s hs hρ
  clear hx hr hb0 hbW0 hM hE hown hD hv hv0 hρ hE0
  obtain ⟨W9, hW9⟩ : ∃ W9, ((((((W0.setCell ⟨W.heap.size + 1, 0, none⟩ (.int .i64 0)).setCell ⟨W.heap.size + 1, 1, none⟩ (.bool false)).setCell ⟨W.heap.size + 1, 2, none⟩ (.int .i64 0)).setCell ⟨W.heap.size + 1, 3, none⟩ (.string ⟨#[]⟩)).setCell ⟨W.heap.size + 1, 4, none⟩ (.slice none 0 0)).setCell ⟨W.heap.size + 1, 5, none⟩ (.slice none 0 0)) = W9 := ⟨_, rfl⟩
  obtain ⟨q1, q2, q3, q4⟩ := set6 _ _ _ _ _ _ HR.out hW9
  obtain ⟨y0, y1, y2, y3, y4, y5⟩ := six_box q1
  have HQ : Hid (Below W.heap.size W W9) := q4 _ _ (by omega) HB.out
  clear q1 q2 q3 q4
  go_enter Tryz.func48, Tryz.ntmps48
  go_wp2_with (first | (at_lookup; refine wpList_lookup_own_ok_int _ rfl _ _ 68 rfl 9 3 .i64 keyed Tryz.underlying68 Tryz.underlying3 (hz3 _) M n D rfl hown0 _ _ rfl hkey ?_; intro cc hat hwc; rw [hhas]; clear hat))
  refine bodyPost_ret (v := .tuple #[vl 0 false 0 ⟨#[]⟩ (.slice none 0 0) (.slice none 0 0), .bool false]) (by simp [results, Tryz.results48, go_sem, y0, y1, y2, y3, y4, y5]) rfl ?_
  exact ⟨HQ.out, 0, false, 0, ⟨#[]⟩, none, 0, 0, none, 0, 0, rfl, fun c h => by cases h⟩
 | some c =>
  obtain ⟨j, hj, hjc, hhas, hat0⟩ := hD.yes s c hs hρ
  obtain ⟨a, cap, rfl, hl, hm, hnil, hlen, hok, hL⟩ := hv0
  rcases hL with h | ⟨g, o', rfl, hg, hc⟩
  ·subst h; simp at hj
  obtain ⟨an, ln, cn, al, ll, cl, c0, c1, c2, c3, c4, c5, c6, hin⟩ := hc j hj
  rw [hjc] at c1 c2 c3 c4 hin
  have b1 : (0 : Int) ≤ (j : Int) := by omega
  have b2 : (j : Int) < (bs.length : Int) := by omega
  have b3 : decide ((j : Int) < (bs.length : Int)) = true := decide_eq_true b2
  obtain ⟨W9, hW9⟩ : ∃ W9, ((((((W0.setCell ⟨W.heap.size + 1, 0, none⟩ (.int .i64 c.k)).setCell ⟨W.heap.size + 1, 1, none⟩ (.bool c.b)).setCell ⟨W.heap.size + 1, 2, none⟩ (.int .i64 c.i)).setCell ⟨W.heap.size + 1, 3, none⟩ (.string c.s)).setCell ⟨W.heap.size + 1, 4, none⟩ (.slice an ln cn)).setCell ⟨W.heap.size + 1, 5, none⟩ (.slice al ll cl)) = W9 := ⟨_, rfl⟩
  obtain ⟨q1, q2, q3, q4⟩ := set6 _ _ _ _ _ _ HR.out hW9
  obtain ⟨y0, y1, y2, y3, y4, y5⟩ := six_box q1
  have HQ : Hid (Below W.heap.size W W9) := q4 _ _ (by omega) HB.out
  have HI : Hid (Base.In false (fun b => b < K) W9 m (vl c.k c.b c.i c.s (.slice an ln cn) (.slice al ll cl)) c) := in_low hin (q4 _ _ (by omega) (Below.refl _ _))
  have HAT : Hid (∀ z : DataW Unit, D.atKey (ky s) z = .lit (.int .i64 (j : Nat))) := hat0
  clear hx hr hb0 hbW0 hM hE hown hD hv hρ hat0 hc hok hin hjc q1 q2 q3 q4 c0
  go_enter Tryz.func48, Tryz.ntmps48
  go_wp2_with (first | (at_lookup; refine wpList_lookup_own_ok_int _ rfl _ _ 68 rfl 9 3 .i64 keyed Tryz.underlying68 Tryz.underlying3 (hz3 _) M n D rfl hown0 _ _ rfl hkey ?_; intro cc hat hwc; rw [hhas]; obtain rfl : cc = (j : Int) := (by rw [HAT.out] at hat; simp at hat; exact hat.symm); clear hat))
  refine bodyPost_ret (v := .tuple #[vl c.k c.b c.i c.s (.slice an ln cn) (.slice al ll cl), .bool true]) (by simp [results, Tryz.results48, go_sem, y0, y1, y2, y3, y4, y5]) rfl ?_
  exact ⟨HQ.out, c.k, c.b, c.i, c.s, an, ln, cn, al, ll, cl, rfl, fun c' h => by injection h with h; subst h; exact HI.out⟩
end Go.Proofs.YtdeigdbnnbikgaaGreatDoor.VBd

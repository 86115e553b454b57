import Derived.LoopTactic
import Derived.Maps.AppendAt
import Derived.Maps.OwnSet
import Derived.Maps.Views
import Derived.StringKeys
import Derived.Test.YtdeigdbnnbikgaaGreatDoorPA06
import Derived.Test.YtdeigdbnnbikgaaGreatDoorPA31
set_option linter.unusedVariables false
set_option maxRecDepth 20000
set_option maxHeartbeats 3200000
namespace Go.Proofs.YtdeigdbnnbikgaaGreatDoor.VMp
open Go.RowKit Go.Maps Base EPure VPure VSm VIn VJn VRs VVr
abbrev Bn := ByteArray × C
def rho (bs : List Bn) (s : ByteArray) : Option C := bs.foldl (fun acc b => if b.1 = s then some b.2 else acc) none
theorem rho_nil (s : ByteArray) : rho [] s = none := rfl
theorem rho_snoc (bs : List Bn) (b : Bn) (s : ByteArray) : rho (bs ++ [b]) s = if b.1 = s then some b.2 else rho bs s := by
 unfold rho
 rw [List.foldl_append]
 rfl
abbrev ky (s : ByteArray) : Lit := .string s.data.toList
theorem ky_inj {s t : ByteArray} (h : ky s = ky t) : s = t := by
 injection h with h
 have : s.data = t.data := by rw [← Array.toArray_toList (xs := s.data), ← Array.toArray_toList (xs := t.data), h]
 cases s
 cases t
 simp at this
 rw [this]
theorem keyed : Keyed Tryz.prog 9 := string_keyed Tryz.underlying9
theorem key_of {s : ByteArray} (h : s.size ≤ 140737488351232) : keyOf Tryz.prog 9 (.string s) = some (ky s) := Go.WideMaps.keyOf_string_mk Tryz.underlying9 (by unfold maxLen; omega)
structure Mb {H : Type} (D : DataW H) (bs : List Bn) : Prop where
 tidy : Tidy D
 no : ∀ s, s.size ≤ 140737488351232 → rho bs s = none → Maps.has D (ky s) = false
 yes : ∀ s c, s.size ≤ 140737488351232 → rho bs s = some c → ∃ j, ∃ h : j < bs.length, bs[j].2 = c ∧ Maps.has D (ky s) = true ∧ ∀ z, D.atKey (ky s) z = .lit (.int .i64 (j : Nat))
theorem Mb.nil {H : Type} : Mb (.map [] : DataW H) [] := ⟨tidy_empty, fun s _ _ => by simp [Maps.has], fun s c _ h => by rw [rho_nil] at h; cases h⟩
theorem Mb.put {H : Type} {D : DataW H} {bs : List Bn} (h : Mb D bs) {b : Bn} (hb : b.1.size ≤ 140737488351232) : Mb (D.put (ky b.1) (.lit (.int .i64 (bs.length : Nat)))) (bs ++ [b]) := by
 have hk := keyed.key (key_of hb)
 refine ⟨h.tidy.put hk _, fun s hs hr => ?_, fun s c hs hr => ?_⟩
 ·rw [rho_snoc] at hr
  by_cases e : b.1 = s
  ·rw [if_pos e] at hr; cases hr
  ·rw [if_neg e] at hr
   rw [has_put_other (fun e2 => e (ky_inj e2).symm)]
   exact h.no s hs hr
 ·rw [rho_snoc] at hr
  by_cases e : b.1 = s
  ·rw [if_pos e] at hr
   injection hr with hr
   refine ⟨bs.length, by simp, by simp [hr], ?_, fun z => ?_⟩
   ·rw [← e, has_put_same h.tidy.isMap hk]
   ·rw [← e, atKey_put_same h.tidy.isMap hk]
  ·rw [if_neg e] at hr
   obtain ⟨j, hj, e1, e2, e3⟩ := h.yes s c hs hr
   refine ⟨j, by simp; omega, by rw [List.getElem_append_left hj]; exact e1, ?_, fun z => ?_⟩
   ·rw [has_put_other (fun e2 => e (ky_inj e2).symm)]; exact e2
   ·rw [atKey_put_other (fun e2 => e (ky_inj e2).symm)]; exact e3 z
def Bl (K m : Nat) (w : World) (v : Value) (bs : List Bn) : Prop :=
 ∃ a cap, v = .slice a bs.length cap ∧ bs.length ≤ cap ∧ cap ≤ 9223372036854775807 ∧ (a = none → cap = 0) ∧ bs.length ≤ 4398046511104 ∧ (∀ b ∈ bs, b.1.size ≤ 140737488351232) ∧ (bs = [] ∨ ∃ g o, a = some ⟨g, o, none⟩ ∧ g < K ∧
  ∀ j (h : j < bs.length), ∃ an ln cn al ll cl, w.cell? ⟨g, o + j * 7, none⟩ = some (.string bs[j].1) ∧ w.cell? ⟨g, o + j * 7 + 1, none⟩ = some (.int .i64 bs[j].2.k) ∧ w.cell? ⟨g, o + j * 7 + 2, none⟩ = some (.bool bs[j].2.b) ∧ w.cell? ⟨g, o + j * 7 + 3, none⟩ = some (.int .i64 bs[j].2.i) ∧
   w.cell? ⟨g, o + j * 7 + 4, none⟩ = some (.string bs[j].2.s) ∧ w.cell? ⟨g, o + j * 7 + 5, none⟩ = some (.slice an ln cn) ∧ w.cell? ⟨g, o + j * 7 + 6, none⟩ = some (.slice al ll cl) ∧ Base.In false (fun b => b < K) w m (vl bs[j].2.k bs[j].2.b bs[j].2.i bs[j].2.s (.slice an ln cn) (.slice al ll cl)) bs[j].2)
theorem Bl.low {K m : Nat} {w w' : World} {v : Value} {bs : List Bn} (h : Bl K m w v bs) (hb : Below K w w') : Bl K m w' v bs := by
 obtain ⟨a, cap, h1, h2, h3, h4, h5, h6, h7⟩ := h
 refine ⟨a, cap, h1, h2, h3, h4, h5, h6, ?_⟩
 rcases h7 with h7 | ⟨g, o, e, hg, hc⟩
 ·exact .inl h7
 ·refine .inr ⟨g, o, e, hg, fun j hj => ?_⟩
  obtain ⟨an, ln, cn, al, ll, cl, c0, c1, c2, c3, c4, c5, c6, hin⟩ := hc j hj
  have kw : ∀ (q : Nat) (v : Value), w.cell? ⟨g, q, none⟩ = some v → w'.cell? ⟨g, q, none⟩ = some v := fun q v h => (World.cell?_of_block (w := w) (hb.block g hg)).trans h
  exact ⟨an, ln, cn, al, ll, cl, kw _ _ c0, kw _ _ c1, kw _ _ c2, kw _ _ c3, kw _ _ c4, kw _ _ c5, kw _ _ c6, in_low hin hb⟩
theorem wf_nat {n : Nat} (h : n ≤ 4398046511104) : (Lit.int .i64 (n : Int)).wf = true := by
 simp [Lit.wf, IntKind.min, IntKind.max, IntKind.signed, IntKind.bits]
 omega
theorem make_map (n : Nat) (w : World) : (Instr.makeMap 68 (some (.int .i64 n))).run Tryz.prog w = .ok (.map (some w.heap.size)) (w.alloc (.map #[] 0)) := by
 simp [Instr.makeMap, go_sem]
theorem places_c {K m : Nat} {w : World} {v : Value} {bs : List Bn} (hv : Bl K m w v bs) (hK : K ≤ w.heap.size) :
  Calls Tryz.prog 46 #[v] w fun e w' => e = .returned (.map (some w.heap.size)) ∧ (∃ D : DataW Unit, w'.ownsMap Tryz.prog 9 (plainElem Tryz.prog 3) w.heap.size bs.length D ∧ Mb D bs) ∧ Below w.heap.size w w' := by
 obtain ⟨a, cap, rfl, hl, hm, hnil, hlen, hok, hL⟩ := hv
 obtain ⟨n, hnn⟩ : ∃ n, bs.length = n := ⟨_, rfl⟩
 rw [hnn] at hl hlen ⊢
 have hmk := make_map n
 have hm0 := World.ownsMap_made w Tryz.prog 9 (plainElem (H := Unit) Tryz.prog 3)
 have hb0 : Below w.heap.size w (w.alloc (.map #[] 0)) := (Below.refl _ w).alloc (Nat.le_refl _) _
 have hs0 : (w.alloc (.map #[] 0)).heap.size = w.heap.size + 1 := by simp
 have HK : Hid (K ≤ w.heap.size) := hK
 clear hK
 go_enter Tryz.func46, Tryz.ntmps46
 go_wp2_with fail
 generalize w.alloc (.map #[] 0) = w0 at *
 go_loopw [11] (fun i wr => ∃ q : Nat, i = .int .i64 q ∧ q ≤ n ∧ (∃ D : DataW Unit, wr.ownsMap Tryz.prog 9 (plainElem Tryz.prog 3) w.heap.size q D ∧ Mb D (bs.take q)) ∧ Below w.heap.size w wr ∧ w.heap.size + 1 ≤ wr.heap.size) (fun i _ => n - (intOf i).toNat)
 case atStart => exact ⟨0, rfl, by omega, ⟨_, hm0, by rw [List.take_zero]; exact Mb.nil⟩, hb0, by omega⟩
 case round =>
  obtain ⟨q, rfl, hq, ⟨D, hown, hD⟩, hb, hsz⟩ := hrel
  by_cases hlt : q < n
  ·rcases hL with rfl | ⟨g, o, rfl, hg, hc⟩
   ·simp at hnn; omega
   ·obtain ⟨an, ln, cn, al, ll, cl, c0, c1, c2, c3, c4, c5, c6, -⟩ := hc q (by omega)
    have kw : ∀ (q : Nat) (v : Value), w.cell? ⟨g, q, none⟩ = some v → wr.cell? ⟨g, q, none⟩ = some v := fun q v h => (World.cell?_of_block (w := w) (hb.block g (Nat.lt_of_lt_of_le hg HK.out))).trans h
    replace c0 := kw _ _ c0
    replace c1 := kw _ _ c1
    replace c2 := kw _ _ c2
    replace c3 := kw _ _ c3
    replace c4 := kw _ _ c4
    replace c5 := kw _ _ c5
    replace c6 := kw _ _ c6
    have hx := hok bs[q] (List.getElem_mem _)
    have hput := hD.put hx
    rw [List.length_take, show min q bs.length = q by omega, ← List.take_succ_eq_append_getElem] at hput
    have HM : Hid (Mb (D.put (ky bs[q].1) (.lit (.int .i64 (q : Nat)))) (bs.take (q + 1))) := hput
    have hkey := key_of hx
    have hwf := wf_nat (n := q) (by omega)
    generalize bs[q].2.k = vk at *
    generalize bs[q].2.b = vb at *
    generalize bs[q].2.i = vi at *
    generalize bs[q].2.s = vs at *
    generalize bs[q].1 = nm at *
    clear hc hok hput hx hD kw
    go_wp2_with (first
     | (at_mapUpdate; refine wpList_mapUpdate_own _ rfl _ _ _ 68 rfl 9 3 keyed Tryz.underlying68 (plainElem Tryz.prog 3) w.heap.size q D rfl (hown.alloc _) (by simp [maxLen]; omega) _ _ _ rfl rfl hkey (.lit (.int .i64 (q : Nat))) [] (plainElem_int Tryz.underlying3 hwf) ?_; intro w2 hown2 hg2))
    go_roundw
    case rel => exact ⟨q + 1, by go_num, by omega, ⟨_, hown2, HM.out⟩, (hb.alloc hb.size _).grown hg2 (by simp; omega) (fun k e => by cases e; exact Nat.le_refl _), by have := hg2.size; simp at this; omega⟩
    case measure => simp only [intOf]; omega
  ·obtain rfl : q = n := by omega
   have hnlt : decide ((q : Int) < (q : Int)) = false := by simp
   rw [← hnn, List.take_length] at hD
   have HD : Hid (Mb D bs) := hD
   have HO : Hid (wr.ownsMap Tryz.prog 9 (plainElem Tryz.prog 3) w.heap.size q D) := hown
   clear hL hok hD hown
   go_wp2_with fail
   go_ret
   exact ⟨rfl, ⟨D, HO.out, HD.out⟩, hb⟩
end Go.Proofs.YtdeigdbnnbikgaaGreatDoor.VMp
namespace Go.Proofs.YtdeigdbnnbikgaaGreatDoor.VBd
open Go.RowKit Go.Maps Base EPure VPure VSm VIn VJn VRs VVr VMp
theorem own_map_below {w w' : World} {b n : Nat} {D : DataW Unit} (h : w.ownsMap Tryz.prog 9 (plainElem Tryz.prog 3) b n D) (hb : Below w.heap.size w w') (hl : b < w.heap.size) : w'.ownsMap Tryz.prog 9 (plainElem Tryz.prog 3) b n D := by
 obtain ⟨es, c, h1, h2⟩ := h
 exact ⟨es, c, (hb.block b hl).trans h1, h2⟩
theorem bound_c {K m : Nat} {w : World} {Mq Eb M n : Nat} {D : DataW Unit} {v : Value} {bs : List Bn} (hM : w.heap[Mq]? = some (.cells #[.map (some M)] 68 (0, 0))) (hE : w.heap[Eb]? = some (.cells #[v] 25 (0, 0))) (hMl : M < w.heap.size) (hown : w.ownsMap Tryz.prog 9 (plainElem Tryz.prog 3) M n D) (hD : Mb D bs)
  (hv : Bl K m w v bs) (hK : K ≤ w.heap.size) : Bd K m w Mq Eb (rho bs) := by
 intro W hW o i s lv hs
 have hMw := (Array.getElem?_eq_some_iff.1 hM).1
 have hEw := (Array.getElem?_eq_some_iff.1 hE).1
 have hz3 : ∀ w, (zeroValue 3).run Tryz.prog w = .ok (.int .i64 0) w := Tryz.zeroValue3
 obtain ⟨W0, hW0⟩ : ∃ W0, (W.alloc (.cells #[.int .i64 o, .int .i64 i, .string s, lv] 24)).alloc (.cells #[.int .i64 0, .bool false, .int .i64 0, .string ⟨#[]⟩, .slice none 0 0, .slice none 0 0] 32) = W0 := ⟨_, rfl⟩
 have hs0 : W0.heap.size = W.heap.size + 2 := by rw [← hW0]; simp
 have hb0 : Below W.heap.size W W0 := by rw [← hW0]; exact ((Below.refl _ W).alloc (Nat.le_refl _) _).alloc (by simp) _
 have hx : W0.heap[W.heap.size]? = some (.cells #[.int .i64 o, .int .i64 i, .string s, lv] 24 (0, 0)) := by rw [← hW0, Below.heap_alloc _ _ _ (by simp), heap_alloc_new]
 have hr : W0.heap[W.heap.size + 1]? = some (.cells #[.int .i64 0, .bool false, .int .i64 0, .string ⟨#[]⟩, .slice none 0 0, .slice none 0 0] 32 (0, 0)) := by
  have := heap_alloc_new (W.alloc (.cells #[.int .i64 o, .int .i64 i, .string s, lv] 24)) (.cells #[.int .i64 0, .bool false, .int .i64 0, .string ⟨#[]⟩, .slice none 0 0, .slice none 0 0] 32)
  rw [World.size_alloc, hW0] at this
  exact this
 have hwW := hW.size
 have hbW0 : Below w.heap.size w W0 := hW.trans (hb0.mono hW.size)
 have hM0 : W0.cell? ⟨Mq, 0, none⟩ = some (.map (some M)) := by have := (hbW0.block Mq hMw).trans hM; simp [World.cell?, this]
 have hE0 : W0.cell? ⟨Eb, 0, none⟩ = some v := by have := (hbW0.block Eb hEw).trans hE; simp [World.cell?, this]
 obtain ⟨x0, x1, x2, x3⟩ := XBase.four_box hx
 have hown0 := own_map_below hown hbW0 hMl
 have hv0 := hv.low (hbW0.mono hK)
 have hkey := key_of hs
 have HR : Hid (W0.heap[W.heap.size + 1]? = some (.cells #[.int .i64 0, .bool false, .int .i64 0, .string ⟨#[]⟩, .slice none 0 0, .slice none 0 0] 32 (0, 0))) := hr
 have HB : Hid (Below W.heap.size W W0) := hb0
 obtain ⟨r0, r1, r2, r3, r4, r5⟩ := six_box hr
 have rf0 := frozen_box hr 0
 have rf1 := frozen_box hr 1
 have rf2 := frozen_box hr 2
 have rf3 := frozen_box hr 3
 have rf4 := frozen_box hr 4
 have rf5 := frozen_box hr 5
 cases hρ : rho bs s with
 | none =>
  have hhas := hD.no s hs hρ
  clear hx hr hb0 hbW0 hM hE hown hD hv hv0 hρ hE0
  obtain ⟨W9, hW9⟩ : ∃ W9, ((((((W0.setCell ⟨W.heap.size + 1, 0, none⟩ (.int .i64 0)).setCell ⟨W.heap.size + 1, 1, none⟩ (.bool false)).setCell ⟨W.heap.size + 1, 2, none⟩ (.int .i64 0)).setCell ⟨W.heap.size + 1, 3, none⟩ (.string ⟨#[]⟩)).setCell ⟨W.heap.size + 1, 4, none⟩ (.slice none 0 0)).setCell ⟨W.heap.size + 1, 5, none⟩ (.slice none 0 0)) = W9 := ⟨_, rfl⟩
  obtain ⟨q1, q2, q3, q4⟩ := set6 _ _ _ _ _ _ HR.out hW9
  obtain ⟨y0, y1, y2, y3, y4, y5⟩ := six_box q1
  have HQ : Hid (Below W.heap.size W W9) := q4 _ _ (by omega) HB.out
  clear q1 q2 q3 q4
  go_enter Tryz.func48, Tryz.ntmps48
  go_wp2_with (first | (at_lookup; refine wpList_lookup_own_ok_int _ rfl _ _ 68 rfl 9 3 .i64 keyed Tryz.underlying68 Tryz.underlying3 (hz3 _) M n D rfl hown0 _ _ rfl hkey ?_; intro cc hat hwc; rw [hhas]; clear hat))
  refine bodyPost_ret (v := .tuple #[vl 0 false 0 ⟨#[]⟩ (.slice none 0 0) (.slice none 0 0), .bool false]) (by simp [results, Tryz.results48, go_sem, y0, y1, y2, y3, y4, y5]) rfl ?_
  exact ⟨HQ.out, 0, false, 0, ⟨#[]⟩, none, 0, 0, none, 0, 0, rfl, fun c h => by cases h⟩
 | some c =>
  obtain ⟨j, hj, hjc, hhas, hat0⟩ := hD.yes s c hs hρ
  obtain ⟨a, cap, rfl, hl, hm, hnil, hlen, hok, hL⟩ := hv0
  rcases hL with h | ⟨g, o', rfl, hg, hc⟩
  ·subst h; simp at hj
  obtain ⟨an, ln, cn, al, ll, cl, c0, c1, c2, c3, c4, c5, c6, hin⟩ := hc j hj
  rw [hjc] at c1 c2 c3 c4 hin
  have b1 : (0 : Int) ≤ (j : Int) := by omega
  have b2 : (j : Int) < (bs.length : Int) := by omega
  have b3 : decide ((j : Int) < (bs.length : Int)) = true := decide_eq_true b2
  obtain ⟨W9, hW9⟩ : ∃ W9, ((((((W0.setCell ⟨W.heap.size + 1, 0, none⟩ (.int .i64 c.k)).setCell ⟨W.heap.size + 1, 1, none⟩ (.bool c.b)).setCell ⟨W.heap.size + 1, 2, none⟩ (.int .i64 c.i)).setCell ⟨W.heap.size + 1, 3, none⟩ (.string c.s)).setCell ⟨W.heap.size + 1, 4, none⟩ (.slice an ln cn)).setCell ⟨W.heap.size + 1, 5, none⟩ (.slice al ll cl)) = W9 := ⟨_, rfl⟩
  obtain ⟨q1, q2, q3, q4⟩ := set6 _ _ _ _ _ _ HR.out hW9
  obtain ⟨y0, y1, y2, y3, y4, y5⟩ := six_box q1
  have HQ : Hid (Below W.heap.size W W9) := q4 _ _ (by omega) HB.out
  have HI : Hid (Base.In false (fun b => b < K) W9 m (vl c.k c.b c.i c.s (.slice an ln cn) (.slice al ll cl)) c) := in_low hin (q4 _ _ (by omega) (Below.refl _ _))
  have HAT : Hid (∀ z : DataW Unit, D.atKey (ky s) z = .lit (.int .i64 (j : Nat))) := hat0
  clear hx hr hb0 hbW0 hM hE hown hD hv hρ hat0 hc hok hin hjc q1 q2 q3 q4 c0
  go_enter Tryz.func48, Tryz.ntmps48
  go_wp2_with (first | (at_lookup; refine wpList_lookup_own_ok_int _ rfl _ _ 68 rfl 9 3 .i64 keyed Tryz.underlying68 Tryz.underlying3 (hz3 _) M n D rfl hown0 _ _ rfl hkey ?_; intro cc hat hwc; rw [hhas]; obtain rfl : cc = (j : Int) := (by rw [HAT.out] at hat; simp at hat; exact hat.symm); clear hat))
  refine bodyPost_ret (v := .tuple #[vl c.k c.b c.i c.s (.slice an ln cn) (.slice al ll cl), .bool true]) (by simp [results, Tryz.results48, go_sem, y0, y1, y2, y3, y4, y5]) rfl ?_
  exact ⟨HQ.out, c.k, c.b, c.i, c.s, an, ln, cn, al, ll, cl, rfl, fun c' h => by injection h with h; subst h; exact HI.out⟩
end Go.Proofs.YtdeigdbnnbikgaaGreatDoor.VBd
namespace Go.Proofs.YtdeigdbnnbikgaaGreatDoor.VCb
open Go.RowKit Base VPure VSm VMp
theorem infoB : (Tryz.prog.info? 52).map (fun i => (i.zero, i.size, i.bytes)) = some (some (.agg #[.string ⟨#[]⟩, .int .i64 0, .bool false, .int .i64 0, .string ⟨#[]⟩, .slice none 0 0, .slice none 0 0]), 7, 104) := by kernel_rfl
theorem seven_box {w : World} {B : Nat} {T : TypeId} {fz : Nat × Nat} {y0 y1 y2 y3 y4 y5 y6 : Value} (h : w.heap[B]? = some (.cells #[y0, y1, y2, y3, y4, y5, y6] T fz)) : w.cell? ⟨B, 0, none⟩ = some y0 ∧ w.cell? ⟨B, 1, none⟩ = some y1 ∧ w.cell? ⟨B, 2, none⟩ = some y2 ∧ w.cell? ⟨B, 3, none⟩ = some y3 ∧ w.cell? ⟨B, 4, none⟩ = some y4 ∧ w.cell? ⟨B, 5, none⟩ = some y5 ∧ w.cell? ⟨B, 6, none⟩ = some y6 := by
 refine ⟨?_, ?_, ?_, ?_, ?_, ?_, ?_⟩ <;> simp [World.cell?, h]
theorem set7 {W W' : World} {B : Nat} {t : TypeId} {y0 y1 y2 y3 y4 y5 y6 : Value} (x0 x1 x2 x3 x4 x5 x6 : Value) (h : W.heap[B]? = some (.cells #[y0, y1, y2, y3, y4, y5, y6] t (0, 0))) (hW : (((((((W.setCell ⟨B, 0, none⟩ x0).setCell ⟨B, 1, none⟩ x1).setCell ⟨B, 2, none⟩ x2).setCell ⟨B, 3, none⟩ x3).setCell ⟨B, 4, none⟩ x4).setCell ⟨B, 5, none⟩ x5).setCell ⟨B, 6, none⟩ x6) = W') :
  W'.heap[B]? = some (.cells #[x0, x1, x2, x3, x4, x5, x6] t (0, 0)) ∧ (∀ b, b ≠ B → W'.heap[b]? = W.heap[b]?) ∧ W'.heap.size = W.heap.size ∧ ∀ w n, n ≤ B → Below n w W → Below n w W' := by
 subst hW
 refine ⟨?_, fun b hb => ?_, by simp [World.setCell], fun w n hn hb => ?_⟩
 ·rw [(block_set (block_set (block_set (block_set (block_set (block_set (block_set h _) _) _) _) _) _) _)]
  rfl
 ·rw [Below.heap_setCell _ _ _ _ hb, Below.heap_setCell _ _ _ _ hb, Below.heap_setCell _ _ _ _ hb, Below.heap_setCell _ _ _ _ hb, Below.heap_setCell _ _ _ _ hb, Below.heap_setCell _ _ _ _ hb, Below.heap_setCell _ _ _ _ hb]
 ·exact (((((((hb.setCell (p := ⟨B, 0, none⟩) hn x0).setCell (p := ⟨B, 1, none⟩) hn x1).setCell (p := ⟨B, 2, none⟩) hn x2).setCell (p := ⟨B, 3, none⟩) hn x3).setCell (p := ⟨B, 4, none⟩) hn x4).setCell (p := ⟨B, 5, none⟩) hn x5).setCell (p := ⟨B, 6, none⟩) hn x6)
theorem set16 {W W' : World} {B : Nat} {t : TypeId} {y0 y1 y2 y3 y4 y5 y6 : Value} (x1 x2 x3 x4 x5 x6 : Value) (h : W.heap[B]? = some (.cells #[y0, y1, y2, y3, y4, y5, y6] t (0, 0))) (hW : ((((((W.setCell ⟨B, 1, none⟩ x1).setCell ⟨B, 2, none⟩ x2).setCell ⟨B, 3, none⟩ x3).setCell ⟨B, 4, none⟩ x4).setCell ⟨B, 5, none⟩ x5).setCell ⟨B, 6, none⟩ x6) = W') :
  W'.heap[B]? = some (.cells #[y0, x1, x2, x3, x4, x5, x6] t (0, 0)) ∧ (∀ b, b ≠ B → W'.heap[b]? = W.heap[b]?) ∧ W'.heap.size = W.heap.size ∧ ∀ w n, n ≤ B → Below n w W → Below n w W' := by
 subst hW
 refine ⟨?_, fun b hb => ?_, by simp [World.setCell], fun w n hn hb => ?_⟩
 ·rw [(block_set (block_set (block_set (block_set (block_set (block_set h _) _) _) _) _) _)]
  rfl
 ·rw [Below.heap_setCell _ _ _ _ hb, Below.heap_setCell _ _ _ _ hb, Below.heap_setCell _ _ _ _ hb, Below.heap_setCell _ _ _ _ hb, Below.heap_setCell _ _ _ _ hb, Below.heap_setCell _ _ _ _ hb]
 ·exact ((((((hb.setCell (p := ⟨B, 1, none⟩) hn x1).setCell (p := ⟨B, 2, none⟩) hn x2).setCell (p := ⟨B, 3, none⟩) hn x3).setCell (p := ⟨B, 4, none⟩) hn x4).setCell (p := ⟨B, 5, none⟩) hn x5).setCell (p := ⟨B, 6, none⟩) hn x6)
abbrev bv (s : ByteArray) (k : Int) (b : Bool) (i : Int) (t : ByteArray) (nv lv : Value) : Value := .agg #[.string s, .int .i64 k, .bool b, .int .i64 i, .string t, nv, lv]
def InB (S : Nat → Prop) (w : World) (m : Nat) (u : Value) (x : Bn) : Prop :=
 ∃ an ln cn al ll cl, u = bv x.1 x.2.k x.2.b x.2.i x.2.s (.slice an ln cn) (.slice al ll cl) ∧ Base.In false S w m (vl x.2.k x.2.b x.2.i x.2.s (.slice an ln cn) (.slice al ll cl)) x.2
theorem InB.keep {S S' : Nat → Prop} {w w' : World} {m : Nat} {u : Value} {x : Bn} (h : InB S w m u x) (hk : ∀ b, S b → b < w.heap.size → w'.heap[b]? = w.heap[b]?) (hS : ∀ b, S b → S' b) : InB S' w' m u x := by
 obtain ⟨an, ln, cn, al, ll, cl, e, hin⟩ := h
 exact ⟨an, ln, cn, al, ll, cl, e, (hin.keep hk).weak hS false id m (Nat.le_refl _)⟩
theorem copy_one {m : Nat} {w : World} {u : Value} {x : Bn} (h : InB All w m u x) :
  Calls Tryz.prog 63 #[u] w fun e w' => ∃ u', e = .returned u' ∧ InB (Rg w.heap.size w'.heap.size) w' m u' x ∧ Below w.heap.size w w' := by
 obtain ⟨an, ln, cn, al, ll, cl, rfl, hin⟩ := h
 obtain ⟨s, c⟩ := x
 simp only at hin ⊢
 obtain ⟨W0, hW0⟩ : ∃ W0, (w.alloc (.cells #[.string s, .int .i64 c.k, .bool c.b, .int .i64 c.i, .string c.s, .slice an ln cn, .slice al ll cl] 52)).alloc (.cells #[.string ⟨#[]⟩, .int .i64 0, .bool false, .int .i64 0, .string ⟨#[]⟩, .slice none 0 0, .slice none 0 0] 52) = W0 := ⟨_, rfl⟩
 have hb0 : Below w.heap.size w W0 := by rw [← hW0]; exact ((Below.refl _ w).alloc (Nat.le_refl _) _).alloc (by simp) _
 have hs0 : W0.heap.size = w.heap.size + 2 := by rw [← hW0]; simp
 have hx0 : W0.heap[w.heap.size]? = some (.cells #[.string s, .int .i64 c.k, .bool c.b, .int .i64 c.i, .string c.s, .slice an ln cn, .slice al ll cl] 52 (0, 0)) := by
  rw [← hW0, Below.heap_alloc _ _ _ (by simp), heap_alloc_new]
 have hx1 : W0.heap[w.heap.size + 1]? = some (.cells #[.string ⟨#[]⟩, .int .i64 0, .bool false, .int .i64 0, .string ⟨#[]⟩, .slice none 0 0, .slice none 0 0] 52 (0, 0)) := by
  have := heap_alloc_new (w.alloc (.cells #[.string s, .int .i64 c.k, .bool c.b, .int .i64 c.i, .string c.s, .slice an ln cn, .slice al ll cl] 52)) (.cells #[.string ⟨#[]⟩, .int .i64 0, .bool false, .int .i64 0, .string ⟨#[]⟩, .slice none 0 0, .slice none 0 0] 52)
  rwa [hW0, World.size_alloc] at this
 have cC := CopyV.copyV_c m _ _ W0 (hin.below hb0)
 have HX0 : Hid (W0.heap[w.heap.size]? = some (.cells #[.string s, .int .i64 c.k, .bool c.b, .int .i64 c.i, .string c.s, .slice an ln cn, .slice al ll cl] 52 (0, 0))) := hx0
 have HX1 : Hid (W0.heap[w.heap.size + 1]? = some (.cells #[.string ⟨#[]⟩, .int .i64 0, .bool false, .int .i64 0, .string ⟨#[]⟩, .slice none 0 0, .slice none 0 0] 52 (0, 0))) := hx1
 obtain ⟨d0, d1, d2, d3, d4, d5, d6⟩ := seven_box hx0
 clear hx0 hx1 hin
 go_enter Tryz.func63, Tryz.ntmps63
 go_wp2_with fail
 refine cC.mono ?_
 rintro e W1 ⟨u1, rfl, hin1, b1⟩
 obtain ⟨un, ul, uc, va, vb, vc, hu⟩ := VRs.in_shape hin1
 subst hu
 have hs1 := b1.size
 have hy0 := (b1.block w.heap.size (by omega)).trans HX0.out
 have hy1 := (b1.block (w.heap.size + 1) (by omega)).trans HX1.out
 obtain ⟨W2, hW2⟩ : ∃ W2, ((((((W1.setCell ⟨w.heap.size, 1, none⟩ (.int .i64 c.k)).setCell ⟨w.heap.size, 2, none⟩ (.bool c.b)).setCell ⟨w.heap.size, 3, none⟩ (.int .i64 c.i)).setCell ⟨w.heap.size, 4, none⟩ (.string c.s)).setCell ⟨w.heap.size, 5, none⟩ (.slice un ul uc)).setCell ⟨w.heap.size, 6, none⟩ (.slice va vb vc)) = W2 := ⟨_, rfl⟩
 obtain ⟨a1, a2, a3, a4⟩ := set16 _ _ _ _ _ _ hy0 hW2
 have g1 := (a2 (w.heap.size + 1) (by omega)).trans hy1
 obtain ⟨W3, hW3⟩ : ∃ W3, (((((((W2.setCell ⟨w.heap.size + 1, 0, none⟩ (.string s)).setCell ⟨w.heap.size + 1, 1, none⟩ (.int .i64 c.k)).setCell ⟨w.heap.size + 1, 2, none⟩ (.bool c.b)).setCell ⟨w.heap.size + 1, 3, none⟩ (.int .i64 c.i)).setCell ⟨w.heap.size + 1, 4, none⟩ (.string c.s)).setCell ⟨w.heap.size + 1, 5, none⟩ (.slice un ul uc)).setCell ⟨w.heap.size + 1, 6, none⟩ (.slice va vb vc)) = W3 := ⟨_, rfl⟩
 obtain ⟨q1, q2, q3, q4⟩ := set7 _ _ _ _ _ _ _ g1 hW3
 have HQ : Hid (Below w.heap.size w W3) := q4 _ _ (by omega) (a4 _ _ (Nat.le_refl _) (hb0.trans (b1.mono hb0.size)))
 have HI : Hid (Base.In false (Rg w.heap.size W3.heap.size) W3 m (vl c.k c.b c.i c.s (.slice un ul uc) (.slice va vb vc)) c) :=
  (hin1.keep fun b hS hb => by have := hS.1; rw [q2 b (by omega), a2 b (by omega)]).weak (fun b hS => by have h1 := hS.1; have h2 := hS.2; exact ⟨by omega, by omega⟩) false id m (Nat.le_refl _)
 have fz : ∀ j, W1.frozen? ⟨w.heap.size, j, none⟩ = false := fun j => frozen_box hy0 j
 have f1 := fz 1
 have f2 := fz 2
 have f3 := fz 3
 have f4 := fz 4
 have f5 := fz 5
 have f6 := fz 6
 obtain ⟨k0, k1, k2, k3, k4, k5, k6⟩ := seven_box hy0
 obtain ⟨l0, l1, l2, l3, l4, l5, l6⟩ := seven_box a1
 obtain ⟨n0, n1, n2, n3, n4, n5, n6⟩ := seven_box g1
 have p0 := frozen_box g1 0
 have p1 := frozen_box g1 1
 have p2 := frozen_box g1 2
 have p3 := frozen_box g1 3
 have p4 := frozen_box g1 4
 have p5 := frozen_box g1 5
 have p6 := frozen_box g1 6
 have HR : Hid (W3.heap[w.heap.size + 1]? = some (.cells #[.string s, .int .i64 c.k, .bool c.b, .int .i64 c.i, .string c.s, .slice un ul uc, .slice va vb vc] 52 (0, 0))) := q1
 clear cC d0 d1 d2 d3 d4 d5 d6 fz hy0 hy1 a1 a2 a3 a4 g1 q1 q2 q3 q4 hin1 b1 hb0 hW0
 go_wp2_with fail
 refine bodyPost_ret (results_cell_row rfl _ W3 (w.heap.size + 1) 52 _ (0, 0) _ rfl HR.out Tryz.underlying52 rfl (by kernel_rfl)) rfl ?_
 exact ⟨_, rfl, ⟨_, _, _, _, _, _, rfl, HI.out⟩, HQ.out⟩
end Go.Proofs.YtdeigdbnnbikgaaGreatDoor.VCb
namespace Go.Proofs.YtdeigdbnnbikgaaGreatDoor.VCc
open Go.RowKit Base VPure VSm VMp VCb
def Sevens (us : List Value) : Prop := ∀ u ∈ us, ∃ v0 v1 v2 v3 v4 v5 v6, u = .agg #[v0, v1, v2, v3, v4, v5, v6] ∧ ∀ x ∈ [v0, v1, v2, v3, v4, v5, v6], x.oneCell' = true
def OwnB (w : World) (B : Nat) (v : Value) (us : List Value) : Prop := w.ownsRow B 52 7 v us.length (flat us) ∧ Sevens us
theorem flat_len7 {us : List Value} (h : Sevens us) : (flat us).length = us.length * 7 := by
 induction us with
 | nil => rfl
 | cons u us ih =>
  obtain ⟨v0, v1, v2, v3, v4, v5, v6, rfl, -⟩ := h u (by simp)
  have := ih (fun x hx => h x (by simp [hx]))
  simp only [flat, List.flatMap_cons, List.length_append] at this ⊢
  simp only [Value.cells, List.length_cons] at this ⊢
  simp [this]
  omega
theorem flat_get7 {us : List Value} (h : Sevens us) : ∀ (j : Nat) (hj : j < us.length) (i : Nat), i < 7 → (flat us)[j * 7 + i]? = us[j].cells.toList[i]? := by
 induction us with
 | nil => intro j hj; simp at hj
 | cons u us ih =>
  intro j hj i hi
  obtain ⟨v0, v1, v2, v3, v4, v5, v6, rfl, -⟩ := h u (by simp)
  have ih := ih (fun x hx => h x (by simp [hx]))
  have e : flat (.agg #[v0, v1, v2, v3, v4, v5, v6] :: us) = [v0, v1, v2, v3, v4, v5, v6] ++ flat us := by simp [flat, Value.cells]
  rw [e]
  cases j with
  | zero =>
   rw [List.getElem?_append_left (by simp; omega)]
   simp [Value.cells]
  | succ j =>
   rw [List.getElem?_append_right (by simp; omega)]
   have e2 : (j + 1) * 7 + i - [v0, v1, v2, v3, v4, v5, v6].length = j * 7 + i := by simp; omega
   rw [e2, ih j (by simpa using hj) i hi]
   simp
theorem flat_one {us : List Value} (h : Sevens us) : ∀ u ∈ flat us, u.oneCell' = true := by
 intro u hu
 unfold flat at hu
 obtain ⟨a, ha, hu⟩ := List.mem_flatMap.1 hu
 obtain ⟨v0, v1, v2, v3, v4, v5, v6, rfl, h1⟩ := h a ha
 exact h1 u (by simpa [Value.cells] using hu)
theorem sevens_snoc {us : List Value} {u : Value} (h : Sevens us) (hu : ∃ v0 v1 v2 v3 v4 v5 v6, u = .agg #[v0, v1, v2, v3, v4, v5, v6] ∧ ∀ x ∈ [v0, v1, v2, v3, v4, v5, v6], x.oneCell' = true) : Sevens (us ++ [u]) := by
 intro x hx
 rcases List.mem_append.1 hx with hx | hx
 ·exact h x hx
 ·simp at hx; subst hx; exact hu
theorem sevens_app {us ts : List Value} (h : Sevens us) (ht : Sevens ts) : Sevens (us ++ ts) := by
 intro x hx
 rcases List.mem_append.1 hx with hx | hx
 ·exact h x hx
 ·exact ht x hx
theorem bv_seven {s : ByteArray} {k i : Int} {b : Bool} {t : ByteArray} {an al : Option Addr} {ln cn ll cl : Nat} : ∃ v0 v1 v2 v3 v4 v5 v6, bv s k b i t (.slice an ln cn) (.slice al ll cl) = .agg #[v0, v1, v2, v3, v4, v5, v6] ∧ ∀ x ∈ [v0, v1, v2, v3, v4, v5, v6], x.oneCell' = true := by
 refine ⟨_, _, _, _, _, _, _, rfl, ?_⟩
 intro x hx
 simp at hx
 rcases hx with rfl | rfl | rfl | rfl | rfl | rfl | rfl <;> rfl
theorem OwnB.bl {w : World} {B m : Nat} {v : Value} {us : List Value} {bs : List Bn} (h : OwnB w B v us) (hl : us.length = bs.length) (hn : bs.length ≤ 4398046511104) (hs : ∀ b ∈ bs, b.1.size ≤ 140737488351232)
  (he : ∀ j (h : j < us.length) (h' : j < bs.length), InB (fun b => b < w.heap.size) w m us[j] bs[j]) : Bl w.heap.size m w v bs := by
 rcases h.1.2 with ⟨h0, h1⟩ | ⟨g, cap, cur, rfl, hg, hh, hn2, hm2, hr⟩
 ·have hl0 : bs = [] := List.eq_nil_of_length_eq_zero (by omega)
  subst hl0
  exact ⟨none, 0, h0, by simp, by simp, fun _ => rfl, by simp, hs, .inl rfl⟩
 ·have hlt := World.ownsRow.lt h.1 g rfl
  have hlt2 : g < w.heap.size := hlt.2
  have hm3 : cap ≤ 9223372036854775807 := hm2
  refine ⟨some ⟨g, 0, none⟩, cap, by rw [hl], by omega, hm3, (fun e => by cases e), hn, hs, .inr ⟨g, 0, rfl, hlt2, fun j hj => ?_⟩⟩
  have hj' : j < us.length := by omega
  obtain ⟨an, ln, cn, al, ll, cl, e, hin⟩ := he j hj' hj
  have hc : ∀ i u, i < 7 → us[j].cells.toList[i]? = some u → w.cell? ⟨g, 0 + (j * 7 + i), none⟩ = some u := by
   intro i u hi hu
   rw [← add_none]
   exact World.ownsRow.cells (g := g) h.1 rfl (j * 7 + i) u (by rw [flat_get7 h.2 j hj' i hi]; exact hu)
  rw [e] at hc
  exact ⟨an, ln, cn, al, ll, cl, hc 0 _ (by omega) rfl, hc 1 _ (by omega) rfl, hc 2 _ (by omega) rfl, hc 3 _ (by omega) rfl, hc 4 _ (by omega) rfl, hc 5 _ (by omega) rfl, hc 6 _ (by omega) rfl, hin⟩
theorem els_step7 {w wr w1 w2 : World} {m q : Nat} {us : List Value} {l : List Bn} {out v' u : Value} (hels : ∀ j (h : j < us.length) (h' : j < l.length), InB (El w.heap.size wr.heap.size out) wr m us[j] l[j])
  (hus : us.length = q) (hq : q < l.length) (hown : OwnB wr w.heap.size out us) (b1 : Below wr.heap.size wr w1) (hin1 : InB (Rg wr.heap.size w1.heap.size) w1 m u l[q]) (hsz : w.heap.size ≤ wr.heap.size) (o : Obj)
  (hgrow : (w1.alloc o).grownBy w2 out.ownBlock) (hat : v'.ownBlock = out.ownBlock ∨ v'.ownBlock = some (w1.heap.size + 1)) :
  ∀ j (h : j < (us ++ [u]).length) (h' : j < l.length), InB (El w.heap.size w2.heap.size v') w2 m (us ++ [u])[j] l[j] := by
 have hlt := World.ownsRow.lt hown.1
 have hs1 := b1.size
 have hs2 := hgrow.size
 rw [World.size_alloc] at hs2
 intro j h h'
 by_cases hj : j < us.length
 ·rw [List.getElem_append_left hj]
  refine (hels j hj h').keep (w' := w2) ?_ ?_
  ·intro b hS hb
   rw [hgrow.block b (by simp; omega) (fun e => hS.2.2 e.symm), Below.heap_alloc _ _ _ (by omega), b1.block b hb]
  ·intro b hS
   have h3 := hS.2.1
   refine ⟨hS.1, by omega, ?_⟩
   rcases hat with h | h
   ·rw [h]; exact hS.2.2
   ·rw [h]
    intro e
    have := Option.some.inj e
    omega
 ·have e : j = us.length := by simp at h; omega
  subst e
  subst hus
  rw [List.getElem_append_right (by omega)]
  simp only [Nat.sub_self, List.getElem_cons_zero]
  have hne : ∀ b, wr.heap.size ≤ b → out.ownBlock ≠ some b := fun b hb e => by have := (hlt b e).2; omega
  refine hin1.keep (w' := w2) ?_ ?_
  ·intro b hS hb
   rw [hgrow.block b (by simp; omega) (fun e => hne b hS.1 e.symm), Below.heap_alloc _ _ _ hb]
  ·intro b hS
   have h2 := hS.2
   have h1 := hS.1
   refine ⟨by omega, by omega, ?_⟩
   rcases hat with h | h
   ·rw [h]; exact hne b hS.1
   ·rw [h]
    intro e
    have := Option.some.inj e
    omega
theorem Bl.at {K m : Nat} {w wr : World} {a : Option Addr} {n cap : Nat} {bs : List Bn} (h : Bl K m w (.slice a n cap) bs) (hb : Below w.heap.size w wr) (hK : K ≤ w.heap.size) {q : Nat} (hq : q < bs.length) :
  ∃ g o an ln cn al ll cl, a = some ⟨g, o, none⟩ ∧ wr.cell? ⟨g, o + q * 7, none⟩ = some (.string bs[q].1) ∧ wr.cell? ⟨g, o + q * 7 + 1, none⟩ = some (.int .i64 bs[q].2.k) ∧ wr.cell? ⟨g, o + q * 7 + 2, none⟩ = some (.bool bs[q].2.b) ∧ wr.cell? ⟨g, o + q * 7 + 3, none⟩ = some (.int .i64 bs[q].2.i) ∧
   wr.cell? ⟨g, o + q * 7 + 4, none⟩ = some (.string bs[q].2.s) ∧ wr.cell? ⟨g, o + q * 7 + 5, none⟩ = some (.slice an ln cn) ∧ wr.cell? ⟨g, o + q * 7 + 6, none⟩ = some (.slice al ll cl) ∧ InB (fun b => b < K) wr m (bv bs[q].1 bs[q].2.k bs[q].2.b bs[q].2.i bs[q].2.s (.slice an ln cn) (.slice al ll cl)) bs[q] := by
 obtain ⟨a', cap', e, -, -, -, -, -, h7⟩ := h.low (hb.mono hK)
 simp only [Value.slice.injEq] at e
 obtain ⟨rfl, -, -⟩ := e
 rcases h7 with h7 | ⟨g, o, rfl, hg, hc⟩
 ·subst h7; simp at hq
 obtain ⟨an, ln, cn, al, ll, cl, c0, c1, c2, c3, c4, c5, c6, hin⟩ := hc q hq
 exact ⟨g, o, an, ln, cn, al, ll, cl, rfl, c0, c1, c2, c3, c4, c5, c6, an, ln, cn, al, ll, cl, rfl, hin⟩
theorem copies_c {m : Nat} {w : World} {v : Value} {bs : List Bn} (hv : Bl w.heap.size m w v bs) (hbig : bs.length * 104 ≤ 140737488351232) :
  Calls Tryz.prog 27 #[v] w fun e w' => ∃ u us, e = .returned u ∧ us.length = bs.length ∧ OwnB w' w.heap.size u us ∧ (∀ j (h : j < us.length) (h' : j < bs.length), InB (El w.heap.size w'.heap.size u) w' m us[j] bs[j]) ∧ Below w.heap.size w w' := by
 obtain ⟨i0, hi, hz0, hz1, hz2⟩ := info_parts infoB
 have HV : Hid (Bl w.heap.size m w v bs) := hv
 obtain ⟨a, cap, rfl, hlc, hcm, -, hlen, -, -⟩ := hv
 go_enter Tryz.func27, Tryz.ntmps27
 go_wp2_with fail
 go_loopw [3, 4] (fun out i wr => ∃ (q : Nat) (us : List Value), q ≤ bs.length ∧ us.length = q ∧ i = .int .i64 q ∧ OwnB wr w.heap.size out us ∧
   (∀ j (h : j < us.length) (h' : j < bs.length), InB (El w.heap.size wr.heap.size out) wr m us[j] bs[j]) ∧ Below w.heap.size w wr) (fun _ i _ => bs.length - (intOf i).toNat)
 case atStart => exact ⟨0, [], by omega, rfl, rfl, ⟨World.ownsRow_nil _ _ _ _, fun x hx => by cases hx⟩, fun j h => by simp at h, Below.refl _ _⟩
 case round =>
  obtain ⟨q, us, hq, hus, rfl, hown, hels, hb⟩ := hrel
  have hsz := hb.size
  by_cases hlt : q < bs.length
  ·obtain ⟨g, o, an, ln, cn, al, ll, cl, rfl, d0, d1, d2, d3, d4, d5, d6, hinb⟩ := Bl.at HV.out hb (Nat.le_refl _) hlt
   have c10 := copy_one (hinb.keep (S' := All) (fun b _ _ => rfl) fun _ _ => trivial)
   have HH : Hid (∀ j (h : j < us.length) (h' : j < bs.length), InB (El w.heap.size wr.heap.size u3) wr m us[j] bs[j]) := hels
   have Hus : Hid (us.length = q) := hus
   have Hown : Hid (OwnB wr w.heap.size u3 us) := hown
   have hrow := hown.1
   have hlen2 : us.length = q := hus
   have HB : Hid (Below w.heap.size w wr) := hb
   clear hels hinb hus hown hb
   go_wp2_with (first
    | (go_at_call 63; refine c10.mono ?_; rintro e w1 ⟨u, rfl, hin1, b1⟩; have HI1 : Hid (InB (Rg wr.heap.size w1.heap.size) w1 m u bs[q]) := hin1; obtain ⟨xan, xln, xcn, xal, xll, xcl, rfl, -⟩ := hin1; have hrow1 := World.ownsRow.alloc (own_below hrow b1) (.cells #[.string bs[q].1, .int .i64 bs[q].2.k, .bool bs[q].2.b, .int .i64 bs[q].2.i, .string bs[q].2.s, .slice xan xln xcn, .slice xal xll xcl] 52); have hs1 := b1.size)
    | (at_builtin; refine wpList_append_own_at _ rfl _ _ 25 rfl w.heap.size 52 i0 (.agg #[.string ⟨#[]⟩, .int .i64 0, .bool false, .int .i64 0, .string ⟨#[]⟩, .slice none 0 0, .slice none 0 0]) 7 104 Tryz.underlying25 hi hz0 hz1 hz2 rfl (by decide) _ _ _ rfl hrow1 ⟨w1.heap.size, 0, none⟩ 1 1 [.string bs[q].1, .int .i64 bs[q].2.k, .bool bs[q].2.b, .int .i64 bs[q].2.i, .string bs[q].2.s, .slice xan xln xcn, .slice xal xll xcl] rfl rfl (new_cells w1 _ 52) (fun u hu => by simp at hu; rcases hu with rfl | rfl | rfl | rfl | rfl | rfl | rfl <;> rfl) (by unfold maxLen; omega) (by omega) (by simp; omega) ?_))
   intro v' w2 hown' hgrow _ hat
   have hels2 := els_step7 HH.out Hus.out hlt Hown.out b1 HI1.out hsz _ hgrow hat
   have hb3 := ((HB.out.trans (b1.mono hsz)).alloc (by omega) (.cells #[.string bs[q].1, .int .i64 bs[q].2.k, .bool bs[q].2.b, .int .i64 bs[q].2.i, .string bs[q].2.s, .slice xan xln xcn, .slice xal xll xcl] 52)).grown hgrow (by simp; omega) (fun k hk => (World.ownsRow.lt hrow k hk).1)
   have ho2 : OwnB w2 w.heap.size v' (us ++ [bv bs[q].1 bs[q].2.k bs[q].2.b bs[q].2.i bs[q].2.s (.slice xan xln xcn) (.slice xal xll xcl)]) := by
    refine ⟨?_, sevens_snoc Hown.out.2 bv_seven⟩
    rw [flat_append, List.length_append, hlen2]
    exact hown'
   have hlen3 : (us ++ [bv bs[q].1 bs[q].2.k bs[q].2.b bs[q].2.i bs[q].2.s (.slice xan xln xcn) (.slice xal xll xcl)]).length = q + 1 := by simp [hlen2]
   obtain ⟨us2, hus2⟩ : ∃ us2, us ++ [bv bs[q].1 bs[q].2.k bs[q].2.b bs[q].2.i bs[q].2.s (.slice xan xln xcn) (.slice xal xll xcl)] = us2 := ⟨_, rfl⟩
   rw [hus2] at hels2 ho2 hlen3
   have H2 : Hid (∀ j (h : j < us2.length) (h' : j < bs.length), InB (El w.heap.size w2.heap.size v') w2 m us2[j] bs[j]) := fun j h h' => hels2 j h h'
   have HO2 : Hid (OwnB w2 w.heap.size v' us2) := ho2
   have HB3 : Hid (Below w.heap.size w w2) := hb3
   clear hown' hgrow hat hrow hrow1 Hown HH Hus hels2 hus2 c10 ho2 hb3 HI1 b1
   go_wp2_with fail
   go_roundw
   case rel => exact ⟨q + 1, us2, by omega, hlen3, by go_num, HO2.out, H2.out, HB3.out⟩
   case measure => simp only [intOf]; omega
  ·obtain rfl : q = bs.length := by omega
   have hnlt : decide ((bs.length : Int) < (bs.length : Int)) = false := by simp
   have HH : Hid (∀ j (h : j < us.length) (h' : j < bs.length), InB (El w.heap.size wr.heap.size u3) wr m us[j] bs[j]) := hels
   have Hown : Hid (OwnB wr w.heap.size u3 us) := hown
   have Hus : Hid (us.length = bs.length) := hus
   clear hels hus hown
   go_wp2_with fail
   go_ret
   exact ⟨_, us, rfl, Hus.out, Hown.out, HH.out, hb⟩
end Go.Proofs.YtdeigdbnnbikgaaGreatDoor.VCc

import Derived.Test.YtghnhkagkngjcaaGreatDoorPN23
import Derived.Test.YtghnhkagkngjcaaGreatDoorPN42
import Derived.Test.YtghnhkagkngjcaaGreatDoorPN44
set_option linter.unusedVariables false
set_option maxRecDepth 20000
set_option maxHeartbeats 3200000
namespace Go.Proofs.YtghnhkagkngjcaaGreatDoor.VNa
open Go.RowKit Base EPure VSm VJn VVr VEv VNp VNm
theorem nm_all (K : Nat) : ∀ n, Nm K n := by
 intro n
 induction n with
 | zero => intro w nv v ns x _ h; rw [XBase.In] at h; exact h.elim
 | succ n ih =>
  intro w nv v ns x hown h hK hc
  obtain ⟨o, i, s, l⟩ := x
  rw [XBase.in_iff] at h
  obtain ⟨lv, rfl, hor, hir, hs, a, cap, rfl, hlc, hcm, -, -, hL⟩ := h
  simp only [cntL] at hc
  have e : nmL ns [.mk o i s l] = nmL (add1 ns o s) l := nmL_one ns o i s l
  unfold Nx
  rw [e]
  by_cases ho : o = 6
  ·subst ho
   cases hi : Lib.containsS ns s with
   | true => rw [show add1 ns 6 s = ns by simp [add1, hi]]; exact nm_old ih hown hK hlc hcm hL (by omega) hi
   | false => rw [show add1 ns 6 s = ns ++ [s] by simp [add1, hi]]; exact nm_new ih hown hK hlc hcm hL (by omega) hi
  ·rw [show add1 ns o s = ns by simp [add1, ho]]
   exact nm_zero ih hown hK hlc hcm hL (by omega) ho
def nms (x : Ex) : List ByteArray := if may x = true then nmL [] [x] else []
theorem nms_len (x : Ex) : (nms x).length ≤ 512 := by
 unfold nms
 split
 ·rename_i h
  have h1 := nmL_len [x] []
  have h2 := cnt_of h
  simp at h1
  omega
 ·simp
theorem names_c {n : Nat} {w : World} {o i : Int} {s : ByteArray} {lv : Value} {x : Ex} (hin : XBase.In false (fun b => b < w.heap.size) w n (xv o i s lv) x) (hT : Tb w) :
  Calls Tryz.prog 6 #[xv o i s lv] w fun e w' => ∃ nv, e = .returned nv ∧ OwnT w' w.heap.size nv (nms x) ∧ Below w.heap.size w w' := by
 obtain ⟨W0, hW0⟩ : ∃ W0, w.alloc (.cells #[.int .i64 o, .int .i64 i, .string s, lv] 24) = W0 := ⟨_, rfl⟩
 have hb0 : Below w.heap.size w W0 := by rw [← hW0]; exact (Below.refl _ w).alloc (Nat.le_refl _) _
 have hp : W0.heap[w.heap.size]? = some (.cells #[.int .i64 o, .int .i64 i, .string s, lv] 24 (0, 0)) := by rw [← hW0]; exact heap_alloc_new w _
 obtain ⟨x0, x1, x2, x3⟩ := XBase.four_box hp
 have hs0 : W0.heap.size = w.heap.size + 1 := by rw [← hW0]; simp
 have cM := mayBe_c (w := W0) ((hin.below hb0).weak (fun b hb => Nat.lt_of_lt_of_le hb hb0.size) false (fun h => by cases h) n (Nat.le_refl _)) (hT.below hb0)
 have HC : Hid (∀ W, Below w.heap.size w W → may x = true → Calls Tryz.prog 15 #[.slice none 0 0, xv o i s lv] W fun e w' => Nx w.heap.size W [] [x] e w') := fun W hW hm =>
  nm_all _ n W _ _ [] x (World.ownsRow_nil _ _ _ _) (hin.below hW) hW.size (by have := cnt_of hm; simp; omega)
 have HP : Hid (W0.heap[w.heap.size]? = some (.cells #[.int .i64 o, .int .i64 i, .string s, lv] 24 (0, 0))) := hp
 have HB : Hid (Below w.heap.size w W0) := hb0
 obtain ⟨r, hr⟩ : ∃ r, nms x = r := ⟨_, rfl⟩
 rw [hr]
 have HR : Hid (nms x = r) := hr
 cases hm : may x with
 | false =>
  rw [hm] at cM
  have hr0 : r = [] := by rw [← hr]; unfold nms; rw [hm]; rfl
  have HR0 : Hid (r = []) := hr0
  clear hin hT hb0 hp hr hr0 HC
  go_enter Tryz.func6, Tryz.ntmps6
  go_wp2_with (first | (go_at_call 14; (try rw [hW0]); refine cM.mono ?_; rintro e w2 ⟨rfl, hb2⟩))
  go_ret
  exact ⟨_, rfl, by rw [HR0.out]; exact World.ownsRow_nil _ _ _ _, HB.out.trans (hb2.mono (by omega))⟩
 | true =>
  rw [hm] at cM
  have hr0 : nmL [] [x] = r := by rw [← hr]; unfold nms; rw [hm]; rfl
  have HR0 : Hid (nmL [] [x] = r) := hr0
  have HM : Hid (may x = true) := hm
  clear hin hT hb0 hp hr hr0 hm
  go_enter Tryz.func6, Tryz.ntmps6
  go_wp2_with (first | (go_at_call 14; (try rw [hW0]); refine cM.mono ?_; rintro e w2 ⟨rfl, hb2⟩; have hp2 := (hb2.block _ (by omega)).trans HP.out; obtain ⟨y0, y1, y2, y3⟩ := XBase.four_box hp2; have hB2 : Below w.heap.size w w2 := HB.out.trans (hb2.mono (by omega)); have cN := HC.out w2 hB2 HM.out; have HB2 : Hid (Below w.heap.size w w2) := hB2; clear hp2 hB2) | (go_at_call 15; refine cN.mono ?_; rintro e w3 ⟨nv3, rfl, ho3, hb3⟩))
  go_ret
  exact ⟨_, rfl, by rw [← HR0.out]; exact ho3, HB2.out.trans hb3⟩
end Go.Proofs.YtghnhkagkngjcaaGreatDoor.VNa
namespace Go.Proofs.YtghnhkagkngjcaaGreatDoor.VNr
open Go.RowKit Base EPure VSm VJn VVr VEv VNp VNm VNa
open PPr (gd gdL gdL_get)
def Gr (w w' : World) (nv nv' : Value) : Prop := (∀ k, k < w.heap.size → nv.ownBlock ≠ some k → w'.heap[k]? = w.heap[k]?) ∧ ∀ g, nv'.ownBlock = some g → nv.ownBlock = some g ∨ w.heap.size ≤ g
theorem Gr.refl (w : World) (nv : Value) : Gr w w nv nv := ⟨fun _ _ _ => rfl, fun _ h => .inl h⟩
theorem Gr.of_below {w w' : World} (nv : Value) (h : Below w.heap.size w w') : Gr w w' nv nv := ⟨fun k hk _ => h.block k hk, fun _ h => .inl h⟩
theorem Gr.trans {w w' w'' : World} {nv nv' nv'' : Value} (h : Gr w w' nv nv') (h2 : Gr w' w'' nv' nv'') (hs : w.heap.size ≤ w'.heap.size) : Gr w w'' nv nv'' := by
 refine ⟨fun k hk hne => (h2.1 k (by omega) fun e => ?_).trans (h.1 k hk hne), fun g hg => ?_⟩
 ·rcases h.2 k e with e | e
  ·exact hne e
  ·omega
 ·rcases h2.2 g hg with e | e
  ·exact h.2 g e
  ·exact .inr (by omega)
def Rx (K : Nat) (w : World) (nv : Value) (ns : List ByteArray) (e : Ending) (w' : World) : Prop := ∃ nv', e = .returned nv' ∧ OwnT w' K nv' ns ∧ Below K w w' ∧ Gr w w' nv nv'
def Nr (K n : Nat) : Prop := ∀ (w : World) (nv v : Value) (ns : List ByteArray) (x : Ex), OwnT w K nv ns → XBase.In false (fun b => b < K) w n v x → gd x → K ≤ w.heap.size → ns.length + cntL [x] ≤ 65536 → Calls Tryz.prog 17 #[v, nv] w fun e w' => Rx K w nv (nmL ns [x]) e w'
theorem ne_list {t s : ByteArray} (h : ¬ t = s) : (t.toList == s.toList) = false := by
 rw [ByteArray.toList_eq, ByteArray.toList_eq, beq_eq_false_iff_ne]
 intro e
 apply h
 cases t
 cases s
 congr 1
 exact Array.toList_inj.1 e
theorem bel_d2 {w W : World} (h : Below w.heap.size w W) : Below w.heap.size w W.drew := h.drew
theorem rn_zero {K n : Nat} (ih : Nr K n) {w : World} {nv : Value} {ns : List ByteArray} {o i : Int} {s : ByteArray} {a : Option Addr} {cap : Nat} {l : List Ex} (hown : OwnT w K nv ns) (hK : K ≤ w.heap.size) (hlc : l.length ≤ cap) (hcm : cap ≤ 9223372036854775807) (hL : XBase.LAt false (fun b => b < K) w n a cap l) (hgl : gdL l) (hc : ns.length + cntL l + 1 ≤ 65536) (ho : o ≠ 6) :
  Calls Tryz.prog 17 #[xv o i s (.slice a l.length cap), nv] w fun e w' => Rx K w nv (nmL ns l) e w' := by
 have ho6 : (o == 6) = false := by simpa using ho
 obtain ⟨W0, hW0⟩ : ∃ W0, w.alloc (.cells #[.int .i64 o, .int .i64 i, .string s, .slice a l.length cap] 24) = W0 := ⟨_, rfl⟩
 have hb0 : Below w.heap.size w W0 := by rw [← hW0]; exact (Below.refl _ w).alloc (Nat.le_refl _) _
 have hp : W0.heap[w.heap.size]? = some (.cells #[.int .i64 o, .int .i64 i, .string s, .slice a l.length cap] 24 (0, 0)) := by rw [← hW0]; exact heap_alloc_new w _
 obtain ⟨x0, x1, x2, x3⟩ := XBase.four_box hp
 have hs0 : W0.heap.size = w.heap.size + 1 := by rw [← hW0]; simp
 have HO : Hid (OwnT W0 K nv ns) := Fresh.own_keep hown fun g hg => hb0.block g (World.ownsRow.lt hown g hg).2
 have HB : Hid (Below K w W0) := hb0.mono hK
 have HB0 : Hid (Below w.heap.size w W0) := hb0
 have HN : Hid (nv.ownBlock ≠ some w.heap.size) := fun e => by have := (World.ownsRow.lt hown _ e).2; omega
 have HP : Hid (W0.heap[w.heap.size]? = some (.cells #[.int .i64 o, .int .i64 i, .string s, .slice a l.length cap] 24 (0, 0))) := hp
 have HI : Hid (Nr K n) := ih
 have HL : Hid (XBase.LAt false (fun b => b < K) w n a cap l) := hL
 have HG : Hid (gdL l) := hgl
 have hlen : (l.length : Int) ≤ 9223372036854775807 := by omega
 clear ih hown hb0 hp hL hgl
 go_enter Tryz.func17, Tryz.ntmps17
 go_wp2_with fail
 clear x0 x1 x2 x3
 clear hW0
 go_loopw [1, 6] (fun nvk z wr => ∃ (q : Nat) (nvj : Value), nvj = nvk ∧ z = .int .i64 q ∧ q ≤ l.length ∧ OwnT wr K nvj (nmL ns (l.take q)) ∧ Below K w wr ∧ W0.heap.size ≤ wr.heap.size ∧ Gr W0 wr nv nvj) (fun _ z _ => l.length - (intOf z).toNat)
 case atStart => exact ⟨0, _, rfl, rfl, by omega, by rw [List.take_zero, nmL_nil]; exact HO.out, HB.out, by omega, Gr.refl _ _⟩
 case round =>
  obtain ⟨q, nvj, rfl, rfl, hq, hown, hb, hsz, hgr⟩ := hrel
  have hpr := (hgr.1 w.heap.size (by omega) HN.out).trans HP.out
  obtain ⟨y0, y1, y2, y3⟩ := XBase.four_box hpr
  by_cases hlt : q < l.length
  ·have hnl := nmL_len (l.take q) ns
   have hcl : cntL (l.take q) + cntL [l[q]] ≤ cntL l := by
    have := cntL_append (l.take q) (l.drop q)
    rw [List.take_append_drop, List.drop_eq_getElem_cons hlt, cntL_cons] at this
    omega
   have hnq : nmL ns (l.take (q + 1)) = nmL (nmL ns (l.take q)) [l[q]] := by rw [← nmL_append, List.take_append_getElem hlt]
   rcases HL.out with ⟨h, -⟩ | ⟨g, o0, rfl, hg, hk, -⟩
   ·rw [h] at hlt; simp at hlt
   ·obtain ⟨u, hu, hin⟩ := hk q hlt
    obtain ⟨n', lv, hn, hv, -, -, -, hlv⟩ := hin.shape
    obtain ⟨a', c', rfl, -⟩ := hlv
    obtain ⟨w0, w1, w2, w3, e, c0, c1, c2, c3⟩ := hu
    rw [hv] at e
    injection e with e
    simp only [Array.mk.injEq, List.cons.injEq, and_true] at e
    obtain ⟨rfl, rfl, rfl, rfl⟩ := e
    have kw : ∀ (q : Nat) (v : Value), w.cell? ⟨g, q, none⟩ = some v → wr.cell? ⟨g, q, none⟩ = some v := fun q v h => (World.cell?_of_block (w := w) (hb.block g hg)).trans h
    replace c0 : wr.cell? ⟨g, o0 + q * 4, none⟩ = some (.int .i64 l[q].o) := kw _ _ c0
    replace c1 : wr.cell? ⟨g, o0 + q * 4 + 1, none⟩ = some (.int .i64 l[q].i) := kw _ _ c1
    replace c2 : wr.cell? ⟨g, o0 + q * 4 + 2, none⟩ = some (.string l[q].s) := kw _ _ c2
    replace c3 : wr.cell? ⟨g, o0 + q * 4 + 3, none⟩ = some (.slice a' l[q].l.length c') := kw _ _ c3
    rw [hv] at hin
    have hinr := XBase.In.keep (w := w) (w' := wr) (fun b hb' _ => hb.block b hb') hin
    have cK : Calls Tryz.prog 17 #[xv l[q].o l[q].i l[q].s (.slice a' l[q].l.length c'), nvj] wr fun e w' => Rx K wr nvj (nmL (nmL ns (l.take q)) [l[q]]) e w' :=
     HI.out wr nvj _ _ _ hown hinr (gdL_get HG.out hlt) (by omega) (by omega)
    have HQ : Hid (nmL ns (l.take (q + 1)) = nmL (nmL ns (l.take q)) [l[q]]) := hnq
    have HGr : Hid (Gr W0 wr nv nvj) := hgr
    clear hown hin hinr hk hnq hcl hnl kw hv HL hgr hpr
    generalize l[q].o = ko at *
    generalize l[q].i = ki at *
    generalize l[q].s = ks at *
    generalize l[q].l.length = kn at *
    go_wp2_with (first | (refine cK.mono ?_; rintro e w2 ⟨nv2, rfl, ho2, hb2, hg2⟩))
    go_roundw
    case rel => exact ⟨q + 1, _, rfl, by go_num, by omega, by rw [HQ.out]; exact ho2, hb.trans hb2, by have := hb2.size; omega, HGr.out.trans hg2 hsz⟩
    case measure => simp only [intOf]; omega
  ·obtain rfl : q = l.length := by omega
   have hnlt : decide ((l.length : Int) < (l.length : Int)) = false := by simp
   rw [List.take_length] at hown
   have HW : Hid (OwnT wr K nvj (nmL ns l)) := hown
   have HGr : Hid (Gr w wr nv nvj) := (Gr.of_below nv HB0.out).trans hgr (by omega)
   clear hown HL hgr hpr
   go_wp2_with fail
   go_ret
   exact ⟨_, rfl, HW.out, hb, HGr.out⟩
theorem rn_six {K : Nat} {w : World} {nv : Value} {ns : List ByteArray} {i : Int} {s : ByteArray} {lv : Value} (hown : OwnT w K nv ns) (hK : K ≤ w.heap.size) (hc : ns.length + 1 ≤ 65536) :
  Calls Tryz.prog 17 #[xv 6 i s lv, nv] w fun e w' => Rx K w nv (add1 ns 6 s) e w' := by
 obtain ⟨W0, hW0⟩ : ∃ W0, w.alloc (.cells #[.int .i64 6, .int .i64 i, .string s, lv] 24) = W0 := ⟨_, rfl⟩
 have hb0 : Below w.heap.size w W0 := by rw [← hW0]; exact (Below.refl _ w).alloc (Nat.le_refl _) _
 have hp : W0.heap[w.heap.size]? = some (.cells #[.int .i64 6, .int .i64 i, .string s, lv] 24 (0, 0)) := by rw [← hW0]; exact heap_alloc_new w _
 obtain ⟨x0, x1, x2, x3⟩ := XBase.four_box hp
 have hs0 : W0.heap.size = w.heap.size + 1 := by rw [← hW0]; simp
 have HO : Hid (OwnT W0 K nv ns) := Fresh.own_keep hown fun g hg => hb0.block g (World.ownsRow.lt hown g hg).2
 have HB0 : Hid (Below w.heap.size w W0) := hb0
 have HN : Hid (nv.ownBlock ≠ some w.heap.size) := fun e => by have := (World.ownsRow.lt hown _ e).2; omega
 have HP : Hid (W0.heap[w.heap.size]? = some (.cells #[.int .i64 6, .int .i64 i, .string s, lv] 24 (0, 0))) := hp
 have hh := hown
 unfold OwnT World.ownsRow at hh
 obtain ⟨a, cap, hnv, hcl⟩ : ∃ a cap, nv = .slice a ns.length cap ∧ (ns = [] ∨ ∃ g, a = some ⟨g, 0, none⟩) := by
  rcases hh.2 with ⟨hv, e⟩ | ⟨g, cap, cur, hv, _⟩
  ·have : ns = [] := List.length_eq_zero_iff.1 e
   subst this
   exact ⟨none, 0, hv, .inl rfl⟩
  ·exact ⟨_, cap, hv, .inr ⟨g, rfl⟩⟩
 subst hnv
 have hcap : ns.length ≤ cap := by
  rcases hcl with rfl | ⟨g, rfl⟩
  ·simp
  ·exact (ownT_cap hown).2.1
 clear hown hb0 hp hh
 go_enter Tryz.func17, Tryz.ntmps17
 go_wp2_with fail
 clear x0 x1 x2 x3 hW0
 go_loopw [5] (fun z wr => ∃ q : Nat, z = .int .i64 q ∧ q ≤ ns.length ∧ (∀ j (h : j < ns.length), j < q → ns[j] ≠ s) ∧ Below W0.heap.size W0 wr) (fun z _ => ns.length - (intOf z).toNat)
 case atStart => exact ⟨0, rfl, by omega, fun j _ h => by omega, Below.refl _ _⟩
 case round =>
  obtain ⟨q, rfl, hq, hall, hb⟩ := hrel
  have hpr := (hb.block w.heap.size (by omega)).trans HP.out
  obtain ⟨y0, y1, y2, y3⟩ := XBase.four_box hpr
  have HOr : Hid (OwnT wr K (.slice a ns.length cap) ns) := Fresh.own_keep HO.out fun g hg => hb.block g (World.ownsRow.lt HO.out g hg).2
  have HBr : Hid (Below w.heap.size w wr) := HB0.out.trans (hb.mono (by omega))
  by_cases hlt : q < ns.length
  ·rcases hcl with rfl | ⟨g, rfl⟩
   ·simp at hlt
   ·have hc1 := ownT_cell HOr.out q hlt
    rw [Nat.zero_add] at hc1
    by_cases e : ns[q] = s
    ·have hI : add1 ns 6 s = ns := by unfold add1; rw [if_pos rfl, if_pos ((Lib.containsS_iff ns s).2 (e ▸ List.getElem_mem hlt))]
     have HI : Hid (add1 ns 6 s = ns) := hI
     rw [e] at hc1
     clear hall hpr hI
     go_wp2_with fail
     go_region
     all_goals go_wp2_with fail
     all_goals go_ret
     all_goals exact ⟨_, rfl, by rw [HI.out]; exact HOr.out, (bel_d2 HBr.out).mono hK, Gr.of_below _ (bel_d2 HBr.out)⟩
    ·have HA : Hid (∀ j (h : j < ns.length), j < q + 1 → ns[j] ≠ s) := fun j h hj => by
      by_cases hjq : j < q
      ·exact hall j h hjq
      ·have : j = q := by omega
       subst this
       exact e
     generalize ns[q] = t at *
     have hee : (t.toList == s.toList) = false := ne_list e
     have hb' := hb.drew
     clear hall hpr
     go_wp2_with fail
     go_region
     all_goals go_wp2_with fail
     all_goals go_roundw
     all_goals first
      | (case measure => simp only [intOf]; omega)
      | (case rel => exact ⟨q + 1, by go_num, by omega, HA.out, hb'⟩)
  ·obtain rfl : q = ns.length := by omega
   have hnlt : decide ((ns.length : Int) < (ns.length : Int)) = false := by simp
   have hI : add1 ns 6 s = ns ++ [s] := by
    unfold add1
    rw [if_pos rfl, if_neg]
    intro h
    obtain ⟨j, hj, e⟩ := List.getElem_of_mem ((Lib.containsS_iff ns s).1 h)
    exact hall j hj hj e
   have HI : Hid (add1 ns 6 s = ns ++ [s]) := hI
   obtain ⟨g3, cap3, w3, hrun, hown3, hb3, hs3, hoth, hat⟩ := more HOr.out (by have := HBr.out.size; omega) (by omega) s
   have HO3 : Hid (OwnT w3 K (.slice (some ⟨g3, 0, none⟩) (ns.length + 1) cap3) (ns ++ [s])) := hown3
   have HB3 : Hid (Below K w w3) := (HBr.out.mono hK).trans hb3
   have HG3 : Hid (Gr w w3 (.slice a ns.length cap) (.slice (some ⟨g3, 0, none⟩) (ns.length + 1) cap3)) := (Gr.of_below _ HBr.out).trans ⟨hoth, fun g hg => by
    have : g = g3 := by simpa [Value.ownBlock] using hg.symm
    subst this
    exact hat⟩ HBr.out.size
   clear hall hpr hown3 hb3 hoth hat hI
   go_wp2_with (first | (at_builtin; refine VNp.list_app rfl _ _ _ rfl rfl rfl hrun ?_))
   go_ret
   exact ⟨_, rfl, by rw [HI.out]; exact HO3.out, HB3.out, HG3.out⟩
theorem rn_all (K : Nat) : ∀ n, Nr K n := by
 intro n
 induction n with
 | zero => intro w nv v ns x _ h; rw [XBase.In] at h; exact h.elim
 | succ n ih =>
  intro w nv v ns x hown h hg hK hc
  obtain ⟨o, i, s, l⟩ := x
  rw [XBase.in_iff] at h
  obtain ⟨lv, rfl, hor, hir, hs, a, cap, rfl, hlc, hcm, -, -, hL⟩ := h
  obtain ⟨hk, -, hgl⟩ := hg
  simp only [cntL] at hc
  simp only [Ex.l, Ex.o] at hk hgl
  have e : nmL ns [.mk o i s l] = nmL (add1 ns o s) l := nmL_one ns o i s l
  rw [e]
  by_cases ho : o = 6
  ·subst ho
   have hl : l = [] := by
    have : PPl.kd 6 = 0 := by decide
    rw [this] at hk
    exact List.length_eq_zero_iff.1 (by omega)
   subst hl
   rw [nmL_nil]
   exact rn_six hown hK (by omega)
  ·rw [show add1 ns o s = ns by simp [add1, ho]]
   exact rn_zero ih hown hK hlc hcm hL hgl (by omega) ho
end Go.Proofs.YtghnhkagkngjcaaGreatDoor.VNr
namespace Go.Proofs.YtghnhkagkngjcaaGreatDoor.VNz
open Go.RowKit Base EPure VSm VJn VVr VEv VNp VNm VNa VNr
theorem rnames_c {n : Nat} {w : World} {o i : Int} {s : ByteArray} {lv : Value} {x : Ex} {K : Nat} (hin : XBase.In false (fun b => b < K) w n (xv o i s lv) x) (hK : K ≤ w.heap.size) :
  Calls Tryz.prog 7 #[xv o i s lv] w fun e w' => ∃ nv, e = .returned nv ∧ OwnT w' w.heap.size nv (nms x) ∧ Below w.heap.size w w' := by
 obtain ⟨W0, hW0⟩ : ∃ W0, w.alloc (.cells #[.int .i64 o, .int .i64 i, .string s, lv] 24) = W0 := ⟨_, rfl⟩
 have hb0 : Below w.heap.size w W0 := by rw [← hW0]; exact (Below.refl _ w).alloc (Nat.le_refl _) _
 have hp : W0.heap[w.heap.size]? = some (.cells #[.int .i64 o, .int .i64 i, .string s, lv] 24 (0, 0)) := by rw [← hW0]; exact heap_alloc_new w _
 obtain ⟨x0, x1, x2, x3⟩ := XBase.four_box hp
 have hs0 : W0.heap.size = w.heap.size + 1 := by rw [← hW0]; simp
 have cM : Calls Tryz.prog 16 #[xv o i s lv] W0 fun e w' => e = .returned (.bool (may x)) ∧ Below W0.heap.size W0 w' := QMn.may_c ((hin.below hb0).weak (fun b hb => trivial) false (fun h => by cases h) n (Nat.le_refl _))
 have HC : Hid (∀ W, Below w.heap.size w W → may x = true → Calls Tryz.prog 17 #[xv o i s lv, .slice none 0 0] W fun e w' => Rx w.heap.size W (.slice none 0 0) (nmL [] [x]) e w') := fun W hW hm =>
  rn_all _ n W _ _ [] x (World.ownsRow_nil _ _ _ _) ((hin.below hW).weak (fun b hb => Nat.lt_of_lt_of_le hb hK) false (fun h => by cases h) n (Nat.le_refl _)) (may_gd hm) hW.size (by have := cnt_of hm; simp; omega)
 have HP : Hid (W0.heap[w.heap.size]? = some (.cells #[.int .i64 o, .int .i64 i, .string s, lv] 24 (0, 0))) := hp
 have HB : Hid (Below w.heap.size w W0) := hb0
 obtain ⟨r, hr⟩ : ∃ r, nms x = r := ⟨_, rfl⟩
 rw [hr]
 cases hm : may x with
 | false =>
  rw [hm] at cM
  have hr0 : r = [] := by rw [← hr]; unfold nms; rw [hm]; rfl
  have HR0 : Hid (r = []) := hr0
  clear hin hb0 hp hr hr0 HC
  go_enter Tryz.func7, Tryz.ntmps7
  go_wp2_with (first | (go_at_call 16; (try rw [hW0]); refine cM.mono ?_; rintro e w2 ⟨rfl, hb2⟩))
  go_ret
  exact ⟨_, rfl, by rw [HR0.out]; exact World.ownsRow_nil _ _ _ _, HB.out.trans (hb2.mono (by omega))⟩
 | true =>
  rw [hm] at cM
  have hr0 : nmL [] [x] = r := by rw [← hr]; unfold nms; rw [hm]; rfl
  have HR0 : Hid (nmL [] [x] = r) := hr0
  have HM : Hid (may x = true) := hm
  clear hin hb0 hp hr hr0 hm
  go_enter Tryz.func7, Tryz.ntmps7
  go_wp2_with (first | (go_at_call 16; (try rw [hW0]); refine cM.mono ?_; rintro e w2 ⟨rfl, hb2⟩; have hp2 := (hb2.block _ (by omega)).trans HP.out; obtain ⟨y0, y1, y2, y3⟩ := XBase.four_box hp2; have hB2 : Below w.heap.size w w2 := HB.out.trans (hb2.mono (by omega)); have cN := HC.out w2 hB2 HM.out; have HB2 : Hid (Below w.heap.size w w2) := hB2; clear hp2 hB2) | (go_at_call 17; refine cN.mono ?_; rintro e w3 ⟨nv3, rfl, ho3, hb3, -⟩))
  go_ret
  exact ⟨_, rfl, by rw [← HR0.out]; exact ho3, HB2.out.trans hb3⟩
end Go.Proofs.YtghnhkagkngjcaaGreatDoor.VNz

import Derived.ChangeOld
import Derived.Deep.Strs
import Derived.OpenShut
import Derived.ProofKit
import Derived.SizedLaws
import Derived.Test.YtghnhkagkngjcaaGreatDoorPN04
import Derived.Test.YtghnhkagkngjcaaGreatDoorPN21
import Derived.Test.YtghnhkagkngjcaaGreatDoorPN30
import Derived.Test.YtghnhkagkngjcaaGreatDoorPN41
import Derived.Test.YtghnhkagkngjcaaGreatDoorPN42
import Derived.Test.YtghnhkagkngjcaaGreatDoorPN45
import Derived.Test.YtghnhkagkngjcaaGreatDoorPN46
set_option linter.unusedVariables false
set_option maxRecDepth 20000
set_option maxHeartbeats 3200000
namespace Go.Proofs.YtghnhkagkngjcaaGreatDoor.EOpen
open Go.ChangeShapes Go.WideShapes Go.ChangeAt Go.RowKit EPure Go.Proofs.YtghnhkagkngjcaaGreatDoor.Frame
open XBase (In InL in_iff LAt Four)
open Base (All add_none)
theorem cells9 : Tryz.prog.cellsOf 9 = 1 := by kernel_rfl
theorem cellsX : Tryz.prog.cellsOf 24 = 4 := by kernel_rfl
theorem cells3 : Tryz.prog.cellsOf 3 = 1 := by kernel_rfl
theorem cellsXs : Tryz.prog.cellsOf 22 = 1 := by kernel_rfl
theorem bytesX : Tryz.prog.bytesOf 24 = 56 := by kernel_rfl
theorem cells_at {w : World} {a : Addr} {n : Nat} {cs : List Value} (h : w.cells? 0 a n = some cs) : cs.length = n ∧ ∀ j (hj : j < n), w.cell? (a.add j) = cs[j]? := by
 unfold World.cells? at h
 rw [if_pos (Nat.zero_le _)] at h
 have hl := mapM_some_length h
 refine ⟨by simpa using hl, fun j hj => ?_⟩
 have := mapM_some_get h j j (by simp [hj])
 exact this
theorem list_four {α : Type} {l : List α} (h : l.length = 4) : ∃ c0 c1 c2 c3, l = [c0, c1, c2, c3] := by
 match l, h with
 | [c0, c1, c2, c3], _ => exact ⟨c0, c1, c2, c3, rfl⟩
theorem spot_none {w : World} {a : Addr} {v : Value} (h : w.cell? (a.add 0) = some v) : ∃ g o, a = ⟨g, o, none⟩ := by
 obtain ⟨g, o, sp⟩ := a
 cases sp with
 | none => exact ⟨g, o, rfl⟩
 | some x =>
  simp only [Addr.add, if_true, World.cell?] at h
  split at h
  ·simp at h
  ·cases h
theorem weightsAll_mem {H : Type} {P : Program} {e : TypeId} {d : DataW H} {q : Nat} : ∀ {ds : List (DataW H)}, d ∈ ds → q ∈ DataW.weights P e d → q ∈ DataW.weightsAll P e ds
 | [], hd, _ => by cases hd
 | d' :: r, hd, hq => by
  rw [DataW.weightsAll, List.mem_append]
  rcases List.mem_cons.1 hd with rfl | h
  ·exact .inl hq
  ·exact .inr (weightsAll_mem h hq)
section
variable {H : Type} {enc : TypeId × Value → H} {W : World}
theorem open_x : ∀ {fuel : Nat} {cs : List Value} {x : DataW H × List MemPlace}, DataW.trod enc Tryz.prog W 0 (fun _ => true) true fuel 24 cs = some x → (∀ q ∈ DataW.weights Tryz.prog 24 x.1, q ≤ reachBytes) →
  ∃ c, In false All W fuel (.agg cs.toArray) c := by
 intro fuel
 induction fuel using Nat.strongRecOn with
 | _ fuel ih =>
  intro cs x h hw
  obtain ⟨xs, n, rfl, rfl, hcl, hxl, hf⟩ := DataW.trod_struct Tryz.underlying24 h
  rw [cellsX] at hcl
  have hxl4 : xs.length = 4 := hxl
  clear hxl
  obtain ⟨c0, c1, c2, c3, rfl⟩ := list_four hcl
  obtain ⟨x0, x1, x2, x3, rfl⟩ := list_four hxl4
  have f0 := hf 0 _ rfl
  have f1 := hf 1 _ rfl
  have f2 := hf 2 _ rfl
  have f3 := hf 3 _ rfl
  simp [cells3] at f0
  simp [cells3] at f1
  simp [cells9] at f2
  simp [cellsXs] at f3
  obtain ⟨k, e0, e0', hk⟩ := DataW.trod_int Tryz.underlying3 f0
  obtain ⟨i, e1, e1', hi⟩ := DataW.trod_int Tryz.underlying3 f1
  obtain ⟨s, e2, e2', hs⟩ := DataW.trod_string Tryz.underlying9 f2
  have W0 : ∀ q, q ∈ DataW.weights Tryz.prog 9 x2.1 ∨ q ∈ DataW.weights Tryz.prog 22 x3.1 → q ≤ reachBytes := by
   intro q hq
   apply hw
   simp only [List.map_cons, List.map_nil]
   rw [DataW.weights, Tryz.underlying24]
   simp only [List.map_cons, List.map_nil, DataW.weightsEach, List.mem_append]
   rcases hq with hq | hq
   ·simp [hq]
   ·simp [hq]
  have hss : s.size ≤ 140737488351232 := by
   have := W0 s.data.toList.length (.inl (by rw [e2']; simp [DataW.weights]))
   simp only [reachBytes] at this
   have hl : s.data.toList.length = s.size := Array.length_toList
   omega
  simp only [List.cons.injEq, and_true] at e0 e1 e2
  subst e0 e1 e2
  have hL : ∃ l, InL false All W n c3 l := by
   rcases DataW.trod_slice Tryz.underlying22 f3 with ⟨e5, -⟩ | ⟨a, len, cap, els, rest, n', rfl, e5, e5', _, hl, hm, hlen, hel, -, -⟩
   ·simp only [List.cons.injEq, and_true] at e5
    subst e5
    exact ⟨[], none, 0, rfl, by simp, by simp, by simp, fun _ => rfl, .inl ⟨rfl, rfl⟩⟩
   ·simp only [List.cons.injEq, and_true] at e5
    subst e5
    have hone : ∀ j : Fin len, ∃ (c : Ex) (u : Value), (∃ cs' : List Value, u = .agg cs'.toArray ∧ cs'.length = 4 ∧ ∀ i (hi : i < 4), W.cell? ((a.add (j.1 * 4)).add i) = cs'[i]?) ∧ In false All W n' u c := by
     rintro ⟨j, hj⟩
     have hh := hel j hj
     rw [List.getElem?_eq_getElem (by omega), Option.bind_eq_some_iff] at hh
     obtain ⟨c', hc, ht⟩ := hh
     rw [cellsX] at hc
     obtain ⟨hl1, hcc⟩ := cells_at hc
     obtain ⟨c, hin⟩ := ih n' (by omega) ht (fun q hq => W0 q (.inr (by
      rw [e5', DataW.weights, Tryz.underlying22]
      refine List.mem_cons_of_mem _ (List.mem_append.2 (.inl (weightsAll_mem (d := els[j].1) ?_ hq)))
      rw [List.mem_map]
      exact ⟨els[j]'(by omega), List.getElem_mem _, rfl⟩)))
     exact ⟨c, _, ⟨c', rfl, hl1, hcc⟩, hin⟩
    have hb56 : len * 56 ≤ 140737488351232 := by
     have := W0 ((els.length + rest.length) * 56) (.inr (by
      rw [e5', DataW.weights, Tryz.underlying22]
      simp [bytesX]))
     simp only [reachBytes] at this
     omega
    obtain ⟨f, hf⟩ := Classical.axiomOfChoice hone
    refine ⟨List.ofFn f, some a, cap, by simp, by simpa using hl, hm, by simpa using hb56, (fun h => by cases h), ?_⟩
    by_cases h0 : len = 0
    ·subst h0
     exact .inl ⟨by simp, rfl⟩
    ·have hcell0 : ∃ v, W.cell? (a.add 0) = some v := by
      obtain ⟨u, ⟨c', -, hl4, hcc⟩, -⟩ := hf ⟨0, by omega⟩
      have := hcc 0 (by omega)
      rw [show (a.add (0 * 4)).add 0 = a.add 0 from by simp [Addr.add]] at this
      exact ⟨c'[0], by rw [this, List.getElem?_eq_getElem]⟩
     obtain ⟨v, hv⟩ := hcell0
     obtain ⟨g, o, rfl⟩ := spot_none hv
     refine .inr ⟨g, o, rfl, trivial, fun j hj => ?_, fun h => by cases h⟩
     have hj' : j < len := by simpa using hj
     obtain ⟨u, ⟨c', rfl, hl4, hcc⟩, hin⟩ := hf ⟨j, hj'⟩
     obtain ⟨y0, y1, y2, y3, rfl⟩ := list_four hl4
     have g0 := hcc 0 (by omega)
     have g1 := hcc 1 (by omega)
     have g2 := hcc 2 (by omega)
     have g3 := hcc 3 (by omega)
     simp only [add_none] at g0 g1 g2 g3
     refine ⟨_, ⟨y0, y1, y2, y3, rfl, g0, g1, g2, g3⟩, ?_⟩
     have := hin.weak (fun _ h => h) false id (n' + 1) (by omega)
     simpa using this
  obtain ⟨l, hL⟩ := hL
  refine ⟨.mk k i s l, ?_⟩
  rw [in_iff]
  exact ⟨_, rfl, bounds_i64 hk, bounds_i64 hi, hss, hL⟩
end
theorem In.low {w : World} : ∀ {m : Nat} {v : Value} {c : Ex}, In false All w m v c → In false (fun b => b < w.heap.size) w m v c := by
 intro m
 induction m with
 | zero => intro v c h; rw [XBase.In] at h; exact h.elim
 | succ m ih =>
  intro v c h
  obtain ⟨k, i, s, l⟩ := c
  rw [XBase.In] at h ⊢
  obtain ⟨a, cap, h1, h2, h3, h4, h5, h6, h7, h8, h9⟩ := h
  refine ⟨a, cap, h1, h2, h3, h4, h5, h6, h7, h8, ?_⟩
  rcases h9 with h9 | ⟨g, o, e, -, hg, -⟩
  ·exact .inl h9
  ·by_cases hl : l = []
   ·exact .inl ⟨hl, rfl⟩
   ·refine .inr ⟨g, o, e, ?_, fun j hj => ?_, fun h => by cases h⟩
    ·obtain ⟨u, ⟨v0, v1, v2, v3, -, hc, -⟩, -⟩ := hg 0 (List.length_pos_iff.2 hl)
     unfold World.cell? at hc
     rcases Nat.lt_or_ge g w.heap.size with h | h
     ·exact h
     ·simp only [Array.getElem?_eq_none h] at hc
      cases hc
    ·obtain ⟨u, hu, hin⟩ := hg j hj
     exact ⟨u, hu, ih hin⟩
set_option maxRecDepth 100000 in
theorem come {H : Type} {enc : TypeId × Value → H} {W : World} {base : Nat} {v : Value} {d : DataW H} {p : List MemPlace} {ts : List TypeId} {ds : List (DataW H)} {j : Nat}
  (hval : Value.okWide Tryz.prog W .any base 24 v) (h : DataW.Trod enc Tryz.prog W 0 (fun _ => true) true 24 v d p)
  (hsz : (DataW.weightsEach Tryz.prog ts ds).all (· ≤ reachBytes) = true) (ht : ts[j]? = some 24) (hd : ds[j]? = some d) :
  (∃ m c, In false All W m v c) ∧ ∀ W', Below W.heap.size W W' → DataW.Trod enc Tryz.prog W' 0 (fun b => decide (b < W.heap.size)) true 24 v d p := by
 have lt0 : ∀ x ∈ p, x.block < W.heap.size := by obtain ⟨m, hm⟩ := h; exact DataW.trod_lt m _ _ _ hm
 refine ⟨?_, fun W' bel => Below.trod laidOut (by kernel_rfl) (of_decide_eq_true (by kernel_rfl)) h bel lt0⟩
 obtain ⟨cs, rfl, -⟩ := okWide_struct Tryz.underlying24 hval
 obtain ⟨fuel, hf⟩ := h
 obtain ⟨c, hc⟩ := open_x hf fun q hq => by simpa using List.all_eq_true.1 hsz q (DataW.weights_mem_each ht hd q hq)
 exact ⟨fuel, c, by simpa [Value.cells] using hc⟩
end Go.Proofs.YtghnhkagkngjcaaGreatDoor.EOpen
namespace Go.Proofs.YtghnhkagkngjcaaGreatDoor.WNm
open Go.RowKit EPure VOf VNa XSh
open XBase (four_box Rg)
open Base (All heap_alloc_new OwnT Tx)
theorem nm_size : ∀ (l : List Ex) (ns : List ByteArray), PPr.gdL l → (∀ t ∈ ns, t.size ≤ 140737488351232) → ∀ t ∈ VNp.nmL ns l, t.size ≤ 140737488351232
 | [], ns, _, h => by rw [VNp.nmL_nil]; exact h
 | .mk o i s l :: t, ns, hg, h => by
  rw [VNp.nmL]
  rw [PPr.gdL] at hg
  obtain ⟨⟨hk, hf, hl⟩, ht⟩ := hg
  refine nm_size t _ ht (nm_size l _ hl ?_)
  unfold VNp.add1
  split
  ·rename_i ho
   split
   ·exact h
   ·intro u hu
    rcases List.mem_append.1 hu with hu | hu
    ·exact h u hu
    ·obtain rfl : u = s := by simpa using hu
     subst ho
     have : PFit.ft 6 i u = true := hf
     have h2 : ((i == 0) && (UBase.word u 95 && !(Lib.containsS ENd.wdl u))) = true := this
     rw [Bool.and_eq_true, Bool.and_eq_true] at h2
     have h3 : (decide (0 < u.size) && (decide (u.size ≤ 32) && (UBase.let' (UBase.at' u 0) && decide (∀ i, i < u.size → UBase.sign 95 (UBase.at' u i) = true)))) = true := h2.2.1
     rw [Bool.and_eq_true, Bool.and_eq_true] at h3
     have h4 := of_decide_eq_true h3.2.1
     omega
  ·exact h
theorem tx_of {w : World} {K : Nat} {nv : Value} {ns : List ByteArray} (h : OwnT w K nv ns) (hl : ns.length ≤ 512) (hs : ∀ t ∈ ns, t.size ≤ 140737488351232) : Tx false All w nv ns := by
 rcases h.2 with ⟨hv, e⟩ | ⟨g, cap, cur, hv, hlo, hg, hnc, hm, hcs, htk⟩
 ·have : ns = [] := List.length_eq_zero_iff.1 e
  subst this
  exact ⟨none, 0, hv, by simp, by simp [maxLen], by simp, hs, fun _ => rfl, .inl ⟨rfl, rfl⟩⟩
 ·subst hv
  exact ⟨_, cap, rfl, hnc, hm, by omega, hs, (fun e => by cases e), .inr ⟨g, 0, rfl, trivial, fun j hj => Base.ownT_cell h j hj, fun e => by cases e⟩⟩
theorem nms_ok (x : Ex) : (nms x).length ≤ 512 ∧ ∀ t ∈ nms x, t.size ≤ 140737488351232 := by
 refine ⟨nms_len x, ?_⟩
 unfold nms
 split
 ·rename_i hm
  exact nm_size [x] [] (PPr.gdL_cons.2 ⟨VEv.may_gd hm, by rw [PPr.gdL]; trivial⟩) (fun t ht => by cases ht)
 ·intro t ht; cases ht
theorem walk {m : Nat} {v : Value} {x : Ex} {w : World} (h : XBase.In false All w m v x) (ht : TX w) : Calls Tryz.prog 3 #[v] w fun e w' => e = .returned (.bool true) ∧ Below w.heap.size w w' := by
 obtain ⟨m', lv, rfl, rfl, ho, hi, hs, hL⟩ := h.shape
 obtain ⟨a, cap, rfl, -⟩ := hL
 obtain ⟨W0, hW0⟩ : ∃ W0, w.alloc (.cells #[.int .i64 x.o, .int .i64 x.i, .string x.s, .slice a x.l.length cap] 24) = W0 := ⟨_, rfl⟩
 have b0 : Below w.heap.size w W0 := by rw [← hW0]; exact (Below.refl _ w).alloc (Nat.le_refl _) _
 have s0 : W0.heap.size = w.heap.size + 1 := by rw [← hW0]; simp
 have hx : W0.heap[w.heap.size]? = some (.cells #[.int .i64 x.o, .int .i64 x.i, .string x.s, .slice a x.l.length cap] 24 (0, 0)) := by rw [← hW0]; exact heap_alloc_new w _
 have HX : Hid (W0.heap[w.heap.size]? = some (.cells #[.int .i64 x.o, .int .i64 x.i, .string x.s, .slice a x.l.length cap] 24 (0, 0)) ∧ W0.heap.size = w.heap.size + 1 ∧ Below w.heap.size w W0) := ⟨hx, s0, b0⟩
 have HI : Hid (XBase.In false All w (m' + 1) (.agg #[.int .i64 x.o, .int .i64 x.i, .string x.s, .slice a x.l.length cap]) x) := h
 have HT : Hid (TX w) := ht
 have HZ : Hid ((nms x).length ≤ 512 ∧ ∀ t ∈ nms x, t.size ≤ 140737488351232) := nms_ok x
 have cS := shallow_c (h.below b0)
 obtain ⟨y0, y1, y2, y3⟩ := four_box hx
 clear h ht hx s0 b0 ho hi hs
 go_enter Tryz.func3, Tryz.ntmps3
 go_wp2_with fail
 clear hW0
 refine cS.mono ?_
 rintro e W1 ⟨⟨bb, rfl⟩, b1⟩
 have hb1 : Below w.heap.size w W1 := HX.out.2.2.trans (b1.mono (by have := HX.out.2.1; omega))
 clear y0 y1 y2 y3 cS
 cases bb with
 | false =>
  have HB1 : Hid (Below w.heap.size w W1) := hb1
  clear hb1 b1
  go_wp2_with fail
  go_ret
  exact ⟨rfl, HB1.out⟩
 | true =>
  obtain ⟨y0, y1, y2, y3⟩ := four_box ((b1.block w.heap.size (by have := HX.out.2.1; omega)).trans HX.out.1)
  have cL := XLend.lend_c (HI.out.below hb1)
  have HB1 : Hid (Below w.heap.size w W1 ∧ Below W0.heap.size W0 W1) := ⟨hb1, b1⟩
  clear hb1 b1
  go_wp2_with fail
  refine cL.mono ?_
  rintro e W2 ⟨u, rfl, hin2, b2⟩
  obtain ⟨m2, lv2, e2, rfl, -, -, -, hL2⟩ := hin2.shape
  obtain ⟨a2, cap2, rfl, -⟩ := hL2
  obtain ⟨W3, hW3⟩ : ∃ W3, W2.alloc (.cells #[.int .i64 x.o, .int .i64 x.i, .string x.s, .slice a2 x.l.length cap2] 24) = W3 := ⟨_, rfl⟩
  have d3 : Below W2.heap.size W2 W3 := by rw [← hW3]; exact (Below.refl _ W2).alloc (Nat.le_refl _) _
  have x3 : W3.heap[W2.heap.size]? = some (.cells #[.int .i64 x.o, .int .i64 x.i, .string x.s, .slice a2 x.l.length cap2] 24 (0, 0)) := by rw [← hW3]; exact heap_alloc_new W2 _
  have s3 : W3.heap.size = W2.heap.size + 1 := by rw [← hW3]; simp
  have b3 : Below W1.heap.size W1 W3 := b2.trans (d3.mono b2.size)
  have hb3 : Below w.heap.size w W3 := HB1.out.1.trans (b3.mono HB1.out.1.size)
  have hc3 : Below W0.heap.size W0 W3 := HB1.out.2.trans (b3.mono HB1.out.2.size)
  have hin3 := hin2.below d3
  have HP : Hid (∀ W, Below W3.heap.size W3 W → Calls Tryz.prog 6 #[.agg #[.int .i64 x.o, .int .i64 x.i, .string x.s, .slice a2 x.l.length cap2]] W fun e w' => ∃ nv, e = .returned nv ∧ OwnT w' W.heap.size nv (nms x) ∧ Below W.heap.size W w') := fun W hW =>
   names_c (((hin3.below hW).weak (S' := fun b => b < W.heap.size) (fun b hb => Nat.lt_of_lt_of_le hb.2 (Nat.le_trans d3.size hW.size)) false (fun h => by cases h) (m' + 1) (Nat.le_refl _))) ((HT.out.later (hb3.trans (hW.mono hb3.size))).tb)
  have HR : Hid (∀ W, Below W3.heap.size W3 W → Calls Tryz.prog 7 #[.agg #[.int .i64 x.o, .int .i64 x.i, .string x.s, .slice a x.l.length cap]] W fun e w' => ∃ nv, e = .returned nv ∧ OwnT w' W.heap.size nv (nms x) ∧ Below W.heap.size W w') := fun W hW =>
   VNz.rnames_c (EOpen.In.low (HI.out.below (hb3.trans (hW.mono hb3.size)))) (Nat.le_refl _)
  have HK : Hid (∀ W, Below W3.heap.size W3 W → Calls Tryz.prog 10 #[.agg #[.int .i64 x.o, .int .i64 x.i, .string x.s, .slice a2 x.l.length cap2], .agg #[.int .i64 x.o, .int .i64 x.i, .string x.s, .slice a x.l.length cap]] W fun e w' => e = .returned (.bool true) ∧ Below W.heap.size W w') := fun W hW =>
   XKept.kept_c (hin3.below hW) (HI.out.below (hb3.trans (hW.mono hb3.size)))
  have HW : Hid (∀ W, Below W3.heap.size W3 W → Calls Tryz.prog 11 #[] W fun e w' => e = .returned (.bool true) ∧ Below W.heap.size W w') := fun W hW => VAw.awake_c (HT.out.later (hb3.trans (hW.mono hb3.size)))
  have HYb : Hid (∀ W, Below W3.heap.size W3 W → W.heap[W2.heap.size]? = some (.cells #[.int .i64 x.o, .int .i64 x.i, .string x.s, .slice a2 x.l.length cap2] 24 (0, 0))) := fun W hW => (hW.block _ (by omega)).trans x3
  have HXb : Hid (∀ W, Below W3.heap.size W3 W → W.heap[w.heap.size]? = some (.cells #[.int .i64 x.o, .int .i64 x.i, .string x.s, .slice a x.l.length cap] 24 (0, 0))) := fun W hW => ((hc3.trans (hW.mono hc3.size)).block _ (by have := HX.out.2.1; omega)).trans HX.out.1
  have HE : Hid (∀ W, Below W3.heap.size W3 W → Below w.heap.size w W) := fun W hW => hb3.trans (hW.mono hb3.size)
  generalize nms x = N at *
  clear b2 hin2 d3 b3 hb3 hc3 hin3 cL y0 y1 y2 y3 s3 e2 HB1 HX HI HT
  have cA := HP.out W3 (Below.refl _ _)
  obtain ⟨y0, y1, y2, y3⟩ := four_box x3
  clear x3
  go_wp2_with fail
  clear hW3
  refine cA.mono ?_
  rintro e W4 ⟨nva, rfl, oa, b4⟩
  have HA : Hid (OwnT W4 W3.heap.size nva N) := oa
  have HB4 : Hid (Below W3.heap.size W3 W4) := b4
  clear cA oa b4 y0 y1 y2 y3
  have cB := HP.out W4 HB4.out
  obtain ⟨y0, y1, y2, y3⟩ := four_box (HYb.out W4 HB4.out)
  go_wp2_with fail
  refine cB.mono ?_
  rintro e W5 ⟨nvb, rfl, ob, b5⟩
  have HB : Hid (OwnT W5 W4.heap.size nvb N) := ob
  have H45 : Hid (Below W4.heap.size W4 W5) := b5
  have HB5 : Hid (Below W3.heap.size W3 W5) := HB4.out.trans (b5.mono HB4.out.size)
  clear cB ob b5 y0 y1 y2 y3
  have cC := HR.out W5 HB5.out
  obtain ⟨y0, y1, y2, y3⟩ := four_box (HXb.out W5 HB5.out)
  go_wp2_with fail
  refine cC.mono ?_
  rintro e W6 ⟨nvu, rfl, ou, b6⟩
  have HU : Hid (OwnT W6 W5.heap.size nvu N) := ou
  have H56 : Hid (Below W5.heap.size W5 W6) := b6
  have HB6 : Hid (Below W3.heap.size W3 W6) := HB5.out.trans (b6.mono HB5.out.size)
  have ha6 : OwnT W6 W3.heap.size nva N := Fresh.own_keep HA.out fun g hg => by
   have hl := (World.ownsRow.lt HA.out g hg).2
   exact (b6.block g (by have := H45.out.size; omega)).trans (H45.out.block g hl)
  have HA6 : Hid (OwnT W6 W3.heap.size nva N) := ha6
  have cD := SameT.sameT_c nva nvu N W6 (tx_of ha6 HZ.out.1 HZ.out.2) (tx_of ou HZ.out.1 HZ.out.2)
  clear cC ou b6 y0 y1 y2 y3 ha6
  go_wp2_with fail
  refine cD.mono ?_
  rintro e W7 ⟨rfl, b7⟩
  have H67 : Hid (Below W6.heap.size W6 W7) := b7
  have HB7 : Hid (Below W3.heap.size W3 W7) := HB6.out.trans (b7.mono HB6.out.size)
  have ha7 : OwnT W7 W3.heap.size nva N := Fresh.own_keep HA6.out fun g hg => b7.block g (World.ownsRow.lt HA6.out g hg).2
  have cE := Spoil.spoilT_c nva N W3.heap.size W4.heap.size W7 ha7 (fun g hg => (World.ownsRow.lt HA.out g hg).2) (by have := HZ.out.1; omega) HZ.out.2
  clear cD b7 ha7
  go_wp2_with fail
  refine cE.mono ?_
  rintro e W8 ⟨⟨r, rfl⟩, h8⟩
  have HB8 : Hid (Below W3.heap.size W3 W8) := HB7.out.trans h8.1
  have hb8 : OwnT W8 W4.heap.size nvb N := Fresh.own_keep HB.out fun g hg => by
   have hl := World.ownsRow.lt HB.out g hg
   have e6 := H56.out.size
   exact (h8.2.2 g hl.1).trans ((H67.out.block g (by omega)).trans (H56.out.block g hl.2))
  have hu8 : OwnT W8 W5.heap.size nvu N := Fresh.own_keep HU.out fun g hg => by
   have hl := World.ownsRow.lt HU.out g hg
   have e5 := H45.out.size
   exact (h8.2.2 g (by omega)).trans (H67.out.block g hl.2)
  have cF := SameT.sameT_c nvb nvu N W8 (tx_of hb8 HZ.out.1 HZ.out.2) (tx_of hu8 HZ.out.1 HZ.out.2)
  clear cE h8 hb8 hu8
  go_wp2_with fail
  refine cF.mono ?_
  rintro e W9 ⟨rfl, b9⟩
  have HB9 : Hid (Below W3.heap.size W3 W9) := HB8.out.trans (b9.mono HB8.out.size)
  have cG := HK.out W9 HB9.out
  obtain ⟨y0, y1, y2, y3⟩ := four_box (HXb.out W9 HB9.out)
  obtain ⟨z0, z1, z2, z3⟩ := four_box (HYb.out W9 HB9.out)
  clear cF b9
  go_wp2_with (first | (go_at_call 10; refine cG.mono ?_; rintro e W10 ⟨rfl, b10⟩; have HB10 : Hid (Below W3.heap.size W3 W10) := HB9.out.trans (b10.mono HB9.out.size); have cH := HW.out W10 HB10.out; clear b10) | (go_at_call 11; refine cH.mono ?_; rintro e W11 ⟨rfl, b11⟩))
  go_ret
  exact ⟨rfl, HE.out _ (HB10.out.trans (b11.mono HB10.out.size))⟩
end Go.Proofs.YtghnhkagkngjcaaGreatDoor.WNm

import Derived.ChangeOld
import Derived.Deep.Strs
import Derived.OpenShut
import Derived.ProofKit
import Derived.SizedLaws
import Derived.Test.YtnoohlmlpijhaaaDoorPX28
import Derived.Test.YtnoohlmlpijhaaaDoorPX30
import Derived.Test.YtnoohlmlpijhaaaDoorPX31
namespace Go.Proofs.YtnoohlmlpijhaaaDoor.EOpen
open Go.ChangeShapes Go.WideShapes Go.ChangeAt Go.RowKit Go.Proofs.YtnoohlmlpijhaaaDoor.EPure Go.Proofs.YtnoohlmlpijhaaaDoor.Frame
open Go.Proofs.YtnoohlmlpijhaaaDoor.XBase (In InL in_iff LAt Four)
open Go.Proofs.YtnoohlmlpijhaaaDoor.Base (All add_none)
set_option linter.unusedVariables false
theorem cells9 : Tryd.prog.cellsOf 9 = 1 := by kernel_rfl
theorem cellsX : Tryd.prog.cellsOf 24 = 4 := by kernel_rfl
theorem cells3 : Tryd.prog.cellsOf 3 = 1 := by kernel_rfl
theorem cellsXs : Tryd.prog.cellsOf 22 = 1 := by kernel_rfl
theorem bytesX : Tryd.prog.bytesOf 24 = 56 := by kernel_rfl
theorem cells_at {w : World} {a : Addr} {n : Nat} {cs : List Value} (h : w.cells? 0 a n = some cs) : cs.length = n ∧ ∀ j (hj : j < n), w.cell? (a.add j) = cs[j]? := by
  unfold World.cells? at h
  rw [if_pos (Nat.zero_le _)] at h
  have hl := mapM_some_length h
  refine ⟨by simpa using hl, fun j hj => ?_⟩
  have := mapM_some_get h j j (by simp [hj])
  exact this
theorem list_four {α : Type} {l : List α} (h : l.length = 4) : ∃ c0 c1 c2 c3, l = [c0, c1, c2, c3] := by
  match l, h with
  | [c0, c1, c2, c3], _ => exact ⟨c0, c1, c2, c3, rfl⟩
theorem spot_none {w : World} {a : Addr} {v : Value} (h : w.cell? (a.add 0) = some v) : ∃ g o, a = ⟨g, o, none⟩ := by
  obtain ⟨g, o, sp⟩ := a
  cases sp with
  | none => exact ⟨g, o, rfl⟩
  | some x =>
    simp only [Addr.add, if_true, World.cell?] at h
    split at h
    · simp at h
    · cases h
theorem weightsAll_mem {H : Type} {P : Program} {e : TypeId} {d : DataW H} {q : Nat} : ∀ {ds : List (DataW H)}, d ∈ ds → q ∈ DataW.weights P e d → q ∈ DataW.weightsAll P e ds
  | [], hd, _ => by cases hd
  | d' :: r, hd, hq => by
    rw [DataW.weightsAll, List.mem_append]
    rcases List.mem_cons.1 hd with rfl | h
    · exact .inl hq
    · exact .inr (weightsAll_mem h hq)
section
variable {H : Type} {enc : TypeId × Value → H} {W : World}
theorem open_x : ∀ {fuel : Nat} {cs : List Value} {x : DataW H × List MemPlace}, DataW.trod enc Tryd.prog W 0 (fun _ => true) true fuel 24 cs = some x → (∀ q ∈ DataW.weights Tryd.prog 24 x.1, q ≤ reachBytes) →
    ∃ c, In false All W fuel (.agg cs.toArray) c := by
  intro fuel
  induction fuel using Nat.strongRecOn with
  | _ fuel ih =>
    intro cs x h hw
    obtain ⟨xs, n, rfl, rfl, hcl, hxl, hf⟩ := DataW.trod_struct Tryd.underlying24 h
    rw [cellsX] at hcl
    have hxl4 : xs.length = 4 := hxl
    clear hxl
    obtain ⟨c0, c1, c2, c3, rfl⟩ := list_four hcl
    obtain ⟨x0, x1, x2, x3, rfl⟩ := list_four hxl4
    have f0 := hf 0 _ rfl
    have f1 := hf 1 _ rfl
    have f2 := hf 2 _ rfl
    have f3 := hf 3 _ rfl
    simp [cells3] at f0
    simp [cells3] at f1
    simp [cells9] at f2
    simp [cellsXs] at f3
    obtain ⟨k, e0, e0', hk⟩ := DataW.trod_int Tryd.underlying3 f0
    obtain ⟨i, e1, e1', hi⟩ := DataW.trod_int Tryd.underlying3 f1
    obtain ⟨s, e2, e2', hs⟩ := DataW.trod_string Tryd.underlying9 f2
    have W0 : ∀ q, q ∈ DataW.weights Tryd.prog 9 x2.1 ∨ q ∈ DataW.weights Tryd.prog 22 x3.1 → q ≤ reachBytes := by
      intro q hq
      apply hw
      simp only [List.map_cons, List.map_nil]
      rw [DataW.weights, Tryd.underlying24]
      simp only [List.map_cons, List.map_nil, DataW.weightsEach, List.mem_append]
      rcases hq with hq | hq
      · simp [hq]
      · simp [hq]
    have hss : s.size ≤ 140737488351232 := by
      have := W0 s.data.toList.length (.inl (by rw [e2']; simp [DataW.weights]))
      simp only [reachBytes] at this
      have hl : s.data.toList.length = s.size := Array.length_toList
      omega
    simp only [List.cons.injEq, and_true] at e0 e1 e2
    subst e0 e1 e2
    have hL : ∃ l, InL false All W n c3 l := by
      rcases DataW.trod_slice Tryd.underlying22 f3 with ⟨e5, -⟩ | ⟨a, len, cap, els, rest, n', rfl, e5, e5', _, hl, hm, hlen, hel, -, -⟩
      · simp only [List.cons.injEq, and_true] at e5
        subst e5
        exact ⟨[], none, 0, rfl, by simp, by simp, by simp, fun _ => rfl, .inl ⟨rfl, rfl⟩⟩
      · simp only [List.cons.injEq, and_true] at e5
        subst e5
        have hone : ∀ j : Fin len, ∃ (c : Ex) (u : Value), (∃ cs' : List Value, u = .agg cs'.toArray ∧ cs'.length = 4 ∧ ∀ i (hi : i < 4), W.cell? ((a.add (j.1 * 4)).add i) = cs'[i]?) ∧ In false All W n' u c := by
          rintro ⟨j, hj⟩
          have hh := hel j hj
          rw [List.getElem?_eq_getElem (by omega), Option.bind_eq_some_iff] at hh
          obtain ⟨c', hc, ht⟩ := hh
          rw [cellsX] at hc
          obtain ⟨hl1, hcc⟩ := cells_at hc
          obtain ⟨c, hin⟩ := ih n' (by omega) ht (fun q hq => W0 q (.inr (by
            rw [e5', DataW.weights, Tryd.underlying22]
            refine List.mem_cons_of_mem _ (List.mem_append.2 (.inl (weightsAll_mem (d := els[j].1) ?_ hq)))
            rw [List.mem_map]
            exact ⟨els[j]'(by omega), List.getElem_mem _, rfl⟩)))
          exact ⟨c, _, ⟨c', rfl, hl1, hcc⟩, hin⟩
        have hb56 : len * 56 ≤ 140737488351232 := by
          have := W0 ((els.length + rest.length) * 56) (.inr (by
            rw [e5', DataW.weights, Tryd.underlying22]
            simp [bytesX]))
          simp only [reachBytes] at this
          omega
        obtain ⟨f, hf⟩ := Classical.axiomOfChoice hone
        refine ⟨List.ofFn f, some a, cap, by simp, by simpa using hl, hm, by simpa using hb56, (fun h => by cases h), ?_⟩
        by_cases h0 : len = 0
        · subst h0
          exact .inl ⟨by simp, rfl⟩
        · have hcell0 : ∃ v, W.cell? (a.add 0) = some v := by
            obtain ⟨u, ⟨c', -, hl4, hcc⟩, -⟩ := hf ⟨0, by omega⟩
            have := hcc 0 (by omega)
            rw [show (a.add (0 * 4)).add 0 = a.add 0 from by simp [Addr.add]] at this
            exact ⟨c'[0], by rw [this, List.getElem?_eq_getElem]⟩
          obtain ⟨v, hv⟩ := hcell0
          obtain ⟨g, o, rfl⟩ := spot_none hv
          refine .inr ⟨g, o, rfl, trivial, fun j hj => ?_, fun h => by cases h⟩
          have hj' : j < len := by simpa using hj
          obtain ⟨u, ⟨c', rfl, hl4, hcc⟩, hin⟩ := hf ⟨j, hj'⟩
          obtain ⟨y0, y1, y2, y3, rfl⟩ := list_four hl4
          have g0 := hcc 0 (by omega)
          have g1 := hcc 1 (by omega)
          have g2 := hcc 2 (by omega)
          have g3 := hcc 3 (by omega)
          simp only [add_none] at g0 g1 g2 g3
          refine ⟨_, ⟨y0, y1, y2, y3, rfl, g0, g1, g2, g3⟩, ?_⟩
          have := hin.weak (fun _ h => h) false id (n' + 1) (by omega)
          simpa using this
    obtain ⟨l, hL⟩ := hL
    refine ⟨.mk k i s l, ?_⟩
    rw [in_iff]
    exact ⟨_, rfl, bounds_i64 hk, bounds_i64 hi, hss, hL⟩
end
/-- Its blocks lie in the world. -/
theorem In.low {w : World} : ∀ {m : Nat} {v : Value} {c : Ex}, In false All w m v c → In false (fun b => b < w.heap.size) w m v c := by
  intro m
  induction m with
  | zero => intro v c h; rw [XBase.In] at h; exact h.elim
  | succ m ih =>
    intro v c h
    obtain ⟨k, i, s, l⟩ := c
    rw [XBase.In] at h ⊢
    obtain ⟨a, cap, h1, h2, h3, h4, h5, h6, h7, h8, h9⟩ := h
    refine ⟨a, cap, h1, h2, h3, h4, h5, h6, h7, h8, ?_⟩
    rcases h9 with h9 | ⟨g, o, e, -, hg, -⟩
    · exact .inl h9
    · by_cases hl : l = []
      · exact .inl ⟨hl, rfl⟩
      · refine .inr ⟨g, o, e, ?_, fun j hj => ?_, fun h => by cases h⟩
        · obtain ⟨u, ⟨v0, v1, v2, v3, -, hc, -⟩, -⟩ := hg 0 (List.length_pos_iff.2 hl)
          unfold World.cell? at hc
          rcases Nat.lt_or_ge g w.heap.size with h | h
          · exact h
          · simp only [Array.getElem?_eq_none h] at hc
            cases hc
        · obtain ⟨u, hu, hin⟩ := hg j hj
          exact ⟨u, hu, ih hin⟩
set_option maxRecDepth 100000 in
/-- An expression that comes in: its own four cells, what it holds, and that it reads the same behind whatever only adds. -/
theorem come {H : Type} {enc : TypeId × Value → H} {W : World} {base : Nat} {v : Value} {d : DataW H} {p : List MemPlace} {ts : List TypeId} {ds : List (DataW H)} {j : Nat}
    (hval : Value.okWide Tryd.prog W .any base 24 v) (h : DataW.Trod enc Tryd.prog W 0 (fun _ => true) true 24 v d p)
    (hsz : (DataW.weightsEach Tryd.prog ts ds).all (· ≤ reachBytes) = true) (ht : ts[j]? = some 24) (hd : ds[j]? = some d) :
    (∃ m c, In false All W m v c) ∧ ∀ W', Below W.heap.size W W' → DataW.Trod enc Tryd.prog W' 0 (fun b => decide (b < W.heap.size)) true 24 v d p := by
  have lt0 : ∀ x ∈ p, x.block < W.heap.size := by obtain ⟨m, hm⟩ := h; exact DataW.trod_lt m _ _ _ hm
  refine ⟨?_, fun W' bel => Below.trod laidOut (by kernel_rfl) (of_decide_eq_true (by kernel_rfl)) h bel lt0⟩
  obtain ⟨cs, rfl, -⟩ := okWide_struct Tryd.underlying24 hval
  obtain ⟨fuel, hf⟩ := h
  obtain ⟨c, hc⟩ := open_x hf fun q hq => by simpa using List.all_eq_true.1 hsz q (DataW.weights_mem_each ht hd q hq)
  exact ⟨fuel, c, by simpa [Value.cells] using hc⟩
end Go.Proofs.YtnoohlmlpijhaaaDoor.EOpen
namespace Go.Proofs.YtnoohlmlpijhaaaDoor.WBackX
open Go.RowKit Go.Proofs.YtnoohlmlpijhaaaDoor.EPure Go.Proofs.YtnoohlmlpijhaaaDoor.EPs Go.Proofs.YtnoohlmlpijhaaaDoor.EAw Go.Proofs.YtnoohlmlpijhaaaDoor.XSm Go.Proofs.YtnoohlmlpijhaaaDoor.XSh
open Go.Proofs.YtnoohlmlpijhaaaDoor.XBase (four_box two_box frozen_box Rg)
open Go.Proofs.YtnoohlmlpijhaaaDoor.Base (All heap_alloc_new)
open Go.Proofs.YtnoohlmlpijhaaaDoor.PPr (pr)
open Go.Proofs.YtnoohlmlpijhaaaDoor.PMay (mayL)
set_option linter.unusedVariables false
set_option maxRecDepth 20000 in
set_option maxHeartbeats 3200000 in
theorem walk {m : Nat} {v : Value} {x : Ex} {w : World} (h : XBase.In false All w m v x) (ht : TX w) : Calls Tryd.prog 3 #[v] w fun e w' => e = .returned (.bool true) ∧ Below w.heap.size w w' := by
  have hrg := PLen.rg_of h
  have hlow := EOpen.In.low h
  obtain ⟨m', lv, rfl, rfl, ho, hi, hs, hL⟩ := h.shape
  obtain ⟨a, cap, rfl, -⟩ := hL
  obtain ⟨W0, hW0⟩ : ∃ W0, w.alloc (.cells #[.int .i64 x.o, .int .i64 x.i, .string x.s, .slice a x.l.length cap] 24) = W0 := ⟨_, rfl⟩
  have b0 : Below w.heap.size w W0 := by rw [← hW0]; exact (Below.refl _ w).alloc (Nat.le_refl _) _
  have s0 : W0.heap.size = w.heap.size + 1 := by rw [← hW0]; simp
  have hx : W0.heap[w.heap.size]? = some (.cells #[.int .i64 x.o, .int .i64 x.i, .string x.s, .slice a x.l.length cap] 24 (0, 0)) := by rw [← hW0]; exact heap_alloc_new w _
  have HX : Hid (W0.heap[w.heap.size]? = some (.cells #[.int .i64 x.o, .int .i64 x.i, .string x.s, .slice a x.l.length cap] 24 (0, 0)) ∧ W0.heap.size = w.heap.size + 1 ∧ Below w.heap.size w W0) := ⟨hx, s0, b0⟩
  have HI : Hid (XBase.In false (fun b => b < w.heap.size) w (m' + 1) (.agg #[.int .i64 x.o, .int .i64 x.i, .string x.s, .slice a x.l.length cap]) x) := hlow
  have HT : Hid (TX w) := ht
  have HR : Hid (ERg.rgL [x]) := hrg
  have c0 := awake_c (ht.later b0)
  clear h hlow ht hrg hx s0 b0 ho hi hs
  go_enter Tryd.func3, Tryd.ntmps3
  go_wp2_with fail
  clear hW0
  refine c0.mono ?_
  rintro e W1 ⟨rfl, b1⟩
  have hb1 : Below w.heap.size w W1 := HX.out.2.2.trans (b1.mono (by have := HX.out.2.1; omega))
  obtain ⟨y0, y1, y2, y3⟩ := four_box ((b1.block w.heap.size (by have := HX.out.2.1; omega)).trans HX.out.1)
  have cS := shallow_c ((HI.out.plain).below hb1)
  have HB1 : Hid (Below w.heap.size w W1 ∧ Below W0.heap.size W0 W1) := ⟨hb1, b1⟩
  clear b1 hb1 c0
  go_wp2_with fail
  refine cS.mono ?_
  rintro e W2 ⟨⟨bb, rfl⟩, b2⟩
  have hb2 : Below w.heap.size w W2 := HB1.out.1.trans (b2.mono HB1.out.1.size)
  have hc2 : Below W0.heap.size W0 W2 := HB1.out.2.trans (b2.mono HB1.out.2.size)
  clear y0 y1 y2 y3 cS b2
  cases bb with
  | false =>
    have HB2 : Hid (Below w.heap.size w W2) := hb2
    clear hb2 hc2
    go_wp2_with fail
    go_ret
    exact ⟨rfl, HB2.out⟩
  | true =>
    obtain ⟨y0, y1, y2, y3⟩ := four_box ((hc2.block w.heap.size (by have := HX.out.2.1; omega)).trans HX.out.1)
    have cP := print_x ((HI.out.below hb2).weak (S' := fun b => b < W2.heap.size) (fun b hb => Nat.lt_of_lt_of_le hb hb2.size) false id (m' + 1) (Nat.le_refl _)) (HT.out.later hb2)
    have HB2 : Hid (Below w.heap.size w W2 ∧ Below W0.heap.size W0 W2) := ⟨hb2, hc2⟩
    clear hb2 hc2
    cases hm : (mayL [x] 512).1 with
    | false =>
      rw [show PPp.ptx x = [] by unfold PPp.ptx; rw [hm]; rfl, show PPp.pcd x = 1003 by unfold PPp.pcd; rw [hm]; rfl] at cP
      clear hm
      go_wp2_with fail
      refine cP.mono ?_
      rintro e W3 ⟨rfl, b3⟩
      have HB3 : Hid (Below w.heap.size w W3) := HB2.out.1.trans (b3.mono HB2.out.1.size)
      clear cP b3 y0 y1 y2 y3
      go_wp2_with (first | (go_at_call 10; refine (num_c _ _).mono ?_; rintro e w' ⟨rfl, rfl⟩))
      go_ret
      exact ⟨rfl, HB3.out⟩
    | true =>
      have hpl := PLen.pr_len HR.out hm
      have hbk := EBn.back (PPr.gdL_cons.1 (PPr.gd_of _ [x] 512 (Nat.le_refl _) hm)).1 HR.out
      rw [show PPp.ptx x = pr (-1) x by unfold PPp.ptx; rw [if_pos hm], show PPp.pcd x = 0 by unfold PPp.pcd; rw [if_pos hm]] at cP
      obtain ⟨X, hX⟩ : ∃ X, pr (-1) x = X := ⟨_, rfl⟩
      rw [hX] at hpl hbk cP
      have HP : Hid (∀ W, TX W → Calls Tryd.prog 11 #[.string ⟨X.toArray⟩] W fun e w' => Pout W e w' (prs ⟨X.toArray⟩)) := fun W hW => parse_x (by show X.toArray.size ≤ _; simp; omega) hW
      clear hm hX hpl
      go_wp2_with fail
      refine cP.mono ?_
      rintro e W3 ⟨rfl, b3⟩
      have hb3 : Below w.heap.size w W3 := HB2.out.1.trans (b3.mono HB2.out.1.size)
      have HB3 : Hid (Below w.heap.size w W3 ∧ Below W0.heap.size W0 W3) := ⟨hb3, HB2.out.2.trans (b3.mono HB2.out.2.size)⟩
      have c4 := HP.out W3 (HT.out.later hb3)
      clear cP b3 hb3 y0 y1 y2 y3
      rcases hbk with hp | ⟨f, hp, hf⟩
      · rw [hp] at c4
        clear hp
        go_wp2_with (first | (go_at_call 10; refine (num_c _ _).mono ?_; rintro e w' ⟨rfl, hw'⟩; subst w'))
        refine c4.mono ?_
        rintro e W4 ⟨b4, m4, a4, k4, rfl, in4⟩
        obtain ⟨W5, hW5⟩ : ∃ W5, W4.alloc (.cells #[.int .i64 x.o, .int .i64 x.i, .string x.s, .slice a4 x.l.length k4] 24) = W5 := ⟨_, rfl⟩
        have d5 : Below W4.heap.size W4 W5 := by rw [← hW5]; exact (Below.refl _ W4).alloc (Nat.le_refl _) _
        have x5 : W5.heap[W4.heap.size]? = some (.cells #[.int .i64 x.o, .int .i64 x.i, .string x.s, .slice a4 x.l.length k4] 24 (0, 0)) := by rw [← hW5]; exact heap_alloc_new W4 _
        have b5 := b4.trans (d5.mono b4.size)
        have hb5 : Below w.heap.size w W5 := HB3.out.1.trans (b5.mono HB3.out.1.size)
        have hc5 : Below W0.heap.size W0 W5 := HB3.out.2.trans (b5.mono HB3.out.2.size)
        obtain ⟨y0, y1, y2, y3⟩ := four_box ((hc5.block w.heap.size (by have := HX.out.2.1; omega)).trans HX.out.1)
        obtain ⟨z0, z1, z2, z3⟩ := four_box x5
        have cE := same_c ((HI.out.plain).below hb5) (in4.below d5)
        rw [WLeans.smL_refl _ [x] (Nat.le_refl _)] at cE
        have HB5 : Hid (Below w.heap.size w W5) := hb5
        clear b4 in4 d5 x5 b5 hb5 hc5 c4 HP
        go_wp2_with (first | (go_at_call 10; refine (num_c _ _).mono ?_; rintro e w' ⟨rfl, hw'⟩; subst w') | (go_at_call 12; refine cE.mono ?_; rintro e W6 ⟨rfl, b6⟩))
        go_ret
        exact ⟨rfl, HB5.out.trans (b6.mono HB5.out.size)⟩
      · obtain ⟨c, p⟩ := f
        rw [hp] at c4
        clear hp
        go_wp2_with (first | (go_at_call 10; refine (num_c _ _).mono ?_; rintro e w' ⟨rfl, hw'⟩; subst w'))
        refine c4.mono ?_
        rintro e W4 ⟨b4, rfl⟩
        have HB4 : Hid (Below w.heap.size w W4) := HB3.out.1.trans (b4.mono HB3.out.1.size)
        clear b4 c4 HP
        rcases hf with hf | hf
        · obtain rfl : c = 1001 := hf
          go_wp2_with (first | (go_at_call 10; refine (num_c _ _).mono ?_; rintro e w' ⟨rfl, hw'⟩; subst w'))
          go_ret
          exact ⟨rfl, HB4.out.alloc HB4.out.size _⟩
        · obtain rfl : c = 1002 := hf
          go_wp2_with (first | (go_at_call 10; refine (num_c _ _).mono ?_; rintro e w' ⟨rfl, hw'⟩; subst w'))
          go_ret
          exact ⟨rfl, HB4.out.alloc HB4.out.size _⟩
end Go.Proofs.YtnoohlmlpijhaaaDoor.WBackX

/- For every input the law CodeMakes returns true and what came in reads as before; conditions: the tables of the library hold what they are laid with. -/
import Derived.Test.YthjbknncbhkinaaGreatDoorRows
import Derived.Test.YthjbknncbhkinaaGreatDoorDigits
import Derived.WalkKit
import Derived.ProofKit
import Derived.OpenShut
import Derived.Deep.DeepHandedRow
import Derived.Lib.LaidTab
import Derived.Stop.LaidErr
import Derived.Below
import Derived.Carry
import Derived.SizedLaws
import Derived.Test.YthjbknncbhkinaaGreatDoorXBase
import Derived.Deep.Strs
import Derived.ChangeOld
import Derived.Test.YthjbknncbhkinaaGreatDoorCards
import Derived.Test.YthjbknncbhkinaaGreatDoorTie
import Derived.Test.YthjbknncbhkinaaGreatDoorWMk
import Derived.ShutString
namespace Go.Proofs.YthjbknncbhkinaaGreatDoor.NFe
open Go.ChangeShapes Go.WideShapes Go.ChangeAt Go.RowKit Go.Proofs.YthjbknncbhkinaaGreatDoor.Digits
set_option linter.unusedVariables false

theorem own : ownKnob Tryz.prog.godebug = none := by kernel_rfl
theorem gTab : Tryz.prog.globalNamed "internal/strconv.uint64pow10" = some 1 := by kernel_rfl
theorem gTabType : (Tryz.prog.globals[1]?).map (·.type) = some 166 := by kernel_rfl
theorem cells95 : Tryz.prog.cellsOf 166 = 20 := by kernel_rfl
theorem cells73 : Tryz.prog.cellsOf 136 = 1 := by kernel_rfl

/-- What the rows' list gives: the table of powers of ten holds its numbers. -/
theorem tab_of {W : World} (h : laidMetH Tryz.prog Rows.codeMakesRow.laid W) : Tab W :=
  Lib.tabIs_of_head (rest := []) gTab gTabType Tryz.underlying166 Tryz.underlying136 cells73 cells95 (laidMet.tail (laidMet.tail h))

def lay (cs : Array Value) : Obj → Obj
  | .cells _ t frozen => .cells cs t frozen
  | o => o
/-- A world for the witness: the settled one, the three tables holding what their initialisers lay. -/
def laidW (w : World) : World :=
  { w with heap := ((w.heap.modify 1 (lay #[.int .u64 1, .int .u64 10, .int .u64 100, .int .u64 1000, .int .u64 10000, .int .u64 100000, .int .u64 1000000, .int .u64 10000000, .int .u64 100000000, .int .u64 1000000000, .int .u64 10000000000, .int .u64 100000000000, .int .u64 1000000000000, .int .u64 10000000000000, .int .u64 100000000000000, .int .u64 1000000000000000, .int .u64 10000000000000000, .int .u64 100000000000000000, .int .u64 1000000000000000000, .int .u64 10000000000000000000])).modify 2 (lay #[.int .u8 0, .int .u8 1, .int .u8 28, .int .u8 2, .int .u8 29, .int .u8 14, .int .u8 24, .int .u8 3, .int .u8 30, .int .u8 22, .int .u8 20, .int .u8 15, .int .u8 25, .int .u8 17, .int .u8 4, .int .u8 8, .int .u8 31, .int .u8 27, .int .u8 13, .int .u8 23, .int .u8 21, .int .u8 19, .int .u8 16, .int .u8 7, .int .u8 26, .int .u8 12, .int .u8 18, .int .u8 6, .int .u8 11, .int .u8 5, .int .u8 10, .int .u8 9])).modify 3 (lay #[.int .u8 0, .int .u8 1, .int .u8 56, .int .u8 2, .int .u8 57, .int .u8 49, .int .u8 28, .int .u8 3, .int .u8 61, .int .u8 58, .int .u8 42, .int .u8 50, .int .u8 38, .int .u8 29, .int .u8 17, .int .u8 4, .int .u8 62, .int .u8 47, .int .u8 59, .int .u8 36, .int .u8 45, .int .u8 43, .int .u8 51, .int .u8 22, .int .u8 53, .int .u8 39, .int .u8 33, .int .u8 30, .int .u8 24, .int .u8 18, .int .u8 12, .int .u8 5, .int .u8 63, .int .u8 55, .int .u8 48, .int .u8 27, .int .u8 60, .int .u8 41, .int .u8 37, .int .u8 16, .int .u8 46, .int .u8 35, .int .u8 44, .int .u8 21, .int .u8 52, .int .u8 32, .int .u8 23, .int .u8 11, .int .u8 54, .int .u8 26, .int .u8 40, .int .u8 15, .int .u8 34, .int .u8 20, .int .u8 31, .int .u8 10, .int .u8 25, .int .u8 14, .int .u8 19, .int .u8 9, .int .u8 13, .int .u8 8, .int .u8 7, .int .u8 6]) }
theorem laidOut : laidOutB Tryz.prog = true := by kernel_rfl
end Go.Proofs.YthjbknncbhkinaaGreatDoor.NFe

namespace Go.Proofs.YthjbknncbhkinaaGreatDoor.NOe
open Go.ChangeShapes Go.WideShapes Go.ChangeAt Go.RowKit Go.Proofs.YthjbknncbhkinaaGreatDoor.EPure
open Go.Proofs.YthjbknncbhkinaaGreatDoor.XBase (In InL in_iff LAt Four)
open Go.Proofs.YthjbknncbhkinaaGreatDoor.Base (All add_none)
set_option linter.unusedVariables false

theorem cells9 : Tryz.prog.cellsOf 9 = 1 := by kernel_rfl
theorem cellsX : Tryz.prog.cellsOf 24 = 4 := by kernel_rfl
theorem cells3 : Tryz.prog.cellsOf 3 = 1 := by kernel_rfl
theorem cellsXs : Tryz.prog.cellsOf 22 = 1 := by kernel_rfl
theorem bytesX : Tryz.prog.bytesOf 24 = 56 := by kernel_rfl
theorem cells_at {w : World} {a : Addr} {n : Nat} {cs : List Value} (h : w.cells? 0 a n = some cs) : cs.length = n ∧ ∀ j (hj : j < n), w.cell? (a.add j) = cs[j]? := by
  unfold World.cells? at h
  rw [if_pos (Nat.zero_le _)] at h
  have hl := mapM_some_length h
  refine ⟨by simpa using hl, fun j hj => ?_⟩
  have := mapM_some_get h j j (by simp [hj])
  exact this
theorem list_four {α : Type} {l : List α} (h : l.length = 4) : ∃ c0 c1 c2 c3, l = [c0, c1, c2, c3] := by
  match l, h with
  | [c0, c1, c2, c3], _ => exact ⟨c0, c1, c2, c3, rfl⟩
theorem spot_none {w : World} {a : Addr} {v : Value} (h : w.cell? (a.add 0) = some v) : ∃ g o, a = ⟨g, o, none⟩ := by
  obtain ⟨g, o, sp⟩ := a
  cases sp with
  | none => exact ⟨g, o, rfl⟩
  | some x =>
    simp only [Addr.add, if_true, World.cell?] at h
    split at h
    · simp at h
    · cases h
theorem weightsAll_mem {H : Type} {P : Program} {e : TypeId} {d : DataW H} {q : Nat} : ∀ {ds : List (DataW H)}, d ∈ ds → q ∈ DataW.weights P e d → q ∈ DataW.weightsAll P e ds
  | [], hd, _ => by cases hd
  | d' :: r, hd, hq => by
    rw [DataW.weightsAll, List.mem_append]
    rcases List.mem_cons.1 hd with rfl | h
    · exact .inl hq
    · exact .inr (weightsAll_mem h hq)
section
variable {H : Type} {enc : TypeId × Value → H} {W : World}
theorem open_x : ∀ {fuel : Nat} {cs : List Value} {x : DataW H × List MemPlace}, DataW.trod enc Tryz.prog W 0 (fun _ => true) true fuel 24 cs = some x → (∀ q ∈ DataW.weights Tryz.prog 24 x.1, q ≤ reachBytes) →
    ∃ c, In false All W fuel (.agg cs.toArray) c := by
  intro fuel
  induction fuel using Nat.strongRecOn with
  | _ fuel ih =>
    intro cs x h hw
    obtain ⟨xs, n, rfl, rfl, hcl, hxl, hf⟩ := DataW.trod_struct Tryz.underlying24 h
    rw [cellsX] at hcl
    have hxl4 : xs.length = 4 := hxl
    clear hxl
    obtain ⟨c0, c1, c2, c3, rfl⟩ := list_four hcl
    obtain ⟨x0, x1, x2, x3, rfl⟩ := list_four hxl4
    have f0 := hf 0 _ rfl
    have f1 := hf 1 _ rfl
    have f2 := hf 2 _ rfl
    have f3 := hf 3 _ rfl
    simp [cells3] at f0
    simp [cells3] at f1
    simp [cells9] at f2
    simp [cellsXs] at f3
    obtain ⟨k, e0, e0', hk⟩ := DataW.trod_int Tryz.underlying3 f0
    obtain ⟨i, e1, e1', hi⟩ := DataW.trod_int Tryz.underlying3 f1
    obtain ⟨s, e2, e2', hs⟩ := DataW.trod_string Tryz.underlying9 f2
    have W0 : ∀ q, q ∈ DataW.weights Tryz.prog 9 x2.1 ∨ q ∈ DataW.weights Tryz.prog 22 x3.1 → q ≤ reachBytes := by
      intro q hq
      apply hw
      simp only [List.map_cons, List.map_nil]
      rw [DataW.weights, Tryz.underlying24]
      simp only [List.map_cons, List.map_nil, DataW.weightsEach, List.mem_append]
      rcases hq with hq | hq
      · simp [hq]
      · simp [hq]
    have hss : s.size ≤ 140737488351232 := by
      have := W0 s.data.toList.length (.inl (by rw [e2']; simp [DataW.weights]))
      simp only [reachBytes] at this
      have hl : s.data.toList.length = s.size := Array.length_toList
      omega
    simp only [List.cons.injEq, and_true] at e0 e1 e2
    subst e0 e1 e2
    have hL : ∃ l, InL false All W n c3 l := by
      rcases DataW.trod_slice Tryz.underlying22 f3 with ⟨e5, -⟩ | ⟨a, len, cap, els, rest, n', rfl, e5, e5', _, hl, hm, hlen, hel, -, -⟩
      · simp only [List.cons.injEq, and_true] at e5
        subst e5
        exact ⟨[], none, 0, rfl, by simp, by simp, by simp, fun _ => rfl, .inl ⟨rfl, rfl⟩⟩
      · simp only [List.cons.injEq, and_true] at e5
        subst e5
        have hone : ∀ j : Fin len, ∃ (c : Ex) (u : Value), (∃ cs' : List Value, u = .agg cs'.toArray ∧ cs'.length = 4 ∧ ∀ i (hi : i < 4), W.cell? ((a.add (j.1 * 4)).add i) = cs'[i]?) ∧ In false All W n' u c := by
          rintro ⟨j, hj⟩
          have hh := hel j hj
          rw [List.getElem?_eq_getElem (by omega), Option.bind_eq_some_iff] at hh
          obtain ⟨c', hc, ht⟩ := hh
          rw [cellsX] at hc
          obtain ⟨hl1, hcc⟩ := cells_at hc
          obtain ⟨c, hin⟩ := ih n' (by omega) ht (fun q hq => W0 q (.inr (by
            rw [e5', DataW.weights, Tryz.underlying22]
            refine List.mem_cons_of_mem _ (List.mem_append.2 (.inl (weightsAll_mem (d := els[j].1) ?_ hq)))
            rw [List.mem_map]
            exact ⟨els[j]'(by omega), List.getElem_mem _, rfl⟩)))
          exact ⟨c, _, ⟨c', rfl, hl1, hcc⟩, hin⟩
        have hb56 : len * 56 ≤ 140737488351232 := by
          have := W0 ((els.length + rest.length) * 56) (.inr (by
            rw [e5', DataW.weights, Tryz.underlying22]
            simp [bytesX]))
          simp only [reachBytes] at this
          omega
        obtain ⟨f, hf⟩ := Classical.axiomOfChoice hone
        refine ⟨List.ofFn f, some a, cap, by simp, by simpa using hl, hm, by simpa using hb56, (fun h => by cases h), ?_⟩
        by_cases h0 : len = 0
        · subst h0
          exact .inl ⟨by simp, rfl⟩
        · have hcell0 : ∃ v, W.cell? (a.add 0) = some v := by
            obtain ⟨u, ⟨c', -, hl4, hcc⟩, -⟩ := hf ⟨0, by omega⟩
            have := hcc 0 (by omega)
            rw [show (a.add (0 * 4)).add 0 = a.add 0 from by simp [Addr.add]] at this
            exact ⟨c'[0], by rw [this, List.getElem?_eq_getElem]⟩
          obtain ⟨v, hv⟩ := hcell0
          obtain ⟨g, o, rfl⟩ := spot_none hv
          refine .inr ⟨g, o, rfl, trivial, fun j hj => ?_, fun h => by cases h⟩
          have hj' : j < len := by simpa using hj
          obtain ⟨u, ⟨c', rfl, hl4, hcc⟩, hin⟩ := hf ⟨j, hj'⟩
          obtain ⟨y0, y1, y2, y3, rfl⟩ := list_four hl4
          have g0 := hcc 0 (by omega)
          have g1 := hcc 1 (by omega)
          have g2 := hcc 2 (by omega)
          have g3 := hcc 3 (by omega)
          simp only [add_none] at g0 g1 g2 g3
          refine ⟨_, ⟨y0, y1, y2, y3, rfl, g0, g1, g2, g3⟩, ?_⟩
          have := hin.weak (fun _ h => h) false id (n' + 1) (by omega)
          simpa using this
    obtain ⟨l, hL⟩ := hL
    refine ⟨.mk k i s l, ?_⟩
    rw [in_iff]
    exact ⟨_, rfl, bounds_i64 hk, bounds_i64 hi, hss, hL⟩
end
/-- Its blocks lie in the world. -/
theorem In.low {w : World} : ∀ {m : Nat} {v : Value} {c : Ex}, In false All w m v c → In false (fun b => b < w.heap.size) w m v c := by
  intro m
  induction m with
  | zero => intro v c h; rw [XBase.In] at h; exact h.elim
  | succ m ih =>
    intro v c h
    obtain ⟨k, i, s, l⟩ := c
    rw [XBase.In] at h ⊢
    obtain ⟨a, cap, h1, h2, h3, h4, h5, h6, h7, h8, h9⟩ := h
    refine ⟨a, cap, h1, h2, h3, h4, h5, h6, h7, h8, ?_⟩
    rcases h9 with h9 | ⟨g, o, e, -, hg, -⟩
    · exact .inl h9
    · by_cases hl : l = []
      · exact .inl ⟨hl, rfl⟩
      · refine .inr ⟨g, o, e, ?_, fun j hj => ?_, fun h => by cases h⟩
        · obtain ⟨u, ⟨v0, v1, v2, v3, -, hc, -⟩, -⟩ := hg 0 (List.length_pos_iff.2 hl)
          unfold World.cell? at hc
          rcases Nat.lt_or_ge g w.heap.size with h | h
          · exact h
          · simp only [Array.getElem?_eq_none h] at hc
            cases hc
        · obtain ⟨u, hu, hin⟩ := hg j hj
          exact ⟨u, hu, ih hin⟩
set_option maxRecDepth 100000 in
/-- An expression that comes in: its own four cells, what it holds, and that it reads the same behind whatever only adds. -/
theorem come {H : Type} {enc : TypeId × Value → H} {W : World} {base : Nat} {v : Value} {d : DataW H} {p : List MemPlace} {ts : List TypeId} {ds : List (DataW H)} {j : Nat}
    (hval : Value.okWide Tryz.prog W .any base 24 v) (h : DataW.Trod enc Tryz.prog W 0 (fun _ => true) true 24 v d p)
    (hsz : (DataW.weightsEach Tryz.prog ts ds).all (· ≤ reachBytes) = true) (ht : ts[j]? = some 24) (hd : ds[j]? = some d) :
    (∃ m c, In false All W m v c) ∧ ∀ W', Below W.heap.size W W' → DataW.Trod enc Tryz.prog W' 0 (fun b => decide (b < W.heap.size)) true 24 v d p := by
  have lt0 : ∀ x ∈ p, x.block < W.heap.size := by obtain ⟨m, hm⟩ := h; exact DataW.trod_lt m _ _ _ hm
  refine ⟨?_, fun W' bel => Below.trod NFe.laidOut (by kernel_rfl) (of_decide_eq_true (by kernel_rfl)) h bel lt0⟩
  obtain ⟨cs, rfl, -⟩ := okWide_struct Tryz.underlying24 hval
  obtain ⟨fuel, hf⟩ := h
  obtain ⟨c, hc⟩ := open_x hf fun q hq => by simpa using List.all_eq_true.1 hsz q (DataW.weights_mem_each ht hd q hq)
  exact ⟨fuel, c, by simpa [Value.cells] using hc⟩
end Go.Proofs.YthjbknncbhkinaaGreatDoor.NOe

namespace Go.Proofs.YthjbknncbhkinaaGreatDoor.codeMakes
set_option linter.unusedVariables false
open Go.ChangeShapes Go.WideShapes Go.ChangeAt Go.RowKit Go.Proofs.YthjbknncbhkinaaGreatDoor.Base Go.Proofs.YthjbknncbhkinaaGreatDoor.Digits Go.Proofs.YthjbknncbhkinaaGreatDoor.NFe
open Go.ChangeMaps (open_string shut_string)

set_option maxRecDepth 1000000 in
/-- What the walk gives, for every argument and every world that holds the tables. -/
theorem contract (H : Type) (enc : TypeId × Value → H) (W : World) (base : Nat) (args : Array Value) (ds gs : List (DataW H)) (before : List MemPlace)
    (hval : ∀ (j : Nat) t v, Tryz.f3.params[j]? = some t → args[j]? = some v → Value.okWide Tryz.prog W .any base t v)
    (hW : DataW.Whole enc Tryz.prog Tryz.f3.params.toList Rows.codeMakesSpec.vars false W args.toList ds gs before)
    (hsz : (DataW.weightsEach Tryz.prog (Tryz.f3.params.toList ++ Rows.codeMakesSpec.plain.varTypes Tryz.prog) (ds ++ gs)).all (· ≤ reachBytes) = true) (hL : laidMetH Tryz.prog Rows.codeMakesRow.laid W) :
    Calls Tryz.prog 3 args W fun e W' => ∃ v, e = .returned v ∧ Rows.codeMakesSpec.post enc Tryz.prog Tryz.f3 false true false false W args v W' := by
  have hW' := hW
  obtain ⟨p, q, hA0, hV, rfl, hfz, hnd⟩ := hW
  have hA : DataW.TrodAll enc Tryz.prog W 0 (fun _ => true) true Tryz.f3.params.toList args.toList ds p := hA0
  rw [Tryz.params3] at hA hval hsz
  obtain ⟨v0, vs0, d0, ds0, p0, q0, hargs, rfl, rfl, h0, r0⟩ := trodAll_cons hA
  obtain ⟨v1, vs1, d1, ds1, p1, q1, rfl, rfl, rfl, h1, r1⟩ := trodAll_cons r0
  obtain ⟨rfl, rfl, rfl⟩ := trodAll_nil r1
  obtain rfl : args = #[v0, v1] := by cases args; simp_all
  obtain ⟨rfl, rfl⟩ := trodVars_none hV
  obtain ⟨⟨m0, c0, g0⟩, s0⟩ := NOe.come (hval 0 24 v0 rfl rfl) h0 hsz (j := 0) rfl rfl
  obtain ⟨a1, rfl, rfl, rfl, w1⟩ := open_int Tryz.underlying3 (hval 1 3 v1 rfl rfl) h1
  have bd1 : -9223372036854775808 ≤ a1 ∧ a1 ≤ 9223372036854775807 := bounds_i64 w1
  clear hA0
  simp only [List.append_nil] at hW'
  refine (WMk.walk g0  (fun W hW => (tab_of hL).later hW)).mono fun e W' ⟨he, bel⟩ => ?_
  subst he
  exact ⟨_, rfl, _, _, _, [], _, [], hW', trodAll_mk1 (shut_bool Tryz.underlying4 _), (trodAll_cons_mk (s0 _ bel) (trodAll_cons_mk (shut_int Tryz.underlying3 w1) trodAll_mk0)), rfl, bel.frame _, fun h => by cases h⟩

theorem laid_met (os : Os) : laidMet Tryz.prog Rows.codeMakesRow.laid ((laidW (World.holding Tryz.prog os ⟨#[], #[], []⟩)).forCall (fun _ _ => 0) ⟨#[], #[.agg #[.int .i64 0, .int .i64 0, .string ByteArray.empty, .slice none 0 0], .int .i64 0], []⟩).memory :=
  laidMet_of_run' 8 (by kernel_rfl) (by kernel_rfl)
theorem reads (os : Os) {H : Type} (enc : TypeId × Value → H) : ∃ places, DataW.whole enc Tryz.prog ((laidW (World.holding Tryz.prog os ⟨#[], #[], []⟩)).forCall (fun _ _ => 0) ⟨#[], #[.agg #[.int .i64 0, .int .i64 0, .string ByteArray.empty, .slice none 0 0], .int .i64 0], []⟩).memory Tryz.f3.params.toList Rows.codeMakesSpec.vars false #[Value.agg #[.int .i64 0, .int .i64 0, .string ByteArray.empty, .slice none 0 0], Value.int .i64 0].toList 8 = some ([.agg [.lit (.int .i64 0), .lit (.int .i64 0), .lit (.string []), .nil], .lit (.int .i64 0)], [], places) :=
  ⟨[], by kernel_rfl⟩

set_option maxRecDepth 100000 in
theorem lifted (os : Os) (started : os.Started) (H : Type) (enc : TypeId × Value → H) (F : Stop.Interp) :
    ReturnsInHanded {} Tryz.checked os 3 .any ((OpenSpec.ofChange Rows.codeMakesSpec).preRow enc Tryz.prog Tryz.f3 Rows.codeMakesRow.domain false Rows.codeMakesRow.laid) (((OpenSpec.ofChange Rows.codeMakesSpec).at F).post enc Tryz.prog Tryz.f3 false true false false) := by
  obtain ⟨places, hx⟩ := reads os enc
  refine returnsInHanded_of_row (C := Tryz.checked) (s := OpenSpec.ofChange Rows.codeMakesSpec) own started (by kernel_rfl) Tryz.func3
    (witness_row_at (enc := enc) (C := Tryz.checked) false (laidW (World.holding Tryz.prog os ⟨#[], #[], []⟩)) #[.agg #[.int .i64 0, .int .i64 0, .string ByteArray.empty, .slice none 0 0], .int .i64 0] rfl (by kernel_rfl) (by kernel_rfl) (by kernel_rfl)
      (OpenSpec.preRow_of_cond 8 hx (by kernel_rfl) (fun k hk => by cases hk) (by kernel_rfl) (laid_met os))) ?_
  intro W base args ds gs before hval hW _ _ hsz hL _ _
  exact contract H enc W base args ds gs before hval hW hsz hL

theorem said : Rows.CodeMakesSaid :=
  OpenClaim.holds_of_cond 3 Tryz.f3 rfl rfl rfl rfl rfl rfl rfl ⟨rfl, rfl, rfl, rfl, rfl⟩ rfl rfl rfl rfl rfl (by kernel_rfl) Tryz.func3 (by kernel_rfl)
    (of_decide_eq_true (by kernel_rfl)) (by unfold Func.isWrapper; first | (rw [if_pos (by decide +kernel)]; kernel_rfl) | (rw [if_neg (by decide +kernel)]; exact ⟨rfl, rfl⟩))
    (fun os started H enc _ F => by rw [OpenClaim.pre_eq_preRow]; exact lifted os started H enc F)

/-- No parameter wants a stand-in; the program's own looks are on. -/
theorem plain (f : FuncId) (fn : Func) (hf : Tryz.pinned.checked.prog.funcNamed "stencil/stencillaw20.CodeMakes" = some f) (hfn : Tryz.pinned.checked.prog.funcs[f]? = some fn) :
    true = Tryz.pinned.checked.prog.looks [] ∧ ∀ (j : Nat) t, fn.params[j]? = some t → Tryz.pinned.checked.prog.wantsStandIn t = false := by
  obtain rfl : f = 3 := Option.some.inj ((show Tryz.prog.funcNamed "stencil/stencillaw20.CodeMakes" = some 3 by kernel_rfl).symm.trans hf) |>.symm
  obtain rfl : fn = Tryz.f3 := (Option.some.inj (Tryz.func3.symm.trans hfn)).symm
  refine ⟨by kernel_rfl, fun j t ht => ?_⟩
  rw [Tryz.params3] at ht
  have hm := Array.mem_of_getElem? ht
  rcases (show t = 24 ∨ t = 3 by first | simpa using hm | (simp at hm; omega)) with h | h
  · rw [h]; exact (show Tryz.prog.wantsStandIn 24 = false by kernel_rfl)
  · rw [h]; exact (show Tryz.prog.wantsStandIn 3 = false by kernel_rfl)

/-- The given statement. -/
theorem card : Rows.CodeMakesCardSaid :=
  Claim7.holds_tied_plain_at .later [] _ _ _ _ said (fun _ h => by cases h) (by kernel_rfl) (fun _ h => by cases h) codeMakes_row_tie rfl ⟨rfl, rfl⟩ (by kernel_rfl) rfl plain (by kernel_rfl)
#print axioms card
end Go.Proofs.YthjbknncbhkinaaGreatDoor.codeMakes

/- The writer of code: its box, what its methods leave; put, land. -/
import Derived.Test.YthjbknncbhkinaaGreatDoorCBx
import Derived.DeepKeys4
import Derived.Laws.StructEq
import Derived.Deep.RegionHeld3
import Derived.Test.YthjbknncbhkinaaGreatDoorNGe
import Derived.Test.YthjbknncbhkinaaGreatDoorTak
import Derived.Maps.AppendAt
namespace Go.Proofs.YthjbknncbhkinaaGreatDoor.CIn
open Go.RowKit Go.Proofs.YthjbknncbhkinaaGreatDoor.IPure Go.Proofs.YthjbknncbhkinaaGreatDoor.IBase Go.Proofs.YthjbknncbhkinaaGreatDoor.CPu Go.Proofs.YthjbknncbhkinaaGreatDoor.CBx
set_option linter.unusedVariables false

def iv (x : Ins) : Value := .agg #[.int .i64 x.1, .int .i64 x.2]
def Ok (x : Ins) : Prop := (Lit.int .i64 x.1).wf = true ∧ (Lit.int .i64 x.2).wf = true
theorem cellsI : Tryz.prog.cellsOf 57 = 2 := by kernel_rfl
theorem cells3 : Tryz.prog.cellsOf 3 = 1 := by kernel_rfl
theorem lits_of {x : Ins} (h : Ok x) : Tryz.prog.keyLits 2 57 (iv x).cells.toList = some [.int .i64 x.1, .int .i64 x.2] := by
  simp [Program.keyLits, Tryz.underlying57, Tryz.underlying3, cellsI, cells3, iv, Value.cells, h.1, h.2]
theorem formed_iv (x : Ins) : (iv x).formed Tryz.prog 57 = true := by
  simp [iv, Value.formed, Tryz.underlying57, cellsI]
theorem eq_same {x : Ins} (hx : Ok x) (w : World) : (Op.equal 57 (iv x) (iv x)).run Tryz.prog w = .ok true w := by
  obtain ⟨r, hr, hiff⟩ := run_equalIn_deep (P := Tryz.prog) 9997 3 57 (by kernel_rfl) w 2 2 (iv x) (iv x) _ _ (formed_iv x) (formed_iv x) (lits_of hx) (lits_of hx)
  have e : r = true := hiff.2 rfl
  rw [← e]
  exact hr
theorem guard_no : Tryz.prog.eqGuardType Tryz.prog.depth 57 = false := by kernel_rfl
theorem guard_ins (op : BinOp) (xo yo : Operand) (k0 k1 x0 x1 : Int) (w : World) : (eqGuard op 57 xo yo (.agg #[.int .i64 k0, .int .i64 k1]) (.agg #[.int .i64 x0, .int .i64 x1])).run Tryz.prog w = .ok () w := by
  unfold eqGuard
  cases op <;> simp [go_sem]
theorem bin_eq {x0 x1 : Int} (hx : Ok (x0, x1)) (w : World) : (binOp .eql 57 (.agg #[.int .i64 x0, .int .i64 x1]) (.agg #[.int .i64 x0, .int .i64 x1])).run Tryz.prog w = .ok (.bool true) w := by
  have h := eq_same hx w
  unfold iv at h
  simp [binOp, h]
theorem bin_ne {x0 x1 : Int} (hx : Ok (x0, x1)) (w : World) : (binOp .neq 57 (.agg #[.int .i64 x0, .int .i64 x1]) (.agg #[.int .i64 x0, .int .i64 x1])).run Tryz.prog w = .ok (.bool false) w := by
  have h := eq_same hx w
  unfold iv at h
  simp [binOp, h]
def OkL (L : List Ins) : Prop := (∀ x ∈ L, Ok x) ∧ L.length + 2 ≤ 8796093022208
set_option maxRecDepth 20000 in
set_option maxHeartbeats 800000 in
theorem sameI_c {K : Nat} {w : World} {v u : Value} {L : List Ins} (hv : Cx K w v L) (hu : Cx K w u L) (hK : K ≤ w.heap.size) (hk : OkL L) :
    Calls Tryz.prog 11 #[v, u] w fun e w' => e = .returned (.bool true) ∧ Below w.heap.size w w' := by
  obtain ⟨a, cap, rfl, hl, hm, hnil, hL⟩ := hv
  obtain ⟨a2, cap2, rfl, hl2, hm2, hnil2, hM⟩ := hu
  obtain ⟨n, hnn⟩ : ∃ n, L.length = n := ⟨_, rfl⟩
  have HN : Hid (L.length = n) := hnn
  have HO : Hid (OkL L) := hk
  have hn := hk.2
  rw [hnn] at hl hl2 hn ⊢
  clear hk hnn hnil hnil2
  go_enter Tryz.func11, Tryz.ntmps11
  go_wp2_with fail
  go_loopw [5] (fun i wr => ∃ q : Nat, i = .int .i64 (q : Nat) ∧ q ≤ n ∧ Below w.heap.size w wr) (fun i _ => n - (intOf i).toNat)
  case atStart => exact ⟨0, rfl, by omega, Below.refl _ _⟩
  case round =>
    obtain ⟨q, rfl, hq, hb⟩ := hrel
    by_cases hlt : q < n
    · rcases hL with rfl | ⟨g, o, rfl, hg, hc⟩
      · have := HN.out; simp at this; omega
      rcases hM with rfl | ⟨g2, o2, rfl, hg2, hc2⟩
      · have := HN.out; simp at this; omega
      have hlq : q < L.length := by rw [HN.out]; exact hlt
      obtain ⟨d0, d1⟩ := hc q hlq
      obtain ⟨e0, e1⟩ := hc2 q hlq
      have d0 := cell_keep (by omega : g < w.heap.size) d0 hb
      have d1 := cell_keep (by omega : g < w.heap.size) d1 hb
      have e0 := cell_keep (by omega : g2 < w.heap.size) e0 hb
      have e1 := cell_keep (by omega : g2 < w.heap.size) e1 hb
      have hxo := HO.out.1 L[q] (List.getElem_mem _)
      clear hc hc2
      generalize L[q] = x at *
      obtain ⟨x0, x1⟩ := x
      have heq := fun w => bin_ne hxo w
      have hgd := fun xo yo => guard_ins .neq xo yo x0 x1 x0 x1
      clear hxo
      dsimp only at d0 d1 e0 e1
      go_wp2_with fail
      go_quiet (fail)
      go_wp2_with fail
      go_roundw
      case rel => exact ⟨q + 1, by go_num, by omega, below_drewN hb⟩
      case measure => simp only [intOf]; omega
    · obtain rfl : q = n := by omega
      have hnlt : decide ((q : Int) < (q : Int)) = false := by simp
      clear hL hM
      go_wp2_with fail
      go_ret
      exact ⟨rfl, hb⟩
def flat (L : List Ins) : List Value := L.flatMap fun x => [.int .i64 x.1, .int .i64 x.2]
theorem flat_append (a b : List Ins) : flat (a ++ b) = flat a ++ flat b := by simp [flat]
theorem flat_len (L : List Ins) : (flat L).length = L.length * 2 := by
  induction L with
  | nil => rfl
  | cons t L ih =>
    simp only [flat, List.flatMap_cons, List.length_append, List.length_cons] at ih ⊢
    rw [ih]
    simp
    omega
theorem flat_get (L : List Ins) : ∀ (j : Nat) (hj : j < L.length), (flat L)[j * 2]? = some (.int .i64 L[j].1) ∧ (flat L)[j * 2 + 1]? = some (.int .i64 L[j].2) := by
  induction L with
  | nil => intro j hj; simp at hj
  | cons t L ih =>
    intro j hj
    have e : flat (t :: L) = [.int .i64 t.1, .int .i64 t.2] ++ flat L := by simp [flat]
    rw [e]
    cases j with
    | zero => simp
    | succ j =>
      rw [List.getElem?_append_right (by simp; omega), List.getElem?_append_right (by simp; omega)]
      have h := ih j (by simpa using hj)
      simp only [List.length_cons, List.length_nil]
      rw [show (j + 1) * 2 - (0 + 1 + 1) = j * 2 by omega, show (j + 1) * 2 + 1 - (0 + 1 + 1) = j * 2 + 1 by omega]
      exact h
theorem one_ins (L : List Ins) : ∀ u ∈ flat L, u.oneCell' = true := by
  intro u hu
  obtain ⟨t, _, h⟩ := List.mem_flatMap.1 hu
  simp at h
  rcases h with rfl | rfl <;> rfl
theorem infoN : (Tryz.prog.info? 57).map (fun i => (i.zero, i.size, i.bytes)) = some (some (.agg #[.int .i64 0, .int .i64 0]), 2, 16) := by kernel_rfl
/-- A row of instructions of one's own. -/
def Oc (w : World) (B : Nat) (v : Value) (L : List Ins) : Prop := w.ownsRow B 57 2 v L.length (flat L)
theorem copyI_c {K : Nat} {w : World} {v : Value} {L : List Ins} (hv : Cx K w v L) (hK : K ≤ w.heap.size) (hn : L.length ≤ 8796093022208) :
    Calls Tryz.prog 15 #[v] w fun e w' => ∃ u, e = .returned u ∧ Oc w' w.heap.size u L ∧ Below w.heap.size w w' := by
  obtain ⟨i0, hi, hz0, hz1, hz2⟩ := info_parts infoN
  obtain ⟨a, cap, rfl, hl, hm, hnil, hL⟩ := hv
  have ho : Oc (w.alloc (.cells #[] 57)) w.heap.size (.slice (some ⟨w.heap.size, 0, none⟩) 0 0) [] := by
    refine ⟨rfl, .inr ⟨w.heap.size, 0, #[], rfl, Nat.le_refl _, heap_alloc_new w _, Nat.le_refl _, by simp [maxLen], rfl, rfl⟩⟩
  have hb : Below w.heap.size w (w.alloc (.cells #[] 57)) := (Below.refl _ w).alloc (Nat.le_refl _) _
  cases a with
  | none =>
    obtain rfl := hnil rfl
    obtain rfl : L = [] := List.eq_nil_of_length_eq_zero (by omega)
    go_enter Tryz.func15, Tryz.ntmps15
    go_wp2_with fail
    go_ret
    exact ⟨_, rfl, ho, hb⟩
  | some x =>
    obtain ⟨g, o, sp⟩ := x
    have hnews : ∀ j u, (flat L)[j]? = some u → (w.alloc (.cells #[] 57)).cell? ((⟨g, o, sp⟩ : Addr).add j) = some u := by
      intro j u hj
      have hl2 : j < L.length * 2 := by
        have := (List.getElem?_eq_some_iff.1 hj).1
        rwa [flat_len] at this
      rcases hL with rfl | ⟨g', o', e, hg', hc⟩
      · simp at hl2
      · cases e
        rw [add_none]
        have hq : j / 2 < L.length := by omega
        obtain ⟨k1, k2⟩ := flat_get L (j / 2) hq
        obtain ⟨c1, c2⟩ := hc (j / 2) hq
        have c1 := cell_keep (by omega : g < w.heap.size) c1 hb
        have c2 := cell_keep (by omega : g < w.heap.size) c2 hb
        have h3 : j = j / 2 * 2 ∨ j = j / 2 * 2 + 1 := by omega
        rcases h3 with e | e
        · rw [← e] at k1 c1
          rw [k1] at hj
          cases hj
          exact c1
        · rw [← e] at k2
          rw [show o + j / 2 * 2 + 1 = o + j by omega] at c2
          rw [k2] at hj
          cases hj
          exact c2
    have hfl := flat_len L
    clear hL hnil
    go_enter Tryz.func15, Tryz.ntmps15
    go_wp2_with (first
      | (at_builtin; refine wpList_append_own _ rfl _ _ 27 rfl w.heap.size 57 i0 (.agg #[.int .i64 0, .int .i64 0]) 2 16 Tryz.underlying27 hi hz0 hz1 hz2 rfl (by decide) _ _ _ rfl ho ⟨g, o, sp⟩ L.length cap (flat L) rfl (by rw [hfl]) hnews (one_ins L) (by simp [maxLen]; omega) (by simp; omega) (by simp) ?_))
    intro v' w2 hown' hgrow hnn
    have hb3 := hb.grown hgrow (by simp) (fun k hk => by cases hk; exact Nat.le_refl _)
    have ho2 : Oc w2 w.heap.size v' L := by
      unfold Oc
      simpa [flat] using hown'
    clear hown' hgrow ho hb hnews hnn
    go_wp2_with fail
    go_ret
    exact ⟨_, rfl, ho2, hb3⟩
def room : Ins := (-7, 0)
/-- A row that was lent: with marked room behind it. -/
def Lk (B : Nat) (w : World) (v : Value) (L : List Ins) : Prop := ∃ g cap, v = .slice (some ⟨g, 0, none⟩) L.length cap ∧ B ≤ g ∧ g < w.heap.size ∧ L.length + 2 ≤ cap ∧ cap ≤ 9223372036854775807 ∧
  (∀ j (h : j < L.length), w.cell? ⟨g, 0 + j * 2, none⟩ = some (.int .i64 L[j].1) ∧ w.cell? ⟨g, 0 + j * 2 + 1, none⟩ = some (.int .i64 L[j].2)) ∧
  (w.cell? ⟨g, L.length * 2, none⟩ = some (.int .i64 (-7)) ∧ w.cell? ⟨g, L.length * 2 + 1, none⟩ = some (.int .i64 0)) ∧ w.cell? ⟨g, (L.length + 1) * 2, none⟩ = some (.int .i64 (-7)) ∧ w.cell? ⟨g, (L.length + 1) * 2 + 1, none⟩ = some (.int .i64 0)
theorem Lk.cx {B : Nat} {w : World} {v : Value} {L : List Ins} (h : Lk B w v L) : Cx w.heap.size w v L := by
  obtain ⟨g, cap, rfl, -, hg, h1, h2, h3, -⟩ := h
  exact ⟨_, cap, rfl, by omega, h2, (fun h => by cases h), .inr ⟨g, 0, rfl, hg, h3⟩⟩
theorem Lk.below {B : Nat} {w w' : World} {v : Value} {L : List Ins} (h : Lk B w v L) (hb : Below w.heap.size w w') : Lk B w' v L := by
  obtain ⟨g, cap, rfl, h0, hg, h1, h2, h3, h4, h5⟩ := h
  have := hb.size
  exact ⟨g, cap, rfl, h0, by omega, h1, h2, fun j hj => ⟨below_cell (h3 j hj).1 hb, below_cell (h3 j hj).2 hb⟩, ⟨below_cell h4.1 hb, below_cell h4.2 hb⟩, below_cell h5.1 hb, below_cell h5.2 hb⟩
theorem ok_room : Ok (-7, 0) := ⟨by decide, by decide⟩
end Go.Proofs.YthjbknncbhkinaaGreatDoor.CIn

namespace Go.Proofs.YthjbknncbhkinaaGreatDoor.NWr
open Go.RowKit Go.Proofs.YthjbknncbhkinaaGreatDoor.CPu Go.Proofs.YthjbknncbhkinaaGreatDoor.CIn Go.Proofs.YthjbknncbhkinaaGreatDoor.Tak
open Go.Proofs.YthjbknncbhkinaaGreatDoor.IBase (heap_alloc_new add_none)
set_option linter.unusedVariables false

abbrev ptr (W : Nat) : Value := .pointer (some ⟨W, 0, none⟩)
/-- A row of texts of one's own. -/
def Ot (w : World) (B : Nat) (v : Value) (T : List ByteArray) : Prop := w.ownsRow B 9 1 v T.length (T.map Value.string)
/-- The writer's box, its code and its texts. -/
structure Wb (w : World) (W : Nat) (cv tv : Value) (C : List Ins) (T : List ByteArray) : Prop where
  box : w.heap[W]? = some (.cells #[cv, tv] 54 (0, 0))
  own : Oc w (W + 1) cv C
  tex : Ot w (W + 1) tv T
  ne : ∀ g, cv.ownBlock = some g → tv.ownBlock ≠ some g
/-- What a method of the writer leaves as it was. -/
structure Kw (W : Nat) (cv tv cv' tv' : Value) (w w' : World) : Prop where
  below : Below W w w'
  other : ∀ b, b < w.heap.size → b ≠ W → cv.ownBlock ≠ some b → tv.ownBlock ≠ some b → w'.heap[b]? = w.heap[b]?
  c : cv'.ownBlock = cv.ownBlock ∨ ∃ g, cv'.ownBlock = some g ∧ w.heap.size ≤ g
  t : tv'.ownBlock = tv.ownBlock ∨ ∃ g, tv'.ownBlock = some g ∧ w.heap.size ≤ g
theorem Kw.refl {W : Nat} {cv tv : Value} {w w' : World} (h : Below w.heap.size w w') (hW : W ≤ w.heap.size) : Kw W cv tv cv tv w w' := ⟨h.mono hW, fun b hb _ _ _ => h.block b hb, .inl rfl, .inl rfl⟩
theorem Kw.trans {W : Nat} {cv tv cv1 tv1 cv2 tv2 : Value} {w w1 w2 : World} (h : Kw W cv tv cv1 tv1 w w1) (k : Kw W cv1 tv1 cv2 tv2 w1 w2) : Kw W cv tv cv2 tv2 w w2 := by
  have hs := h.below.size
  have aux : ∀ (v v1 : Value) (b : Nat), b < w.heap.size → v.ownBlock ≠ some b → (v1.ownBlock = v.ownBlock ∨ ∃ g, v1.ownBlock = some g ∧ w.heap.size ≤ g) → v1.ownBlock ≠ some b := by
    intro v v1 b hb hn hv e
    rcases hv with e1 | ⟨g, e1, hg⟩
    · exact hn (e1 ▸ e)
    · rw [e1] at e
      cases e
      omega
  have aux2 : ∀ (v v1 v2 : Value), (v1.ownBlock = v.ownBlock ∨ ∃ g, v1.ownBlock = some g ∧ w.heap.size ≤ g) → (v2.ownBlock = v1.ownBlock ∨ ∃ g, v2.ownBlock = some g ∧ w1.heap.size ≤ g) → (v2.ownBlock = v.ownBlock ∨ ∃ g, v2.ownBlock = some g ∧ w.heap.size ≤ g) := by
    intro v v1 v2 a b
    rcases b with b | ⟨g, b, hg⟩
    · rw [b]; exact a
    · exact .inr ⟨g, b, by omega⟩
  refine ⟨h.below.trans k.below, fun b hb h1 h2 h3 => ?_, aux2 _ _ _ h.c k.c, aux2 _ _ _ h.t k.t⟩
  rw [k.other b (by omega) h1 (aux _ _ _ hb h2 h.c) (aux _ _ _ hb h3 h.t), h.other b hb h1 h2 h3]
theorem own_keep {w w' : World} {B : Nat} {e : TypeId} {s n : Nat} {v : Value} {xs : List Value} (h : w.ownsRow B e s v n xs) (hk : ∀ g, v.ownBlock = some g → w'.heap[g]? = w.heap[g]?) : w'.ownsRow B e s v n xs := by
  refine ⟨h.1, ?_⟩
  rcases h.2 with h2 | ⟨g, cap, cur, rfl, hg, hh, r⟩
  · exact .inl h2
  · exact .inr ⟨g, cap, cur, rfl, hg, (hk g rfl).trans hh, r⟩
theorem Wb.lt {w : World} {W : Nat} {cv tv : Value} {C : List Ins} {T : List ByteArray} (h : Wb w W cv tv C T) : W < w.heap.size := (Array.getElem?_eq_some_iff.1 h.box).1
theorem Wb.c_lt {w : World} {W : Nat} {cv tv : Value} {C : List Ins} {T : List ByteArray} (h : Wb w W cv tv C T) {g : Nat} (hg : cv.ownBlock = some g) : W < g ∧ g < w.heap.size := by
  have := World.ownsRow.lt h.own g hg
  omega
theorem Wb.t_lt {w : World} {W : Nat} {cv tv : Value} {C : List Ins} {T : List ByteArray} (h : Wb w W cv tv C T) {g : Nat} (hg : tv.ownBlock = some g) : W < g ∧ g < w.heap.size := by
  have := World.ownsRow.lt h.tex g hg
  omega
/-- Where its blocks stay it stays. -/
theorem Wb.keep {w w' : World} {W : Nat} {cv tv : Value} {C : List Ins} {T : List ByteArray} (h : Wb w W cv tv C T) (hb : ∀ b, b < w.heap.size → w'.heap[b]? = w.heap[b]?) : Wb w' W cv tv C T :=
  ⟨(hb W h.lt).trans h.box, own_keep h.own fun g hg => hb g (h.c_lt hg).2, own_keep h.tex fun g hg => hb g (h.t_lt hg).2, h.ne⟩
theorem Wb.below {w w' : World} {W : Nat} {cv tv : Value} {C : List Ins} {T : List ByteArray} (h : Wb w W cv tv C T) (hb : Below w.heap.size w w') : Wb w' W cv tv C T := h.keep hb.block
theorem Wb.cells {w : World} {W : Nat} {cv tv : Value} {C : List Ins} {T : List ByteArray} (h : Wb w W cv tv C T) : w.cell? ⟨W, 0, none⟩ = some cv ∧ w.cell? ⟨W, 1, none⟩ = some tv ∧ w.frozen? ⟨W, 0, none⟩ = false ∧ w.frozen? ⟨W, 1, none⟩ = false := by
  refine ⟨?_, ?_, ?_, ?_⟩ <;> simp [World.cell?, World.frozen?, h.box]
theorem block_set {w : World} {B j : Nat} {cs : Array Value} {t : TypeId} {fz : Nat × Nat} (h : w.heap[B]? = some (.cells cs t fz)) (u : Value) : (w.setCell ⟨B, j, none⟩ u).heap[B]? = some (.cells (cs.setIfInBounds j u) t fz) := by
  simp [World.setCell, Array.getElem?_modify, h]
theorem cell_of {W : World} {B : Nat} {cs : Array Value} {t : TypeId} (h : W.heap[B]? = some (.cells cs t (0, 0))) (i : Nat) (v : Value) (hv : cs[i]? = some v) : W.cell? ⟨B, i, none⟩ = some v := by simp [World.cell?, h, hv]
theorem infoS : (Tryz.prog.info? 9).map (fun i => (i.zero, i.size, i.bytes)) = some (some (.string ⟨#[]⟩), 1, 16) := by kernel_rfl
theorem succ_sh {w : World} {B : Nat} {e : TypeId} {s n : Nat} {v : Value} {xs : List Value} (h : w.ownsRow B e s v (n + 1) xs) : ∃ g cap, v = .slice (some ⟨g, 0, none⟩) (n + 1) cap ∧ n + 1 ≤ cap ∧ cap ≤ 9223372036854775807 := by
  rcases h.2 with ⟨_, e⟩ | ⟨g, cap, cur, e, _, _, h1, h2, _⟩
  · omega
  · exact ⟨g, cap, e, h1, by unfold maxLen at h2; omega⟩
theorem own_sh {w : World} {B : Nat} {e : TypeId} {s n : Nat} {v : Value} {xs : List Value} (h : w.ownsRow B e s v n xs) : ∃ a cap, v = .slice a n cap ∧ n ≤ cap ∧ cap ≤ 9223372036854775807 ∧ (a = none → cap = 0) := by
  rcases h.2 with ⟨rfl, e⟩ | ⟨g, cap, cur, e, _, _, h1, h2, _⟩
  · exact ⟨none, 0, by rw [e], by omega, by omega, fun _ => rfl⟩
  · exact ⟨_, cap, e, h1, by unfold maxLen at h2; omega, fun h => by cases h⟩
theorem grown_lt {w W0 : World} {o : Obj} {v v' : Value} (hs : W0 = w.alloc o) (hat : v'.ownBlock = v.ownBlock ∨ v'.ownBlock = some W0.heap.size) : v'.ownBlock = v.ownBlock ∨ ∃ g, v'.ownBlock = some g ∧ w.heap.size ≤ g := by
  rcases hat with e | e
  · exact .inl e
  · exact .inr ⟨_, e, by subst hs; simp⟩
/-- Behind an append of an instruction, ahead of the store. -/
structure Ai (w W' : World) (W : Nat) (cv tv : Value) (C : List Ins) (T : List ByteArray) (x : Ins) (v : Value) : Prop where
  sh : ∃ g cap, v = .slice (some ⟨g, 0, none⟩) (C.length + 1) cap ∧ C.length + 1 ≤ cap ∧ cap ≤ 9223372036854775807
  c : W'.cell? ⟨W, 0, none⟩ = some cv
  f : W'.frozen? ⟨W, 0, none⟩ = false
  wb : Wb (W'.setCell ⟨W, 0, none⟩ v) W v tv (C ++ [x]) T
  kw : Kw W cv tv v tv w (W'.setCell ⟨W, 0, none⟩ v)
/-- Behind an append of a text, ahead of the store. -/
structure At (w W' : World) (W : Nat) (cv tv : Value) (C : List Ins) (T : List ByteArray) (x : ByteArray) (v : Value) : Prop where
  sh : ∃ g cap, v = .slice (some ⟨g, 0, none⟩) (T.length + 1) cap ∧ T.length + 1 ≤ cap ∧ cap ≤ 9223372036854775807
  c : W'.cell? ⟨W, 1, none⟩ = some tv
  f : W'.frozen? ⟨W, 1, none⟩ = false
  wb : Wb (W'.setCell ⟨W, 1, none⟩ v) W cv v C (T ++ [x])
  kw : Kw W cv tv cv v w (W'.setCell ⟨W, 1, none⟩ v)
theorem run_i {w : World} {W : Nat} {cv tv : Value} {C : List Ins} {T : List ByteArray} (h : Wb w W cv tv C T) (hl : C.length ≤ 65536) (ty : TypeId) (x : Ins) :
    ∃ v W', (Builtin.append_ #[27, 27] ty #[cv, .slice (some ⟨w.heap.size, 0, none⟩) 1 1]).run Tryz.prog (w.alloc (.cells #[.int .i64 x.1, .int .i64 x.2] 57)) = .ok v W' ∧ Ai w W' W cv tv C T x v := by
  have hlt := h.lt
  obtain ⟨ix, hi, hz0, hz1, hz2⟩ := info_parts infoN
  have hnews : ∀ j u, (flat [x])[j]? = some u → (w.alloc (.cells #[.int .i64 x.1, .int .i64 x.2] 57)).cell? ((⟨w.heap.size, 0, none⟩ : Addr).add j) = some u := by
    intro j u hu
    have hx := heap_alloc_new w (.cells #[.int .i64 x.1, .int .i64 x.2] 57)
    rw [add_none, Nat.zero_add]
    exact cell_of hx j u (by simpa [flat] using hu)
  obtain ⟨v, W', hrun, hown, hgrow, -, hat⟩ := run_append_own_at (P := Tryz.prog) (w.alloc (.cells #[.int .i64 x.1, .int .i64 x.2] 57)) (W + 1) 27 ty 57 ix (.agg #[.int .i64 0, .int .i64 0]) 2 16 Tryz.underlying27 hi hz0 hz1 hz2 rfl (by decide) _ _ _ (World.ownsRow.alloc h.own _) ⟨w.heap.size, 0, none⟩ 1 1 (flat [x]) rfl hnews (one_ins _) (by unfold maxLen; omega) (by omega) (by simp; omega)
  refine ⟨v, W', hrun, ?_⟩
  have hs := hgrow.size
  have hbk : ∀ b, b < w.heap.size → cv.ownBlock ≠ some b → W'.heap[b]? = w.heap[b]? := fun b hb hn => (hgrow.block b (by simp; omega) (fun e => hn e.symm)).trans (Below.heap_alloc _ _ _ hb)
  have hWc : cv.ownBlock ≠ some W := fun e => by have := h.c_lt e; omega
  have hbx : W'.heap[W]? = some (.cells #[cv, tv] 54 (0, 0)) := (hbk W hlt hWc).trans h.box
  have hvW : v.ownBlock ≠ some W := fun e => by have := World.ownsRow.lt hown W e; omega
  have hst : ∀ b, b ≠ W → (W'.setCell ⟨W, 0, none⟩ v).heap[b]? = W'.heap[b]? := fun b hb => Below.heap_setCell _ _ _ _ hb
  have hat2 := grown_lt (w := w) rfl hat
  refine ⟨succ_sh hown, by simp [World.cell?, hbx], by simp [World.frozen?, hbx], ⟨?_, ?_, ?_, ?_⟩, ⟨?_, ?_, hat2, .inl rfl⟩⟩
  · exact block_set (j := 0) hbx v
  · unfold Oc
    rw [flat_append, List.length_append]
    exact own_keep hown fun g hg => hst g (fun e => hvW (e ▸ hg))
  · exact own_keep h.tex fun g hg => (hst g (by have := h.t_lt hg; omega)).trans (hbk g (h.t_lt hg).2 (fun e => h.ne g e hg))
  · intro g hg e
    rcases hat2 with e2 | ⟨g2, e2, hg2⟩
    · exact h.ne g (e2 ▸ hg) e
    · rw [e2] at hg
      cases hg
      have := h.t_lt e
      omega
  · have b0 : Below W w (w.alloc (.cells #[.int .i64 x.1, .int .i64 x.2] 57)) := (Below.refl _ w).alloc (by omega) _
    exact (b0.grown hgrow (by simp; omega) (fun k hk => by have := h.c_lt hk; omega)).setCell (by simp) _
  · intro b hb h1 h2 h3
    exact (hst b h1).trans (hbk b hb h2)
theorem run_t {w : World} {W : Nat} {cv tv : Value} {C : List Ins} {T : List ByteArray} (h : Wb w W cv tv C T) (hl : T.length ≤ 65536) (ty : TypeId) (x : ByteArray) :
    ∃ v W', (Builtin.append_ #[28, 28] ty #[tv, .slice (some ⟨w.heap.size, 0, none⟩) 1 1]).run Tryz.prog (w.alloc (.cells #[.string x] 9)) = .ok v W' ∧ At w W' W cv tv C T x v := by
  have hlt := h.lt
  obtain ⟨ix, hi, hz0, hz1, hz2⟩ := info_parts infoS
  have hnews : ∀ j u, [Value.string x][j]? = some u → (w.alloc (.cells #[.string x] 9)).cell? ((⟨w.heap.size, 0, none⟩ : Addr).add j) = some u := by
    intro j u hu
    have hx := heap_alloc_new w (.cells #[.string x] 9)
    rw [add_none, Nat.zero_add]
    exact cell_of hx j u (by simpa using hu)
  obtain ⟨v, W', hrun, hown, hgrow, -, hat⟩ := run_append_own_at (P := Tryz.prog) (w.alloc (.cells #[.string x] 9)) (W + 1) 28 ty 9 ix (.string ⟨#[]⟩) 1 16 Tryz.underlying28 hi hz0 hz1 hz2 rfl (by decide) _ _ _ (World.ownsRow.alloc h.tex _) ⟨w.heap.size, 0, none⟩ 1 1 [.string x] rfl hnews (by simp [Value.oneCell']) (by unfold maxLen; omega) (by omega) (by simp; omega)
  refine ⟨v, W', hrun, ?_⟩
  have hs := hgrow.size
  have hbk : ∀ b, b < w.heap.size → tv.ownBlock ≠ some b → W'.heap[b]? = w.heap[b]? := fun b hb hn => (hgrow.block b (by simp; omega) (fun e => hn e.symm)).trans (Below.heap_alloc _ _ _ hb)
  have hWt : tv.ownBlock ≠ some W := fun e => by have := h.t_lt e; omega
  have hbx : W'.heap[W]? = some (.cells #[cv, tv] 54 (0, 0)) := (hbk W hlt hWt).trans h.box
  have hvW : v.ownBlock ≠ some W := fun e => by have := World.ownsRow.lt hown W e; omega
  have hst : ∀ b, b ≠ W → (W'.setCell ⟨W, 1, none⟩ v).heap[b]? = W'.heap[b]? := fun b hb => Below.heap_setCell _ _ _ _ hb
  have hat2 := grown_lt (w := w) rfl hat
  refine ⟨succ_sh hown, by simp [World.cell?, hbx], by simp [World.frozen?, hbx], ⟨?_, ?_, ?_, ?_⟩, ⟨?_, ?_, .inl rfl, hat2⟩⟩
  · exact block_set (j := 1) hbx v
  · exact own_keep h.own fun g hg => (hst g (by have := h.c_lt hg; omega)).trans (hbk g (h.c_lt hg).2 (fun e => h.ne g hg e))
  · unfold Ot
    rw [List.map_append, List.length_append]
    exact own_keep hown fun g hg => hst g (fun e => hvW (e ▸ hg))
  · intro g hg e
    rcases hat2 with e2 | ⟨g2, e2, hg2⟩
    · exact h.ne g hg (e2 ▸ e)
    · rw [e2] at e
      cases e
      have := h.c_lt hg
      omega
  · have b0 : Below W w (w.alloc (.cells #[.string x] 9)) := (Below.refl _ w).alloc (by omega) _
    exact (b0.grown hgrow (by simp; omega) (fun k hk => by have := h.t_lt hk; omega)).setCell (by simp) _
  · intro b hb h1 h2 h3
    exact (hst b h1).trans (hbk b hb h3)
section
variable {ops : Array Oper} {o : Oper} {y : Act} {K : Act → World → Prop} {Q : Exit → Act → World → Prop} {E : Prop} {w W0 : World} {W : Nat} {cv tv : Value} {C : List Ins} {T : List ByteArray}
theorem wp_i (x z : Operand) (ho : o.op = .call { callee := .builtin .append, args := #[x, z], argTypes := #[27, 27] }) (h : Wb w W cv tv C T) (hl : C.length ≤ 65536) (i : Ins)
    (hW : W0 = w.alloc (.cells #[.int .i64 i.1, .int .i64 i.2] 57)) (hx : y.eval x = cv) (hz : y.eval z = .slice (some ⟨w.heap.size, 0, none⟩) 1 1) (hk : ∀ v W', Ai w W' W cv tv C T i v → K (y.put o.dst v) W') : o.wp Tryz.prog y W0 K Q := by
  obtain ⟨v, W', hrun, h2⟩ := run_i h hl o.type i
  subst hW
  unfold Oper.wp execOp
  simp only [ho, resolve, invoke, builtin, Sem.run_bind, Sem.run_pure, Result.andThen_ok, List.map_toArray, List.map_cons, List.map_nil, hx, hz, hrun]
  exact hk v W' h2
theorem list_i {rest : List Oper} (hgd : o.guard = none) (x z : Operand) (ho : o.op = .call { callee := .builtin .append, args := #[x, z], argTypes := #[27, 27] }) (h : Wb w W cv tv C T) (hl : C.length ≤ 65536) (i : Ins)
    (hW : W0 = w.alloc (.cells #[.int .i64 i.1, .int .i64 i.2] 57)) (hx : y.eval x = cv) (hz : y.eval z = .slice (some ⟨w.heap.size, 0, none⟩) 1 1) (hk : ∀ v W', Ai w W' W cv tv C T i v → wpList Tryz.prog ops Q rest (y.put o.dst v) W') : wpList Tryz.prog ops Q (o :: rest) y W0 :=
  wpList_plain hgd fun _ hK => wp_i x z ho h hl i hW hx hz fun v W' h2 => hK _ _ (hk v W' h2)
theorem wp_t (x z : Operand) (ho : o.op = .call { callee := .builtin .append, args := #[x, z], argTypes := #[28, 28] }) (h : Wb w W cv tv C T) (hl : T.length ≤ 65536) (i : ByteArray)
    (hW : W0 = w.alloc (.cells #[.string i] 9)) (hx : y.eval x = tv) (hz : y.eval z = .slice (some ⟨w.heap.size, 0, none⟩) 1 1) (hk : ∀ v W', At w W' W cv tv C T i v → K (y.put o.dst v) W') : o.wp Tryz.prog y W0 K Q := by
  obtain ⟨v, W', hrun, h2⟩ := run_t h hl o.type i
  subst hW
  unfold Oper.wp execOp
  simp only [ho, resolve, invoke, builtin, Sem.run_bind, Sem.run_pure, Result.andThen_ok, List.map_toArray, List.map_cons, List.map_nil, hx, hz, hrun]
  exact hk v W' h2
theorem step_t (hgd : o.guard = none) (x z : Operand) (ho : o.op = .call { callee := .builtin .append, args := #[x, z], argTypes := #[28, 28] }) (h : Wb w W cv tv C T) (hl : T.length ≤ 65536) (i : ByteArray)
    (hW : W0 = w.alloc (.cells #[.string i] 9)) (hx : y.eval x = tv) (hz : y.eval z = .slice (some ⟨w.heap.size, 0, none⟩) 1 1) (hk : ∀ v W', At w W' W cv tv C T i v → K (y.put o.dst v) W') : if Region.wanted o (yielded ops y.tmps) = true then Oper.wp Tryz.prog o y W0 K Q else E := by
  have hw : Region.wanted o (yielded ops y.tmps) = true := by simp [Region.wanted, hgd]
  rw [if_pos hw]
  exact wp_t x z ho h hl i hW hx hz hk
end
theorem ret_int {k : IntKind} {a b : Int} (h : a = b) : Ending.returned (.int k a) = .returned (.int k b) := by rw [h]
set_option maxRecDepth 20000 in
set_option maxHeartbeats 1600000 in
theorem put_c {w : World} {W : Nat} {cv tv : Value} {C : List Ins} {T : List ByteArray} (h : Wb w W cv tv C T) (hl : C.length ≤ 65536) (o a : Int) :
    Calls Tryz.prog 53 #[ptr W, .int .i64 o, .int .i64 a] w fun e w' => e = .returned (.int .i64 C.length) ∧ ∃ cv', Wb w' W cv' tv (C ++ [(o, a)]) T ∧ Kw W cv tv cv' tv w w' := by
  obtain ⟨k0, -, f0, -⟩ := h.cells
  have HH : Hid _ := h
  clear h
  go_enter Tryz.func53, Tryz.ntmps53
  go_wp2_with (first
    | (at_builtin; refine list_i (by rfl) _ _ (by rfl) HH.out hl (o, a) (by rfl) (by rfl) (by rfl) ?_))
  rintro v W' ⟨⟨g, cap, rfl, hc1, hc2⟩, c0, f1, wb, kw⟩
  go_wp2_with fail
  go_ret
  exact ⟨rfl, _, wb, kw⟩
end Go.Proofs.YthjbknncbhkinaaGreatDoor.NWr

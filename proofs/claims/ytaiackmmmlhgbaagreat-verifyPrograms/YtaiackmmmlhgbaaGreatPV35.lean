import Derived.Deep.RegionHeld3
import Derived.DeepKeys4
import Derived.Laws.StructEq
import Derived.Test.YtaiackmmmlhgbaaGreatPV07
open Go.Proofs.Tryz
set_option linter.unusedVariables false
set_option maxRecDepth 20000
set_option maxHeartbeats 3200000
namespace Go.Proofs.YtaiackmmmlhgbaaGreat.CIn
open Go.RowKit IBase CPu CBx
def iv (x : Ins) : Value := .agg #[.int .i64 x.1, .int .i64 x.2]
def Ok (x : Ins) : Prop := (Lit.int .i64 x.1).wf = true /\ (Lit.int .i64 x.2).wf = true
theorem cellsI : prog.cellsOf 65 = 2 := by kernel_rfl
theorem cells3 : prog.cellsOf 3 = 1 := by kernel_rfl
theorem lits_of {x : Ins} (h : Ok x) : prog.keyLits 2 65 (iv x).cells.toList = some [.int .i64 x.1, .int .i64 x.2] := by
 simp [Program.keyLits, underlying65, underlying3, cellsI, cells3, iv, Value.cells, h.1, h.2]
theorem formed_iv (x : Ins) : (iv x).formed prog 65 = true := by
 simp [iv, Value.formed, underlying65, cellsI]
theorem eq_same {x : Ins} (hx : Ok x) (w : World) : (Op.equal 65 (iv x) (iv x)).run prog w = .ok true w := by
 obtain ⟨r, hr, hiff⟩ := run_equalIn_deep (P := prog) 9997 3 65 (by kernel_rfl) w 2 2 (iv x) (iv x) _ _ (formed_iv x) (formed_iv x) (lits_of hx) (lits_of hx)
 have e : r = true := hiff.2 rfl
 rw [<- e]
 exact hr
theorem guard_no : prog.eqGuardType prog.depth 65 = false := by kernel_rfl
theorem guard_ins (op : BinOp) (xo yo : Operand) (k0 k1 x0 x1 : Int) (w : World) : (eqGuard op 65 xo yo (.agg #[.int .i64 k0, .int .i64 k1]) (.agg #[.int .i64 x0, .int .i64 x1])).run prog w = .ok () w := by
 unfold eqGuard
 cases op <;> simp [go_sem]
theorem bin_eq {x0 x1 : Int} (hx : Ok (x0, x1)) (w : World) : (binOp .eql 65 (.agg #[.int .i64 x0, .int .i64 x1]) (.agg #[.int .i64 x0, .int .i64 x1])).run prog w = .ok (.bool true) w := by
 have h := eq_same hx w
 unfold iv at h
 simp [binOp, h]
theorem bin_ne {x0 x1 : Int} (hx : Ok (x0, x1)) (w : World) : (binOp .neq 65 (.agg #[.int .i64 x0, .int .i64 x1]) (.agg #[.int .i64 x0, .int .i64 x1])).run prog w = .ok (.bool false) w := by
 have h := eq_same hx w
 unfold iv at h
 simp [binOp, h]
def OkL (L : List Ins) : Prop := (∀ x ∈ L, Ok x) /\ L.length + 2 <= 8796093022208
theorem sameI_c {K : Nat} {w : World} {v u : Value} {L : List Ins} (hv : Cx K w v L) (hu : Cx K w u L) (hK : K <= w.heap.size) (hk : OkL L) :
  Calls prog 70 #[v, u] w fun e w' => e = .returned (.bool true) /\ Below w.heap.size w w' := by
 obtain ⟨a, cap, rfl, hl, hm, hnil, hL⟩ := hv
 obtain ⟨a2, cap2, rfl, hl2, hm2, hnil2, hM⟩ := hu
 obtain ⟨n, hnn⟩ : ∃ n, L.length = n := ⟨_, rfl⟩
 have HN : Hid (L.length = n) := hnn
 have HO : Hid (OkL L) := hk
 have hn := hk.2
 rw [hnn] at hl hl2 hn ⊢
 clear hk hnn hnil hnil2
 go_enter func70, ntmps70
 go_wp2_with fail
 go_loopw [5] (fun i wr => ∃ q : Nat, i = .int .i64 (q : Nat) /\ q <= n /\ Below w.heap.size w wr) (fun i _ => n - (intOf i).toNat)
 case atStart => exact ⟨0, rfl, by omega, Below.refl _ _⟩
 case round =>
  obtain ⟨q, rfl, hq, hb⟩ := hrel
  by_cases hlt : q < n
  ·rcases hL with rfl | ⟨g, o, rfl, hg, hc⟩
   ·have := HN.out; simp at this; omega
   rcases hM with rfl | ⟨g2, o2, rfl, hg2, hc2⟩
   ·have := HN.out; simp at this; omega
   have hlq : q < L.length := by rw [HN.out]; exact hlt
   obtain ⟨d0, d1⟩ := hc q hlq
   obtain ⟨e0, e1⟩ := hc2 q hlq
   have d0 := cell_keep (by omega : g < w.heap.size) d0 hb
   have d1 := cell_keep (by omega : g < w.heap.size) d1 hb
   have e0 := cell_keep (by omega : g2 < w.heap.size) e0 hb
   have e1 := cell_keep (by omega : g2 < w.heap.size) e1 hb
   have hxo := HO.out.1 L[q] (List.getElem_mem _)
   clear hc hc2
   generalize L[q] = x at *
   obtain ⟨x0, x1⟩ := x
   have heq := fun w => bin_ne hxo w
   have hgd := fun xo yo => guard_ins .neq xo yo x0 x1 x0 x1
   clear hxo
   dsimp only at d0 d1 e0 e1
   go_wp2_with fail
   go_quiet (fail)
   go_wp2_with fail
   go_roundw
   case rel => exact ⟨q + 1, by go_num, by omega, below_drewN hb⟩
   case measure => simp only [intOf]; omega
  ·obtain rfl : q = n := by omega
   have hnlt : decide ((q : Int) < (q : Int)) = false := by simp
   clear hL hM
   go_wp2_with fail
   go_ret
   exact ⟨rfl, hb⟩
def flat (L : List Ins) : List Value := L.flatMap fun x => [.int .i64 x.1, .int .i64 x.2]
theorem flat_append (a b : List Ins) : flat (a ++ b) = flat a ++ flat b := by simp [flat]
theorem flat_len (L : List Ins) : (flat L).length = L.length * 2 := by
 induction L with
 | nil => rfl
 | cons t L ih =>
  simp only [flat, List.flatMap_cons, List.length_append, List.length_cons] at ih ⊢
  rw [ih]
  simp
  omega
theorem flat_get (L : List Ins) : ∀ (j : Nat) (hj : j < L.length), (flat L)[j * 2]? = some (.int .i64 L[j].1) /\ (flat L)[j * 2 + 1]? = some (.int .i64 L[j].2) := by
 induction L with
 | nil => intro j hj; simp at hj
 | cons t L ih =>
  intro j hj
  have e : flat (t :: L) = [.int .i64 t.1, .int .i64 t.2] ++ flat L := by simp [flat]
  rw [e]
  cases j with
  | zero => simp
  | succ j =>
   rw [List.getElem?_append_right (by simp; omega), List.getElem?_append_right (by simp; omega)]
   have h := ih j (by simpa using hj)
   simp only [List.length_cons, List.length_nil]
   rw [show (j + 1) * 2 - (0 + 1 + 1) = j * 2 by omega, show (j + 1) * 2 + 1 - (0 + 1 + 1) = j * 2 + 1 by omega]
   exact h
theorem one_ins (L : List Ins) : ∀ u ∈ flat L, u.oneCell' = true := by
 intro u hu
 obtain ⟨t, _, h⟩ := List.mem_flatMap.1 hu
 simp at h
 rcases h with rfl | rfl <;> rfl
theorem infoN : (prog.info? 65).map (fun i => (i.zero, i.size, i.bytes)) = some (some (.agg #[.int .i64 0, .int .i64 0]), 2, 16) := by kernel_rfl
def Oc (w : World) (B : Nat) (v : Value) (L : List Ins) : Prop := w.ownsRow B 65 2 v L.length (flat L)
theorem copyI_c {K : Nat} {w : World} {v : Value} {L : List Ins} (hv : Cx K w v L) (hK : K <= w.heap.size) (hn : L.length <= 8796093022208) :
  Calls prog 126 #[v] w fun e w' => ∃ u, e = .returned u /\ Oc w' w.heap.size u L /\ Below w.heap.size w w' := by
 obtain ⟨i0, hi, hz0, hz1, hz2⟩ := info_parts infoN
 obtain ⟨a, cap, rfl, hl, hm, hnil, hL⟩ := hv
 have ho : Oc (w.alloc (.cells #[] 65)) w.heap.size (.slice (some ⟨w.heap.size, 0, none⟩) 0 0) [] := by
  refine ⟨rfl, .inr ⟨w.heap.size, 0, #[], rfl, Nat.le_refl _, heap_alloc_new w _, Nat.le_refl _, by simp [maxLen], rfl, rfl⟩⟩
 have hb : Below w.heap.size w (w.alloc (.cells #[] 65)) := (Below.refl _ w).alloc (Nat.le_refl _) _
 cases a with
 | none =>
  obtain rfl := hnil rfl
  obtain rfl : L = [] := List.eq_nil_of_length_eq_zero (by omega)
  go_enter func126, ntmps126
  go_wp2_with fail
  go_ret
  exact ⟨_, rfl, ho, hb⟩
 | some x =>
  obtain ⟨g, o, sp⟩ := x
  have hnews : ∀ j u, (flat L)[j]? = some u -> (w.alloc (.cells #[] 65)).cell? ((⟨g, o, sp⟩ : Addr).add j) = some u := by
   intro j u hj
   have hl2 : j < L.length * 2 := by
    have := (List.getElem?_eq_some_iff.1 hj).1
    rwa [flat_len] at this
   rcases hL with rfl | ⟨g', o', e, hg', hc⟩
   ·simp at hl2
   ·cases e
    rw [add_none]
    have hq : j / 2 < L.length := by omega
    obtain ⟨k1, k2⟩ := flat_get L (j / 2) hq
    obtain ⟨c1, c2⟩ := hc (j / 2) hq
    have c1 := cell_keep (by omega : g < w.heap.size) c1 hb
    have c2 := cell_keep (by omega : g < w.heap.size) c2 hb
    have h3 : j = j / 2 * 2 \/ j = j / 2 * 2 + 1 := by omega
    rcases h3 with e | e
    ·rw [<- e] at k1 c1
     rw [k1] at hj
     cases hj
     exact c1
    ·rw [<- e] at k2
     rw [show o + j / 2 * 2 + 1 = o + j by omega] at c2
     rw [k2] at hj
     cases hj
     exact c2
  have hfl := flat_len L
  clear hL hnil
  go_enter func126, ntmps126
  go_wp2_with (first
   | (at_builtin; refine wpList_append_own _ rfl _ _ 63 rfl w.heap.size 65 i0 (.agg #[.int .i64 0, .int .i64 0]) 2 16 underlying63 hi hz0 hz1 hz2 rfl (by decide) _ _ _ rfl ho ⟨g, o, sp⟩ L.length cap (flat L) rfl (by rw [hfl]) hnews (one_ins L) (by simp [maxLen]; omega) (by simp; omega) (by simp) ?_))
  intro v' w2 hown' hgrow hnn
  have hb3 := hb.grown hgrow (by simp) (fun k hk => by cases hk; exact Nat.le_refl _)
  have ho2 : Oc w2 w.heap.size v' L := by
   unfold Oc
   simpa [flat] using hown'
  clear hown' hgrow ho hb hnews hnn
  go_wp2_with fail
  go_ret
  exact ⟨_, rfl, ho2, hb3⟩
def room : Ins := (-7, 0)
def Lk (B : Nat) (w : World) (v : Value) (L : List Ins) : Prop := ∃ g cap, v = .slice (some ⟨g, 0, none⟩) L.length cap /\ B <= g /\ g < w.heap.size /\ L.length + 2 <= cap /\ cap <= 9223372036854775807 /\
 (∀ j (h : j < L.length), w.cell? ⟨g, 0 + j * 2, none⟩ = some (.int .i64 L[j].1) /\ w.cell? ⟨g, 0 + j * 2 + 1, none⟩ = some (.int .i64 L[j].2)) /\
 (w.cell? ⟨g, L.length * 2, none⟩ = some (.int .i64 (-7)) /\ w.cell? ⟨g, L.length * 2 + 1, none⟩ = some (.int .i64 0)) /\ w.cell? ⟨g, (L.length + 1) * 2, none⟩ = some (.int .i64 (-7)) /\ w.cell? ⟨g, (L.length + 1) * 2 + 1, none⟩ = some (.int .i64 0)
theorem Lk.cx {B : Nat} {w : World} {v : Value} {L : List Ins} (h : Lk B w v L) : Cx w.heap.size w v L := by
 obtain ⟨g, cap, rfl, -, hg, h1, h2, h3, -⟩ := h
 exact ⟨_, cap, rfl, by omega, h2, (fun h => by cases h), .inr ⟨g, 0, rfl, hg, h3⟩⟩
theorem lendI_c {K : Nat} {w : World} {v : Value} {L : List Ins} (hv : Cx K w v L) (hK : K <= w.heap.size) (hn : L.length + 2 <= 8796093022208) :
  Calls prog 79 #[v] w fun e w' => ∃ u, e = .returned u /\ Lk w.heap.size w' u L /\ Below w.heap.size w w' := by
 obtain ⟨i0, hi, hz0, hz1, hz2⟩ := info_parts infoN
 have c1 := copyI_c hv hK (by omega)
 obtain ⟨a, cap, rfl, hl, hm, hnil, hL⟩ := hv
 clear hL hnil
 go_enter func79, ntmps79
 go_wp2_with (first
  | (go_at_call 126; refine c1.mono ?_; clear c1; rintro e w1 ⟨u, rfl, ho, hb⟩)
  | (at_builtin; refine wpList_append_own _ rfl _ _ 63 rfl w.heap.size 65 i0 (.agg #[.int .i64 0, .int .i64 0]) 2 16 underlying63 hi hz0 hz1 hz2 rfl (by decide) _ _ _ rfl (World.ownsRow.alloc ho _) ⟨w1.heap.size, 0, none⟩ 2 2 (flat [room, room]) rfl rfl (new_cells w1 _ 65) (one_ins [room, room]) (by simp [maxLen]; omega) (by omega) (by have := hb.size; simp; omega) ?_))
 intro v' w2 hown' hgrow hnn
 have hb3 := (hb.alloc hb.size (.cells (flat [room, room]).toArray 65)).grown hgrow (by have := hb.size; simp; omega) (fun k hk => (World.ownsRow.lt ho k hk).1)
 have ho2 : Oc w2 w.heap.size v' (L ++ [room, room]) := by
  unfold Oc
  rw [flat_append, List.length_append]
  exact hown'
 obtain ⟨g, cap2, e2, hBg, hgl, hcap, hm2, hcs⟩ : ∃ g cap2, v' = .slice (some ⟨g, 0, none⟩) (L.length + 2) cap2 /\ w.heap.size <= g /\ g < w2.heap.size /\ L.length + 2 <= cap2 /\ cap2 <= 9223372036854775807 /\ ∀ j (h : j < (L ++ [room, room]).length), w2.cell? ⟨g, 0 + j * 2, none⟩ = some (.int .i64 (L ++ [room, room])[j].1) /\ w2.cell? ⟨g, 0 + j * 2 + 1, none⟩ = some (.int .i64 (L ++ [room, room])[j].2) := by
  have h0 := ho2
  rcases ho2.2 with ⟨_, e⟩ | ⟨g, c, cur, e, h1, h2, h3, h4, -⟩
  ·simp at e
  ·have hlt := World.ownsRow.lt h0 g (by rw [e]; rfl)
   refine ⟨g, c, by rw [e]; simp, hlt.1, hlt.2, by simpa using h3, h4, fun j hj => ?_⟩
   rw [e] at h0
   obtain ⟨k1, k2⟩ := flat_get (L ++ [room, room]) j hj
   have c1 := World.ownsRow.cells (g := g) h0 rfl _ _ k1
   have c2 := World.ownsRow.cells (g := g) h0 rfl _ _ k2
   rw [add_none] at c1 c2
   exact ⟨c1, c2⟩
 have hx : Lk w.heap.size w2 (.slice (some ⟨g, 0, none⟩) L.length cap2) L := by
  refine ⟨g, cap2, rfl, hBg, hgl, hcap, hm2, fun j hj => ?_, ?_, ?_⟩
  ·have := hcs j (by simp; omega)
   rwa [List.getElem_append_left hj] at this
  ·have := hcs L.length (by simp)
   rw [List.getElem_append_right (by omega)] at this
   simpa [room] using this
  ·have := hcs (L.length + 1) (by simp)
   rw [List.getElem_append_right (by omega)] at this
   simpa [room] using this
 subst e2
 clear hown' hgrow ho hb hnn ho2 hcs hBg hgl
 go_wp2_with fail
 go_ret
 exact ⟨_, rfl, hx, hb3⟩
theorem ok_room : Ok (-7, 0) := ⟨by decide, by decide⟩
theorem keptI_c {K B : Nat} {w : World} {u v : Value} {L : List Ins} (hu : Lk B w u L) (hv : Cx K w v L) (hK : K <= w.heap.size) (hk : OkL L) :
  Calls prog 103 #[u, v] w fun e w' => e = .returned (.bool true) /\ Below w.heap.size w w' := by
 have c1 := sameI_c hu.cx (hv.mono hK) (Nat.le_refl _) hk
 have hn := hk.2
 obtain ⟨g, cap, rfl, -, -, h1, h2, h5, h6, h7⟩ := hu
 obtain ⟨a2, cap2, rfl, hl2, hm2, hnil2, hM⟩ := hv
 obtain ⟨n, hnn⟩ : ∃ n, L.length = n := ⟨_, rfl⟩
 rw [hnn] at h1 h6 h7 hl2 hn c1 ⊢
 have H6 : Hid (w.cell? ⟨g, n * 2, none⟩ = some (.int .i64 (-7)) /\ w.cell? ⟨g, n * 2 + 1, none⟩ = some (.int .i64 0)) := h6
 have H7 : Hid (w.cell? ⟨g, (n + 1) * 2, none⟩ = some (.int .i64 (-7)) /\ w.cell? ⟨g, (n + 1) * 2 + 1, none⟩ = some (.int .i64 0)) := h7
 have heq := fun w => bin_eq ok_room w
 have hgd := fun xo yo => guard_ins .eql xo yo (-7) 0 (-7) 0
 clear hM hnil2 h5 hnn h6 h7 hk
 go_enter func103, ntmps103
 go_wp2_with (first | (go_at_call 70; refine c1.mono ?_; clear c1; rintro e w1 ⟨rfl, b1⟩; obtain ⟨p0, p1⟩ := H6.out; obtain ⟨q0, q1⟩ := H7.out; have p0 := below_cell p0 b1; have p1 := below_cell p1 b1; have q0 := below_cell q0 b1; have q1 := below_cell q1 b1))
 go_ret
 exact ⟨rfl, b1⟩
end Go.Proofs.YtaiackmmmlhgbaaGreat.CIn

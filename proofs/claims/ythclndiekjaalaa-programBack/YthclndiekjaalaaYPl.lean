/- Programs as bytes, plainly: rows of bytes that grow up to a limit; the pieces of each part of a program. -/
import Derived.Test.YthclndiekjaalaaTVisit
import Derived.Laws.ResultCell
import Derived.Test.YthclndiekjaalaaZTk
namespace Go.Proofs.Ythclndiekjaalaa.TMeas
open Go.RowKit Go.Proofs.Ythclndiekjaalaa.TBase Go.Proofs.Ythclndiekjaalaa.TPure Go.Proofs.Ythclndiekjaalaa.TAttrs Go.Proofs.Ythclndiekjaalaa.TMay Go.Proofs.Ythclndiekjaalaa.TVisit
set_option linter.unusedVariables false

/-- Nodes, depth, fault of a forest. -/
def ck (l : List T) : Nat := (vis l 1 0 0).2.2
def ct (l : List T) : Nat := if ck l = 0 then (vis l 1 0 0).1 else 0
def dp (l : List T) : Nat := if ck l = 0 then (vis l 1 0 0).2.1 else 0
theorem lo_of_in {w : World} {m : Nat} {v : Value} {l : List T} (h : InL false All w m v l) : InL false (Lo w.heap.size) w m v l := by
  have key : ∀ (m : Nat) (v : Value) (c : T), In false All w m v c → In false (Lo w.heap.size) w m v c := by
    intro m
    induction m with
    | zero => intro v c h; rw [In] at h; exact h.elim
    | succ m ih =>
      intro v c h
      obtain ⟨g, s, n, l⟩ := c
      rw [in_iff] at h ⊢
      obtain ⟨nv, lv, h1, h3, h4, ⟨a, cap, e1, e2, e3, e4, e5, e6, e7⟩, ⟨a', cap', f1, f2, f3, f4, f5, f6⟩⟩ := h
      refine ⟨nv, lv, h1, h3, h4, ⟨a, cap, e1, e2, e3, e4, e5, e6, ?_⟩, ⟨a', cap', f1, f2, f3, f4, f5, ?_⟩⟩
      · cases n with
        | nil => exact .inl ⟨rfl, rfl⟩
        | cons t n =>
          rcases e7 with ⟨e7, -⟩ | ⟨g, o, ha, hS, hc, hr⟩
          · cases e7
          · exact .inr ⟨g, o, ha, cell_lt (hc 0 (by simp)).1, hc, fun h => by cases h⟩
      · cases l with
        | nil => exact .inl ⟨rfl, rfl⟩
        | cons t l =>
          rcases f6 with ⟨f6, -⟩ | ⟨g, o, ha, hS, hc, hr⟩
          · cases f6
          · obtain ⟨u, ⟨v0, v1, v2, v3, -, k0, -⟩, -⟩ := hc 0 (by simp)
            refine .inr ⟨g, o, ha, cell_lt k0, fun j hj => ?_, fun h => by cases h⟩
            obtain ⟨u, hu, hi⟩ := hc j hj
            exact ⟨u, hu, ih _ _ hi⟩
  obtain ⟨a', cap', f1, f2, f3, f4, f5, f6⟩ := h
  refine ⟨a', cap', f1, f2, f3, f4, f5, ?_⟩
  cases l with
  | nil => exact .inl ⟨rfl, rfl⟩
  | cons t l =>
    rcases f6 with ⟨f6, -⟩ | ⟨g, o, ha, hS, hc, hr⟩
    · cases f6
    · obtain ⟨u, ⟨v0, v1, v2, v3, -, k0, -⟩, -⟩ := hc 0 (by simp)
      refine .inr ⟨g, o, ha, cell_lt k0, fun j hj => ?_, fun h => by cases h⟩
      obtain ⟨u, hu, hi⟩ := hc j hj
      exact ⟨u, hu, key _ _ _ hi⟩
theorem ck_ok (l : List T) : ck l ≤ 702 ∧ ct l ≤ 4096 ∧ dp l ≤ 64 := by
  have h := vis_ok _ l 1 0 0 (Nat.le_refl _) (by omega) (by omega)
  unfold ct dp ck
  by_cases h0 : (vis l 1 0 0).2.2 = 0
  · rw [if_pos h0, if_pos h0]
    exact ⟨h.1, (h.2 h0).1, (h.2 h0).2⟩
  · rw [if_neg h0, if_neg h0]
    exact ⟨h.1, by omega, by omega⟩
theorem res_row_tmp {P : Program} {fn : Func} {p u : Tmp} {ty : TypeId} (h : fn.results = #[.cell p ty, .tmp u]) (tmps : Array Value) (w : World) (g : Nat) (t : TypeId) (cs : Array Value) (fr : Nat × Nat) (d : TypeDesc)
    (hp : tmps.getD p undef = .pointer (some ⟨g, 0, none⟩)) (hg : w.heap[g]? = some (.cells cs t fr)) (hu : P.underlying ty = some d) (hd : (match d with | .struct _ | .array _ _ => true | _ => false) = true) (hi : (P.info? ty).map (·.size) = some cs.size) :
    (results fn tmps).run P w = .ok (.tuple #[.agg cs, tmps.getD u undef]) w := by
  rw [results_cell_tmp h, hp]
  simp [asAddr, run_loadVar_row w g t ty cs fr d hg hu hd hi, Result.andThen]
/-- Two cells written. -/
theorem set2 {W W' : World} {B : Nat} {t : TypeId} {y0 y1 : Value} (x0 x1 : Value) (h : W.heap[B]? = some (.cells #[y0, y1] t (0, 0))) (hW : (W.setCell ⟨B, 0, none⟩ x0).setCell ⟨B, 1, none⟩ x1 = W') :
    W'.heap[B]? = some (.cells #[x0, x1] t (0, 0)) ∧ ∀ w n, n ≤ B → Below n w W → Below n w W' := by
  subst hW
  refine ⟨?_, fun w n hn hb => (hb.setCell (p := ⟨B, 0, none⟩) hn x0).setCell (p := ⟨B, 1, none⟩) hn x1⟩
  rw [block_set (block_set h _) _]
  rfl
theorem measure_c (m : Nat) (v : Value) (l : List T) (w : World) (h : InL false All w m v l) :
    Calls Try.prog 100 #[v] w fun r w' => r = .returned (.tuple #[.agg #[.int .i64 (ct l : Nat), .int .i64 (dp l : Nat)], .int .i64 (ck l : Nat)]) ∧ Below w.heap.size w w' := by
  obtain ⟨W0, hW0⟩ : ∃ W0, (w.alloc (.cells #[.int .i64 0, .int .i64 0] 154)).alloc (.cells #[.int .i64 0, .int .i64 0] 154) = W0 := ⟨_, rfl⟩
  have hb0 : Below w.heap.size w W0 := by rw [← hW0]; exact ((Below.refl _ w).alloc (Nat.le_refl _) _).alloc (by simp) _
  have hsz0 : W0.heap.size = w.heap.size + 2 := by rw [← hW0]; simp
  have hx0 : W0.heap[w.heap.size]? = some (.cells #[.int .i64 0, .int .i64 0] 154) := by
    rw [← hW0, Below.heap_alloc _ _ _ (by simp), heap_alloc_new]
  have hx1 : W0.heap[w.heap.size + 1]? = some (.cells #[.int .i64 0, .int .i64 0] 154) := by
    have := heap_alloc_new (w.alloc (.cells #[.int .i64 0, .int .i64 0] 154)) (.cells #[.int .i64 0, .int .i64 0] 154)
    rwa [hW0, World.size_alloc] at this
  have hl := ((lo_of_in h).keep (keep_lo hb0)).weak (S' := Lo (w.heap.size + 1)) (fun b hb => Nat.lt_succ_of_lt hb) false id m (Nat.le_refl _)
  have c40 := visits m v l 1 0 0 (w.heap.size + 1) W0 hl hx1 (by omega) (by omega) (by omega)
  obtain ⟨a, cap, rfl, -⟩ := h
  have hck := (ck_ok l)
  obtain ⟨R, hR⟩ : ∃ R, vis l 1 0 0 = R := ⟨_, rfl⟩
  have e1 : ck l = R.2.2 := by rw [← hR]; rfl
  have e2 : ct l = if R.2.2 = 0 then R.1 else 0 := by rw [← hR]; rfl
  have e3 : dp l = if R.2.2 = 0 then R.2.1 else 0 := by rw [← hR]; rfl
  rw [hR] at c40
  rw [e1, e2, e3] at hck
  rw [e1, e2, e3]
  obtain ⟨R1, R2, R3⟩ := R
  clear hR e1 e2 e3 hl
  generalize l.length = n at *
  simp only at c40 hck ⊢
  by_cases h0 : R3 = 0
  · subst h0
    rw [if_pos rfl, if_pos rfl] at hck
    rw [if_pos rfl, if_pos rfl]
    go_enter Try.func100, Try.ntmps100
    go_wp2_with (first | (go_at_call 131; refine c40.mono ?_; rintro e w1 ⟨rfl, b1, p1⟩; have q1 := p1.out rfl; have q0 := (b1.block w.heap.size (by omega)).trans hx0; obtain ⟨k0, k1⟩ := two_box q1; have f0 := frozen_box q0 0; have f1 := frozen_box q0 1; obtain ⟨j0, j1⟩ := two_box q0)
      )
    obtain ⟨W1, hW1⟩ : ∃ W1, (w1.setCell ⟨w.heap.size, 0, none⟩ (.int .i64 (R1 : Nat))).setCell ⟨w.heap.size, 1, none⟩ (.int .i64 (R2 : Nat)) = W1 := ⟨_, rfl⟩
    rw [hW1]
    obtain ⟨z1, z2⟩ := set2 _ _ q0 hW1
    refine bodyPost_ret (res_row_tmp rfl _ W1 w.heap.size 154 _ (0, 0) _ rfl z1 Try.underlying154 rfl (by kernel_rfl)) rfl ?_
    exact ⟨rfl, z2 _ _ (Nat.le_refl _) (hb0.trans (b1.mono (by omega)))⟩
  · have h1 : ((R3 : Int) == 0) = false := by simp; omega
    rw [if_neg h0, if_neg h0]
    go_enter Try.func100, Try.ntmps100
    go_wp2_with (first | (go_at_call 131; refine c40.mono ?_; rintro e w1 ⟨rfl, b1, p1⟩; have q0 := (b1.block w.heap.size (by omega)).trans hx0; have f0 := frozen_box q0 0; have f1 := frozen_box q0 1; obtain ⟨j0, j1⟩ := two_box q0)
      )
    obtain ⟨W1, hW1⟩ : ∃ W1, (w1.setCell ⟨w.heap.size, 0, none⟩ (.int .i64 0)).setCell ⟨w.heap.size, 1, none⟩ (.int .i64 0) = W1 := ⟨_, rfl⟩
    rw [hW1]
    obtain ⟨z1, z2⟩ := set2 _ _ q0 hW1
    refine bodyPost_ret (res_row_tmp rfl _ W1 w.heap.size 154 _ (0, 0) _ rfl z1 Try.underlying154 rfl (by kernel_rfl)) rfl ?_
    exact ⟨rfl, z2 _ _ (Nat.le_refl _) (hb0.trans (b1.mono (by omega)))⟩
theorem check_c (m : Nat) (v : Value) (l : List T) (w : World) (h : InL false All w m v l) :
    Calls Try.prog 99 #[v] w fun r w' => r = .returned (.int .i64 (ck l : Nat)) ∧ Below w.heap.size w w' := by
  have c27 := measure_c m v l w h
  obtain ⟨a, cap, rfl, -⟩ := h
  generalize l.length = n at *
  generalize ck l = x at *
  generalize ct l = y at *
  generalize dp l = z at *
  go_enter Try.func99, Try.ntmps99
  go_wp2_with (first | (go_at_call 100; refine c27.mono ?_; rintro e w1 ⟨rfl, b1⟩))
  go_ret
  exact ⟨rfl, b1.alloc b1.size _⟩
theorem depth_c (m : Nat) (v : Value) (l : List T) (w : World) (h : InL false All w m v l) :
    Calls Try.prog 61 #[v] w fun r w' => r = .returned (.int .i64 (dp l : Nat)) ∧ Below w.heap.size w w' := by
  have c27 := measure_c m v l w h
  obtain ⟨a, cap, rfl, -⟩ := h
  generalize l.length = n at *
  generalize ck l = x at *
  generalize ct l = y at *
  generalize dp l = z at *
  go_enter Try.func61, Try.ntmps61
  go_wp2_with (first | (go_at_call 100; refine c27.mono ?_; rintro e w1 ⟨rfl, b1⟩))
  go_ret
  exact ⟨rfl, b1.alloc b1.size _⟩
end Go.Proofs.Ythclndiekjaalaa.TMeas

namespace Go.Proofs.Ythclndiekjaalaa.YPl
open Go.Proofs.Ythclndiekjaalaa.Leb
open Go.Proofs.Ythclndiekjaalaa.TBase (T)
set_option linter.unusedVariables false

abbrev By := List UInt8
/-- What put makes of the bytes. -/
def pt (L X : By) : By := if 1048576 < L.length then L else L ++ X
def pts (L : By) (Xs : List By) : By := Xs.foldl pt L
theorem pts_app (L : By) (Xs Ys : List By) : pts L (Xs ++ Ys) = pts (pts L Xs) Ys := List.foldl_append
theorem pts_one (L X : By) : pts L [X] = pt L X := rfl
theorem pts_nil (L : By) : pts L [] = L := rfl
theorem pt_len {L X : By} (hX : X.length ≤ 4096) (h : L.length ≤ 1052672) : (pt L X).length ≤ 1052672 := by
  unfold pt; split <;> (try rw [List.length_append]) <;> omega
/-- The pieces of a part: none, where it may not be. -/
abbrev Pc := Option (List By)
def cnt (lim : Nat) (n : Int) : Pc := if 0 ≤ n ∧ n ≤ lim then some [putL n.toNat] else none
def oct (x : Int) : Pc := if 0 ≤ x ∧ x ≤ 255 then some [[UInt8.ofNat x.toNat]] else none
def whl (x : Int) : Pc := some [putL (zig x)]
def txt (s : ByteArray) : Pc := if s.size ≤ 4096 ∧ UBase.verr s = 0 then some [putL s.size, s.data.toList] else none
/-- One part behind the other. -/
def cat (a b : Pc) : Pc := match a, b with | some x, some y => some (x ++ y) | _, _ => none
def lis {α : Type} (f : α → Pc) : List α → Pc
  | [] => some []
  | c :: l => cat (f c) (lis f l)
def lst {α : Type} (lim : Nat) (f : α → Pc) (l : List α) : Pc := cat (cnt lim l.length) (lis f l)
abbrev Ins := Int × Int
def ins (i : Ins) : Pc := cat (oct i.1) (whl i.2)
def att (a : ByteArray × ByteArray) : Pc := cat (txt a.1) (txt a.2)
/-- An operation: kind, three numbers, a list. -/
structure Oq where
  (k a b c : Int) (l : List Int)
structure Bk where
  (d : Int) (o : List Oq) (u : List Int)
structure Pg where
  (t : List ByteArray) (c : List (List Ins)) (s : List T) (b : List Bk)
def opc (o : Oq) : Pc := cat (oct o.k) (cat (whl o.a) (cat (whl o.b) (cat (whl o.c) (lst 64 whl o.l))))
def blk (b : Bk) : Pc := cat (cnt 64 b.d) (cat (lst 8192 opc b.o) (lst 8192 whl b.u))
def ndL : List T → Pc
  | [] => some []
  | .mk g s n l :: r => cat (cat (txt g) (if g.size = 0 then txt s else cat (lst 4096 att n) (cat (cnt 4096 l.length) (ndL l)))) (ndL r)
def nd (t : T) : Pc := ndL [t]
def stt (t : T) : Pc := if TMeas.ck [t] = 0 then nd t else none
def prg (p : Pg) : Pc := cat (oct 1) (cat (lst 16384 txt p.t) (cat (lst 8192 (fun l => lst 8192 ins l) p.c) (cat (lst 4096 stt p.s) (lst 8192 blk p.b))))
/-- What Encode answers: the bytes, or an error. -/
def enc (p : Pg) : Except Nat By := match prg p with
  | none => .error 2100
  | some Xs => if 1048576 < (pts [] Xs).length then .error 2101 else .ok (pts [] Xs)
theorem cat_some {a b : Pc} {z : List By} (h : cat a b = some z) : ∃ x y, a = some x ∧ b = some y ∧ z = x ++ y := by
  cases a <;> cases b <;> simp_all [cat]
theorem cat_none {a : Pc} : cat none a = none := by cases a <;> rfl
theorem cat_nil {a : Pc} : cat (some []) a = a := by cases a <;> rfl
theorem cat_nil' {a : Pc} : cat a (some []) = a := by cases a <;> simp [cat]
theorem cat_assoc (a b c : Pc) : cat (cat a b) c = cat a (cat b c) := by cases a <;> cases b <;> cases c <;> simp [cat]
end Go.Proofs.Ythclndiekjaalaa.YPl

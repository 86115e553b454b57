import Derived.BigQuiet
import Derived.Deep.QuietTactic
import Derived.Lib.ConvBytes
import Derived.Test.YthkpbhgbmagaeaaGreatDoorP12
import Derived.Test.YthkpbhgbmagaeaaGreatDoorP14
import Derived.Test.YthkpbhgbmagaeaaGreatDoorP18
import Derived.Test.YthkpbhgbmagaeaaGreatDoorP25
import Derived.Test.YthkpbhgbmagaeaaGreatDoorP26
namespace Go.Proofs.YthkpbhgbmagaeaaGreatDoor.WChk
open Go.RowKit Go.Proofs.YthkpbhgbmagaeaaGreatDoor.Base Go.Proofs.YthkpbhgbmagaeaaGreatDoor.UBase Go.Proofs.YthkpbhgbmagaeaaGreatDoor.Spec Go.Proofs.YthkpbhgbmagaeaaGreatDoor.Byts Go.Proofs.YthkpbhgbmagaeaaGreatDoor.WPk Go.Proofs.YthkpbhgbmagaeaaGreatDoor.WTx Go.Proofs.YthkpbhgbmagaeaaGreatDoor.WRow Go.Proofs.YthkpbhgbmagaeaaGreatDoor.WVal Go.Proofs.YthkpbhgbmagaeaaGreatDoor.Digits Go.Proofs.YthkpbhgbmagaeaaGreatDoor.Pure Go.Proofs.YthkpbhgbmagaeaaGreatDoor.Names Go.Proofs.YthkpbhgbmagaeaaGreatDoor.Fault Go.Proofs.YthkpbhgbmagaeaaGreatDoor.Walk Go.Proofs.YthkpbhgbmagaeaaGreatDoor.Measure Go.Proofs.YthkpbhgbmagaeaaGreatDoor.Shallow
set_option linter.unusedVariables false
def tot (ps : List (List UInt8)) : Nat := (ps.map fun p => p.length + 24580).sum
theorem tot_cons (p : List UInt8) (ps : List (List UInt8)) : tot (p :: ps) = p.length + 24580 + tot ps := by simp [tot]
theorem qt_len {s : ByteArray} (h : s.size ≤ 4096) : (qt s).length ≤ 24578 := by
 have h1 := ATx.fm_len s.data.toList
 have h2 := size_list s
 unfold qt
 simp only [List.length_cons, List.length_append, List.length_nil]
 omega
theorem jn_len : ∀ ps : List (List UInt8), (jn ps).length ≤ tot ps
 | [] => by simp [jn, tot]
 | [p] => by
  rw [tot_cons]
  show p.length ≤ _
  omega
 | p :: q :: r => by
  have ih := jn_len (q :: r)
  rw [tot_cons]
  show (p ++ 44 :: jn (q :: r)).length ≤ _
  simp only [List.length_append, List.length_cons]
  omega
theorem jz_len : ∀ (ps : List (List UInt8)) (n : List ByteArray), (∀ t ∈ n, t.size ≤ 4096) → (jn (List.zipWith (fun t p => qt t ++ 58 :: p) n ps)).length ≤ tot ps := by
 intro ps
 induction ps with
 | nil => intro n h; simp [jn, tot]
 | cons p ps ih =>
  intro n h
  rw [tot_cons]
  cases n with
  | nil => simp [jn]
  | cons t n =>
   have h1 := ih n fun x hx => h x (List.mem_cons_of_mem _ hx)
   have h2 := qt_len (h t List.mem_cons_self)
   rw [List.zipWith_cons_cons]
   cases hz : List.zipWith (fun t p => qt t ++ 58 :: p) n ps with
   | nil =>
    show (qt t ++ 58 :: p).length ≤ _
    simp only [List.length_append, List.length_cons]
    omega
   | cons y ys =>
    rw [hz] at h1
    show ((qt t ++ 58 :: p) ++ 44 :: jn (y :: ys)).length ≤ _
    simp only [List.length_append, List.length_cons] at *
    omega
theorem bd_len {k : Int} {b : Bool} {i : Int} {s : ByteArray} {n : List ByteArray} (ps : List (List UInt8)) (hi : -9223372036854775808 ≤ i ∧ i ≤ 9223372036854775807) (hs : s.size ≤ 4096) (hn : ∀ t ∈ n, t.size ≤ 4096) : (bd k b i s n ps).length ≤ 24580 + tot ps := by
 have h1 := Lib.itoa_length_le i hi.1 hi.2
 have h2 := qt_len hs
 have h3 := jn_len ps
 have h4 := jz_len ps n hn
 unfold bd
 split
 ·simp only [List.length_cons, List.length_nil]; omega
 ·split
  ·cases b
   ·simp only [List.length_cons, List.length_nil, Bool.false_eq_true, if_false]; omega
   ·simp only [List.length_cons, List.length_nil, if_true]; omega
  ·split
   ·omega
   ·split
    ·omega
    ·split
     ·simp only [List.length_cons, List.length_append, List.length_nil]; omega
     ·simp only [List.length_cons, List.length_append, List.length_nil]; omega
theorem wfL_of : ∀ {l : List C}, (∀ c ∈ l, wf c = true) → wfL l = true
 | [], _ => by rw [wfL]
 | c :: cs, h => by
  rw [wfL_cons, Bool.and_eq_true]
  exact ⟨h c List.mem_cons_self, wfL_of fun x hx => h x (List.mem_cons_of_mem _ hx)⟩
theorem tot_le {d : Nat} : ∀ {l : List C}, (∀ c ∈ l, (pv c).length + 24580 ≤ 50000 * (pl d c).length) → tot (pvL l) ≤ 50000 * (plL d l).length
 | [], _ => by simp [pvL, tot]
 | c :: cs, h => by
  have h1 := h c List.mem_cons_self
  have h2 := tot_le fun x hx => h x (List.mem_cons_of_mem _ hx)
  rw [pvL_map] at h2 ⊢
  rw [List.map_cons, tot_cons, plL_cons, List.length_append]
  omega
theorem mem_plL {d : Nat} {x : Nat × C} : ∀ {l : List C} {c : C}, c ∈ l → x ∈ pl d c → x ∈ plL d l
 | c' :: cs, c, h, hx => by
  rw [plL_cons, List.mem_append]
  rcases List.mem_cons.1 h with rfl | h
  ·exact .inl hx
  ·exact .inr (mem_plL h hx)
theorem fm_parts {c : C} (h : fm c = true) : c.s.size ≤ 4096 ∧ (∀ t ∈ c.n, t.size ≤ 4096) ∧ (c.k = 6 → c.n.length = c.l.length) := by
 unfold fm at h
 simp only [Bool.and_eq_true] at h
 obtain ⟨⟨h1, h2⟩, h3⟩ := h
 have hs : c.s.size ≤ 4096 := by
  unfold tg at h2
  rw [Bool.and_eq_true] at h2
  exact of_decide_eq_true h2.1
 by_cases h6 : c.k = 6
 ·simp only [h6, decide_true, Bool.not_true, Bool.false_or] at h3
  unfold nmb at h3
  simp only [Bool.and_eq_true, List.all_eq_true] at h3
  refine ⟨hs, fun t ht => ?_, fun _ => of_decide_eq_true h3.1.1⟩
  have := h3.1.2 t ht
  unfold tg at this
  rw [Bool.and_eq_true] at this
  exact of_decide_eq_true this.1
 ·unfold pu at h1
  simp only [Bool.and_eq_true, Bool.or_eq_true, decide_eq_true_eq] at h1
  have hn : c.n.length = 0 := by
   rcases h1.2 with h | h
   ·exact (h6 h).elim
   ·exact h
  have hn := List.eq_nil_of_length_eq_zero hn
  refine ⟨hs, fun t ht => ?_, fun h => (h6 h).elim⟩
  rw [hn] at ht
  cases ht
theorem big {S : Nat → Prop} {w : World} : ∀ m d v c, In false S w m v c → (∀ x ∈ pl d c, (1 ≤ x.2.k ∧ x.2.k ≤ 6) ∧ fm x.2 = true) → wf c = true ∧ (pv c).length + 24580 ≤ 50000 * (pl d c).length := by
 intro m
 induction m with
 | zero => intro d v c h; rw [In] at h; exact h.elim
 | succ m ih =>
  intro d v c h hx
  obtain ⟨k, b, i, s, n, l⟩ := c
  rw [in_iff] at h
  obtain ⟨nv, lv, rfl, hk, hi, hs, hn, a, cap, rfl, -, -, -, -, hL⟩ := h
  have h0 := hx (d, .mk k b i s n l) (by rw [pl]; exact List.mem_cons_self)
  obtain ⟨p1, p2, p3⟩ := fm_parts h0.2
  have hc : ∀ c ∈ l, wf c = true ∧ (pv c).length + 24580 ≤ 50000 * (pl (d + 1) c).length := by
   intro c hc
   obtain ⟨q, hq, rfl⟩ := List.getElem_of_mem hc
   rcases hL with ⟨rfl, -⟩ | ⟨g, o, -, -, hel, -⟩
   ·simp at hq
   ·obtain ⟨u, -, hu⟩ := hel q hq
    refine ih (d + 1) u _ hu fun x hx' => hx x ?_
    rw [pl]
    exact List.mem_cons_of_mem _ (mem_plL hc hx')
  have h1 : (bd k b i s n (pvL l)).length ≤ 24580 + tot (pvL l) := bd_len (pvL l) hi p1 p2
  have h2 := tot_le fun c hc' => (hc c hc').2
  have h3 := wfL_of fun c hc' => (hc c hc').1
  constructor
  ·rw [wf, h3, Bool.and_true]
   exact decide_eq_true ⟨h0.1.1, h0.1.2, p3, p1, p2⟩
  ·rw [pv, pl, List.length_cons]
   omega
theorem ms_parts : ∀ (L : List (Nat × C)) (D k : Nat), (ms D k L).2.2 = 0 → (∀ x ∈ L, ((1 ≤ x.2.k ∧ x.2.k ≤ 6) ∧ fm x.2 = true) ∧ x.1 ≤ 24) ∧ (L = [] ∨ k + L.length ≤ 16384)
 | [], _, _, _ => ⟨fun x h => (by cases h), .inl rfl⟩
 | (d, c) :: r, D, k, h => by
  rw [ms] at h
  split at h
  ·rename_i h1
   obtain ⟨i1, i2⟩ := ms_parts r _ _ h
   unfold ft at h1
   split at h1
   ·simp at h1
   ·rename_i h4
    split at h1
    ·simp at h1
    ·rename_i h5
     split at h1
     ·simp at h1
     ·rename_i h6
      split at h1
      ·rename_i h7
       refine ⟨fun x hx => ?_, .inr ?_⟩
       ·rcases List.mem_cons.1 hx with rfl | hx
        ·exact ⟨⟨by dsimp only; omega, h7⟩, by dsimp only; omega⟩
        ·exact i1 x hx
       ·rw [List.length_cons]
        rcases i2 with rfl | i2
        ·simp only [List.length_nil]; omega
        ·omega
      ·simp at h1
  ·rename_i h1
   exact (h1 h).elim
/-- Of a value that checks. -/
theorem chk {S : Nat → Prop} {w : World} {m : Nat} {v : Value} {c : C} (h : In false S w m v c) (hz : (ms 0 0 (pl 1 c)).2.2 = 0) : wf c = true ∧ (pv c).length ≤ 900000000 := by
 obtain ⟨h1, h2⟩ := ms_parts _ _ _ hz
 have hb := big m 1 v c h fun x hx => (h1 x hx).1
 refine ⟨hb.1, ?_⟩
 have := hb.2
 rcases h2 with h2 | h2
 ·rw [h2] at this
  simp at this
 ·omega
end Go.Proofs.YthkpbhgbmagaeaaGreatDoor.WChk
namespace Go.Proofs.YthkpbhgbmagaeaaGreatDoor.WPrt
open Go.RowKit Go.Proofs.YthkpbhgbmagaeaaGreatDoor.Base Go.Proofs.YthkpbhgbmagaeaaGreatDoor.UBase Go.Proofs.YthkpbhgbmagaeaaGreatDoor.Spec Go.Proofs.YthkpbhgbmagaeaaGreatDoor.Byts Go.Proofs.YthkpbhgbmagaeaaGreatDoor.WPk Go.Proofs.YthkpbhgbmagaeaaGreatDoor.WTx Go.Proofs.YthkpbhgbmagaeaaGreatDoor.WRow Go.Proofs.YthkpbhgbmagaeaaGreatDoor.WVal Go.Proofs.YthkpbhgbmagaeaaGreatDoor.WChk Go.Proofs.YthkpbhgbmagaeaaGreatDoor.Digits Go.Proofs.YthkpbhgbmagaeaaGreatDoor.Measure Go.Proofs.YthkpbhgbmagaeaaGreatDoor.Walk Go.Proofs.YthkpbhgbmagaeaaGreatDoor.Shallow
set_option linter.unusedVariables false
/-- What Print answers as a fault. -/
def pe (c : C) : Int := (ms 0 0 (pl 1 c)).2.2
theorem pk_nil {B : Nat} {w : World} (hB : B ≤ w.heap.size) : Pk B w w (.slice none 0 0) [] [] := Pk.start (Own.nil w B) hB (by simp)
theorem puts_at {m : Nat} {u : Value} {c : C} {w W : World} (hin : In false (Lo w.heap.size) w m u c) (hT : Tab w) (hz : pe c = 0) (hb : Below w.heap.size w W) :
  Calls Tryz.prog 35 #[.slice none 0 0, u] W fun e W' => ∃ v', e = .returned v' ∧ Pk w.heap.size w W' v' (pv c) [] := by
 obtain ⟨h1, h2⟩ := chk hin hz
 exact puts m u c w.heap.size w W _ [] (hin.keep (keep_lo hb)) h1 (fun W' h => hT.later (hb.trans h)) ((pk_nil (Nat.le_refl _)).below hb) (by simp only [List.length_nil]; omega)
set_option maxRecDepth 20000 in
set_option maxHeartbeats 800000 in
theorem print_c {m : Nat} {u : Value} {c : C} {w : World} (hin : In false (Lo w.heap.size) w m u c) (hdep : dep c ≤ 4096) (hT : Tab w) :
  Calls Tryz.prog 22 #[u] w fun e w' => ∃ v, e = .returned (.tuple #[v, .int .i64 (pe c)]) ∧ Below w.heap.size w w' ∧
   ((pe c = 0 ∧ Pk w.heap.size w w' v (pv c) []) ∨ (¬ pe c = 0 ∧ v = .slice none 0 0)) := by
 have hall : In false All w m u c := In.weak (fun _ _ => trivial) false (fun h => h) m (Nat.le_refl _) hin
 obtain ⟨v0, v1, v2, v3, v4, v5, rfl, -⟩ := hin.six
 have hb : Below w.heap.size w (w.alloc (.cells #[v0, v1, v2, v3, v4, v5] 27)) := bx
 have cc := check_c (hall.below hb) hdep
 have HP : Hid (∀ W, Below w.heap.size w W → pe c = 0 → Calls Tryz.prog 35 #[.slice none 0 0, .agg #[v0, v1, v2, v3, v4, v5]] W fun e W' => ∃ v', e = .returned v' ∧ Pk w.heap.size w W' v' (pv c) []) := fun W h hz => puts_at hin hT hz h
 have cc : Calls Tryz.prog 34 #[.agg #[v0, v1, v2, v3, v4, v5]] (w.alloc (.cells #[v0, v1, v2, v3, v4, v5] 27)) fun e w' => e = .returned (.int .i64 (pe c)) ∧ Below (w.alloc (.cells #[v0, v1, v2, v3, v4, v5] 27)).heap.size (w.alloc (.cells #[v0, v1, v2, v3, v4, v5] 27)) w' := cc
 generalize pe c = E at *
 clear hin hall hT hdep
 have HX : Hid (∀ w1, Below (w.alloc (.cells #[v0, v1, v2, v3, v4, v5] 27)).heap.size (w.alloc (.cells #[v0, v1, v2, v3, v4, v5] 27)) w1 → w1.heap[w.heap.size]? = some (.cells #[v0, v1, v2, v3, v4, v5] 27 (0, 0)) ∧ Below w.heap.size w w1) :=
  fun w1 b1 => ⟨(b1.block _ (by simp)).trans (heap_alloc_new w _), hb.trans (b1.mono (by simp))⟩
 clear hb
 by_cases hz : E = 0
 ·subst hz
  go_enter Tryz.func22, Tryz.ntmps22
  go_wp2_with (first | (go_at_call 34; refine cc.mono ?_; rintro e w1 ⟨rfl, b1⟩; obtain ⟨y0, y1, y2, y3, y4, y5⟩ := six_box (HX.out w1 b1).1; have cp := HP.out w1 (HX.out w1 b1).2 trivial) | (refine cp.mono ?_; rintro e w2 ⟨v2, rfl, hp2⟩; have HP2 : Hid (Pk w.heap.size w w2 v2 (pv c) []) := hp2; clear hp2))
  obtain ⟨a2, n2, c2, rfl⟩ := HP2.out.shape
  refine bodyPost_ret (v := .tuple #[.slice a2 n2 c2, .int .i64 0]) (by simp [results, Tryz.results22, go_sem]) rfl ⟨_, rfl, HP2.out.bel, .inl ⟨trivial, HP2.out⟩⟩
 ·have hz' : (E == 0) = false := by simp [hz]
  go_enter Tryz.func22, Tryz.ntmps22
  go_wp2_with (first | (go_at_call 34; refine cc.mono ?_; rintro e w1 ⟨rfl, b1⟩; have hb2 := (HX.out w1 b1).2))
  refine bodyPost_ret (v := .tuple #[.slice none 0 0, .int .i64 E]) (by simp [results, Tryz.results22, go_sem]) rfl ⟨_, rfl, hb2, .inr ⟨hz, rfl⟩⟩
end Go.Proofs.YthkpbhgbmagaeaaGreatDoor.WPrt
namespace Go.Proofs.YthkpbhgbmagaeaaGreatDoor.RPrt
open Go.RowKit Go.Proofs.YthkpbhgbmagaeaaGreatDoor.Base Go.Proofs.YthkpbhgbmagaeaaGreatDoor.UBase Go.Proofs.YthkpbhgbmagaeaaGreatDoor.Spec Go.Proofs.YthkpbhgbmagaeaaGreatDoor.Byts Go.Proofs.YthkpbhgbmagaeaaGreatDoor.WPk Go.Proofs.YthkpbhgbmagaeaaGreatDoor.WRow Go.Proofs.YthkpbhgbmagaeaaGreatDoor.WChk Go.Proofs.YthkpbhgbmagaeaaGreatDoor.WPrt Go.Proofs.YthkpbhgbmagaeaaGreatDoor.Measure Go.Proofs.YthkpbhgbmagaeaaGreatDoor.Walk Go.Proofs.YthkpbhgbmagaeaaGreatDoor.Shallow
set_option linter.unusedVariables false
/-- v is a row of bytes behind block B that holds L. -/
def Sn (B : Nat) (w : World) (v : Value) (L : List UInt8) : Prop := ∃ g cap, v = .slice (some ⟨g, 0, none⟩) L.length cap ∧ B ≤ g ∧ g < w.heap.size ∧ ∀ j (h : j < L.length), w.cell? ⟨g, j, none⟩ = some (.int .u8 (L[j].toNat : Nat))
end Go.Proofs.YthkpbhgbmagaeaaGreatDoor.RPrt
namespace Go.Proofs.YthkpbhgbmagaeaaGreatDoor.LBy
open Go.RowKit Go.Proofs.YthkpbhgbmagaeaaGreatDoor.Base Go.Proofs.YthkpbhgbmagaeaaGreatDoor.UBase Go.Proofs.YthkpbhgbmagaeaaGreatDoor.Spec Go.Proofs.YthkpbhgbmagaeaaGreatDoor.Byts Go.Proofs.YthkpbhgbmagaeaaGreatDoor.WPk Go.Proofs.YthkpbhgbmagaeaaGreatDoor.RPrt
set_option linter.unusedVariables false
/-- The bytes of v are L: what string(v) reads. -/
def Rd (w : World) (v : Value) (L : List UInt8) : Prop := (∃ a n c, v = .slice a n c) ∧ (convert 22 9 v).run Tryz.prog w = .ok (.string ⟨L.toArray⟩) w
theorem Sn.below {B : Nat} {w w' : World} {v : Value} {L : List UInt8} (h : Sn B w v L) (hb : Below w.heap.size w w') : Sn B w' v L := by
 obtain ⟨g, cap, rfl, h1, h2, hc⟩ := h
 exact ⟨g, cap, rfl, h1, by have := hb.size; omega, fun j hj => (World.cell?_of_block (w := w) (hb.block g h2)).trans (hc j hj)⟩
theorem sameB_c {w : World} {a b : Value} {L M : List UInt8} (ha : Rd w a L) (hb : Rd w b M) :
  Calls Tryz.prog 19 #[a, b] w fun e w' => e = .returned (.bool (L == M)) ∧ w' = w := by
 obtain ⟨⟨a1, n1, c1, rfl⟩, h1⟩ := ha
 obtain ⟨⟨a2, n2, c2, rfl⟩, h2⟩ := hb
 go_enter Tryz.func19, Tryz.ntmps19
 go_wp2_with fail
 go_ret
 exact ⟨rfl, rfl⟩
end Go.Proofs.YthkpbhgbmagaeaaGreatDoor.LBy

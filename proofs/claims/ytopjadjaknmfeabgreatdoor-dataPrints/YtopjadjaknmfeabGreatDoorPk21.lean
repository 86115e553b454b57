import Derived.Lib.ConvBytes
import Derived.Test.YtopjadjaknmfeabGreatDoorPk11
import Derived.Test.YtopjadjaknmfeabGreatDoorPk12
import Derived.Test.YtopjadjaknmfeabGreatDoorPk16
import Derived.Test.YtopjadjaknmfeabGreatDoorPk19
import Derived.Test.YtopjadjaknmfeabGreatDoorPk20
namespace Go.Proofs.YtopjadjaknmfeabGreatDoor.WChk
open Go.RowKit Go.Proofs.YtopjadjaknmfeabGreatDoor.Base Go.Proofs.YtopjadjaknmfeabGreatDoor.UBase Go.Proofs.YtopjadjaknmfeabGreatDoor.Spec Go.Proofs.YtopjadjaknmfeabGreatDoor.Byts Go.Proofs.YtopjadjaknmfeabGreatDoor.WPk Go.Proofs.YtopjadjaknmfeabGreatDoor.WTx Go.Proofs.YtopjadjaknmfeabGreatDoor.WRow Go.Proofs.YtopjadjaknmfeabGreatDoor.WVal Go.Proofs.YtopjadjaknmfeabGreatDoor.Digits Go.Proofs.YtopjadjaknmfeabGreatDoor.Pure Go.Proofs.YtopjadjaknmfeabGreatDoor.Names Go.Proofs.YtopjadjaknmfeabGreatDoor.Fault Go.Proofs.YtopjadjaknmfeabGreatDoor.Walk Go.Proofs.YtopjadjaknmfeabGreatDoor.Measure Go.Proofs.YtopjadjaknmfeabGreatDoor.Shallow
set_option linter.unusedVariables false
def tot (ps : List (List UInt8)) : Nat := (ps.map fun p => p.length + 24580).sum
theorem tot_cons (p : List UInt8) (ps : List (List UInt8)) : tot (p :: ps) = p.length + 24580 + tot ps := by simp [tot]
theorem qt_len {s : ByteArray} (h : s.size ≤ 4096) : (qt s).length ≤ 24578 := by
  have h1 := ATx.fm_len s.data.toList
  have h2 := size_list s
  unfold qt
  simp only [List.length_cons, List.length_append, List.length_nil]
  omega
theorem jn_len : ∀ ps : List (List UInt8), (jn ps).length ≤ tot ps
  | [] => by simp [jn, tot]
  | [p] => by
    rw [tot_cons]
    show p.length ≤ _
    omega
  | p :: q :: r => by
    have ih := jn_len (q :: r)
    rw [tot_cons]
    show (p ++ 44 :: jn (q :: r)).length ≤ _
    simp only [List.length_append, List.length_cons]
    omega
theorem jz_len : ∀ (ps : List (List UInt8)) (n : List ByteArray), (∀ t ∈ n, t.size ≤ 4096) → (jn (List.zipWith (fun t p => qt t ++ 58 :: p) n ps)).length ≤ tot ps := by
  intro ps
  induction ps with
  | nil => intro n h; simp [jn, tot]
  | cons p ps ih =>
    intro n h
    rw [tot_cons]
    cases n with
    | nil => simp [jn]
    | cons t n =>
      have h1 := ih n fun x hx => h x (List.mem_cons_of_mem _ hx)
      have h2 := qt_len (h t List.mem_cons_self)
      rw [List.zipWith_cons_cons]
      cases hz : List.zipWith (fun t p => qt t ++ 58 :: p) n ps with
      | nil =>
        show (qt t ++ 58 :: p).length ≤ _
        simp only [List.length_append, List.length_cons]
        omega
      | cons y ys =>
        rw [hz] at h1
        show ((qt t ++ 58 :: p) ++ 44 :: jn (y :: ys)).length ≤ _
        simp only [List.length_append, List.length_cons] at *
        omega
theorem bd_len {k : Int} {b : Bool} {i : Int} {s : ByteArray} {n : List ByteArray} (ps : List (List UInt8)) (hi : -9223372036854775808 ≤ i ∧ i ≤ 9223372036854775807) (hs : s.size ≤ 4096) (hn : ∀ t ∈ n, t.size ≤ 4096) : (bd k b i s n ps).length ≤ 24580 + tot ps := by
  have h1 := Lib.itoa_length_le i hi.1 hi.2
  have h2 := qt_len hs
  have h3 := jn_len ps
  have h4 := jz_len ps n hn
  unfold bd
  split
  · simp only [List.length_cons, List.length_nil]; omega
  · split
    · cases b
      · simp only [List.length_cons, List.length_nil, Bool.false_eq_true, if_false]; omega
      · simp only [List.length_cons, List.length_nil, if_true]; omega
    · split
      · omega
      · split
        · omega
        · split
          · simp only [List.length_cons, List.length_append, List.length_nil]; omega
          · simp only [List.length_cons, List.length_append, List.length_nil]; omega
theorem wfL_of : ∀ {l : List C}, (∀ c ∈ l, wf c = true) → wfL l = true
  | [], _ => by rw [wfL]
  | c :: cs, h => by
    rw [wfL_cons, Bool.and_eq_true]
    exact ⟨h c List.mem_cons_self, wfL_of fun x hx => h x (List.mem_cons_of_mem _ hx)⟩
theorem tot_le {d : Nat} : ∀ {l : List C}, (∀ c ∈ l, (pv c).length + 24580 ≤ 50000 * (pl d c).length) → tot (pvL l) ≤ 50000 * (plL d l).length
  | [], _ => by simp [pvL, tot]
  | c :: cs, h => by
    have h1 := h c List.mem_cons_self
    have h2 := tot_le fun x hx => h x (List.mem_cons_of_mem _ hx)
    rw [pvL_map] at h2 ⊢
    rw [List.map_cons, tot_cons, plL_cons, List.length_append]
    omega
theorem mem_plL {d : Nat} {x : Nat × C} : ∀ {l : List C} {c : C}, c ∈ l → x ∈ pl d c → x ∈ plL d l
  | c' :: cs, c, h, hx => by
    rw [plL_cons, List.mem_append]
    rcases List.mem_cons.1 h with rfl | h
    · exact .inl hx
    · exact .inr (mem_plL h hx)
theorem fm_parts {c : C} (h : fm c = true) : c.s.size ≤ 4096 ∧ (∀ t ∈ c.n, t.size ≤ 4096) ∧ (c.k = 6 → c.n.length = c.l.length) := by
  unfold fm at h
  simp only [Bool.and_eq_true] at h
  obtain ⟨⟨h1, h2⟩, h3⟩ := h
  have hs : c.s.size ≤ 4096 := by
    unfold tg at h2
    rw [Bool.and_eq_true] at h2
    exact of_decide_eq_true h2.1
  by_cases h6 : c.k = 6
  · simp only [h6, decide_true, Bool.not_true, Bool.false_or] at h3
    unfold nmb at h3
    simp only [Bool.and_eq_true, List.all_eq_true] at h3
    refine ⟨hs, fun t ht => ?_, fun _ => of_decide_eq_true h3.1.1⟩
    have := h3.1.2 t ht
    unfold tg at this
    rw [Bool.and_eq_true] at this
    exact of_decide_eq_true this.1
  · unfold pu at h1
    simp only [Bool.and_eq_true, Bool.or_eq_true, decide_eq_true_eq] at h1
    have hn : c.n.length = 0 := by
      rcases h1.2 with h | h
      · exact (h6 h).elim
      · exact h
    have hn := List.eq_nil_of_length_eq_zero hn
    refine ⟨hs, fun t ht => ?_, fun h => (h6 h).elim⟩
    rw [hn] at ht
    cases ht
theorem big {S : Nat → Prop} {w : World} : ∀ m d v c, In false S w m v c → (∀ x ∈ pl d c, (1 ≤ x.2.k ∧ x.2.k ≤ 6) ∧ fm x.2 = true) → wf c = true ∧ (pv c).length + 24580 ≤ 50000 * (pl d c).length := by
  intro m
  induction m with
  | zero => intro d v c h; rw [In] at h; exact h.elim
  | succ m ih =>
    intro d v c h hx
    obtain ⟨k, b, i, s, n, l⟩ := c
    rw [in_iff] at h
    obtain ⟨nv, lv, rfl, hk, hi, hs, hn, a, cap, rfl, -, -, -, -, hL⟩ := h
    have h0 := hx (d, .mk k b i s n l) (by rw [pl]; exact List.mem_cons_self)
    obtain ⟨p1, p2, p3⟩ := fm_parts h0.2
    have hc : ∀ c ∈ l, wf c = true ∧ (pv c).length + 24580 ≤ 50000 * (pl (d + 1) c).length := by
      intro c hc
      obtain ⟨q, hq, rfl⟩ := List.getElem_of_mem hc
      rcases hL with ⟨rfl, -⟩ | ⟨g, o, -, -, hel, -⟩
      · simp at hq
      · obtain ⟨u, -, hu⟩ := hel q hq
        refine ih (d + 1) u _ hu fun x hx' => hx x ?_
        rw [pl]
        exact List.mem_cons_of_mem _ (mem_plL hc hx')
    have h1 : (bd k b i s n (pvL l)).length ≤ 24580 + tot (pvL l) := bd_len (pvL l) hi p1 p2
    have h2 := tot_le fun c hc' => (hc c hc').2
    have h3 := wfL_of fun c hc' => (hc c hc').1
    constructor
    · rw [wf, h3, Bool.and_true]
      exact decide_eq_true ⟨h0.1.1, h0.1.2, p3, p1, p2⟩
    · rw [pv, pl, List.length_cons]
      omega
theorem ms_parts : ∀ (L : List (Nat × C)) (D k : Nat), (ms D k L).2.2 = 0 → (∀ x ∈ L, ((1 ≤ x.2.k ∧ x.2.k ≤ 6) ∧ fm x.2 = true) ∧ x.1 ≤ 24) ∧ (L = [] ∨ k + L.length ≤ 16384)
  | [], _, _, _ => ⟨fun x h => (by cases h), .inl rfl⟩
  | (d, c) :: r, D, k, h => by
    rw [ms] at h
    split at h
    · rename_i h1
      obtain ⟨i1, i2⟩ := ms_parts r _ _ h
      unfold ft at h1
      split at h1
      · simp at h1
      · rename_i h4
        split at h1
        · simp at h1
        · rename_i h5
          split at h1
          · simp at h1
          · rename_i h6
            split at h1
            · rename_i h7
              refine ⟨fun x hx => ?_, .inr ?_⟩
              · rcases List.mem_cons.1 hx with rfl | hx
                · exact ⟨⟨by dsimp only; omega, h7⟩, by dsimp only; omega⟩
                · exact i1 x hx
              · rw [List.length_cons]
                rcases i2 with rfl | i2
                · simp only [List.length_nil]; omega
                · omega
            · simp at h1
    · rename_i h1
      exact (h1 h).elim
/-- Of a value that checks. -/
theorem chk {S : Nat → Prop} {w : World} {m : Nat} {v : Value} {c : C} (h : In false S w m v c) (hz : (ms 0 0 (pl 1 c)).2.2 = 0) : wf c = true ∧ (pv c).length ≤ 900000000 := by
  obtain ⟨h1, h2⟩ := ms_parts _ _ _ hz
  have hb := big m 1 v c h fun x hx => (h1 x hx).1
  refine ⟨hb.1, ?_⟩
  have := hb.2
  rcases h2 with h2 | h2
  · rw [h2] at this
    simp at this
  · omega
end Go.Proofs.YtopjadjaknmfeabGreatDoor.WChk
namespace Go.Proofs.YtopjadjaknmfeabGreatDoor.WPrt
open Go.RowKit Go.Proofs.YtopjadjaknmfeabGreatDoor.Base Go.Proofs.YtopjadjaknmfeabGreatDoor.UBase Go.Proofs.YtopjadjaknmfeabGreatDoor.Spec Go.Proofs.YtopjadjaknmfeabGreatDoor.Byts Go.Proofs.YtopjadjaknmfeabGreatDoor.WPk Go.Proofs.YtopjadjaknmfeabGreatDoor.WTx Go.Proofs.YtopjadjaknmfeabGreatDoor.WRow Go.Proofs.YtopjadjaknmfeabGreatDoor.WVal Go.Proofs.YtopjadjaknmfeabGreatDoor.WChk Go.Proofs.YtopjadjaknmfeabGreatDoor.Digits Go.Proofs.YtopjadjaknmfeabGreatDoor.Measure Go.Proofs.YtopjadjaknmfeabGreatDoor.Walk Go.Proofs.YtopjadjaknmfeabGreatDoor.Shallow
set_option linter.unusedVariables false
/-- What Print answers as a fault. -/
def pe (c : C) : Int := (ms 0 0 (pl 1 c)).2.2
theorem pk_nil {B : Nat} {w : World} (hB : B ≤ w.heap.size) : Pk B w w (.slice none 0 0) [] [] := Pk.start (Own.nil w B) hB (by simp)
theorem puts_at {m : Nat} {u : Value} {c : C} {w W : World} (hin : In false (Lo w.heap.size) w m u c) (hT : Tab w) (hz : pe c = 0) (hb : Below w.heap.size w W) :
    Calls Tryz.prog 33 #[.slice none 0 0, u] W fun e W' => ∃ v', e = .returned v' ∧ Pk w.heap.size w W' v' (pv c) [] := by
  obtain ⟨h1, h2⟩ := chk hin hz
  exact puts m u c w.heap.size w W _ [] (hin.keep (keep_lo hb)) h1 (fun W' h => hT.later (hb.trans h)) ((pk_nil (Nat.le_refl _)).below hb) (by simp only [List.length_nil]; omega)
set_option maxRecDepth 20000 in
set_option maxHeartbeats 800000 in
theorem print_c {m : Nat} {u : Value} {c : C} {w : World} (hin : In false (Lo w.heap.size) w m u c) (hdep : dep c ≤ 4096) (hT : Tab w) :
    Calls Tryz.prog 15 #[u] w fun e w' => ∃ v, e = .returned (.tuple #[v, .int .i64 (pe c)]) ∧ Below w.heap.size w w' ∧
      ((pe c = 0 ∧ Pk w.heap.size w w' v (pv c) []) ∨ (¬ pe c = 0 ∧ v = .slice none 0 0)) := by
  have hall : In false All w m u c := In.weak (fun _ _ => trivial) false (fun h => h) m (Nat.le_refl _) hin
  obtain ⟨v0, v1, v2, v3, v4, v5, rfl, -⟩ := hin.six
  have hb : Below w.heap.size w (w.alloc (.cells #[v0, v1, v2, v3, v4, v5] 27)) := bx
  have cc := check_c (hall.below hb) hdep
  have HP : Hid (∀ W, Below w.heap.size w W → pe c = 0 → Calls Tryz.prog 33 #[.slice none 0 0, .agg #[v0, v1, v2, v3, v4, v5]] W fun e W' => ∃ v', e = .returned v' ∧ Pk w.heap.size w W' v' (pv c) []) := fun W h hz => puts_at hin hT hz h
  have cc : Calls Tryz.prog 32 #[.agg #[v0, v1, v2, v3, v4, v5]] (w.alloc (.cells #[v0, v1, v2, v3, v4, v5] 27)) fun e w' => e = .returned (.int .i64 (pe c)) ∧ Below (w.alloc (.cells #[v0, v1, v2, v3, v4, v5] 27)).heap.size (w.alloc (.cells #[v0, v1, v2, v3, v4, v5] 27)) w' := cc
  generalize pe c = E at *
  clear hin hall hT hdep
  have HX : Hid (∀ w1, Below (w.alloc (.cells #[v0, v1, v2, v3, v4, v5] 27)).heap.size (w.alloc (.cells #[v0, v1, v2, v3, v4, v5] 27)) w1 → w1.heap[w.heap.size]? = some (.cells #[v0, v1, v2, v3, v4, v5] 27 (0, 0)) ∧ Below w.heap.size w w1) :=
    fun w1 b1 => ⟨(b1.block _ (by simp)).trans (heap_alloc_new w _), hb.trans (b1.mono (by simp))⟩
  clear hb
  by_cases hz : E = 0
  · subst hz
    go_enter Tryz.func15, Tryz.ntmps15
    go_wp2_with (first | (go_at_call 32; refine cc.mono ?_; rintro e w1 ⟨rfl, b1⟩; obtain ⟨y0, y1, y2, y3, y4, y5⟩ := six_box (HX.out w1 b1).1; have cp := HP.out w1 (HX.out w1 b1).2 trivial) | (refine cp.mono ?_; rintro e w2 ⟨v2, rfl, hp2⟩; have HP2 : Hid (Pk w.heap.size w w2 v2 (pv c) []) := hp2; clear hp2))
    obtain ⟨a2, n2, c2, rfl⟩ := HP2.out.shape
    refine bodyPost_ret (v := .tuple #[.slice a2 n2 c2, .int .i64 0]) (by simp [results, Tryz.results15, go_sem]) rfl ⟨_, rfl, HP2.out.bel, .inl ⟨trivial, HP2.out⟩⟩
  · have hz' : (E == 0) = false := by simp [hz]
    go_enter Tryz.func15, Tryz.ntmps15
    go_wp2_with (first | (go_at_call 32; refine cc.mono ?_; rintro e w1 ⟨rfl, b1⟩; have hb2 := (HX.out w1 b1).2))
    refine bodyPost_ret (v := .tuple #[.slice none 0 0, .int .i64 E]) (by simp [results, Tryz.results15, go_sem]) rfl ⟨_, rfl, hb2, .inr ⟨hz, rfl⟩⟩
end Go.Proofs.YtopjadjaknmfeabGreatDoor.WPrt
namespace Go.Proofs.YtopjadjaknmfeabGreatDoor.RTx
open Go.RowKit Go.Proofs.YtopjadjaknmfeabGreatDoor.Base Go.Proofs.YtopjadjaknmfeabGreatDoor.UBase Go.Proofs.YtopjadjaknmfeabGreatDoor.Spec Go.Proofs.YtopjadjaknmfeabGreatDoor.Byts Go.Proofs.YtopjadjaknmfeabGreatDoor.WPk Go.Proofs.YtopjadjaknmfeabGreatDoor.WTx Go.Proofs.YtopjadjaknmfeabGreatDoor.WRow Go.Proofs.YtopjadjaknmfeabGreatDoor.WChk Go.Proofs.YtopjadjaknmfeabGreatDoor.RQu
set_option linter.unusedVariables false
def RPuts (m : Nat) : Prop := ∀ (u : Value) (c : C) (B : Nat) (W : World), In false (Lo B) W m u c → B ≤ W.heap.size → wf c = true → (pv c).length ≤ 100000000000 →
    Calls Tryz.prog 35 #[u] W fun e W' => (∃ T, e = .returned (.string T) ∧ T.data.toList = pv c) ∧ Below W.heap.size W W'
theorem pk0 (w : World) : Pk w.heap.size w w (.slice none 0 0) [] [] := Pk.start (Own.nil w _) (Nat.le_refl _) (by simp)
set_option maxRecDepth 20000 in
set_option maxHeartbeats 3200000 in
theorem rlist_c {m : Nat} (hm : RPuts m) {B : Nat} {W : World} {b : Bool} {i : Int} {s : ByteArray} {n : List ByteArray} {l : List C} {u : Value} (hin : In false (Lo B) W (m + 1) u (.mk 5 b i s n l)) (hB : B ≤ W.heap.size) (hwf : wf (.mk 5 b i s n l) = true) (hlen : (pv (.mk 5 b i s n l)).length ≤ 100000000000) :
    Calls Tryz.prog 35 #[u] W fun e W' => (∃ T, e = .returned (.string T) ∧ T.data.toList = pv (.mk 5 b i s n l)) ∧ Below W.heap.size W W' := by
  obtain ⟨r1, r2, r3, r4, r5, r6⟩ := wf_parts hwf
  have hpv : pv (.mk 5 b i s n l) = 91 :: (jn (its 5 n l) ++ [93]) := (pv_row 5 b i s n l).1 rfl
  rw [hpv] at hlen ⊢
  simp only [List.length_cons, List.length_append, List.length_nil] at hlen
  rw [in_iff] at hin
  obtain ⟨nv, lv, rfl, hk, hi, hs, hn, hl⟩ := hin
  obtain ⟨an, cn, rfl, hn1, hn2, hn3, hn4, hn5, hN⟩ := hn.out
  obtain ⟨al, cl, rfl, hl1, hl2, hl3, hl4, hLL⟩ := hl.out
  have HN : Hid (NAt false (Lo B) W an cn n) := hN
  have HL : Hid (LAt false (Lo B) W m al cl l) := hLL
  obtain ⟨X, hX⟩ : ∃ X, its 5 n l = X := ⟨_, rfl⟩
  have hXl : X.length = l.length := by rw [← hX]; exact its_len r3
  have HX6 : Hid (((5 : Int) = 6) → ∀ q (hq : q < l.length) (hq2 : q < X.length) (hq3 : q < n.length), X[q] = qt n[q] ++ 58 :: pv l[q]) := by
    subst hX
    intro h6 q hq hq2 hq3
    rw [its_get r3 hq hq2, dif_pos h6]
  have HX5 : Hid (¬ ((5 : Int) = 6) → ∀ q (hq : q < l.length) (hq2 : q < X.length), X[q] = pv l[q]) := by
    subst hX
    intro h6 q hq hq2
    rw [its_get r3 hq hq2, dif_neg h6]
  rw [hX] at hlen ⊢
  clear hX hpv
  have Hm : Hid (RPuts m) := hm
  have Hw3 : Hid (((5 : Int) = 6) → n.length = l.length) := r3
  have Hw5 : Hid (∀ t ∈ n, t.size ≤ 4096) := r5
  have Hw6 : Hid (wfL l = true) := r6
  have HXl : Hid (X.length = l.length) := hXl
  have h6 : ¬ (5 : Int) = 6 := by decide
  clear hm hn hl hN hLL hwf r3 r5 r6 hXl hn4
  obtain ⟨W1, hW1⟩ : ∃ W1, W.alloc (.cells #[.int .i64 5, .bool b, .int .i64 i, .string s, .slice an n.length cn, .slice al l.length cl] 27) = W1 := ⟨_, rfl⟩
  have hb0 : Below W.heap.size W W1 := by rw [← hW1]; exact bx
  have hbB : Below B W W1 := hb0.mono hB
  have HB1 : Hid (B ≤ W1.heap.size) := by
    show B ≤ _
    have := hb0.size
    omega
  have HX : Hid (W1.heap[W.heap.size]? = some (.cells #[.int .i64 5, .bool b, .int .i64 i, .string s, .slice an n.length cn, .slice al l.length cl] 27 (0, 0))) := by
    show W1.heap[W.heap.size]? = _
    rw [← hW1]
    exact heap_alloc_new W _
  obtain ⟨y0, y1, y2, y3, y4, y5⟩ := six_box HX.out
  go_enter Tryz.func35, Tryz.ntmps35
  go_wp2_with fail
  go_loopw [3, 4] (fun out ii wr => ∃ q : Nat, q ≤ l.length ∧ ii = .int .i64 q ∧ Pk W1.heap.size W1 wr out (jn (X.take q)) []) (fun _ ii _ => l.length - (intOf ii).toNat)
  case atStart => exact ⟨0, by omega, rfl, by simpa [jn] using pk0 W1⟩
  case round =>
    obtain ⟨q, hq, rfl, hp⟩ := hrel
    have hxx := hp.ty _ _ _ _ HX.out (by decide)
    obtain ⟨z0, z1, z2, z3, z4, z5⟩ := six_box hxx
    have hjl := jn_le X q (by have := HXl.out; omega)
    by_cases hlt : q < l.length
    · have hqX : q < X.length := by have := HXl.out; omega
      have hj1 := jn_take hqX
      have hj2 := jn_le X (q + 1) (by omega)
      rw [hj1] at hj2
      have Hj1 : Hid (jn (X.take (q + 1)) = jn (X.take q) ++ ((if q = 0 then [] else [44]) ++ X[q])) := hj1
      clear hj1
      obtain ⟨J, hJ⟩ : ∃ J, jn (X.take q) = J := ⟨_, rfl⟩
      rw [hJ] at hp hjl hj2
      have HJ : Hid (jn (X.take q) = J) := hJ
      clear hJ hxx
      obtain ⟨g, o, x, rfl, hgB, hx, hin⟩ := elem_at HL.out hlt
      have HSX : Hid (Six W g (o + q * 6) x) := hx
      have HIN : Hid (In false (Lo B) W m x l[q]) := hin
      clear hx hin
      obtain ⟨ro, hro⟩ : ∃ ro, ro = wr := ⟨_, rfl⟩
      subst hro
      have hwq := wfL_get Hw6.out q hlt
      by_cases hq0 : q = 0
      · have Hq0 : Hid (q = 0) := hq0
        have hz : decide (0 < q) = false := by simp; omega
        rw [if_pos hq0] at hj2
        clear hq0
        have hqd := hp
        obtain ⟨ac, nc, cc, hsc⟩ := hp.shape
        subst hsc
        clear hp
        have hXq := HX5.out h6 q hlt hqX
        rw [hXq] at hj2
        have HXq : Hid (X[q] = pv l[q]) := hXq
        clear hXq
        have hq6 := hqd
        clear hqd
        have HQ6 : Hid (Pk W1.heap.size W1 ro (.slice ac nc cc) (J) []) := by
          show Pk W1.heap.size W1 ro (.slice ac nc cc) _ []
          first | exact hq6 | simpa [List.append_assoc] using hq6
        obtain ⟨k0, k1, k2, k3, k4, k5⟩ := six_box (hq6.ty _ _ _ _ HX.out (by decide))
        have hbW6 : Below B W ro := hbB.trans (hq6.bel.mono HB1.out)
        obtain ⟨x0, x1, x2, x3, x4, x5, rfl, d0, d1, d2, d3, d4, d5⟩ := (keep_lo hbW6).six hgB HSX.out
        have hinr := HIN.out.keep (keep_lo hbW6)
        obtain ⟨f1, f2, f3, f4, f5, f6, rfl, rfl, rfl, rfl, rfl, rfl⟩ := hinr.kinds
        have cv := Hm.out _ l[q] B ro hinr (by have := hq6.le; have := HB1.out; omega) hwq (by simp only [List.length_append, List.length_nil] at *; omega)
        clear hinr
        clear hq6
        go_wp2_with fail
        refine cv.mono ?_
        rintro e W7 ⟨⟨Tv, rfl, hTv⟩, b7⟩
        have hq7 := HQ6.out.below b7
        have hTs2 : Tv.size = (pv l[q]).length := by rw [← hTv, size_list]
        have HTv : Hid (Tv.data.toList = pv l[q]) := hTv
        clear hTv cv b7 d0 d1 d2 d3 d4 d5
        go_wp2_with (first | (at_builtin; refine list_text rfl _ _ rfl hq7 rfl Tv rfl (by simp only [List.length_nil, List.length_append] at *; omega) ?_))
        intro v8 W8 hq8
        rw [HTv.out] at hq8
        have HP8 : Hid (Pk W1.heap.size W1 W8 v8 (jn (X.take (q + 1))) []) := by
          show Pk W1.heap.size W1 W8 v8 _ []
          rw [Hj1.out, HJ.out, HXq.out, if_pos Hq0.out]
          simpa [List.append_assoc] using hq8
        obtain ⟨a8, n8, c8, rfl⟩ := hq8.shape
        clear hq8 hq7
        go_wp2_with fail
        go_roundw
        case rel => exact ⟨q + 1, by omega, by go_num, HP8.out⟩
        case measure => simp only [intOf]; omega
      · have Hq0 : Hid (¬ q = 0) := hq0
        have hz : decide (0 < q) = true := by simp; omega
        rw [if_neg hq0] at hj2
        clear hq0
        have hqc := hp.lay [44] #[.int .u8 44] rfl
        obtain ⟨ac, nc, cc, hsc⟩ := hp.shape
        subst hsc
        clear hp
        go_wp2_with (first | (at_builtin; refine list_bytes rfl _ _ rfl hqc rfl _ _ [44] rfl (by simp) (by simp only [List.length_cons, List.length_nil, List.length_append] at *; omega) ?_))
        intro vc Wc hqc2
        obtain ⟨e0, e1, e2, e3, e4, e5⟩ := six_box (hqc2.ty _ _ _ _ HX.out (by decide))
        have hqd := hqc2.bare
        clear hqc hqc2
        have hXq := HX5.out h6 q hlt hqX
        rw [hXq] at hj2
        have HXq : Hid (X[q] = pv l[q]) := hXq
        clear hXq
        have hq6 := hqd
        clear hqd
        have HQ6 : Hid (Pk W1.heap.size W1 Wc vc (J ++ [44]) []) := by
          show Pk W1.heap.size W1 Wc vc _ []
          first | exact hq6 | simpa [List.append_assoc] using hq6
        obtain ⟨k0, k1, k2, k3, k4, k5⟩ := six_box (hq6.ty _ _ _ _ HX.out (by decide))
        have hbW6 : Below B W Wc := hbB.trans (hq6.bel.mono HB1.out)
        obtain ⟨x0, x1, x2, x3, x4, x5, rfl, d0, d1, d2, d3, d4, d5⟩ := (keep_lo hbW6).six hgB HSX.out
        have hinr := HIN.out.keep (keep_lo hbW6)
        obtain ⟨f1, f2, f3, f4, f5, f6, rfl, rfl, rfl, rfl, rfl, rfl⟩ := hinr.kinds
        have cv := Hm.out _ l[q] B Wc hinr (by have := hq6.le; have := HB1.out; omega) hwq (by simp only [List.length_append, List.length_cons, List.length_nil] at *; omega)
        clear hinr
        obtain ⟨a6, n6, c6, rfl⟩ := hq6.shape
        clear hq6
        go_wp2_with fail
        refine cv.mono ?_
        rintro e W7 ⟨⟨Tv, rfl, hTv⟩, b7⟩
        have hq7 := HQ6.out.below b7
        have hTs2 : Tv.size = (pv l[q]).length := by rw [← hTv, size_list]
        have HTv : Hid (Tv.data.toList = pv l[q]) := hTv
        clear hTv cv b7 d0 d1 d2 d3 d4 d5
        go_wp2_with (first | (at_builtin; refine list_text rfl _ _ rfl hq7 rfl Tv rfl (by simp only [List.length_cons, List.length_nil, List.length_append] at *; omega) ?_))
        intro v8 W8 hq8
        rw [HTv.out] at hq8
        have HP8 : Hid (Pk W1.heap.size W1 W8 v8 (jn (X.take (q + 1))) []) := by
          show Pk W1.heap.size W1 W8 v8 _ []
          rw [Hj1.out, HJ.out, HXq.out, if_neg Hq0.out]
          simpa [List.append_assoc] using hq8
        obtain ⟨a8, n8, c8, rfl⟩ := hq8.shape
        clear hq8 hq7
        go_wp2_with fail
        go_roundw
        case rel => exact ⟨q + 1, by omega, by go_num, HP8.out⟩
        case measure => simp only [intOf]; omega
    · have hlt' : decide ((q : Int) < (l.length : Int)) = false := by simp; omega
      rw [List.take_of_length_le (by have := HXl.out; omega)] at hp
      have hcv := own_conv hp.own
      have HPE : Hid (Below W.heap.size W wr) := hb0.trans (hp.bel.mono hb0.size)
      obtain ⟨a3, n3, c3, hsh⟩ := hp.shape
      subst hsh
      clear hp
      go_wp2_with fail
      go_ret
      exact ⟨⟨_, rfl, by simp⟩, HPE.out⟩
set_option maxRecDepth 20000 in
set_option maxHeartbeats 3200000 in
theorem rrec_c {m : Nat} (hm : RPuts m) {B : Nat} {W : World} {b : Bool} {i : Int} {s : ByteArray} {n : List ByteArray} {l : List C} {u : Value} (hin : In false (Lo B) W (m + 1) u (.mk 6 b i s n l)) (hB : B ≤ W.heap.size) (hwf : wf (.mk 6 b i s n l) = true) (hlen : (pv (.mk 6 b i s n l)).length ≤ 100000000000) :
    Calls Tryz.prog 35 #[u] W fun e W' => (∃ T, e = .returned (.string T) ∧ T.data.toList = pv (.mk 6 b i s n l)) ∧ Below W.heap.size W W' := by
  obtain ⟨r1, r2, r3, r4, r5, r6⟩ := wf_parts hwf
  have hpv : pv (.mk 6 b i s n l) = 123 :: (jn (its 6 n l) ++ [125]) := (pv_row 6 b i s n l).2 rfl
  rw [hpv] at hlen ⊢
  simp only [List.length_cons, List.length_append, List.length_nil] at hlen
  rw [in_iff] at hin
  obtain ⟨nv, lv, rfl, hk, hi, hs, hn, hl⟩ := hin
  obtain ⟨an, cn, rfl, hn1, hn2, hn3, hn4, hn5, hN⟩ := hn.out
  obtain ⟨al, cl, rfl, hl1, hl2, hl3, hl4, hLL⟩ := hl.out
  have HN : Hid (NAt false (Lo B) W an cn n) := hN
  have HL : Hid (LAt false (Lo B) W m al cl l) := hLL
  obtain ⟨X, hX⟩ : ∃ X, its 6 n l = X := ⟨_, rfl⟩
  have hXl : X.length = l.length := by rw [← hX]; exact its_len r3
  have HX6 : Hid (((6 : Int) = 6) → ∀ q (hq : q < l.length) (hq2 : q < X.length) (hq3 : q < n.length), X[q] = qt n[q] ++ 58 :: pv l[q]) := by
    subst hX
    intro h6 q hq hq2 hq3
    rw [its_get r3 hq hq2, dif_pos h6]
  have HX5 : Hid (¬ ((6 : Int) = 6) → ∀ q (hq : q < l.length) (hq2 : q < X.length), X[q] = pv l[q]) := by
    subst hX
    intro h6 q hq hq2
    rw [its_get r3 hq hq2, dif_neg h6]
  rw [hX] at hlen ⊢
  clear hX hpv
  have Hm : Hid (RPuts m) := hm
  have Hw3 : Hid (((6 : Int) = 6) → n.length = l.length) := r3
  have Hw5 : Hid (∀ t ∈ n, t.size ≤ 4096) := r5
  have Hw6 : Hid (wfL l = true) := r6
  have HXl : Hid (X.length = l.length) := hXl
  have H6 : Hid ((6 : Int) = 6) := rfl
  clear hm hn hl hN hLL hwf r3 r5 r6 hXl hn4
  obtain ⟨W1, hW1⟩ : ∃ W1, W.alloc (.cells #[.int .i64 6, .bool b, .int .i64 i, .string s, .slice an n.length cn, .slice al l.length cl] 27) = W1 := ⟨_, rfl⟩
  have hb0 : Below W.heap.size W W1 := by rw [← hW1]; exact bx
  have hbB : Below B W W1 := hb0.mono hB
  have HB1 : Hid (B ≤ W1.heap.size) := by
    show B ≤ _
    have := hb0.size
    omega
  have HX : Hid (W1.heap[W.heap.size]? = some (.cells #[.int .i64 6, .bool b, .int .i64 i, .string s, .slice an n.length cn, .slice al l.length cl] 27 (0, 0))) := by
    show W1.heap[W.heap.size]? = _
    rw [← hW1]
    exact heap_alloc_new W _
  obtain ⟨y0, y1, y2, y3, y4, y5⟩ := six_box HX.out
  go_enter Tryz.func35, Tryz.ntmps35
  go_wp2_with fail
  go_loopw [3, 4] (fun out ii wr => ∃ q : Nat, q ≤ l.length ∧ ii = .int .i64 q ∧ Pk W1.heap.size W1 wr out (jn (X.take q)) []) (fun _ ii _ => l.length - (intOf ii).toNat)
  case atStart => exact ⟨0, by omega, rfl, by simpa [jn] using pk0 W1⟩
  case round =>
    obtain ⟨q, hq, rfl, hp⟩ := hrel
    have hxx := hp.ty _ _ _ _ HX.out (by decide)
    obtain ⟨z0, z1, z2, z3, z4, z5⟩ := six_box hxx
    have hjl := jn_le X q (by have := HXl.out; omega)
    by_cases hlt : q < l.length
    · have hqX : q < X.length := by have := HXl.out; omega
      have hj1 := jn_take hqX
      have hj2 := jn_le X (q + 1) (by omega)
      rw [hj1] at hj2
      have Hj1 : Hid (jn (X.take (q + 1)) = jn (X.take q) ++ ((if q = 0 then [] else [44]) ++ X[q])) := hj1
      clear hj1
      obtain ⟨J, hJ⟩ : ∃ J, jn (X.take q) = J := ⟨_, rfl⟩
      rw [hJ] at hp hjl hj2
      have HJ : Hid (jn (X.take q) = J) := hJ
      clear hJ hxx
      obtain ⟨g, o, x, rfl, hgB, hx, hin⟩ := elem_at HL.out hlt
      have HSX : Hid (Six W g (o + q * 6) x) := hx
      have HIN : Hid (In false (Lo B) W m x l[q]) := hin
      clear hx hin
      obtain ⟨ro, hro⟩ : ∃ ro, ro = wr := ⟨_, rfl⟩
      subst hro
      have hwq := wfL_get Hw6.out q hlt
      by_cases hq0 : q = 0
      · have Hq0 : Hid (q = 0) := hq0
        have hz : decide (0 < q) = false := by simp; omega
        rw [if_pos hq0] at hj2
        clear hq0
        have hqd := hp
        obtain ⟨ac, nc, cc, hsc⟩ := hp.shape
        subst hsc
        clear hp
        have hqn : q < n.length := by rw [Hw3.out H6.out]; exact hlt
        obtain ⟨gn, on, rfl, hgn, hcn⟩ := name_at HN.out hqn
        have hcn := (keep_lo (hbB.trans (hqd.bel.mono HB1.out))).cell hgn hcn
        have hsn := Hw5.out n[q] (List.getElem_mem hqn)
        have hXq := HX6.out H6.out q hlt hqX hqn
        rw [hXq] at hj2
        have HXq : Hid (X[q] = qt n[q] ++ 58 :: pv l[q]) := hXq
        clear hXq
        have ct := rquoted_c (s := n[q]) (w := ro) (by omega)
        go_wp2_with fail
        refine ct.mono ?_
        rintro e Wt ⟨⟨Tn, rfl, hTn⟩, bt⟩
        have hqt := hqd.below bt
        have hTs : Tn.size = (qt n[q]).length := by rw [← hTn, size_list]
        have HTn : Hid (Tn.data.toList = qt n[q]) := hTn
        clear hqd ct bt hTn hcn
        go_wp2_with (first | (at_builtin; refine list_text rfl _ _ rfl hqt rfl Tn rfl (by simp only [List.length_cons, List.length_nil, List.length_append] at *; omega) ?_))
        intro v2 W2 hq2
        rw [HTn.out] at hq2
        have hqu := hq2.lay [58] #[.int .u8 58] rfl
        obtain ⟨at2, nt, ct2, rfl⟩ := hq2.shape
        clear hqt hq2
        go_wp2_with (first | (at_builtin; refine list_bytes rfl _ _ rfl hqu rfl _ _ [58] rfl (by simp) (by simp only [List.length_cons, List.length_nil, List.length_append] at *; omega) ?_))
        intro v6 W6 hq6
        have hq6 := hq6.bare
        clear hqu
        have HQ6 : Hid (Pk W1.heap.size W1 W6 v6 (J ++ qt n[q] ++ [58]) []) := by
          show Pk W1.heap.size W1 W6 v6 _ []
          first | exact hq6 | simpa [List.append_assoc] using hq6
        obtain ⟨k0, k1, k2, k3, k4, k5⟩ := six_box (hq6.ty _ _ _ _ HX.out (by decide))
        have hbW6 : Below B W W6 := hbB.trans (hq6.bel.mono HB1.out)
        obtain ⟨x0, x1, x2, x3, x4, x5, rfl, d0, d1, d2, d3, d4, d5⟩ := (keep_lo hbW6).six hgB HSX.out
        have hinr := HIN.out.keep (keep_lo hbW6)
        obtain ⟨f1, f2, f3, f4, f5, f6, rfl, rfl, rfl, rfl, rfl, rfl⟩ := hinr.kinds
        have cv := Hm.out _ l[q] B W6 hinr (by have := hq6.le; have := HB1.out; omega) hwq (by simp only [List.length_append, List.length_cons, List.length_nil] at *; omega)
        clear hinr
        obtain ⟨a6, n6, c6, rfl⟩ := hq6.shape
        clear hq6
        go_wp2_with fail
        refine cv.mono ?_
        rintro e W7 ⟨⟨Tv, rfl, hTv⟩, b7⟩
        have hq7 := HQ6.out.below b7
        have hTs2 : Tv.size = (pv l[q]).length := by rw [← hTv, size_list]
        have HTv : Hid (Tv.data.toList = pv l[q]) := hTv
        clear hTv cv b7 d0 d1 d2 d3 d4 d5
        go_wp2_with (first | (at_builtin; refine list_text rfl _ _ rfl hq7 rfl Tv rfl (by simp only [List.length_cons, List.length_nil, List.length_append] at *; omega) ?_))
        intro v8 W8 hq8
        rw [HTv.out] at hq8
        have HP8 : Hid (Pk W1.heap.size W1 W8 v8 (jn (X.take (q + 1))) []) := by
          show Pk W1.heap.size W1 W8 v8 _ []
          rw [Hj1.out, HJ.out, HXq.out, if_pos Hq0.out]
          simpa [List.append_assoc] using hq8
        obtain ⟨a8, n8, c8, rfl⟩ := hq8.shape
        clear hq8 hq7
        go_wp2_with fail
        go_roundw
        case rel => exact ⟨q + 1, by omega, by go_num, HP8.out⟩
        case measure => simp only [intOf]; omega
      · have Hq0 : Hid (¬ q = 0) := hq0
        have hz : decide (0 < q) = true := by simp; omega
        rw [if_neg hq0] at hj2
        clear hq0
        have hqc := hp.lay [44] #[.int .u8 44] rfl
        obtain ⟨ac, nc, cc, hsc⟩ := hp.shape
        subst hsc
        clear hp
        go_wp2_with (first | (at_builtin; refine list_bytes rfl _ _ rfl hqc rfl _ _ [44] rfl (by simp) (by simp only [List.length_cons, List.length_nil, List.length_append] at *; omega) ?_))
        intro vc Wc hqc2
        obtain ⟨e0, e1, e2, e3, e4, e5⟩ := six_box (hqc2.ty _ _ _ _ HX.out (by decide))
        have hqd := hqc2.bare
        clear hqc hqc2
        have hqn : q < n.length := by rw [Hw3.out H6.out]; exact hlt
        obtain ⟨gn, on, rfl, hgn, hcn⟩ := name_at HN.out hqn
        have hcn := (keep_lo (hbB.trans (hqd.bel.mono HB1.out))).cell hgn hcn
        have hsn := Hw5.out n[q] (List.getElem_mem hqn)
        have hXq := HX6.out H6.out q hlt hqX hqn
        rw [hXq] at hj2
        have HXq : Hid (X[q] = qt n[q] ++ 58 :: pv l[q]) := hXq
        clear hXq
        have ct := rquoted_c (s := n[q]) (w := Wc) (by omega)
        go_wp2_with fail
        refine ct.mono ?_
        rintro e Wt ⟨⟨Tn, rfl, hTn⟩, bt⟩
        have hqt := hqd.below bt
        have hTs : Tn.size = (qt n[q]).length := by rw [← hTn, size_list]
        have HTn : Hid (Tn.data.toList = qt n[q]) := hTn
        clear hqd ct bt hTn hcn
        go_wp2_with (first | (at_builtin; refine list_text rfl _ _ rfl hqt rfl Tn rfl (by simp only [List.length_cons, List.length_nil, List.length_append] at *; omega) ?_))
        intro v2 W2 hq2
        rw [HTn.out] at hq2
        have hqu := hq2.lay [58] #[.int .u8 58] rfl
        obtain ⟨at2, nt, ct2, rfl⟩ := hq2.shape
        clear hqt hq2
        go_wp2_with (first | (at_builtin; refine list_bytes rfl _ _ rfl hqu rfl _ _ [58] rfl (by simp) (by simp only [List.length_cons, List.length_nil, List.length_append] at *; omega) ?_))
        intro v6 W6 hq6
        have hq6 := hq6.bare
        clear hqu
        have HQ6 : Hid (Pk W1.heap.size W1 W6 v6 (J ++ [44] ++ qt n[q] ++ [58]) []) := by
          show Pk W1.heap.size W1 W6 v6 _ []
          first | exact hq6 | simpa [List.append_assoc] using hq6
        obtain ⟨k0, k1, k2, k3, k4, k5⟩ := six_box (hq6.ty _ _ _ _ HX.out (by decide))
        have hbW6 : Below B W W6 := hbB.trans (hq6.bel.mono HB1.out)
        obtain ⟨x0, x1, x2, x3, x4, x5, rfl, d0, d1, d2, d3, d4, d5⟩ := (keep_lo hbW6).six hgB HSX.out
        have hinr := HIN.out.keep (keep_lo hbW6)
        obtain ⟨f1, f2, f3, f4, f5, f6, rfl, rfl, rfl, rfl, rfl, rfl⟩ := hinr.kinds
        have cv := Hm.out _ l[q] B W6 hinr (by have := hq6.le; have := HB1.out; omega) hwq (by simp only [List.length_append, List.length_cons, List.length_nil] at *; omega)
        clear hinr
        obtain ⟨a6, n6, c6, rfl⟩ := hq6.shape
        clear hq6
        go_wp2_with fail
        refine cv.mono ?_
        rintro e W7 ⟨⟨Tv, rfl, hTv⟩, b7⟩
        have hq7 := HQ6.out.below b7
        have hTs2 : Tv.size = (pv l[q]).length := by rw [← hTv, size_list]
        have HTv : Hid (Tv.data.toList = pv l[q]) := hTv
        clear hTv cv b7 d0 d1 d2 d3 d4 d5
        go_wp2_with (first | (at_builtin; refine list_text rfl _ _ rfl hq7 rfl Tv rfl (by simp only [List.length_cons, List.length_nil, List.length_append] at *; omega) ?_))
        intro v8 W8 hq8
        rw [HTv.out] at hq8
        have HP8 : Hid (Pk W1.heap.size W1 W8 v8 (jn (X.take (q + 1))) []) := by
          show Pk W1.heap.size W1 W8 v8 _ []
          rw [Hj1.out, HJ.out, HXq.out, if_neg Hq0.out]
          simpa [List.append_assoc] using hq8
        obtain ⟨a8, n8, c8, rfl⟩ := hq8.shape
        clear hq8 hq7
        go_wp2_with fail
        go_roundw
        case rel => exact ⟨q + 1, by omega, by go_num, HP8.out⟩
        case measure => simp only [intOf]; omega
    · have hlt' : decide ((q : Int) < (l.length : Int)) = false := by simp; omega
      rw [List.take_of_length_le (by have := HXl.out; omega)] at hp
      have hcv := own_conv hp.own
      have HPE : Hid (Below W.heap.size W wr) := hb0.trans (hp.bel.mono hb0.size)
      obtain ⟨a3, n3, c3, hsh⟩ := hp.shape
      subst hsh
      clear hp
      go_wp2_with fail
      go_ret
      exact ⟨⟨_, rfl, by simp⟩, HPE.out⟩
end Go.Proofs.YtopjadjaknmfeabGreatDoor.RTx
namespace Go.Proofs.YtopjadjaknmfeabGreatDoor.RVl
open Go.RowKit Go.Proofs.YtopjadjaknmfeabGreatDoor.Base Go.Proofs.YtopjadjaknmfeabGreatDoor.UBase Go.Proofs.YtopjadjaknmfeabGreatDoor.Spec Go.Proofs.YtopjadjaknmfeabGreatDoor.Byts Go.Proofs.YtopjadjaknmfeabGreatDoor.WPk Go.Proofs.YtopjadjaknmfeabGreatDoor.WRow Go.Proofs.YtopjadjaknmfeabGreatDoor.RQu Go.Proofs.YtopjadjaknmfeabGreatDoor.RTx Go.Proofs.YtopjadjaknmfeabGreatDoor.TextKey
set_option linter.unusedVariables false
set_option maxRecDepth 20000 in
set_option maxHeartbeats 800000 in
theorem rnull_c {W : World} {b : Bool} {i : Int} {s : ByteArray} {nv lv : Value} :
    Calls Tryz.prog 35 #[.agg #[.int .i64 1, .bool b, .int .i64 i, .string s, nv, lv]] W fun e W' => (∃ T, e = .returned (.string T) ∧ T.data.toList = [110, 117, 108, 108]) ∧ Below W.heap.size W W' := by
  have hb : Below W.heap.size W (W.alloc (.cells #[.int .i64 1, .bool b, .int .i64 i, .string s, nv, lv] 27)) := bx
  go_enter Tryz.func35, Tryz.ntmps35
  go_wp2_with fail
  go_ret
  exact ⟨⟨_, rfl, rfl⟩, hb⟩
set_option maxRecDepth 20000 in
set_option maxHeartbeats 800000 in
theorem rstr_c {W : World} {b : Bool} {i : Int} {s : ByteArray} {nv lv : Value} (hs : s.size ≤ 1000000000) :
    Calls Tryz.prog 35 #[.agg #[.int .i64 4, .bool b, .int .i64 i, .string s, nv, lv]] W fun e W' => (∃ T, e = .returned (.string T) ∧ T.data.toList = qt s) ∧ Below W.heap.size W W' := by
  have hb : Below W.heap.size W (W.alloc (.cells #[.int .i64 4, .bool b, .int .i64 i, .string s, nv, lv] 27)) := bx
  have ct := rquoted_c (s := s) (w := W.alloc (.cells #[.int .i64 4, .bool b, .int .i64 i, .string s, nv, lv] 27)) hs
  go_enter Tryz.func35, Tryz.ntmps35
  go_wp2_with fail
  refine ct.mono ?_
  rintro e w1 ⟨⟨T, rfl, hT⟩, b1⟩
  have HT : Hid (T.data.toList = qt s) := hT
  clear ct hT
  go_wp2_with fail
  go_ret
  exact ⟨⟨_, rfl, HT.out⟩, nx hb b1⟩
set_option maxRecDepth 20000 in
set_option maxHeartbeats 800000 in
theorem rplain_c {m : Nat} {u : Value} {k : Int} {b : Bool} {i : Int} {s : ByteArray} {n : List ByteArray} {l : List C} {W : World} (h : In false All W m u (.mk k b i s n l)) (h1 : (k == 1) = false) (h4 : (k == 4) = false) (h5 : (k == 5) = false) (h6 : (k == 6) = false) :
    Calls Tryz.prog 35 #[u] W fun e W' => e = .returned (.string (tx (.mk k b i s n l))) ∧ Below W.heap.size W W' := by
  obtain ⟨m', nv, lv, -, rfl, -⟩ := h.shape
  simp only [C.k, C.b, C.i, C.s] at h ⊢
  have hb : Below W.heap.size W (W.alloc (.cells #[.int .i64 k, .bool b, .int .i64 i, .string s, nv, lv] 27)) := bx
  have ct := rtext_c (h.below hb)
  generalize tx (.mk k b i s n l) = T at *
  generalize te (.mk k b i s n l) = E at *
  clear h
  go_enter Tryz.func35, Tryz.ntmps35
  go_wp2_with fail
  refine ct.mono ?_
  rintro e w1 ⟨rfl, b1⟩
  clear ct
  go_wp2_with fail
  go_ret
  exact ⟨rfl, nx hb b1⟩
theorem rputs : ∀ m, RPuts m
  | 0 => by
    intro u c B W hin
    rw [In] at hin
    exact hin.elim
  | m + 1 => by
    intro u c B W hin hB hw hl
    have hm := rputs m
    obtain ⟨k, b, i, s, n, l⟩ := c
    obtain ⟨r1, r2, r3, r4, r5, r6⟩ := wf_parts hw
    have hall : In false All W (m + 1) u (.mk k b i s n l) := In.weak (fun _ _ => trivial) false (fun h => h) (m + 1) (Nat.le_refl _) hin
    have hin0 := hin
    rw [in_iff] at hin
    obtain ⟨nv, lv, hu, hk, hi, hs, -, -⟩ := hin
    obtain rfl | rfl | rfl | rfl | rfl | rfl : k = 1 ∨ k = 2 ∨ k = 3 ∨ k = 4 ∨ k = 5 ∨ k = 6 := by omega
    · subst hu
      have := rnull_c (W := W) (b := b) (i := i) (s := s) (nv := nv) (lv := lv)
      simpa [pv, bd] using this
    · refine (rplain_c hall rfl rfl rfl rfl).mono ?_
      rintro e W' ⟨rfl, hb⟩
      refine ⟨⟨_, rfl, ?_⟩, hb⟩
      cases b <;> simp [tx, pv, bd]
    · refine (rplain_c hall rfl rfl rfl rfl).mono ?_
      rintro e W' ⟨rfl, hb⟩
      exact ⟨⟨_, rfl, by simp [tx, pv, bd]⟩, hb⟩
    · subst hu
      have := rstr_c (W := W) (b := b) (i := i) (s := s) (nv := nv) (lv := lv) (by omega)
      simpa [pv, bd] using this
    · exact rlist_c hm hin0 hB hw hl
    · exact rrec_c hm hin0 hB hw hl
end Go.Proofs.YtopjadjaknmfeabGreatDoor.RVl
namespace Go.Proofs.YtopjadjaknmfeabGreatDoor.RPrt
open Go.RowKit Go.Proofs.YtopjadjaknmfeabGreatDoor.Base Go.Proofs.YtopjadjaknmfeabGreatDoor.UBase Go.Proofs.YtopjadjaknmfeabGreatDoor.Spec Go.Proofs.YtopjadjaknmfeabGreatDoor.Byts Go.Proofs.YtopjadjaknmfeabGreatDoor.WPk Go.Proofs.YtopjadjaknmfeabGreatDoor.WRow Go.Proofs.YtopjadjaknmfeabGreatDoor.WChk Go.Proofs.YtopjadjaknmfeabGreatDoor.WPrt Go.Proofs.YtopjadjaknmfeabGreatDoor.RQu Go.Proofs.YtopjadjaknmfeabGreatDoor.RTx Go.Proofs.YtopjadjaknmfeabGreatDoor.RVl Go.Proofs.YtopjadjaknmfeabGreatDoor.RMeasure Go.Proofs.YtopjadjaknmfeabGreatDoor.Measure Go.Proofs.YtopjadjaknmfeabGreatDoor.Walk Go.Proofs.YtopjadjaknmfeabGreatDoor.Shallow
set_option linter.unusedVariables false
/-- v is a row of bytes behind block B that holds L. -/
def Sn (B : Nat) (w : World) (v : Value) (L : List UInt8) : Prop := ∃ g cap, v = .slice (some ⟨g, 0, none⟩) L.length cap ∧ B ≤ g ∧ g < w.heap.size ∧ ∀ j (h : j < L.length), w.cell? ⟨g, j, none⟩ = some (.int .u8 (L[j].toNat : Nat))
theorem conv_c (w : World) (T : ByteArray) : ∃ v W', (convert 9 22 (.string T)).run Tryz.prog w = .ok v W' ∧ Below w.heap.size w W' ∧ Sn w.heap.size W' v T.data.toList ∧ ∃ a n c, v = .slice a n c := by
  refine ⟨_, _, Lib.run_convert_string_bytes w 9 22 5 T Tryz.underlying9 Tryz.underlying22 Tryz.underlying5, ⟨rfl, rfl, rfl, ?_, fun k hk => Lib.bytesWorld_at_old w 5 T k hk⟩, ⟨w.heap.size, grownCap w T.size 0 5, by rw [size_list], Nat.le_refl _, ?_, fun j hj => ?_⟩, ⟨_, _, _, rfl⟩⟩
  · rw [Lib.bytesWorld_size]; omega
  · rw [Lib.bytesWorld_size]; omega
  · rw [size_list] at hj
    rw [Lib.bytesWorld_cell w 5 T j hj]
    have h' : j < T.data.size := hj
    simp [Array.getElem?_eq_getElem h']
set_option maxRecDepth 20000 in
set_option maxHeartbeats 800000 in
theorem rprint_of (AL : Look.AloneIs) {m : Nat} {u : Value} {c : C} {w : World} (hin : In false (Lo w.heap.size) w m u c) :
    Calls Tryz.prog 16 #[u] w fun e w' => ∃ v, e = .returned (.tuple #[v, .int .i64 (pe c)]) ∧ Below w.heap.size w w' ∧
      ((pe c = 0 ∧ Sn w.heap.size w' v (pv c)) ∨ (¬ pe c = 0 ∧ v = .slice none 0 0)) := by
  have hall : In false All w m u c := In.weak (fun _ _ => trivial) false (fun h => h) m (Nat.le_refl _) hin
  obtain ⟨v0, v1, v2, v3, v4, v5, rfl, -⟩ := hin.six
  have hb : Below w.heap.size w (w.alloc (.cells #[v0, v1, v2, v3, v4, v5] 27)) := bx
  have cc : Calls Tryz.prog 34 #[.agg #[v0, v1, v2, v3, v4, v5]] (w.alloc (.cells #[v0, v1, v2, v3, v4, v5] 27)) fun e w' => e = .returned (.int .i64 (pe c)) ∧ Below (w.alloc (.cells #[v0, v1, v2, v3, v4, v5] 27)).heap.size (w.alloc (.cells #[v0, v1, v2, v3, v4, v5] 27)) w' := rcheck_c AL (hall.below hb)
  have HP : Hid (∀ W, Below w.heap.size w W → pe c = 0 → Calls Tryz.prog 35 #[.agg #[v0, v1, v2, v3, v4, v5]] W fun e W' => (∃ T, e = .returned (.string T) ∧ T.data.toList = pv c) ∧ Below W.heap.size W W') := fun W h hz =>
    rputs m _ c w.heap.size W (hin.keep (keep_lo h)) h.size (chk hin hz).1 (by have := (chk hin hz).2; omega)
  generalize pe c = E at *
  have HX : Hid (∀ w1, Below (w.alloc (.cells #[v0, v1, v2, v3, v4, v5] 27)).heap.size (w.alloc (.cells #[v0, v1, v2, v3, v4, v5] 27)) w1 → w1.heap[w.heap.size]? = some (.cells #[v0, v1, v2, v3, v4, v5] 27 (0, 0)) ∧ Below w.heap.size w w1) :=
    fun w1 b1 => ⟨(b1.block _ (by simp)).trans (heap_alloc_new w _), hb.trans (b1.mono (by simp))⟩
  clear hin hall hb
  by_cases hz : E = 0
  · subst hz
    go_enter Tryz.func16, Tryz.ntmps16
    go_wp2_with (first | (go_at_call 34; refine cc.mono ?_; rintro e w1 ⟨rfl, b1⟩; obtain ⟨y0, y1, y2, y3, y4, y5⟩ := six_box (HX.out w1 b1).1; have cp := HP.out w1 (HX.out w1 b1).2 trivial; have HB1 : Hid (Below w.heap.size w w1) := (HX.out w1 b1).2) | (refine cp.mono ?_; rintro e w2 ⟨⟨T, rfl, hT⟩, b2⟩; obtain ⟨v2, w3, hcv, b3, hsn, a3, n3, c3, rfl⟩ := conv_c w2 T; rw [hT] at hsn; have HS : Hid (Sn w2.heap.size w3 (.slice a3 n3 c3) (pv c)) := hsn; have HB2 : Hid (Below w1.heap.size w1 w2) := b2; have HB3 : Hid (Below w2.heap.size w2 w3) := b3; clear hT b2 b3 hsn))
    refine bodyPost_ret (v := .tuple #[.slice a3 n3 c3, .int .i64 0]) (by simp [results, Tryz.results16, go_sem]) rfl ⟨_, rfl, nx (nx HB1.out HB2.out) HB3.out, .inl ⟨trivial, ?_⟩⟩
    obtain ⟨g, cap, e1, e2, e3, e4⟩ := HS.out
    exact ⟨g, cap, e1, by have := HB1.out.size; have := HB2.out.size; omega, e3, e4⟩
  · have hz' : (E == 0) = false := by simp [hz]
    go_enter Tryz.func16, Tryz.ntmps16
    go_wp2_with (first | (go_at_call 34; refine cc.mono ?_; rintro e w1 ⟨rfl, b1⟩; have hb2 := (HX.out w1 b1).2))
    refine bodyPost_ret (v := .tuple #[.slice none 0 0, .int .i64 E]) (by simp [results, Tryz.results16, go_sem]) rfl ⟨_, rfl, hb2, .inr ⟨hz, rfl⟩⟩
end Go.Proofs.YtopjadjaknmfeabGreatDoor.RPrt

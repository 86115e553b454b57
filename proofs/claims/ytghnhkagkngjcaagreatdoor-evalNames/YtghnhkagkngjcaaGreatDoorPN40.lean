import Derived.Lib.ItoaLen
import Derived.Test.YtghnhkagkngjcaaGreatDoorPN21
import Derived.Test.YtghnhkagkngjcaaGreatDoorPN23
import Derived.Test.YtghnhkagkngjcaaGreatDoorPN33
import Derived.Test.YtghnhkagkngjcaaGreatDoorPN36
import Derived.Test.YtghnhkagkngjcaaGreatDoorPN37
import Derived.Test.YtghnhkagkngjcaaGreatDoorPN39
set_option linter.unusedVariables false
set_option maxRecDepth 20000
set_option maxHeartbeats 3200000
namespace Go.Proofs.YtghnhkagkngjcaaGreatDoor.VNo
open Go.RowKit Base EPure VPure VSm VIn VJn VRs VVr VMp
def code (c : C) : Int := (Measure.ms 0 0 (Walk.pl 1 c)).2.2
def bad (bs : List Bn) : Bool := bs.any fun b => decide (code b.2 ≠ 0)
abbrev b7 (nm : ByteArray) (k : Int) (b : Bool) (i : Int) (s : ByteArray) (nv lv : Value) : Value := .agg #[.string nm, .int .i64 k, .bool b, .int .i64 i, .string s, nv, lv]
theorem isNone_c {m : Nat} {w : World} {c : C} {nm : ByteArray} {an al : Option Addr} {ln cn ll cl : Nat} (hin : Base.In false All w m (vl c.k c.b c.i c.s (.slice an ln cn) (.slice al ll cl)) c) (hd : Shallow.dep c ≤ 4097) :
  Calls Tryz.prog 36 #[b7 nm c.k c.b c.i c.s (.slice an ln cn) (.slice al ll cl)] w fun e w' => e = .returned (.bool (decide (code c ≠ 0))) ∧ Below w.heap.size w w' := by
 obtain ⟨W0, hW0⟩ : ∃ W0, w.alloc (.cells #[.string nm, .int .i64 c.k, .bool c.b, .int .i64 c.i, .string c.s, .slice an ln cn, .slice al ll cl] 43) = W0 := ⟨_, rfl⟩
 have hb0 : Below w.heap.size w W0 := by rw [← hW0]; exact (Below.refl _ w).alloc (Nat.le_refl _) _
 have hp : W0.heap[w.heap.size]? = some (.cells #[.string nm, .int .i64 c.k, .bool c.b, .int .i64 c.i, .string c.s, .slice an ln cn, .slice al ll cl] 43 (0, 0)) := by rw [← hW0]; exact heap_alloc_new w _
 have k1 : W0.cell? ⟨w.heap.size, 1, none⟩ = some (.int .i64 c.k) := by simp [World.cell?, hp]
 have k2 : W0.cell? ⟨w.heap.size, 2, none⟩ = some (.bool c.b) := by simp [World.cell?, hp]
 have k3 : W0.cell? ⟨w.heap.size, 3, none⟩ = some (.int .i64 c.i) := by simp [World.cell?, hp]
 have k4 : W0.cell? ⟨w.heap.size, 4, none⟩ = some (.string c.s) := by simp [World.cell?, hp]
 have k5 : W0.cell? ⟨w.heap.size, 5, none⟩ = some (.slice an ln cn) := by simp [World.cell?, hp]
 have k6 : W0.cell? ⟨w.heap.size, 6, none⟩ = some (.slice al ll cl) := by simp [World.cell?, hp]
 have cC := MeasB.check_c (hin.below hb0) hd
 have HB : Hid (Below w.heap.size w W0) := hb0
 obtain ⟨U, hU⟩ : ∃ U, code c = U := ⟨_, rfl⟩
 have hU' : (Measure.ms 0 0 (Walk.pl 1 c)).2.2 = U := hU
 rw [hU]
 rw [hU'] at cC
 have HDD : Hid ((!decide (U = 0)) = decide (U ≠ 0)) := by show (!decide (U = 0)) = decide (U ≠ 0); by_cases h : U = 0 <;> simp [h]
 generalize c.k = ck at *
 generalize c.b = cb at *
 generalize c.i = ci at *
 generalize c.s = cs at *
 clear hin hp hb0 hU hU' hd
 go_enter Tryz.func36, Tryz.ntmps36
 go_wp2_with fail
 try rw [hW0]
 refine cC.mono ?_
 rintro e W1 ⟨rfl, hb1⟩
 have HB1 : Hid (Below w.heap.size w W1) := HB.out.trans (hb1.mono HB.out.size)
 clear cC hb1 HB
 go_wp2_with fail
 go_ret
 exact ⟨by rw [← HDD.out]; rfl, HB1.out⟩
theorem index_c {K m : Nat} {w : World} {v : Value} {bs : List Bn} (hv : Bl K m w v bs) (hK : K ≤ w.heap.size) (hd : ∀ b ∈ bs, Shallow.dep b.2 ≤ 4097) :
  Calls Tryz.prog 59 #[v, .func (Fn.func 36) #[] #[]] w fun e w' => (∃ i : Int, e = .returned (.int .i64 i) ∧ decide (0 ≤ i) = bad bs) ∧ Below w.heap.size w w' := by
 obtain ⟨a, cap, rfl, hl, hm, hnil, hlen, -, hL⟩ := hv
 obtain ⟨n, hnn⟩ : ∃ n, bs.length = n := ⟨_, rfl⟩
 rw [hnn] at hl hlen ⊢
 have HK : Hid (K ≤ w.heap.size) := hK
 have HDp : Hid (∀ b ∈ bs, Shallow.dep b.2 ≤ 4097) := hd
 clear hK hd
 go_enter Tryz.func59, Tryz.ntmps59
 go_wp2_with fail
 go_loopw [8] (fun i wr => ∃ q : Nat, i = .int .i64 q ∧ q ≤ n ∧ bad (bs.take q) = false ∧ Below w.heap.size w wr) (fun i _ => n - (intOf i).toNat)
 case atStart => exact ⟨0, rfl, by omega, by rw [List.take_zero]; rfl, Below.refl _ _⟩
 case round =>
  obtain ⟨q, rfl, hq, hbad, hb⟩ := hrel
  have HBr : Hid (Below w.heap.size w wr) := hb
  by_cases hlt : q < n
  ·rcases hL with rfl | ⟨g, o, rfl, hg, hc⟩
   ·simp at hnn; omega
   ·obtain ⟨an, ln, cn, al, ll, cl, c0, c1, c2, c3, c4, c5, c6, hin⟩ := hc q (by omega)
    have kw : ∀ (q : Nat) (v : Value), w.cell? ⟨g, q, none⟩ = some v → wr.cell? ⟨g, q, none⟩ = some v := fun q v h => (World.cell?_of_block (w := w) (hb.block g (Nat.lt_of_lt_of_le hg HK.out))).trans h
    replace c0 := kw _ _ c0
    replace c1 := kw _ _ c1
    replace c2 := kw _ _ c2
    replace c3 := kw _ _ c3
    replace c4 := kw _ _ c4
    replace c5 := kw _ _ c5
    replace c6 := kw _ _ c6
    have cN := isNone_c (nm := bs[q].1) (in_low hin (hb.mono HK.out)).plain (HDp.out _ (List.getElem_mem _))
    have hst : bad (bs.take (q + 1)) = decide (code bs[q].2 ≠ 0) := by
     rw [List.take_succ_eq_append_getElem (by omega)]
     unfold bad at *
     rw [List.any_append, hbad]
     simp
    have HST : Hid (bad (bs.take (q + 1)) = decide (code bs[q].2 ≠ 0)) := hst
    have HAL : Hid (decide (code bs[q].2 ≠ 0) = true → bad bs = true) := fun h => by
     unfold bad
     exact List.any_eq_true.2 ⟨bs[q], List.getElem_mem _, h⟩
    have b1 : (0 : Int) ≤ (q : Int) := by omega
    have d0 : decide ((q : Int) < (n : Int)) = true := decide_eq_true (by omega)
    have b2 : (q : Int) < (n : Int) := by omega
    generalize decide (code bs[q].2 ≠ 0) = T at *
    generalize bs[q].2.k = vk at *
    generalize bs[q].2.b = vb at *
    generalize bs[q].2.i = vi at *
    generalize bs[q].2.s = vs at *
    generalize bs[q].1 = nm at *
    clear hc hin kw hst hb
    go_wp2_with fail
    refine cN.mono ?_
    rintro e W1 ⟨rfl, hb1⟩
    have HB1 : Hid (Below w.heap.size w W1) := HBr.out.trans (hb1.mono HBr.out.size)
    clear hb1 cN c0 c1 c2 c3 c4 c5 c6
    cases T with
    | true =>
     go_wp2_with fail
     go_ret
     exact ⟨⟨q, rfl, by rw [HAL.out (by trivial)]; exact decide_eq_true (by omega)⟩, HB1.out⟩
    | false =>
     go_wp2_with fail
     go_roundw
     case rel => exact ⟨q + 1, by go_num, by omega, HST.out, HB1.out⟩
     case measure => simp only [intOf]; omega
  ·obtain rfl : q = n := by omega
   have hnlt : decide ((q : Int) < (q : Int)) = false := by simp
   rw [← hnn, List.take_length] at hbad
   have HBD : Hid (bad bs = false) := hbad
   clear hL hbad hb
   go_wp2_with fail
   go_ret
   exact ⟨⟨-1, rfl, by rw [HBD.out]; decide⟩, HBr.out⟩
theorem contains_c {K m : Nat} {w : World} {v : Value} {bs : List Bn} (hv : Bl K m w v bs) (hK : K ≤ w.heap.size) (hd : ∀ b ∈ bs, Shallow.dep b.2 ≤ 4097) :
  Calls Tryz.prog 35 #[v, .func (Fn.func 36) #[] #[]] w fun e w' => e = .returned (.bool (bad bs)) ∧ Below w.heap.size w w' := by
 have cI := index_c hv hK hd
 clear hv hK hd
 go_enter Tryz.func35, Tryz.ntmps35
 go_wp2_with fail
 refine cI.mono ?_
 rintro e W1 ⟨⟨i, rfl, hi⟩, hb1⟩
 have HI : Hid (decide (0 ≤ i) = bad bs) := hi
 clear cI hi
 go_wp2_with fail
 go_ret
 exact ⟨by rw [← HI.out]; rfl, hb1⟩
end Go.Proofs.YtghnhkagkngjcaaGreatDoor.VNo
namespace Go.Proofs.YtghnhkagkngjcaaGreatDoor.VWf
open Go.RowKit Base EPure VPure VMp VNo VVa
open PPr (gd gdL gdL_cons)
theorem ft_fm {c : C} {d q : Int} (h : Fault.ft c d q = 0) : Fault.fm c = true := by
 unfold Fault.ft at h
 by_cases h1 : 16384 < q
 ·rw [if_pos h1] at h; cases h
 rw [if_neg h1] at h
 by_cases h2 : 24 < d
 ·rw [if_pos h2] at h; cases h
 rw [if_neg h2] at h
 by_cases h3 : c.k < 1 ∨ 6 < c.k
 ·rw [if_pos h3] at h; cases h
 rw [if_neg h3] at h
 by_cases h4 : Fault.fm c = true
 ·exact h4
 ·rw [if_neg h4] at h; cases h
theorem ms_fm : ∀ (r : List (Nat × C)) (D k : Nat), (Measure.ms D k r).2.2 = 0 → ∀ p ∈ r, Fault.fm p.2 = true
 | [], _, _, _, p, hp => absurd hp (by simp)
 | (d, c) :: r, D, k, h, p, hp => by
  rw [Measure.ms] at h
  by_cases hf : Fault.ft c d (k + 1 : Nat) = 0
  ·rw [if_pos hf] at h
   rcases List.mem_cons.1 hp with rfl | hp
   ·exact ft_fm hf
   ·exact ms_fm r _ _ h p hp
  ·rw [if_neg hf] at h; exact (hf h).elim
theorem fm_six {c : C} (h : Fault.fm c = true) (h6 : c.k = 6) : c.n.length ≤ c.l.length := by
 unfold Fault.fm Names.nmb at h
 simp only [Bool.and_eq_true, Bool.or_eq_true, Bool.not_eq_true', decide_eq_false_iff_not, decide_eq_true_eq] at h
 rcases h.2 with h | h
 ·exact (h h6).elim
 ·omega
theorem wfL_of : ∀ (l : List C) (d : Nat), (∀ p ∈ Walk.plL d l, Fault.fm p.2 = true) → wfL l
 | [], _, _ => by rw [wfL]; trivial
 | .mk k b i s n l :: t, d, h => by
  rw [Walk.plL] at h
  rw [wfL]
  refine ⟨⟨fun h6 => fm_six (h _ (List.mem_append_left _ (List.mem_cons_self ..))) h6, wfL_of l (d + 1) fun p hp => h p (List.mem_append_left _ (List.mem_cons_of_mem _ hp))⟩, wfL_of t d fun p hp => h p (List.mem_append_right _ hp)⟩
theorem code_wf {c : C} (h : code c = 0) : wf c := by
 have hm := ms_fm _ _ _ h
 obtain ⟨k, b, i, s, n, l⟩ := c
 rw [Walk.pl] at hm
 exact ⟨fun h6 => fm_six (hm _ (List.mem_cons_self ..)) h6, wfL_of l _ fun p hp => hm p (List.mem_cons_of_mem _ hp)⟩
theorem rho_mem : ∀ (bs : List Bn) (s : ByteArray) (acc : Option C) (c : C), bs.foldl (fun acc b => if b.1 = s then some b.2 else acc) acc = some c → acc = some c ∨ ∃ b ∈ bs, b.2 = c
 | [], _, acc, c, h => .inl h
 | b :: bs, s, acc, c, h => by
  rw [List.foldl_cons] at h
  rcases rho_mem bs s _ c h with h | ⟨b', hb, e⟩
  ·by_cases e : b.1 = s
   ·rw [if_pos e] at h; exact .inr ⟨b, List.mem_cons_self .., by injection h⟩
   ·rw [if_neg e] at h; exact .inl h
  ·exact .inr ⟨b', List.mem_cons_of_mem _ hb, e⟩
theorem rho_wf {bs : List Bn} (h : bad bs = false) (s : ByteArray) (c : C) (hc : rho bs s = some c) : wf c := by
 rcases rho_mem bs s none c hc with h' | ⟨b, hb, rfl⟩
 ·cases h'
 ·refine code_wf ?_
  have := List.any_eq_false.1 h b hb
  simpa using this
end Go.Proofs.YtghnhkagkngjcaaGreatDoor.VWf
namespace Go.Proofs.YtghnhkagkngjcaaGreatDoor.PLen
open Go.RowKit Base UBase EPure ENd PPl PFit PMay PTx PPr ERg
theorem rg_of {r : Bool} {S : Nat → Prop} {w : World} : ∀ {m : Nat} {v : Value} {c : Ex}, XBase.In r S w m v c → rgL [c] := by
 intro m
 induction m with
 | zero => intro v c h; rw [XBase.In] at h; exact h.elim
 | succ m ih =>
  intro v c h
  obtain ⟨o, i, s, l⟩ := c
  rw [XBase.In] at h
  obtain ⟨a, cap, h1, h2, h3, h4, h5, h6, h7, h8, h9⟩ := h
  refine rgL_cons.2 ⟨h3, ?_, by rw [rgL]; trivial⟩
  rcases h9 with ⟨rfl, -⟩ | ⟨g, q, -, -, hg, -⟩
  ·show rgL []; rw [rgL]; trivial
  ·exact rgL_all fun j hj => by
    obtain ⟨u, -, hu⟩ := hg j hj
    exact ih hu
theorem getD3 (p : List (List UInt8)) : (p.getD 0 []).length + (p.getD 1 []).length + (p.getD 2 []).length ≤ p.flatten.length := by
 rcases p with _ | ⟨a, _ | ⟨b, _ | ⟨c, t⟩⟩⟩ <;> simp
 omega
theorem word_len {s : ByteArray} {j : Nat} (h : word s j = true) : s.data.toList.length ≤ 32 := by
 unfold word at h
 simp only [Bool.and_eq_true, decide_eq_true_eq] at h
 have := h.2.1
 rwa [← ByteArray.size_data, ← Array.length_toList] at this
theorem wdl_len : ∀ k : Nat, (wdl.getD k ByteArray.empty).data.toList.length ≤ 8
 | 0 => by decide
 | 1 => by decide
 | 2 => by decide
 | 3 => by decide
 | k + 4 => by
  have : (wdl.getD (k + 4) ByteArray.empty) = ByteArray.empty := by simp [wdl]
  rw [this]; decide
theorem cll_len : ∀ k : Nat, (cll.getD k ByteArray.empty).data.toList.length ≤ 8
 | 0 => by decide
 | 1 => by decide
 | 2 => by decide
 | 3 => by decide
 | 4 => by decide
 | 5 => by decide
 | 6 => by decide
 | 7 => by decide
 | 8 => by decide
 | k + 9 => by
  have : (cll.getD (k + 9) ByteArray.empty) = ByteArray.empty := by simp [cll]
  rw [this]; decide
theorem ite_len {p : Prop} [Decidable p] {a b : List UInt8} {n : Nat} (ha : a.length ≤ n) (hb : b.length ≤ n) : (if p then a else b).length ≤ n := by
 by_cases h : p
 ·rwa [if_pos h]
 ·rwa [if_neg h]
theorem sgo_len (o : Int) : (sgo o).length ≤ 2 := by
 unfold sgo
 repeat refine ite_len (by decide) ?_
 decide
theorem tx_len {s : ByteArray} (h : tx s = true) : s.data.toList.length ≤ 4096 := by
 unfold tx tg at h
 simp only [Bool.and_eq_true, decide_eq_true_eq] at h
 have := h.1.1
 rwa [← ByteArray.size_data, ← Array.length_toList] at this
theorem bdy_len {o i : Int} {s : ByteArray} (p : List (List UInt8)) (hf : ft o i s = true) (hi : -9223372036854775808 ≤ i ∧ i ≤ 9223372036854775807) : (bdy o i s p).length ≤ p.flatten.length + 8300 := by
 have h3 := getD3 p
 unfold bdy
 unfold ft at hf
 by_cases h : o = 31
 ·rw [if_pos h]; simp only [List.length_append, List.length_cons, List.length_nil]; omega
 rw [if_neg h]
 by_cases h : o = 10
 ·rw [if_pos h]; simp only [List.length_cons]; omega
 rw [if_neg h]
 by_cases h : o = 11
 ·rw [if_pos h]; simp only [List.length_cons]; omega
 rw [if_neg h]
 by_cases h : o = 4
 ·rw [if_pos h]
  have := Lib.itoa_length_le i hi.1 hi.2
  omega
 rw [if_neg h]; rw [if_neg h] at hf
 by_cases h : o = 5
 ·rw [if_pos h]; rw [if_pos h] at hf
  simp only [Bool.and_eq_true] at hf
  have h1 := tx_len hf.2
  have h2 := fm_len s.data.toList
  unfold qt
  simp only [List.length_cons, List.length_append, List.length_nil]
  omega
 rw [if_neg h]; rw [if_neg h] at hf
 by_cases h : o = 6
 ·rw [if_pos h]; rw [if_pos h] at hf
  simp only [Bool.and_eq_true] at hf
  have := word_len hf.2.1
  omega
 rw [if_neg h]; rw [if_neg h] at hf
 by_cases h : o = 7
 ·rw [if_pos h]; rw [if_pos h] at hf
  simp only [Bool.and_eq_true] at hf
  have := word_len hf.2
  simp only [List.length_append, List.length_cons, List.length_nil]
  omega
 rw [if_neg h]; rw [if_neg h] at hf
 by_cases h : o = 8
 ·rw [if_pos h]; simp only [List.length_append, List.length_cons, List.length_nil]; omega
 rw [if_neg h]
 by_cases h : o = 9
 ·rw [if_pos h]
  have := cll_len i.toNat
  simp only [List.length_append, List.length_cons, List.length_nil]; omega
 rw [if_neg h]
 by_cases h : o ≤ 3
 ·rw [if_pos h]
  have := wdl_len o.toNat
  omega
 rw [if_neg h]
 have := sgo_len o
 simp only [List.length_append, List.length_cons, List.length_nil]; omega
theorem par_len (z o : Int) (t : List UInt8) : (PPr.par z o t).length ≤ t.length + 2 := by
 unfold PPr.par
 split
 ·simp
 ·omega
theorem prL_len : ∀ (n : Nat) (l : List Ex) (r : Nat) (z : List Int), SizeOf.sizeOf l ≤ n → rgL l → (mayL l r).1 = true → (prL l z).flatten.length + 9000 * (mayL l r).2 ≤ 9000 * r := by
 intro n
 induction n with
 | zero =>
  intro l r z h _ hm
  cases l with
  | nil => rw [mayL_nil, prL_nil]; simp
  | cons x t => exact absurd h (by simp)
 | succ n ih =>
  intro l r z h hg hm
  cases l with
  | nil => rw [mayL_nil, prL_nil]; simp
  | cons x t =>
   obtain ⟨o, i, s, k⟩ := x
   obtain ⟨gi, gk, gt⟩ := rgL_cons.1 hg
   rw [mayL] at hm ⊢
   by_cases hc : r = 0 ∨ (k.length : Int) ≠ kd o ∨ ft o i s = false
   ·rw [if_pos hc] at hm; cases hm
   ·rw [if_neg hc] at hm ⊢
    have h1 := ih k (r - 1) (kl o) (by simp at h; omega) gk
    have hf : ft o i s = true := by
     cases hf : ft o i s with
     | true => rfl
     | false => exact (hc (.inr (.inr hf))).elim
    have hb := bdy_len (prL k (kl o)) hf gi
    have hp := par_len (z.headD 0) o (bdy o i s (prL k (kl o)))
    cases e : mayL k (r - 1) with
    | mk b r' =>
     rw [e] at h1 hm
     cases b with
     | false => cases hm
     | true =>
      have h2 := ih t r' z.tail (by simp at h; omega) gt hm
      have h3 := h1 rfl
      rw [prL]
      simp only [List.flatten_cons, List.length_append] at *
      omega
theorem pr_len {x : Ex} (hg : rgL [x]) (hm : (mayL [x] 512).1 = true) : (pr (-1) x).length ≤ 100000000000 := by
 have h := prL_len _ [x] 512 [-1] (Nat.le_refl _) hg hm
 rw [pr1] at h
 simp only [List.flatten_cons, List.flatten_nil, List.append_nil] at h
 omega
theorem print_c {m : Nat} {x : Ex} {w : World} {u : Value} (hin : XBase.In false (fun b => b < w.heap.size) w m u x) (hT : ∀ W', Below w.heap.size w W' → Digits.Tab W') :
  Calls Tryz.prog 21 #[u] w fun e w' => e = .returned (.tuple #[.string ⟨(PPp.ptx x).toArray⟩, .int .i64 (PPp.pcd x)]) ∧ Below w.heap.size w w' :=
 PPp.print_c hin hT fun hm => pr_len (rg_of hin) hm
end Go.Proofs.YtghnhkagkngjcaaGreatDoor.PLen
namespace Go.Proofs.YtghnhkagkngjcaaGreatDoor.VEv
open Go.RowKit Base EPure VPure VSm VIn VJn VRs VVr VVa VRv VMp VBd VNo Fresh
open PMay (mayL)
def may (x : Ex) : Bool := (mayL [x] 512).1
theorem may_gd {x : Ex} (h : may x = true) : PPr.gd x := (PPr.gdL_cons.1 (PPr.gd_of _ [x] 512 (Nat.le_refl _) h)).1
theorem pcd_may (x : Ex) : (PPp.pcd x == 0) = may x := by
 unfold PPp.pcd may
 cases h : (mayL [x] 512).1 <;> simp []
theorem mayBe_c {n : Nat} {w : World} {o i : Int} {s : ByteArray} {lv : Value} {x : Ex} (hin : XBase.In false (fun b => b < w.heap.size) w n (xv o i s lv) x) (hT : Tb w) :
  Calls Tryz.prog 14 #[xv o i s lv] w fun e w' => e = .returned (.bool (may x)) ∧ Below w.heap.size w w' := by
 obtain ⟨W0, hW0⟩ : ∃ W0, w.alloc (.cells #[.int .i64 o, .int .i64 i, .string s, lv] 24) = W0 := ⟨_, rfl⟩
 have hb0 : Below w.heap.size w W0 := by rw [← hW0]; exact (Below.refl _ w).alloc (Nat.le_refl _) _
 have hp : W0.heap[w.heap.size]? = some (.cells #[.int .i64 o, .int .i64 i, .string s, lv] 24 (0, 0)) := by rw [← hW0]; exact heap_alloc_new w _
 obtain ⟨x0, x1, x2, x3⟩ := XBase.four_box hp
 have cP := PLen.print_c (w := W0) ((hin.below hb0).weak (fun b hb => Nat.lt_of_lt_of_le hb hb0.size) false (fun h => by cases h) n (Nat.le_refl _)) (hT.below hb0)
 have HB : Hid (Below w.heap.size w W0) := hb0
 have HD : Hid ((PPp.pcd x == 0) = may x) := pcd_may x
 generalize PPp.pcd x = pc at *
 generalize PPp.ptx x = pt at *
 clear hin hT hb0 hp
 go_enter Tryz.func14, Tryz.ntmps14
 go_wp2_with fail
 try rw [hW0]
 refine cP.mono ?_
 rintro e W1 ⟨rfl, hb1⟩
 have HB1 : Hid (Below w.heap.size w W1) := HB.out.trans (hb1.mono HB.out.size)
 clear cP hb1 HB
 go_wp2_with fail
 go_ret
 exact ⟨by rw [← HD.out]; rfl, HB1.out⟩
def EV (m : Nat) (w : World) (c : C) (cd : Int) (e : Ending) (w' : World) : Prop := Below w.heap.size w w' ∧ ∃ u, e = .returned (.tuple #[u, .int .i64 cd]) ∧ Fr w' m w.heap.size w'.heap.size u c
def vOf : Ans → C
 | .ok c => c
 | .error _ => zerC
def nOf : Ans → Int
 | .ok _ => 0
 | .error n => (n : Nat)
theorem eval_c {m n : Nat} {w : World} {o i : Int} {s : ByteArray} {lv v : Value} {x : Ex} {bs : List Bn} (hin : XBase.In false (fun b => b < w.heap.size) w n (xv o i s lv) x) (hv : Bl w.heap.size (m + 1) w v bs) (hd : ∀ b ∈ bs, Shallow.dep b.2 ≤ 4097) (hT : Tb w) (hm : may x = true) (hb : bad bs = false) (ho : ops okOp x) :
  Calls Tryz.prog 27 #[xv o i s lv, v] w fun e w' => EV (m + 1) w (vOf (ev (rho bs) x)) (nOf (ev (rho bs) x)) e w' := by
 obtain ⟨va, vc, rfl⟩ : ∃ a cap, v = .slice a bs.length cap := by obtain ⟨a, cap, h, -⟩ := hv; exact ⟨a, cap, h⟩
 obtain ⟨W0, hW0⟩ : ∃ W0, ((w.alloc (.cells #[.int .i64 o, .int .i64 i, .string s, lv] 24)).alloc (.cells #[.slice va bs.length vc] 44)).alloc (.cells #[.int .i64 0, .bool false, .int .i64 0, .string ⟨#[]⟩, .slice none 0 0, .slice none 0 0] 40) = W0 := ⟨_, rfl⟩
 have hs0 : W0.heap.size = w.heap.size + 3 := by rw [← hW0]; simp
 have hb0 : Below w.heap.size w W0 := by rw [← hW0]; exact (((Below.refl _ w).alloc (Nat.le_refl _) _).alloc (by simp) _).alloc (by simp; omega) _
 have hx : W0.heap[w.heap.size]? = some (.cells #[.int .i64 o, .int .i64 i, .string s, lv] 24 (0, 0)) := by rw [← hW0, Below.heap_alloc _ _ _ (by simp; omega), Below.heap_alloc _ _ _ (by simp), heap_alloc_new]
 have he : W0.heap[w.heap.size + 1]? = some (.cells #[.slice va bs.length vc] 44 (0, 0)) := by
  have := heap_alloc_new (w.alloc (.cells #[.int .i64 o, .int .i64 i, .string s, lv] 24)) (.cells #[.slice va bs.length vc] 44)
  rw [World.size_alloc] at this
  rw [← hW0, Below.heap_alloc _ _ _ (by simp)]
  exact this
 have hr : W0.heap[w.heap.size + 2]? = some (.cells #[.int .i64 0, .bool false, .int .i64 0, .string ⟨#[]⟩, .slice none 0 0, .slice none 0 0] 40 (0, 0)) := by
  have := heap_alloc_new ((w.alloc (.cells #[.int .i64 o, .int .i64 i, .string s, lv] 24)).alloc (.cells #[.slice va bs.length vc] 44)) (.cells #[.int .i64 0, .bool false, .int .i64 0, .string ⟨#[]⟩, .slice none 0 0, .slice none 0 0] 40)
  rw [World.size_alloc, World.size_alloc] at this
  rw [← hW0]
  exact this
 obtain ⟨x0, x1, x2, x3⟩ := XBase.four_box hx
 have e0 : W0.cell? ⟨w.heap.size + 1, 0, none⟩ = some (.slice va bs.length vc) := by simp [World.cell?, he]
 have HXW0 : Hid (W0.heap[w.heap.size]? = some (.cells #[.int .i64 o, .int .i64 i, .string s, lv] 24 (0, 0))) := hx
 have HEW0 : Hid (W0.heap[w.heap.size + 1]? = some (.cells #[.slice va bs.length vc] 44 (0, 0))) := he
 have HRsW0 : Hid (W0.heap[w.heap.size + 2]? = some (.cells #[.int .i64 0, .bool false, .int .i64 0, .string ⟨#[]⟩, .slice none 0 0, .slice none 0 0] 40 (0, 0))) := hr
 have HBW0 : Hid (Below w.heap.size w W0) := hb0
 have HXi : Hid (∀ W, Below w.heap.size w W → XBase.In false (fun b => b < w.heap.size) W n (xv o i s lv) x) := fun W h => hin.keep (fun b hb _ => h.block b hb)
 have HVi : Hid (∀ W, Below w.heap.size w W → Bl w.heap.size (m + 1) W (.slice va bs.length vc) bs) := fun W h => hv.low h
 have HTi : Hid (∀ W, Below w.heap.size w W → Tb W) := fun W h => hT.below h
 have HDi : Hid (∀ b ∈ bs, Shallow.dep b.2 ≤ 4097) := hd
 have HGi : Hid (PPr.gd x ∧ ops okOp x) := ⟨may_gd hm, ho⟩
 have HWi : Hid (∀ s c, rho bs s = some c → wf c) := fun s c h => VWf.rho_wf hb s c h
 have cM := mayBe_c (w := W0) ((HXi.out W0 hb0).weak (fun b hb => Nat.lt_of_lt_of_le hb hb0.size) false (fun h => by cases h) n (Nat.le_refl _)) (HTi.out W0 hb0)
 rw [hm] at cM
 obtain ⟨A, hA⟩ : ∃ A, ev (rho bs) x = A := ⟨_, rfl⟩
 rw [hA]
 have HA : Hid (ev (rho bs) x = A) := hA
 have HBad : Hid (bad bs = false) := hb
 clear hin hv hd hT hm ho hb hx he hr hb0 hA
 go_enter Tryz.func27, Tryz.ntmps27
 go_wp2_with fail
 try rw [hW0]
 refine cM.mono ?_
 rintro e W1 ⟨rfl, hb1⟩
 have hs1 := hb1.size
 have HBW1 : Hid (Below w.heap.size w W1) := HBW0.out.trans (hb1.mono HBW0.out.size)
 have hxW1 := (hb1.block w.heap.size (by omega)).trans HXW0.out
 have heW1 := (hb1.block (w.heap.size + 1) (by omega)).trans HEW0.out
 have hrW1 := (hb1.block (w.heap.size + 2) (by omega)).trans HRsW0.out
 obtain ⟨x0, x1, x2, x3⟩ := XBase.four_box hxW1
 have e0 : W1.cell? ⟨w.heap.size + 1, 0, none⟩ = some (.slice va bs.length vc) := by simp [World.cell?, heW1]
 have HXW1 : Hid (W1.heap[w.heap.size]? = some (.cells #[.int .i64 o, .int .i64 i, .string s, lv] 24 (0, 0))) := hxW1
 have HEW1 : Hid (W1.heap[w.heap.size + 1]? = some (.cells #[.slice va bs.length vc] 44 (0, 0))) := heW1
 have HRsW1 : Hid (W1.heap[w.heap.size + 2]? = some (.cells #[.int .i64 0, .bool false, .int .i64 0, .string ⟨#[]⟩, .slice none 0 0, .slice none 0 0] 40 (0, 0))) := hrW1
 clear hxW1 heW1 hrW1
 have cC := contains_c (HVi.out W1 HBW1.out) HBW1.out.size HDi.out
 rw [HBad.out] at cC
 clear cM hb1 hW0
 go_wp2_with fail
 refine cC.mono ?_
 rintro e W2 ⟨rfl, hb2⟩
 have hs2 := hb2.size
 have HBW2 : Hid (Below w.heap.size w W2) := HBW1.out.trans (hb2.mono HBW1.out.size)
 have hxW2 := (hb2.block w.heap.size (by omega)).trans HXW1.out
 have heW2 := (hb2.block (w.heap.size + 1) (by omega)).trans HEW1.out
 have hrW2 := (hb2.block (w.heap.size + 2) (by omega)).trans HRsW1.out
 obtain ⟨x0, x1, x2, x3⟩ := XBase.four_box hxW2
 have e0 : W2.cell? ⟨w.heap.size + 1, 0, none⟩ = some (.slice va bs.length vc) := by simp [World.cell?, heW2]
 have HXW2 : Hid (W2.heap[w.heap.size]? = some (.cells #[.int .i64 o, .int .i64 i, .string s, lv] 24 (0, 0))) := hxW2
 have HEW2 : Hid (W2.heap[w.heap.size + 1]? = some (.cells #[.slice va bs.length vc] 44 (0, 0))) := heW2
 have HRsW2 : Hid (W2.heap[w.heap.size + 2]? = some (.cells #[.int .i64 0, .bool false, .int .i64 0, .string ⟨#[]⟩, .slice none 0 0, .slice none 0 0] 40 (0, 0))) := hrW2
 clear hxW2 heW2 hrW2
 have cP := places_c (HVi.out W2 HBW2.out) HBW2.out.size
 clear cC hb2
 go_wp2_with fail
 refine cP.mono ?_
 rintro e W3 ⟨rfl, ⟨D, hown, hMb⟩, hb3⟩
 have hs3 := hb3.size
 have HBW3 : Hid (Below w.heap.size w W3) := HBW2.out.trans (hb3.mono HBW2.out.size)
 have hxW3 := (hb3.block w.heap.size (by omega)).trans HXW2.out
 have heW3 := (hb3.block (w.heap.size + 1) (by omega)).trans HEW2.out
 have hrW3 := (hb3.block (w.heap.size + 2) (by omega)).trans HRsW2.out
 obtain ⟨x0, x1, x2, x3⟩ := XBase.four_box hxW3
 have e0 : W3.cell? ⟨w.heap.size + 1, 0, none⟩ = some (.slice va bs.length vc) := by simp [World.cell?, heW3]
 have HXW3 : Hid (W3.heap[w.heap.size]? = some (.cells #[.int .i64 o, .int .i64 i, .string s, lv] 24 (0, 0))) := hxW3
 have HEW3 : Hid (W3.heap[w.heap.size + 1]? = some (.cells #[.slice va bs.length vc] 44 (0, 0))) := heW3
 have HRsW3 : Hid (W3.heap[w.heap.size + 2]? = some (.cells #[.int .i64 0, .bool false, .int .i64 0, .string ⟨#[]⟩, .slice none 0 0, .slice none 0 0] 40 (0, 0))) := hrW3
 clear hxW3 heW3 hrW3
 have hM2 : W2.heap.size < W3.heap.size := by obtain ⟨es, c, h1, -⟩ := hown; exact (Array.getElem?_eq_some_iff.1 h1).1
 obtain ⟨Wz, hWz⟩ : ∃ Wz, W3.alloc (.cells #[.map none] 68) = Wz := ⟨_, rfl⟩
 have hz : Wz.heap[W3.heap.size]? = some (.cells #[.map none] 68 (0, 0)) := by rw [← hWz]; exact heap_alloc_new W3 _
 have hbz : Below W3.heap.size W3 Wz := by rw [← hWz]; exact (Below.refl _ W3).alloc (Nat.le_refl _) _
 have hsz : Wz.heap.size = W3.heap.size + 1 := by rw [← hWz]; simp
 have z0 : Wz.cell? ⟨W3.heap.size, 0, none⟩ = some (.map none) := by simp [World.cell?, hz]
 have zf := frozen_box hz 0
 obtain ⟨W4, hW4⟩ : ∃ W4, Wz.setCell ⟨W3.heap.size, 0, none⟩ (.map (some W2.heap.size)) = W4 := ⟨_, rfl⟩
 have hm4 : W4.heap[W3.heap.size]? = some (.cells #[.map (some W2.heap.size)] 68 (0, 0)) := by rw [← hW4]; simp [World.setCell, Array.getElem?_modify, hz]
 have hb4 : Below W3.heap.size W3 W4 := by rw [← hW4]; exact hbz.setCell (p := ⟨W3.heap.size, 0, none⟩) (Nat.le_refl _) _
 have hs4 : W4.heap.size = W3.heap.size + 1 := by rw [← hW4]; simp [World.setCell, hsz]
 have HBW4 : Hid (Below w.heap.size w W4) := HBW3.out.trans (hb4.mono HBW3.out.size)
 have hxW4 := (hb4.block w.heap.size (by omega)).trans HXW3.out
 have heW4 := (hb4.block (w.heap.size + 1) (by omega)).trans HEW3.out
 have hrW4 := (hb4.block (w.heap.size + 2) (by omega)).trans HRsW3.out
 obtain ⟨x0, x1, x2, x3⟩ := XBase.four_box hxW4
 have e0 : W4.cell? ⟨w.heap.size + 1, 0, none⟩ = some (.slice va bs.length vc) := by simp [World.cell?, heW4]
 have heW4' := heW4
 have HXW4 : Hid (W4.heap[w.heap.size]? = some (.cells #[.int .i64 o, .int .i64 i, .string s, lv] 24 (0, 0))) := hxW4
 have HEW4 : Hid (W4.heap[w.heap.size + 1]? = some (.cells #[.slice va bs.length vc] 44 (0, 0))) := heW4
 have HRsW4 : Hid (W4.heap[w.heap.size + 2]? = some (.cells #[.int .i64 0, .bool false, .int .i64 0, .string ⟨#[]⟩, .slice none 0 0, .slice none 0 0] 40 (0, 0))) := hrW4
 clear hxW4 heW4 hrW4
 have hBd := bound_c (Mq := W3.heap.size) (Eb := w.heap.size + 1) hm4 heW4' (by omega) (own_map_below hown hb4 hM2) hMb (HVi.out W4 HBW4.out) (by omega)
 have cR := reckon_c (Kk := w.heap.size) (HXi.out W4 HBW4.out) (by omega) HWi.out HGi.out.1 HGi.out.2 (HTi.out W4 HBW4.out) hBd
 rw [HA.out] at cR
 clear cP hb3 hb4 hm4 heW4' hown hMb hBd hz hbz hsz
 go_wp2_with fail
 try rw [hW4]
 refine cR.mono ?_
 rintro e W5 ⟨hb5, hR⟩
 have hs5 := hb5.size
 have HBW5 : Hid (Below w.heap.size w W5) := HBW4.out.trans (hb5.mono HBW4.out.size)
 have hxW5 := (hb5.block w.heap.size (by omega)).trans HXW4.out
 have heW5 := (hb5.block (w.heap.size + 1) (by omega)).trans HEW4.out
 have hrW5 := (hb5.block (w.heap.size + 2) (by omega)).trans HRsW4.out
 obtain ⟨x0, x1, x2, x3⟩ := XBase.four_box hxW5
 have e0 : W5.cell? ⟨w.heap.size + 1, 0, none⟩ = some (.slice va bs.length vc) := by simp [World.cell?, heW5]
 have HXW5 : Hid (W5.heap[w.heap.size]? = some (.cells #[.int .i64 o, .int .i64 i, .string s, lv] 24 (0, 0))) := hxW5
 have HEW5 : Hid (W5.heap[w.heap.size + 1]? = some (.cells #[.slice va bs.length vc] 44 (0, 0))) := heW5
 have HRsW5 : Hid (W5.heap[w.heap.size + 2]? = some (.cells #[.int .i64 0, .bool false, .int .i64 0, .string ⟨#[]⟩, .slice none 0 0, .slice none 0 0] 40 (0, 0))) := hrW5
 clear hxW5 heW5 hrW5
 obtain ⟨vk, vb, vi, vs, an, ln, cn, al, ll, cl, hsh, hfr⟩ : ∃ vk vb vi vs an ln cn al ll cl, e = .returned (.tuple #[vl vk vb vi vs (.slice an ln cn) (.slice al ll cl), .int .i64 (nOf A)]) ∧ Base.In false (fun b => b < w.heap.size) W5 (m + 1) (vl vk vb vi vs (.slice an ln cn) (.slice al ll cl)) (vOf A) := by
  cases A with
  | error c => exact ⟨0, false, 0, ⟨#[]⟩, none, 0, 0, none, 0, 0, hR, in_zer _ _ m⟩
  | ok c =>
   obtain ⟨u, rfl, hi⟩ := hR
   obtain ⟨an, ln, cn, al, ll, cl, rfl⟩ := in_shape hi
   exact ⟨_, _, _, _, an, ln, cn, al, ll, cl, rfl, hi⟩
 subst hsh
 obtain ⟨W6, hW6⟩ : ∃ W6, W5.alloc (.cells #[.int .i64 0, .bool false, .int .i64 0, .string ⟨#[]⟩, .slice none 0 0, .slice none 0 0] 40) = W6 := ⟨_, rfl⟩
 have hz6 : W6.heap[W5.heap.size]? = some (.cells #[.int .i64 0, .bool false, .int .i64 0, .string ⟨#[]⟩, .slice none 0 0, .slice none 0 0] 40 (0, 0)) := by rw [← hW6]; exact heap_alloc_new _ _
 have hb6 : Below W5.heap.size W5 W6 := by rw [← hW6]; exact (Below.refl _ _).alloc (Nat.le_refl _) _
 obtain ⟨n0, n1, n2, n3, n4, n5⟩ := six_box hz6
 have nf0 := frozen_box hz6 0
 have nf1 := frozen_box hz6 1
 have nf2 := frozen_box hz6 2
 have nf3 := frozen_box hz6 3
 have nf4 := frozen_box hz6 4
 have nf5 := frozen_box hz6 5
 obtain ⟨W7, hW7⟩ : ∃ W7, ((((((W6.setCell ⟨W5.heap.size, 0, none⟩ (.int .i64 vk)).setCell ⟨W5.heap.size, 1, none⟩ (.bool vb)).setCell ⟨W5.heap.size, 2, none⟩ (.int .i64 vi)).setCell ⟨W5.heap.size, 3, none⟩ (.string vs)).setCell ⟨W5.heap.size, 4, none⟩ (.slice an ln cn)).setCell ⟨W5.heap.size, 5, none⟩ (.slice al ll cl)) = W7 := ⟨_, rfl⟩
 obtain ⟨a1, a2, a3, a4⟩ := set6 _ _ _ _ _ _ hz6 hW7
 have hb7 : Below W5.heap.size W5 W7 := a4 _ _ (Nat.le_refl _) hb6
 have hs7 : W5.heap.size + 1 ≤ W7.heap.size := by have := (Array.getElem?_eq_some_iff.1 a1).1; omega
 have HBW7 : Hid (Below w.heap.size w W7) := HBW5.out.trans (hb7.mono HBW5.out.size)
 have hxW7 := (hb7.block w.heap.size (by omega)).trans HXW5.out
 have heW7 := (hb7.block (w.heap.size + 1) (by omega)).trans HEW5.out
 have hrW7 := (hb7.block (w.heap.size + 2) (by omega)).trans HRsW5.out
 obtain ⟨x0, x1, x2, x3⟩ := XBase.four_box hxW7
 have e0 : W7.cell? ⟨w.heap.size + 1, 0, none⟩ = some (.slice va bs.length vc) := by simp [World.cell?, heW7]
 have HXW7 : Hid (W7.heap[w.heap.size]? = some (.cells #[.int .i64 o, .int .i64 i, .string s, lv] 24 (0, 0))) := hxW7
 have HEW7 : Hid (W7.heap[w.heap.size + 1]? = some (.cells #[.slice va bs.length vc] 44 (0, 0))) := heW7
 have HRsW7 : Hid (W7.heap[w.heap.size + 2]? = some (.cells #[.int .i64 0, .bool false, .int .i64 0, .string ⟨#[]⟩, .slice none 0 0, .slice none 0 0] 40 (0, 0))) := hrW7
 clear hxW7 heW7 hrW7
 obtain ⟨g0, g1, g2, g3, g4, g5⟩ := six_box a1
 have cF := Copied.copied_c (w := W7) (in_low hfr (hb7.mono (by omega))).plain
 clear cR hb5 hb6 hb7 hz6 hfr a1 a2 a3 a4 hR
 go_wp2_with fail
 refine cF.mono ?_
 rintro e W8 ⟨u, rfl, hfr, hb8⟩
 have hs8 := hb8.size
 have HBW8 : Hid (Below w.heap.size w W8) := HBW7.out.trans (hb8.mono HBW7.out.size)
 have hr8 := (hb8.block (w.heap.size + 2) (by omega)).trans HRsW7.out
 obtain ⟨un, uln, ucn, ul, ull, ucl, rfl⟩ := in_shape hfr.in
 obtain ⟨n0, n1, n2, n3, n4, n5⟩ := six_box hr8
 have mf0 := frozen_box hr8 0
 have mf1 := frozen_box hr8 1
 have mf2 := frozen_box hr8 2
 have mf3 := frozen_box hr8 3
 have mf4 := frozen_box hr8 4
 have mf5 := frozen_box hr8 5
 obtain ⟨W9, hW9⟩ : ∃ W9, ((((((W8.setCell ⟨w.heap.size + 2, 0, none⟩ (.int .i64 (vOf A).k)).setCell ⟨w.heap.size + 2, 1, none⟩ (.bool (vOf A).b)).setCell ⟨w.heap.size + 2, 2, none⟩ (.int .i64 (vOf A).i)).setCell ⟨w.heap.size + 2, 3, none⟩ (.string (vOf A).s)).setCell ⟨w.heap.size + 2, 4, none⟩ (.slice un uln ucn)).setCell ⟨w.heap.size + 2, 5, none⟩ (.slice ul ull ucl)) = W9 := ⟨_, rfl⟩
 obtain ⟨a1, a2, a3, a4⟩ := set6 _ _ _ _ _ _ hr8 hW9
 obtain ⟨y0, y1, y2, y3, y4, y5⟩ := six_box a1
 have HQ : Hid (Below w.heap.size w W9) := HBW8.out.trans (a4 _ _ (by omega) (Below.refl _ _))
 have HF : Hid (Fr W9 (m + 1) w.heap.size W9.heap.size (vl (vOf A).k (vOf A).b (vOf A).i (vOf A).s (.slice un uln ucn) (.slice ul ull ucl)) (vOf A)) := Copied.Fr.weak (hfr.keep (w' := W9) (fun b hb _ => a2 b (by have := hb.1; omega))) (by omega) (by omega)
 clear cF hb8 hfr hr8 a1 a2 a4
 go_wp2_with fail
 refine bodyPost_ret (v := .tuple #[vl (vOf A).k (vOf A).b (vOf A).i (vOf A).s (.slice un uln ucn) (.slice ul ull ucl), .int .i64 (nOf A)]) (by simp [results, Tryz.results27, go_sem, y0, y1, y2, y3, y4, y5]) rfl ?_
 exact ⟨HQ.out, _, rfl, HF.out⟩
end Go.Proofs.YtghnhkagkngjcaaGreatDoor.VEv
namespace Go.Proofs.YtghnhkagkngjcaaGreatDoor.VOf
open Go.RowKit Base EPure VPure VSm VIn VJn VRs VVr VVa VRv VMp VBd VNo VEv Fresh
theorem Bl.mono {K K' m : Nat} {w : World} {v : Value} {bs : List Bn} (h : Bl K m w v bs) (hK : K ≤ K') : Bl K' m w v bs := by
 obtain ⟨a, cap, h1, h2, h3, h4, h5, h6, h7⟩ := h
 refine ⟨a, cap, h1, h2, h3, h4, h5, h6, ?_⟩
 rcases h7 with h7 | ⟨g, o, e, hg, hc⟩
 ·exact .inl h7
 ·refine .inr ⟨g, o, e, Nat.lt_of_lt_of_le hg hK, fun j hj => ?_⟩
  obtain ⟨an, ln, cn, al, ll, cl, c0, c1, c2, c3, c4, c5, c6, hin⟩ := hc j hj
  exact ⟨an, ln, cn, al, ll, cl, c0, c1, c2, c3, c4, c5, c6, hin.weak (fun b hb => Nat.lt_of_lt_of_le hb hK) false (fun h => by cases h) m (Nat.le_refl _)⟩
structure TX (w : World) : Prop where
 tab : Digits.Tab w
 utf : EChr.Tabs w
 lt1 : 2 < w.heap.size
 lt2 : 3 < w.heap.size
theorem TX.later {w w' : World} (h : TX w) (hb : Below w.heap.size w w') : TX w' :=
 ⟨h.tab.later hb, ECh.tab_keep h.utf (hb.block _ h.lt1) (hb.block _ h.lt2), Nat.lt_of_lt_of_le h.lt1 hb.size, Nat.lt_of_lt_of_le h.lt2 hb.size⟩
theorem TX.tb {w : World} (h : TX w) : Tb w := fun W' hb => h.tab.later hb
theorem num_c (x : Int) (w : World) : Calls Tryz.prog 26 #[.int .i64 x] w fun e w' => e = .returned (.int .i64 x) ∧ w' = w := by
 go_enter Tryz.func26, Tryz.ntmps26
 go_wp2_with fail
 go_ret
 exact ⟨rfl, rfl⟩
theorem of_c {K m : Nat} {w : World} {s : ByteArray} {v : Value} {x : Ex} {bs : List Bn} (hs : s.size ≤ 140737488351300) (hp : prs s = .ok x) (hv : Bl K (m + 1) w v bs) (hK : K ≤ w.heap.size) (hd : ∀ b ∈ bs, Shallow.dep b.2 ≤ 4097) (hT : TX w) (hm : may x = true) (hb : bad bs = false) (ho : ops okOp x) :
  Calls Tryz.prog 20 #[.string s, v] w fun e w' => EV (m + 1) w (vOf (ev (rho bs) x)) (nOf (ev (rho bs) x)) e w' := by
 have hvv := hv
 obtain ⟨va, vc, rfl⟩ : ∃ a cap, v = .slice a bs.length cap := by obtain ⟨a, cap, h, -⟩ := hv; exact ⟨a, cap, h⟩
 obtain ⟨W0, hW0⟩ : ∃ W0, w.alloc (.cells #[.int .i64 0, .bool false, .int .i64 0, .string ⟨#[]⟩, .slice none 0 0, .slice none 0 0] 40) = W0 := ⟨_, rfl⟩
 have hb0 : Below w.heap.size w W0 := by rw [← hW0]; exact (Below.refl _ w).alloc (Nat.le_refl _) _
 have hs0 : W0.heap.size = w.heap.size + 1 := by rw [← hW0]; simp
 have hr : W0.heap[w.heap.size]? = some (.cells #[.int .i64 0, .bool false, .int .i64 0, .string ⟨#[]⟩, .slice none 0 0, .slice none 0 0] 40 (0, 0)) := by rw [← hW0]; exact heap_alloc_new _ _
 have hT0 := hT.later hb0
 have cP := EPs.parse_c (w := W0) hs hT0.utf ⟨hT0.lt1, hT0.lt2⟩
 rw [hp] at cP
 have HR0 : Hid (W0.heap[w.heap.size]? = some (.cells #[.int .i64 0, .bool false, .int .i64 0, .string ⟨#[]⟩, .slice none 0 0, .slice none 0 0] 40 (0, 0))) := hr
 have HB0 : Hid (Below w.heap.size w W0) := hb0
 have HVi : Hid (∀ W, Below w.heap.size w W → Bl W.heap.size (m + 1) W (.slice va bs.length vc) bs) := fun W h => Bl.mono (hvv.low (h.mono hK)) (Nat.le_trans hK h.size)
 have HT : Hid (TX w) := hT
 have HD : Hid (∀ b ∈ bs, Shallow.dep b.2 ≤ 4097) := hd
 have HM : Hid (may x = true ∧ bad bs = false ∧ ops okOp x) := ⟨hm, hb, ho⟩
 obtain ⟨A, hA⟩ : ∃ A, ev (rho bs) x = A := ⟨_, rfl⟩
 rw [hA]
 have HA : Hid (ev (rho bs) x = A) := hA
 clear hv hvv hd hT hm hb ho hr hb0 hT0 hA hp hs
 go_enter Tryz.func20, Tryz.ntmps20
 go_wp2_with fail
 try rw [hW0]
 refine cP.mono ?_
 rintro e W1 ⟨hb1, mm, xa, xc, rfl, hin⟩
 have hs1 := hb1.size
 have HR1 : Hid (W1.heap[w.heap.size]? = some (.cells #[.int .i64 0, .bool false, .int .i64 0, .string ⟨#[]⟩, .slice none 0 0, .slice none 0 0] 40 (0, 0))) := (hb1.block _ (by omega)).trans HR0.out
 have HB1 : Hid (Below w.heap.size w W1) := HB0.out.trans (hb1.mono HB0.out.size)
 clear cP hb1 hW0
 obtain ⟨W2, hW2⟩ : ∃ W2, W1.alloc (.cells #[.int .i64 0, .int .i64 0, .string ⟨#[]⟩, .slice none 0 0] 24) = W2 := ⟨_, rfl⟩
 have hz : W2.heap[W1.heap.size]? = some (.cells #[.int .i64 0, .int .i64 0, .string ⟨#[]⟩, .slice none 0 0] 24 (0, 0)) := by rw [← hW2]; exact heap_alloc_new _ _
 have hb2 : Below W1.heap.size W1 W2 := by rw [← hW2]; exact (Below.refl _ _).alloc (Nat.le_refl _) _
 have hs2 : W2.heap.size = W1.heap.size + 1 := by rw [← hW2]; simp
 obtain ⟨z0, z1, z2, z3⟩ := XBase.four_box hz
 have zf0 := frozen_box hz 0
 have zf1 := frozen_box hz 1
 have zf2 := frozen_box hz 2
 have zf3 := frozen_box hz 3
 obtain ⟨W3, hW3⟩ : ∃ W3, (((W2.setCell ⟨W1.heap.size, 0, none⟩ (.int .i64 x.o)).setCell ⟨W1.heap.size, 1, none⟩ (.int .i64 x.i)).setCell ⟨W1.heap.size, 2, none⟩ (.string x.s)).setCell ⟨W1.heap.size, 3, none⟩ (.slice xa x.l.length xc) = W3 := ⟨_, rfl⟩
 have h3 : W3.heap[W1.heap.size]? = some (.cells #[.int .i64 x.o, .int .i64 x.i, .string x.s, .slice xa x.l.length xc] 24 (0, 0)) := by rw [← hW3]; simp [World.setCell, Array.getElem?_modify, hz]
 have hb3 : Below W1.heap.size W1 W3 := by rw [← hW3]; exact (((hb2.setCell (p := ⟨W1.heap.size, 0, none⟩) (Nat.le_refl _) _).setCell (p := ⟨W1.heap.size, 1, none⟩) (Nat.le_refl _) _).setCell (p := ⟨W1.heap.size, 2, none⟩) (Nat.le_refl _) _).setCell (p := ⟨W1.heap.size, 3, none⟩) (Nat.le_refl _) _
 have hs3 : W3.heap.size = W1.heap.size + 1 := by rw [← hW3]; simp [World.setCell, hs2]
 obtain ⟨x0, x1, x2, x3⟩ := XBase.four_box h3
 have HB3 : Hid (Below w.heap.size w W3) := HB1.out.trans (hb3.mono HB1.out.size)
 have HR3 : Hid (W3.heap[w.heap.size]? = some (.cells #[.int .i64 0, .bool false, .int .i64 0, .string ⟨#[]⟩, .slice none 0 0, .slice none 0 0] 40 (0, 0))) := (hb3.block _ (by omega)).trans HR1.out
 have hin3 : XBase.In false (fun b => b < W3.heap.size) W3 mm (xv x.o x.i x.s (.slice xa x.l.length xc)) x := (hin.keep (w' := W3) (fun b _ hb => hb3.block b hb)).weak (fun b hb => by have := hb.2; omega) false (fun h => by cases h) mm (Nat.le_refl _)
 have cE := eval_c (m := m) hin3 (HVi.out W3 HB3.out) HD.out (HT.out.later HB3.out).tb HM.out.1 HM.out.2.1 HM.out.2.2
 rw [HA.out] at cE
 have c9 : ∀ (y : Int) (W : World), Calls Tryz.prog 26 #[.int .i64 y] W fun e w' => e = .returned (.int .i64 y) ∧ W = w' := fun y W => (num_c y W).mono fun e w' h => ⟨h.1, h.2.symm⟩
 clear hin hin3 hb2 hb3 hz h3
 go_wp2_with (first | (go_at_call 26; refine (c9 _ _).mono ?_; rintro e w' ⟨rfl, rfl⟩))
 refine cE.mono ?_
 rintro e W4 ⟨hb4, u, rfl, hfr⟩
 have hs4 := hb4.size
 obtain ⟨un, uln, ucn, ul, ull, ucl, rfl⟩ := in_shape hfr.in
 have HB4 : Hid (Below w.heap.size w W4) := HB3.out.trans (hb4.mono HB3.out.size)
 have HR4 : Hid (W4.heap[w.heap.size]? = some (.cells #[.int .i64 0, .bool false, .int .i64 0, .string ⟨#[]⟩, .slice none 0 0, .slice none 0 0] 40 (0, 0))) := (hb4.block _ (by omega)).trans HR3.out
 clear cE hb4 x0 x1 x2 x3 z0 z1 z2 z3 zf0 zf1 zf2 zf3 hW2 hW3
 obtain ⟨W5, hW5⟩ : ∃ W5, W4.alloc (.cells #[.int .i64 0, .bool false, .int .i64 0, .string ⟨#[]⟩, .slice none 0 0, .slice none 0 0] 40) = W5 := ⟨_, rfl⟩
 have hz5 : W5.heap[W4.heap.size]? = some (.cells #[.int .i64 0, .bool false, .int .i64 0, .string ⟨#[]⟩, .slice none 0 0, .slice none 0 0] 40 (0, 0)) := by rw [← hW5]; exact heap_alloc_new _ _
 have hb5 : Below W4.heap.size W4 W5 := by rw [← hW5]; exact (Below.refl _ _).alloc (Nat.le_refl _) _
 obtain ⟨n0, n1, n2, n3, n4, n5⟩ := six_box hz5
 have nf0 := frozen_box hz5 0
 have nf1 := frozen_box hz5 1
 have nf2 := frozen_box hz5 2
 have nf3 := frozen_box hz5 3
 have nf4 := frozen_box hz5 4
 have nf5 := frozen_box hz5 5
 obtain ⟨W6, hW6⟩ : ∃ W6, ((((((W5.setCell ⟨W4.heap.size, 0, none⟩ (.int .i64 (vOf A).k)).setCell ⟨W4.heap.size, 1, none⟩ (.bool (vOf A).b)).setCell ⟨W4.heap.size, 2, none⟩ (.int .i64 (vOf A).i)).setCell ⟨W4.heap.size, 3, none⟩ (.string (vOf A).s)).setCell ⟨W4.heap.size, 4, none⟩ (.slice un uln ucn)).setCell ⟨W4.heap.size, 5, none⟩ (.slice ul ull ucl)) = W6 := ⟨_, rfl⟩
 obtain ⟨a1, a2, a3, a4⟩ := set6 _ _ _ _ _ _ hz5 hW6
 have hb6 : Below W4.heap.size W4 W6 := a4 _ _ (Nat.le_refl _) hb5
 obtain ⟨g0, g1, g2, g3, g4, g5⟩ := six_box a1
 have hr6 := (hb6.block w.heap.size (by omega)).trans HR4.out
 obtain ⟨r0, r1, r2, r3, r4, r5⟩ := six_box hr6
 have rf0 := frozen_box hr6 0
 have rf1 := frozen_box hr6 1
 have rf2 := frozen_box hr6 2
 have rf3 := frozen_box hr6 3
 have rf4 := frozen_box hr6 4
 have rf5 := frozen_box hr6 5
 have HB6 : Hid (Below w.heap.size w W6) := HB4.out.trans (hb6.mono HB4.out.size)
 have HR6 : Hid (W6.heap[w.heap.size]? = some (.cells #[.int .i64 0, .bool false, .int .i64 0, .string ⟨#[]⟩, .slice none 0 0, .slice none 0 0] 40 (0, 0))) := hr6
 have HG6 : Hid _ := a1
 have HF6 : Hid (Fr W6 (m + 1) W3.heap.size W4.heap.size (vl (vOf A).k (vOf A).b (vOf A).i (vOf A).s (.slice un uln ucn) (.slice ul ull ucl)) (vOf A)) := hfr.keep (fun b hb hb' => hb6.block b hb')
 have h6s := (Array.getElem?_eq_some_iff.1 a1).1
 obtain ⟨W9, hW9⟩ : ∃ W9, ((((((W6.setCell ⟨w.heap.size, 0, none⟩ (.int .i64 (vOf A).k)).setCell ⟨w.heap.size, 1, none⟩ (.bool (vOf A).b)).setCell ⟨w.heap.size, 2, none⟩ (.int .i64 (vOf A).i)).setCell ⟨w.heap.size, 3, none⟩ (.string (vOf A).s)).setCell ⟨w.heap.size, 4, none⟩ (.slice un uln ucn)).setCell ⟨w.heap.size, 5, none⟩ (.slice ul ull ucl)) = W9 := ⟨_, rfl⟩
 obtain ⟨q1, q2, q3, q4⟩ := set6 _ _ _ _ _ _ hr6 hW9
 have k9 : ∀ (B j : Nat) (u : Value), B ≠ w.heap.size → W6.cell? ⟨B, j, none⟩ = some u → W9.cell? ⟨B, j, none⟩ = some u := fun B j u hne h => (World.cell?_of_block (q2 _ hne)).trans h
 have h90 := k9 _ _ _ (by omega) g0
 have h91 := k9 _ _ _ (by omega) g1
 have h92 := k9 _ _ _ (by omega) g2
 have h93 := k9 _ _ _ (by omega) g3
 have h94 := k9 _ _ _ (by omega) g4
 have h95 := k9 _ _ _ (by omega) g5
 have e9 : W9.heap.size = W6.heap.size := q3
 obtain ⟨y0, y1, y2, y3, y4, y5⟩ := six_box q1
 have HQ : Hid (Below w.heap.size w W9) := q4 _ _ (Nat.le_refl _) HB6.out
 have HF : Hid (Fr W9 (m + 1) w.heap.size W9.heap.size (vl (vOf A).k (vOf A).b (vOf A).i (vOf A).s (.slice un uln ucn) (.slice ul ull ucl)) (vOf A)) := Copied.Fr.weak (HF6.out.keep (w' := W9) (fun b hb _ => q2 b (by have := hb.1; omega))) (by omega) (by omega)
 clear hfr hb5 hb6 hz5 a1 a2 a3 a4 hr6 k9 q1 q2 q4
 go_wp2_with fail
 go_region_held3 (fun w' => w'.cell? ⟨W4.heap.size, 0, none⟩ = some (.int .i64 (vOf A).k) ∧ w'.cell? ⟨W4.heap.size, 1, none⟩ = some (.bool (vOf A).b) ∧ w'.cell? ⟨W4.heap.size, 2, none⟩ = some (.int .i64 (vOf A).i) ∧ w'.cell? ⟨W4.heap.size, 3, none⟩ = some (.string (vOf A).s) ∧ w'.cell? ⟨W4.heap.size, 4, none⟩ = some (.slice un uln ucn) ∧ w'.cell? ⟨W4.heap.size, 5, none⟩ = some (.slice ul ull ucl)) (go_keep) (first | (go_at_call 26; refine (c9 _ _).mono ?_; rintro e w' ⟨rfl, rfl⟩))
 all_goals
  go_wp2_with fail
  refine bodyPost_ret (v := .tuple #[vl (vOf A).k (vOf A).b (vOf A).i (vOf A).s (.slice un uln ucn) (.slice ul ull ucl), .int .i64 (nOf A)]) (by simp [results, Tryz.results20, go_sem, y0, y1, y2, y3, y4, y5]) rfl ?_
  exact ⟨bel_d HQ.out (Below.refl _ _), _, rfl, HF.out.keep (fun _ _ _ => rfl)⟩
end Go.Proofs.YtghnhkagkngjcaaGreatDoor.VOf

import Derived.Test.YtiijfmdfccdagaaGreatDoorPL19
import Derived.Test.YtiijfmdfccdagaaGreatDoorPL32
open Go.Proofs.Tryz
set_option linter.unusedVariables false
set_option maxRecDepth 100000
set_option maxHeartbeats 6400000
namespace Go.Proofs.YtiijfmdfccdagaaGreatDoor.GAw
open Go.RowKit Base KBase JPure VSm VJn GPl GVa GRe GZp GRn GN2 GRd GAp GEi GEv
open VPure hiding evL
open TBase (T)
open KVp (szL szL_cons szL_nil)
open Shallow (dep)
theorem numE_c (x : Int) (w : World) : Calls prog 12 #[.int .i64 x] w fun e w' => e = .returned (.int .i64 x) /\ w = w' := by
 go_enter func12, ntmps12
 go_wp2_with fail
 go_ret
 exact ⟨rfl, rfl⟩
theorem rw_one {α : Type} {n z : Nat} {Ly : World -> Nat -> Nat -> Value -> Prop} {rm : Value} {S : Nat -> Prop} {w : World} {P : Value -> α -> Prop} {g : Nat} {u : Value} {c : α} (hS : S g) (hL : Ly w g 0 u) (hP : P u c) (hz : z <= 1000) : Rw n z Ly rm false S w P (.slice (some ⟨g, 0, none⟩) 1 1) [c] := by
 refine ⟨some ⟨g, 0, none⟩, 1, rfl, by simp, by omega, by simp; omega, (fun h => by cases h), .inr ⟨g, 0, rfl, hS, fun j hj => ?_, (fun h => by cases h)⟩⟩
 have : j = 0 := by simp at hj; omega
 subst this
 exact ⟨u, by simpa using hL, hP⟩
theorem co_at {w : World} {g : Nat} {v0 v1 v2 v3 v4 v5 v6 : Value} {t : TypeId} (h : w.heap[g]? = some (.cells #[v0, v1, v2, v3, v4, v5, v6] t (0, 0))) : Co7 w g 0 (.agg #[v0, v1, v2, v3, v4, v5, v6]) := by
 obtain ⟨c0, c1, c2, c3, c4, c5, c6⟩ := GSz.seven_b h
 exact ⟨v0, v1, v2, v3, v4, v5, v6, rfl, c0, c1, c2, c3, c4, c5, c6⟩
theorem pt_at {w : World} {g : Nat} {v0 v1 v2 v3 v4 v5 : Value} {t : TypeId} (h : w.heap[g]? = some (.cells #[v0, v1, v2, v3, v4, v5] t (0, 0))) : Pt6 w g 0 (.agg #[v0, v1, v2, v3, v4, v5]) := by
 obtain ⟨c0, c1, c2, c3, c4, c5⟩ := Base.six_box h
 exact ⟨v0, v1, v2, v3, v4, v5, rfl, c0, c1, c2, c3, c4, c5⟩
abbrev ns : Value := .slice none 0 0
abbrev row1 (g : Nat) : Value := .slice (some ⟨g, 0, none⟩) 1 1
abbrev vV (p : Int) : Value := .agg #[.int .i64 6, .int .i64 p, .string nl, ns]
abbrev tP (p : Int) : Array Value := #[.string nl, .bool true, .int .i64 6, .int .i64 p, .string nl, ns]
abbrev tV (g : Nat) : Array Value := #[.int .i64 1, .string nl, ns, row1 g, ns, ns, ns]
abbrev eV (t : ByteArray) (g : Nat) : Array Value := #[.int .i64 2, .string t, ns, ns, ns, row1 g, ns]
theorem leaf_in (w : World) (m : Nat) (S : Nat -> Prop) (p : Int) (hp : 0 <= p /\ p <= 100) : XBase.In false S w (m + 1) (vV p) (vE p) := XBase.In.leaf w m S 6 p nl (by omega) (by omega) (by decide)
theorem rx_nil {S : Nat -> Prop} {w : World} : RX false S w (.slice none 0 0) [] := ⟨1, none, 0, rfl, by simp, by simp, by simp, fun _ => rfl, .inl ⟨rfl, rfl⟩⟩
theorem t_in {w : World} {S : Nat -> Prop} {g : Nat} {p : Int} (hp : 0 <= p /\ p <= 100) (hS : S g) (h : w.heap[g]? = some (.cells (tP p) 89 (0, 0))) : KBase.In false S w 1 (.agg (tV g)) (tC p) := by
 rw [in_succ]
 exact ⟨_, _, _, _, _, rfl, by simp [tC, Co.k], by show nl.size <= _; decide, Rw.nil, rw_one hS (pt_at h) ⟨1, _, _, _, _, rfl, by show nl.size <= _; decide, leaf_in w 0 _ p hp⟩ (by omega), rx_nil, Rw.nil, Rw.nil⟩
theorem e_in {w : World} {S : Nat -> Prop} {g g' : Nat} {t : ByteArray} {p : Int} (ht : t.size <= 1000) (hp : 0 <= p /\ p <= 100) (hS : S g) (hS' : S g') (h : w.heap[g]? = some (.cells (tP p) 89 (0, 0))) (h' : w.heap[g']? = some (.cells (tV g) 45 (0, 0))) : KBase.In false S w 2 (.agg (eV t g')) (eC t p) := by
 rw [in_succ]
 exact ⟨_, _, _, _, _, rfl, by simp [eC, Co.k], by show t.size <= _; omega, Rw.nil, Rw.nil, rx_nil, rw_one hS' (co_at h') (t_in hp hS h) (by omega), Rw.nil⟩
theorem zero_c (w : World) : Calls prog 20 #[] w fun e w' => e = .returned (vV 0) /\ Below w.heap.size w w' := by
 obtain ⟨W, hW⟩ : ∃ W, w.alloc (.cells #[.int .i64 6, .int .i64 0, .string nl, ns] 47) = W := ⟨_, rfl⟩
 have b0 := alB hW
 have h0 := alG hW
 have HW := hid hW
 have H0 := hid h0
 clear hW h0
 go_enter func20, ntmps20
 go_wp2_with fail
 rw [HW.out]
 refine bodyPost_ret (results_cell_row rfl _ W w.heap.size 47 _ (0, 0) _ rfl H0.out underlying47 rfl (by kernel_rfl)) rfl ?_
 exact ⟨rfl, b0⟩
abbrev iVv (i : Int) : Value := .agg #[.int .i64 3, .bool false, .int .i64 i, .string nl, ns, ns]
theorem num_c (i : Int) (w : World) : Calls prog 25 #[.int .i64 i] w fun e w' => e = .returned (iVv i) /\ Below w.heap.size w w' := by
 obtain ⟨W, hW⟩ : ∃ W, w.alloc (.cells #[.int .i64 3, .bool false, .int .i64 i, .string nl, ns, ns] 26) = W := ⟨_, rfl⟩
 have b0 := alB hW
 have h0 := alG hW
 have HW := hid hW
 have H0 := hid h0
 clear hW h0
 go_enter func25, ntmps25
 go_wp2_with fail
 rw [HW.out]
 refine bodyPost_ret (results_cell_row rfl _ W w.heap.size 26 _ (0, 0) _ rfl H0.out underlying26 rfl (by kernel_rfl)) rfl ?_
 exact ⟨rfl, b0⟩
theorem text_c (p : Int) (w : World) : Calls prog 19 #[vV p] w fun e w' => ∃ g, e = .returned (.agg (tV g)) /\ Below w.heap.size w w' /\ w.heap.size <= g /\ w'.heap[g]? = some (.cells (tP p) 89 (0, 0)) := by
 obtain ⟨W0, hW0⟩ : ∃ W, (w.alloc (.cells #[.int .i64 6, .int .i64 p, .string nl, ns] 47)).alloc (.cells #[.int .i64 0, .string nl, ns, ns, ns, ns, ns] 45) = W := ⟨_, rfl⟩
 have b0 : Below w.heap.size w W0 := by rw [<- hW0]; exact ((Below.refl _ w).alloc (Nat.le_refl _) _).alloc (by simp) _
 have s0 : W0.heap.size = w.heap.size + 2 := by rw [<- hW0]; simp
 have h0 : W0.heap[w.heap.size]? = some (.cells #[.int .i64 6, .int .i64 p, .string nl, ns] 47 (0, 0)) := by rw [<- hW0, Below.heap_alloc _ _ _ (by simp), heap_alloc_new]
 have h1 : W0.heap[w.heap.size + 1]? = some (.cells #[.int .i64 0, .string nl, ns, ns, ns, ns, ns] 45 (0, 0)) := by
  rw [<- hW0]
  have := heap_alloc_new (w.alloc (.cells #[.int .i64 6, .int .i64 p, .string nl, ns] 47)) (.cells #[.int .i64 0, .string nl, ns, ns, ns, ns, ns] 45)
  rwa [World.size_alloc] at this
 obtain ⟨W1, hW1⟩ : ∃ W, W0.alloc (.cells (tP p) 89) = W := ⟨_, rfl⟩
 have b1 := alB hW1
 have g1 := alG hW1
 have k1 : W1.heap[w.heap.size + 1]? = some (.cells #[.int .i64 0, .string nl, ns, ns, ns, ns, ns] 45 (0, 0)) := (b1.block _ (by omega)).trans h1
 obtain ⟨W9, hW9⟩ := stc7 W1 (w.heap.size + 1) (.int .i64 1) (.string nl) ns (row1 W0.heap.size) ns ns ns
 have b9 : Below w.heap.size w W9 := by
  rw [<- hW9]
  have hb : Below w.heap.size w W1 := b0.trans (b1.mono (by omega))
  exact ((((((hb.setCell (by simp) _).setCell (by simp) _).setCell (by simp) _).setCell (by simp) _).setCell (by simp) _).setCell (by simp) _).setCell (by simp) _
 have g9 : W9.heap[W0.heap.size]? = some (.cells (tP p) 89 (0, 0)) := by
  rw [<- hW9]
  have ho : ∀ (W : World) (j : Nat) (v : Value), (W.setCell ⟨w.heap.size + 1, j, none⟩ v).heap[W0.heap.size]? = W.heap[W0.heap.size]? := fun W j v => Below.heap_setCell _ _ _ _ (by show W0.heap.size ≠ w.heap.size + 1; omega)
  rw [ho, ho, ho, ho, ho, ho, ho]
  exact g1
 have k9 : W9.heap[w.heap.size + 1]? = some (.cells (tV W0.heap.size) 45 (0, 0)) := by
  rw [<- hW9]
  exact GTr.heap_set _ _ _ _ _ _ (GTr.heap_set _ _ _ _ _ _ (GTr.heap_set _ _ _ _ _ _ (GTr.heap_set _ _ _ _ _ _ (GTr.heap_set _ _ _ _ _ _ (GTr.heap_set _ _ _ _ _ _ (GTr.heap_set _ _ _ _ _ _ k1))))))
 obtain ⟨x0, x1, x2, x3⟩ := XBase.four_box h0
 obtain ⟨z0, z1, z2, z3, z4, z5, z6⟩ := GSz.seven_b k1
 obtain ⟨f0, f1, f2, f3, f4, f5, f6⟩ := Base.frz7 k1
 have HW1 := hid hW1
 have HW9 := hid hW9
 have HB9 := hid b9
 have HG9 := hid g9
 have HK9 := hid k9
 have HS0 := hid s0
 have hle : w.heap.size <= W0.heap.size := by omega
 clear b0 h0 h1 b1 g1 k1 b9 g9 k9 hW9 s0
 go_enter func19, ntmps19
 go_wp2_with fail
 try rw [HW9.out]
 refine bodyPost_ret (results_cell_row rfl _ W9 (w.heap.size + 1) 45 _ (0, 0) _ rfl HK9.out underlying45 rfl (by kernel_rfl)) rfl ?_
 exact ⟨_, rfl, HB9.out, hle, HG9.out⟩
theorem tree1 {S : Nat -> Prop} {w : World} {m : Nat} {tv : Value} {t x : ByteArray} {n : List (ByteArray × ByteArray)} {ks : List T} (h : TBase.InL false S w m tv [T.mk t x n ks]) :
  ∃ g o cap av kv m', tv = .slice (some ⟨g, o, none⟩) 1 cap /\ 1 <= cap /\ cap <= 9223372036854775807 /\ w.cell? ⟨g, o, none⟩ = some (.string t) /\ w.cell? ⟨g, o + 1, none⟩ = some (.string x) /\ w.cell? ⟨g, o + 2, none⟩ = some av /\ w.cell? ⟨g, o + 3, none⟩ = some kv /\ TBase.Ax false S w av n /\ TBase.InL false S w m' kv ks := by
 obtain ⟨a, cap, rfl, h1, h2, -, -, hL⟩ := h
 obtain ⟨g, o, u, rfl, -, hu, hi⟩ := TBase.elem_at hL (q := 0) (by simp)
 simp only [List.getElem_cons_zero] at hi
 obtain ⟨m', nv, lv, -, rfl, -, -, hA, hK⟩ := hi.shape
 obtain ⟨v0, v1, v2, v3, he, c0, c1, c2, c3⟩ := hu
 simp only [Value.agg.injEq, Array.mk.injEq, List.cons.injEq, and_true] at he
 obtain ⟨rfl, rfl, rfl, rfl⟩ := he
 simp only [Nat.zero_mul, Nat.add_zero] at c0 c1 c2 c3
 exact ⟨g, o, cap, nv, lv, m', rfl, by simpa using h1, h2, c0, c1, c2, c3, hA, hK⟩
def lC : C := .mk 5 false 0 nl [] []
theorem in_val (S : Nat -> Prop) (w : World) (m : Nat) (k i : Int) (hk : 1 <= k /\ k <= 6) (hi : -9223372036854775808 <= i /\ i <= 9223372036854775807) : Base.In false S w (m + 1) (.agg #[.int .i64 k, .bool false, .int .i64 i, .string nl, ns, ns]) (.mk k false i nl [] []) := by
 rw [Base.in_iff]
 exact ⟨_, _, rfl, by omega, hi, by decide, ⟨none, 0, rfl, by simp, by omega, by simp, by simp, fun _ => rfl, .inl ⟨rfl, rfl⟩⟩, ⟨none, 0, rfl, by simp, by simp [maxLen], by simp, fun _ => rfl, .inl ⟨rfl, rfl⟩⟩⟩
theorem dep_flat (k i : Int) (b : Bool) (s : ByteArray) : dep (.mk k b i s [] []) <= 4096 := by simp [Shallow.dep, Shallow.depL]
theorem tg0 : Pure.tg ⟨#[]⟩ = true := by
 have h : UBase.verr ⟨#[]⟩ = 0 := by
  unfold UBase.verr
  rw [UBase.bad_end (by decide)]
  rfl
 simp [Pure.tg, h]
 decide
theorem ms_num (i : Int) : (Measure.ms 0 0 (Walk.pl 1 (iV i))).2.2 = 0 := by
 have h : Fault.fm (iV i) = true := by simp [Fault.fm, iV, Pure.pu, tg0, C.k, C.b, C.i, C.s, C.n, C.l]
 have hk : (iV i).k = 3 := rfl
 have hp : Walk.pl 1 (iV i) = [(1, iV i)] := by simp [iV, Walk.pl, Walk.plL]
 have hf : Fault.ft (iV i) 1 1 = 0 := by simp [Fault.ft, h, hk]
 rw [hp]
 simp [Measure.ms, hf]
theorem ms_list : (Measure.ms 0 0 (Walk.pl 1 lC)).2.2 = 0 := by
 have h : Fault.fm lC = true := by simp [Fault.fm, lC, Pure.pu, tg0, C.k, C.b, C.i, C.s, C.n, C.l]
 have hk : lC.k = 5 := rfl
 have hp : Walk.pl 1 lC = [(1, lC)] := by simp [lC, Walk.pl, Walk.plL]
 have hf : Fault.ft lC 1 1 = 0 := by simp [Fault.ft, h, hk]
 rw [hp]
 simp [Measure.ms, hf]
theorem sz_e (t : ByteArray) (p : Int) : szL [eC t p] = 2 := by
 rw [szL_cons, szL_nil]
 have e1 : (eC t p).l = [tC p] := rfl
 have e2 : (eC t p).u = [] := rfl
 have e3 : (tC p).l = [] := rfl
 have e4 : (tC p).u = [] := rfl
 rw [e1, e2, szL_cons, e3, e4, szL_nil]
theorem nd_one {K m B Bb n : Nat} {sv : GNs.Sz} {L : List C} {p : Int} : NDs K m B Bb sv (n + 1) L (tC p) := text_d rfl fun j h _ => by
 have : j = 0 := by simp [tC, Co.p] at h; omega
 subst this
 exact gd_v p
theorem nd_two {K m B Bb n : Nat} {sv : GNs.Sz} {L : List C} {t : ByteArray} {p : Int} (hz : sv.2.1.length <= 50000) : NDs K m B Bb sv (n + 2) L (eC t p) := by
 refine elem_d hz rfl (fun j h => by cases h) (by show ([] : List Fld).length <= 4096; simp) (fun n h => ?_) (fun d hd => ?_)
 ·have e : (eC t p).f = [] := rfl
  rw [e, GAs.ats] at h
  injection h with h
  subst h
  exact ⟨by simp, fun t ht => by cases ht⟩
 ·have e : (eC t p).l = [tC p] := rfl
  rw [e] at hd
  rw [List.mem_singleton.1 hd]
  exact nd_one
theorem sv_le {sv : GNs.Sz} {cs : List Co} (h : sv.2.1 = zs cs) (hc : KNd.chk cs = 0) : sv.2.1.length <= 50000 := by
 rw [h, zs_len]
 have := sz_ok hc
 omega
theorem rn_num (t : ByteArray) (i : Int) (hi : (Lib.itoa i).length <= 4096) : rnL (rn 2 [iV i]) [eC t 0] 4096 [] = .ok ([T.mk t nl [] [T.mk nl ⟨(Lib.itoa i).toArray⟩ [] []]], 4094) := by
 have e : tT (iV i) (4096 - 1) = .ok (T.mk nl ⟨(Lib.itoa i).toArray⟩ [] [], 4094) := by
  unfold tT
  rw [if_neg (by omega)]
  have : txt (iV i) = .ok ⟨(Lib.itoa i).toArray⟩ := rfl
  rw [this]
  show (if 4096 < (⟨(Lib.itoa i).toArray⟩ : ByteArray).size then _ else _) = _
  rw [if_neg (by show ¬ 4096 < (Lib.itoa i).toArray.size; simp; omega)]
  rfl
 rw [rnL, rn_e (rh0 _) 0 t 4096 (by omega), e]
 rfl
theorem rn_list (t : ByteArray) : rnL (rn 2 [lC]) [eC t 0] 4096 [] = .error 1101 := by
 have e : tT lC (4096 - 1) = .error 1101 := by
  unfold tT
  rw [if_neg (by omega)]
  rfl
 rw [rnL, rn_e (rh0 _) 0 t 4096 (by omega), e]
 rfl
theorem it7 : Lib.itoa 7 = [55] := by decide +kernel
theorem l7 : (Lib.itoa 7).length <= 4096 := by rw [it7]; decide
theorem ok_ne {α : Type} {a : α} : (Except.ok a : Except Nat α) ≠ .error 0 := fun h => by cases h
theorem rend_c {w : World} {cv v : Value} {c : C} (hcs : KBase.InL false (fun b => b < w.heap.size) w 2 cv [eC ⟨#[112]⟩ 0]) (hin : Base.In false (fun b => b < w.heap.size) w 1 v c) (hdep : dep c <= 4096) (hms : (Measure.ms 0 0 (Walk.pl 1 c)).2.2 = 0) (ht : Tb w) (hA0 : rnL (rn 2 [c]) [eC ⟨#[112]⟩ 0] 4096 [] ≠ .error 0) :
  Calls prog 9 #[cv, v] w fun e w' => RR w (bnd (rnL (rn 2 [c]) [eC ⟨#[112]⟩ 0] 4096 []) fun a => .ok a.1) e w' :=
 render_c (m := 0) hcs hin (by rw [sz_e]; omega) chk_e hdep hms ht hA0 fun B Bb sv hz d hd => by
  rw [List.mem_singleton.1 hd]
  exact nd_two (n := 0) (sv_le hz chk_e)
theorem awake_c (w : World) (ht : Tb w) : Calls prog 7 #[] w fun e w' => e = .returned (.bool true) /\ Below w.heap.size w w' := by
 have HT := hid ht
 have cZ := zero_c w
 clear ht
 go_enter func7, ntmps7
 go_wp2_with fail
 refine cZ.mono ?_
 rintro e W1 ⟨rfl, b1⟩
 have cX := text_c 0 W1
 have HB1 := hid b1
 clear cZ b1
 go_wp2_with fail
 refine cX.mono ?_
 rintro e W2 ⟨g, rfl, b2, hg1, hg2⟩
 have hgl := (Array.getElem?_eq_some_iff.1 hg2).1
 have HB2 := hid (HB1.out.trans (b2.mono HB1.out.size))
 obtain ⟨W4, hW4⟩ : ∃ W, (W2.alloc (.cells (tV g) 45)).alloc (.cells (eV ⟨#[112]⟩ W2.heap.size) 45) = W := ⟨_, rfl⟩
 have b4 : Below W2.heap.size W2 W4 := by rw [<- hW4]; exact ((Below.refl _ W2).alloc (Nat.le_refl _) _).alloc (by simp) _
 have s4 : W4.heap.size = W2.heap.size + 2 := by rw [<- hW4]; simp
 have h40 : W4.heap[W2.heap.size]? = some (.cells (tV g) 45 (0, 0)) := by rw [<- hW4, Below.heap_alloc _ _ _ (by simp), heap_alloc_new]
 have h41 : W4.heap[W2.heap.size + 1]? = some (.cells (eV ⟨#[112]⟩ W2.heap.size) 45 (0, 0)) := by
  rw [<- hW4]
  have := heap_alloc_new (W2.alloc (.cells (tV g) 45)) (.cells (eV ⟨#[112]⟩ W2.heap.size) 45)
  rwa [World.size_alloc] at this
 have h4g := (b4.block g hgl).trans hg2
 have HB4 := hid (HB2.out.trans (b4.mono HB2.out.size))
 have HCS : Hid (∀ W, Below W4.heap.size W4 W -> KBase.InL false (fun b => b < W.heap.size) W 2 (row1 (W2.heap.size + 1)) [eC ⟨#[112]⟩ 0]) := fun W hW => by
  have := hW.size
  exact rw_one (by show _ < _; omega) (co_at ((hW.block _ (by omega)).trans h41)) (e_in (by decide) (by omega) (by show _ < _; omega) (by show _ < _; omega) ((hW.block _ (by omega)).trans h4g) ((hW.block _ (by omega)).trans h40)) (by omega)
 have HW4 := hid hW4
 have HS4 := hid s4
 have c7 := num_c 7 W4
 clear cX b2 hg1 hg2 hgl b4 h40 h41 h4g hW4 s4
 go_wp2_with fail
 try rw [HW4.out]
 refine c7.mono ?_
 rintro e W5 ⟨rfl, b5⟩
 have HB5 := hid (HB4.out.trans (b5.mono HB4.out.size))
 have H45 := hid b5
 have cR := rend_c (HCS.out W5 b5) (in_val _ W5 0 3 7 (by omega) (by omega)) (dep_flat 3 7 false nl) (ms_num 7) (HT.out.below HB5.out) (by have := rn_num ⟨#[112]⟩ 7 l7; show rnL (rn 2 [iV 7]) _ _ _ ≠ _; rw [this]; exact ok_ne)
 have hr : bnd (rnL (rn 2 [iV 7]) [eC ⟨#[112]⟩ 0] 4096 []) (fun a => (.ok a.1 : Except Nat (List T))) = .ok [T.mk ⟨#[112]⟩ nl [] [T.mk nl ⟨#[55]⟩ [] []]] := by rw [rn_num ⟨#[112]⟩ 7 l7, it7]; rfl
 have cR : Calls prog 9 #[row1 (W2.heap.size + 1), iVv 7] W5 fun e w' => RR W5 (.ok [T.mk ⟨#[112]⟩ nl [] [T.mk nl ⟨#[55]⟩ [] []]]) e w' := by rw [<- hr]; exact cR
 clear c7 b5 hr
 go_wp2_with fail
 refine cR.mono ?_
 rintro e W6 ⟨b6, m6, tv, rfl, hin6⟩
 have HB6 := hid (HB5.out.trans (b6.mono HB5.out.size))
 have H46 := hid (H45.out.trans (b6.mono H45.out.size))
 have HIN := hid hin6
 obtain ⟨tg, tO, tcap, av, kv, m', rfl, ht1, ht2, -⟩ := tree1 hin6
 have cR2 := rend_c (HCS.out W6 H46.out) (in_val _ W6 0 5 0 (by omega) (by omega)) (dep_flat 5 0 false nl) ms_list (HT.out.below HB6.out) (by have := rn_list ⟨#[112]⟩; show rnL (rn 2 [lC]) _ _ _ ≠ _; rw [this]; exact fun h => by cases h)
 have hr : bnd (rnL (rn 2 [lC]) [eC ⟨#[112]⟩ 0] 4096 []) (fun a => (.ok a.1 : Except Nat (List T))) = .error 1101 := by rw [rn_list ⟨#[112]⟩]; rfl
 have cR2 : Calls prog 9 #[row1 (W2.heap.size + 1), .agg #[.int .i64 5, .bool false, .int .i64 0, .string nl, ns, ns]] W6 fun e w' => RR W6 (.error 1101) e w' := by rw [<- hr]; exact cR2
 clear cR b6 hin6 hr
 go_wp2_with fail
 refine cR2.mono ?_
 rintro e W7 ⟨b7, rfl⟩
 have HB7 := hid (HB6.out.trans (b7.mono HB6.out.size))
 have H67 := hid b7
 have cZ := zero_c W7
 clear cR2 b7
 go_wp2_with fail
 refine cZ.mono ?_
 rintro e W8 ⟨rfl, b8⟩
 have HB8 := hid (HB7.out.trans (b8.mono HB7.out.size))
 have H68 := hid (H67.out.trans (b8.mono H67.out.size))
 have c5 := num_c 5 W8
 clear cZ b8
 go_wp2_with fail
 refine c5.mono ?_
 rintro e W9 ⟨rfl, b9⟩
 have HB9 := hid (HB8.out.trans (b9.mono HB8.out.size))
 have H69 := hid (H68.out.trans (b9.mono H68.out.size))
 obtain ⟨Wa, hWa⟩ : ∃ W, W9.alloc (.cells #[.int .i64 3, .bool false, .int .i64 5, .string nl, ns, ns] 26) = W := ⟨_, rfl⟩
 have ba := alB hWa
 have sa : Wa.heap.size = W9.heap.size + 1 := by rw [<- hWa]; simp
 have ga := alG hWa
 have HBa := hid (HB9.out.trans (ba.mono HB9.out.size))
 have H6a := hid (H69.out.trans (ba.mono H69.out.size))
 obtain ⟨c0, c1, c2, c3, c4, c5'⟩ := Base.six_box ga
 have hsix : Base.Six Wa W9.heap.size (0 * 6) (iVv 5) := ⟨_, _, _, _, _, _, rfl, c0, c1, c2, c3, c4, c5'⟩
 have hwfs : ∀ (j : Int) c, rh [iV 5] j = some c -> wf c := fun j c h => by
  unfold rh at h
  split at h
  ·rw [List.mem_singleton.1 (List.mem_of_getElem? h)]
   exact GWf.code_wf (ms_num 5)
  ·cases h
 have hrk : Rk Wa.heap.size 0 1 Wa (row1 W9.heap.size) [iV 5] (vV 0) (vE 0) := ⟨leaf_in Wa 0 _ 0 (by omega), Nat.le_refl _, hwfs, (gd_v 0).1, (gd_v 0).2, HT.out.below HBa.out, some ⟨W9.heap.size, 0, none⟩, 1, rfl, by simp, by simp, by omega, fun j hj => by
   obtain rfl : j = 0 := by simpa using hj
   exact ⟨W9.heap.size, _, rfl, hsix, in_val _ Wa 0 3 5 (by omega) (by omega)⟩⟩
 have hL : Base.InL false All Wa 1 (row1 W9.heap.size) [iV 5] := ⟨some ⟨W9.heap.size, 0, none⟩, 1, rfl, by simp, by simp [maxLen], by simp, (fun h => by cases h), .inr ⟨W9.heap.size, 0, rfl, trivial, fun j hj => by
   obtain rfl : j = 0 := by simpa using hj
   exact ⟨iVv 5, by simpa using hsix, in_val _ Wa 0 3 5 (by omega) (by omega)⟩, (fun h => by cases h)⟩⟩
 have hev : ev (rh [iV 5]) (vE 0) = .ok (iV 5) := ev_v (rh0 _)
 have cE := eval_of hrk hL (fun c hc => by rw [List.mem_singleton.1 hc]; exact dep_flat 3 5 false nl) (rs_v 0) (by simp [bd, cd, ms_num]) (by rw [hev]; exact fun W v h => GCf.flat_c W v h)
 rw [hev] at cE
 have HWa := hid hWa
 clear c5 b9 ba ga hrk hwfs hL hsix hWa c0 c1 c2 c3 c4 c5' hev sa
 go_wp2_with fail
 try rw [HWa.out]
 refine cE.mono ?_
 rintro e Wb ⟨kb, u, rfl, hinb, bb⟩
 obtain ⟨an, ln, cn, al, ll, cl, rfl⟩ := VRs.in_shape hinb
 have hvi : (va (.ok (iV 5))).i = 5 := rfl
 rw [hvi] at *
 have HBb := hid (HBa.out.trans (bb.mono HBa.out.size))
 have H6b := hid (H6a.out.trans (bb.mono H6a.out.size))
 generalize (va (.ok (iV 5))).k = kk at *
 generalize (va (.ok (iV 5))).b = kb' at *
 generalize (va (.ok (iV 5))).s = ks at *
 obtain ⟨Wc, hWc⟩ : ∃ W, Wb.alloc (.cells #[.int .i64 kk, .bool kb', .int .i64 5, .string ks, .slice an ln cn, .slice al ll cl] 26) = W := ⟨_, rfl⟩
 have bc := alB hWc
 have gc := alG hWc
 have HBc := hid (HBb.out.trans (bc.mono HBb.out.size))
 have H6c := hid (H6b.out.trans (bc.mono H6b.out.size))
 obtain ⟨-, -, y2, -, -, -⟩ := Base.six_box gc
 obtain ⟨tg', tO', tcap', av', kv', m'', he, -, -, t0, t1, t2, t3, -, hk⟩ := tree1 HIN.out
 cases he
 obtain ⟨ug, uo, ucap, av2, kv2, m3, rfl, hu1, hu2, u0, u1, u2, u3, -, -⟩ := tree1 hk
 have t0 := Base.below_cell t0 H6c.out
 have t3 := Base.below_cell t3 H6c.out
 have u1 := Base.below_cell u1 H6c.out
 have hz : er (.ok (iV 5)) = 0 := rfl
 rw [hz]
 have cN := numE_c
 have HWc := hid hWc
 clear hWc cE hinb bb bc gc hk hvi hz t1 t2 u0 u2 u3
 go_wp2_with fail
 try rw [HWc.out]
 refine (cN _ _).mono ?_
 rintro e w9 ⟨rfl, h9⟩
 obtain rfl := h9
 go_wp2_with fail
 refine (cN _ _).mono ?_
 rintro e w9 ⟨rfl, h9⟩
 obtain rfl := h9
 go_wp2_with fail
 refine (cN _ _).mono ?_
 rintro e w9 ⟨rfl, h9⟩
 obtain rfl := h9
 go_wp2_with fail
 go_ret
 exact ⟨rfl, HBc.out⟩
end Go.Proofs.YtiijfmdfccdagaaGreatDoor.GAw
namespace Go.Proofs.YtiijfmdfccdagaaGreatDoor.GPu
open Go.RowKit Base VSm GPl GEn GBe GNs
open VPure hiding evL
theorem app_ty (ty : TypeId) (v x : Value) (w : World) : Sem.run prog (Builtin.append_ #[97, 24] ty #[v, x]) w = Sem.run prog (Builtin.append_ #[97, 97] ty #[v, x]) w := by
 have h1 := run_underlying (P := prog) underlying97
 have h2 := run_underlying (P := prog) underlying24
 unfold Builtin.append_
 simp only [List.getElem?_toArray, List.getElem?_cons_zero, List.getElem?_cons_succ, Sem.run_bind, h1, Result.andThen_ok]
 cases v with
 | slice base n cap =>
  simp only [Sem.run_bind]
  refine congrArg (Result.andThen _) (funext fun size => funext fun w2 => ?_)
  simp only [h1, h2, Result.andThen_ok, Sem.run_pure]
 | _ => rfl
section
variable {ops : Array Oper} {o : Oper} {y : Act} {K : Act -> World -> Prop} {Q : Exit -> Act -> World -> Prop} {E : Prop} {w : World} {base n m c : Nat} {v : Value} {xs news : List Value} {ad : Addr}
theorem wp_vals (x z : Operand) (ho : o.op = .call { callee := .builtin .append, args := #[x, z], argTypes := #[97, 24] }) (hown : w.ownsRow base 26 6 v n xs) (hl : news.length = m * 6) (hnews : ∀ j u, news[j]? = some u -> w.cell? (ad.add j) = some u) (h1 : ∀ u ∈ news, u.oneCell' = true) (hb : n + m <= 100000) (hbase : base <= w.heap.size)
  (hx : y.eval x = v) (hz : y.eval z = .slice (some ad) m c) (hk : ∀ v' W, W.ownsRow base 26 6 v' (n + m) (xs ++ news) -> w.grownBy W v.ownBlock -> (v'.ownBlock = v.ownBlock \/ v'.ownBlock = some w.heap.size) -> K (y.put o.dst v') W) : o.wp prog y w K Q := by
 obtain ⟨ij, hij, hj0, hj1, hj2⟩ := XLend.info_parts info25
 obtain ⟨v', W, hrun, h3, h4, -, h5⟩ := run_append_own_at (P := prog) w base 97 o.type 26 ij _ 6 88 underlying97 hij hj0 hj1 hj2 rfl (by decide) v n xs hown ad m c news hl hnews h1 (by unfold maxLen; omega) (by omega) hbase
 unfold Oper.wp execOp
 simp only [ho, resolve, invoke, builtin, Sem.run_bind, Sem.run_pure, Result.andThen_ok, List.map_toArray, List.map_cons, List.map_nil, hx, hz, app_ty, hrun]
 exact hk v' W h3 h4 h5
end
theorem so_sk {K m : Nat} {w : World} {Pv : Value} {L : List C} (h : So K m w Pv L) (hl : L.length <= 100000) : Sk K m w Pv L := by
 obtain ⟨us, h1, h2, h3⟩ := h
 rcases h1.1.2 with ⟨e, e0⟩ | ⟨g, cap, cur, e, hb, hc, hle, hm, hsz, htk⟩
 ·have hL : L = [] := List.eq_nil_of_length_eq_zero (by omega)
  subst hL
  exact ⟨none, 0, by rw [e]; simp, by simp, by simp, by omega, fun j hj => by cases hj⟩
 ·subst e
  refine ⟨some ⟨g, 0, none⟩, cap, by rw [h2], hl, by omega, by unfold maxLen at hm; omega, fun j hj => ⟨g, us[j]'(by omega), rfl, ?_, h3 j (by omega) hj⟩⟩
  have := ownV_six h1 j (by omega)
  simpa using this
theorem so_take {K m n cap : Nat} {w : World} {a : Option Addr} {L N : List C} (h : So K m w (.slice a n cap) (L ++ N)) : So K m w (.slice a L.length cap) L := by
 obtain ⟨us, h1, h2, h3⟩ := h
 rw [List.length_append] at h2
 have hl : (us.take L.length).length = L.length := by simp; omega
 refine ⟨us.take L.length, ⟨?_, fun u hu => h1.2 u (List.mem_of_mem_take hu)⟩, hl, fun j a b => ?_⟩
 ·have hs : Sixes (us.take L.length) := fun u hu => h1.2 u (List.mem_of_mem_take hu)
  refine ⟨flat_len hs, ?_⟩
  rcases h1.1.2 with ⟨e, e0⟩ | ⟨g, cp, cur, e, hb, hc, hle, hm, hsz, htk⟩
  ·cases e
   exact .inl ⟨by rw [show L.length = 0 by omega], by omega⟩
  ·cases e
   refine .inr ⟨g, cap, cur, by rw [hl], hb, hc, by omega, hm, hsz, ?_⟩
   have e1 : flat us = flat (us.take L.length) ++ flat (us.drop L.length) := by rw [<- flat_append, List.take_append_drop]
   rw [e1] at htk
   have e2 := congrArg (List.take ((us.take L.length).length * 6)) htk
   have e3 : (flat (us.take L.length) ++ flat (us.drop L.length)).take ((us.take L.length).length * 6) = flat (us.take L.length) := by
    rw [List.take_append_of_le_length (Nat.le_of_eq (flat_len hs).symm)]
    exact List.take_of_length_le (Nat.le_of_eq (flat_len hs))
   rw [e3, List.take_take] at e2
   rw [<- e2]
   congr 1
   rw [hl]
   omega
 ·have := h3 j (by rw [hl] at a; omega) (by rw [List.length_append]; omega)
  rw [List.getElem_take]
  rw [List.getElem_append_left b] at this
  exact this
theorem rh_app {L N : List C} {j : Int} {c : C} (h : rh (L ++ N) j = some c) : rh L j = some c \/ c ∈ N := by
 unfold rh at h ⊢
 split at h
 ·next h0 =>
  rw [List.getElem?_append] at h
  split at h
  ·rw [if_pos h0]; exact .inl h
  ·exact .inr (List.mem_of_getElem? h)
 ·cases h
theorem push_c {K m : Nat} {w : World} {B Bb : Nat} {Pv : Value} {sv : Sz} {r : Int} {L N : List C} {Ns : List Value} {g cp : Nat} (h : Wr K m w B Bb Pv sv r L) (hl : L.length + N.length <= 100000) (hBb : Bb < w.heap.size) (hn : Ns.length = N.length) (hs : Sixes Ns) (hin : ∀ j (h : j < Ns.length) (h' : j < N.length), Base.In false (fun b => b < K) w (m + 1) Ns[j] N[j]) (hwf : ∀ c ∈ N, wf c) (hc : ∀ j u, (flat Ns)[j]? = some u -> w.cell? ((⟨g, 0, none⟩ : Addr).add j) = some u) :
  Calls prog 143 #[ptr B, .slice (some ⟨g, 0, none⟩) Ns.length cp] w fun e w' => (∃ v, e = .returned v) /\ ∃ Pv', Wr K m w' B Bb Pv' sv r (L ++ N) /\ (Pv'.ownBlock = Pv.ownBlock \/ ∃ x, Pv'.ownBlock = some x /\ w.heap.size <= x) /\ Fm B B Pv.ownBlock none w w' := by
 obtain ⟨us, hou, hul, huin⟩ := h.so
 obtain ⟨k0, k1, k2, k3⟩ := wk_box h.box
 have HW := hid h
 have HOU := hid hou
 have HUI := hid huin
 have HIN := hid hin
 have HWF := hid hwf
 have HC := hid hc
 have HS := hid hs
 have hfl := flat_len hs
 have HFL := hid hfl
 have hone : ∀ u ∈ flat Ns, u.oneCell' = true := by
  intro u hu
  unfold flat at hu
  rw [List.mem_flatMap] at hu
  obtain ⟨a, ha, hua⟩ := hu
  obtain ⟨v0, v1, v2, v3, v4, v5, rfl, hx⟩ := hs a ha
  exact hx u (by simpa [Value.cells] using hua)
 have HONE := hid hone
 have hlt := h.lt
 have hlB := h.lB
 have hbb := HW.out.lb
 have HNL : Hid (Ns.length = N.length /\ us.length = L.length) := ⟨hn, hul⟩
 have hle : us.length + Ns.length <= 100000 := by omega
 obtain ⟨pa, pc, hPv, -⟩ := h.sk
 subst hPv
 clear h hou huin hin hwf hc hs hone hfl hn hul
 go_enter func143, ntmps143
 go_wp2_with (first
  | (at_builtin; refine wpList_plain rfl fun _ hK => wp_vals (base := K) (news := flat Ns) (m := Ns.length) (n := us.length) _ _ rfl HOU.out.1 HFL.out HC.out HONE.out hle (by omega) rfl rfl ?_))
 intro v' W h3 h4 h5
 refine hK _ _ ?_
 clear hK
 have hxb : ∀ b, some b = (Value.slice pa L.length pc).ownBlock -> b ≠ B := fun b e => (HW.out.xb b e.symm).2.2.1
 have hbW := (h4.block B hlt (fun e => hxb B e rfl)).trans HW.out.box
 obtain ⟨q0, q1, q2, q3⟩ := wk_box hbW
 have f0 := frozen_box hbW 0
 obtain ⟨W9, hW9⟩ : ∃ W9, W.setCell ⟨B, 0, none⟩ v' = W9 := ⟨_, rfl⟩
 have hs9 : W9.heap.size = W.heap.size := by rw [<- hW9, World.size_setCell]
 have ho9 : ∀ b, b ≠ B -> W9.heap[b]? = W.heap[b]? := fun b hb => by rw [<- hW9, Below.heap_setCell _ _ _ _ (by simpa using hb)]
 have hsW := h4.size
 obtain ⟨g', cap', hv'⟩ : ∃ a c, v' = .slice a (us.length + Ns.length) c := by
  rcases h3.2 with ⟨e, e0⟩ | ⟨g, cap3, cur, e, _⟩
  ·exact ⟨none, 0, by rw [e, e0]⟩
  ·exact ⟨_, _, e⟩
 have hat : v'.ownBlock = (Value.slice pa L.length pc).ownBlock \/ ∃ x, v'.ownBlock = some x /\ w.heap.size <= x := h5.imp (fun e => e) (fun e => ⟨_, e, Nat.le_refl _⟩)
 have hoth : ∀ b, b < w.heap.size -> b ≠ B -> some b ≠ (Value.slice pa L.length pc).ownBlock -> W9.heap[b]? = w.heap[b]? := fun b h1 h2 h3 => (ho9 b h2).trans (h4.block b h1 h3)
 have hbK : ∀ n, n <= B -> (∀ x, (Value.slice pa L.length pc).ownBlock = some x -> n <= x) -> Below n w W9 := fun n h1 h2 => by
  rw [<- hW9]
  exact ((Below.refl n w).grown h4 (by omega) h2).setCell (by simpa using h1) _
 have HE : Hid (Wr K m W9 B Bb v' sv r (L ++ N) /\ Fm B B (Value.slice pa L.length pc).ownBlock none w W9) := by
  have hvB : ∀ x, v'.ownBlock = some x -> K <= x /\ x < W.heap.size /\ x ≠ B /\ x ≠ Bb /\ x ≠ sv.1 := by
   intro x hx
   have hlt3 := World.ownsRow.lt h3 x hx
   refine ⟨hlt3.1, hlt3.2, ?_⟩
   rcases h5 with e | e
   ·have hq := HW.out.xb x (e ▸ hx)
    exact ⟨hq.2.2.1, hq.2.2.2, fun e2 => HW.out.zb.2.2.2 (by rw [<- e, hx, e2])⟩
   ·rw [hx] at e
    have e := Option.some.inj e
    have := HW.out.zb.1
    exact ⟨by omega, by omega, by omega⟩
  have hso : So K (m + 1) W9 v' (L ++ N) := by
   refine ⟨us ++ Ns, ⟨?_, ?_⟩, by rw [List.length_append, List.length_append]; have := HNL.out; omega, fun j a b => ?_⟩
   ·rw [flat_append, List.length_append]
    exact Fresh.own_keep h3 (fun q hq => ho9 q (hvB q hq).2.2.1)
   ·intro u hu
    rcases List.mem_append.1 hu with hu | hu
    ·exact HOU.out.2 u hu
    ·exact HS.out u hu
   ·have hkp : ∀ b, b < K -> b < w.heap.size -> W9.heap[b]? = w.heap[b]? := fun b hb hl => hoth b hl (by omega) (fun e => by have := (HW.out.xb b e.symm).1; omega)
    have hnl := HNL.out
    by_cases hj : j < us.length
    ·rw [List.getElem_append_left hj, List.getElem_append_left (by omega)]
     exact (HUI.out j hj (by omega)).keep (fun b hb hl => hkp b hb hl)
    ·rw [List.length_append] at a b
     rw [List.getElem_append_right (by omega), List.getElem_append_right (by omega)]
     have := HIN.out (j - us.length) (by omega) (by omega)
     have e : N[j - L.length]'(by omega) = N[j - us.length]'(by omega) := by congr 1; omega
     rw [e]
     exact this.keep (fun b hb hl => hkp b hb hl)
  refine ⟨⟨?_, hlB, hbb, HW.out.ne, ?_, fun W' hW' => HW.out.tk W' ((hbK K hlB (fun x hx => (HW.out.xb x hx).1)).trans hW'), so_sk hso (by rw [List.length_append]; have := HNL.out; omega), fun x hx => ⟨(hvB x hx).1, by rw [hs9]; exact (hvB x hx).2.1, (hvB x hx).2.2.1, (hvB x hx).2.2.2.1⟩, ⟨by have := HW.out.zb.1; omega, HW.out.zb.2.1, HW.out.zb.2.2.1, fun e => (hvB _ e).2.2.2.2 rfl⟩, fun j hj => ?_, hso⟩, ⟨fun n h1 h2 h3 h4 => hbK n h1 h3, by omega, fun b h1 h2 h3 h4 h5 => hoth b h1 h2 h4⟩⟩
  ·rw [<- hW9]
   exact TBase.block_set hbW _
  ·intro j c hj
   rcases rh_app hj with e | e
   ·exact HW.out.wfs j c e
   ·exact HWF.out c e
  ·exact (World.cell?_of_block (w := w) (hoth sv.1 HW.out.zb.1 HW.out.zb.2.1 (fun e => HW.out.zb.2.2.2 e.symm))).trans (HW.out.zc j hj)
 have HAT := hid hat
 subst hv'
 clear h3 h4 h5 hbW hoth hbK hat hxb ho9 q1 q2 q3
 go_wp2_with fail
 go_end0
 try rw [hW9]
 exact ⟨⟨_, rfl⟩, _, HE.out.1, HAT.out, HE.out.2⟩
theorem drop_c {K m : Nat} {w : World} {B Bb : Nat} {Pv : Value} {sv : Sz} {r : Int} {L N : List C} (h : Wr K m w B Bb Pv sv r (L ++ N)) (h0 : 0 < L.length) :
  Calls prog 145 #[ptr B, .int .i64 N.length] w fun e w' => (∃ v, e = .returned v) /\ ∃ Pv', Wr K m w' B Bb Pv' sv r L /\ Pv'.ownBlock = Pv.ownBlock /\ Fm B B Pv.ownBlock none w w' := by
 have HW := hid h
 obtain ⟨k0, k1, k2, k3⟩ := wk_box h.box
 have f0 := frozen_box h.box 0
 obtain ⟨a, cap, hPv, hl1, hl2, hl3, hel⟩ := h.sk
 obtain ⟨g, u, rfl, -⟩ := hel 0 (by rw [List.length_append]; omega)
 subst hPv
 have hle : L.length + N.length = (L ++ N).length := by rw [List.length_append]
 obtain ⟨n, hn⟩ : ∃ n, (L ++ N).length = n := ⟨_, rfl⟩
 have HLN := hid hn
 rw [hn] at hle hl1 hl2 k0
 have hwp : IntKind.i64.wrap ((n : Int) - (N.length : Int)) = (L.length : Int) := by rw [IntKind.wrap_i64]; omega
 have i0 : (0 : Int) <= (L.length : Int) := by omega
 have i1 : (L.length : Int) <= (cap : Int) := by omega
 obtain ⟨W9, hW9⟩ : ∃ W9, w.setCell ⟨B, 0, none⟩ (.slice (some ⟨g, 0, none⟩) L.length cap) = W9 := ⟨_, rfl⟩
 have hs9 : W9.heap.size = w.heap.size := by rw [<- hW9, World.size_setCell]
 have ho9 : ∀ b, b ≠ B -> W9.heap[b]? = w.heap[b]? := fun b hb => by rw [<- hW9, Below.heap_setCell _ _ _ _ (by simpa using hb)]
 have hb9 : ∀ n, n <= B -> Below n w W9 := fun n hn => by rw [<- hW9]; exact (Below.refl n w).setCell (by simpa using hn) _
 have HE : Hid (Wr K m W9 B Bb (.slice (some ⟨g, 0, none⟩) L.length cap) sv r L /\ Fm B B (Value.slice (some ⟨g, 0, none⟩) (L ++ N).length cap).ownBlock none w W9) := by
  have hso : So K (m + 1) W9 (.slice (some ⟨g, 0, none⟩) L.length cap) L := so_keep (so_take HW.out.so) (fun b hl hc => ho9 b (by
   rcases hc with hc | hc
   ·have := HW.out.lB; omega
   ·exact (HW.out.xb b hc).2.2.1))
  refine ⟨⟨?_, HW.out.lB, HW.out.lb, HW.out.ne, ?_, fun W' hW' => HW.out.tk W' ((hb9 K HW.out.lB).trans hW'), so_sk hso (by omega), fun x hx => ⟨(HW.out.xb x hx).1, by rw [hs9]; exact (HW.out.xb x hx).2.1, (HW.out.xb x hx).2.2⟩, ⟨by rw [hs9]; exact HW.out.zb.1, HW.out.zb.2⟩, fun j hj => ?_, hso⟩, ⟨fun n h1 h2 h3 h4 => hb9 n h1, by omega, fun b h1 h2 h3 h4 h5 => ho9 b h2⟩⟩
  ·rw [<- hW9]
   exact TBase.block_set HW.out.box _
  ·intro j c hj
   refine HW.out.wfs j c ?_
   unfold rh at hj ⊢
   split at hj
   ·next h0 =>
    rw [if_pos h0, List.getElem?_append_left (by have := (List.getElem?_eq_some_iff.1 hj).1; omega)]
    exact hj
   ·cases hj
  ·exact (World.cell?_of_block (w := w) (ho9 sv.1 HW.out.zb.2.1)).trans (HW.out.zc j hj)
 have HN0 := hid hle
 have HE2 : Hid (Wr K m W9.drew B Bb (.slice (some ⟨g, 0, none⟩) L.length cap) sv r L /\ Fm B B (Value.slice (some ⟨g, 0, none⟩) (L ++ N).length cap).ownBlock none w W9.drew) := ⟨HE.out.1.below ((Below.refl _ _).drew), ⟨fun n h1 h2 h3 h4 => (HE.out.2.below n h1 h2 h3 h4).drew, HE.out.2.size, HE.out.2.other⟩⟩
 clear h hel hn hb9 ho9 hs9 hle k1 k2 k3 h0
 go_enter func145, ntmps145
 go_wp2_with fail
 go_region
 all_goals (try go_wp2_with fail)
 all_goals (try go_end0)
 all_goals (try rw [hW9])
 all_goals exact ⟨⟨_, rfl⟩, _, HE2.out.1, rfl, HE2.out.2⟩
theorem whole_c (i : Int) (w : World) : Calls prog 144 #[.int .i64 i] w fun e w' => e = .returned (.agg #[.int .i64 3, .bool false, .int .i64 i, .string ⟨#[]⟩, .slice none 0 0, .slice none 0 0]) /\ Below w.heap.size w w' := by
 obtain ⟨W, hW⟩ : ∃ W, w.alloc (.cells #[.int .i64 3, .bool false, .int .i64 i, .string ⟨#[]⟩, .slice none 0 0, .slice none 0 0] 26) = W := ⟨_, rfl⟩
 have b0 := alB hW
 have h0 := alG hW
 have HW := hid hW
 have H0 := hid h0
 clear hW h0
 go_enter func144, ntmps144
 go_wp2_with fail
 rw [HW.out]
 refine bodyPost_ret (results_cell_row rfl _ W w.heap.size 26 _ (0, 0) _ rfl H0.out underlying26 rfl (by kernel_rfl)) rfl ?_
 exact ⟨rfl, b0⟩
end Go.Proofs.YtiijfmdfccdagaaGreatDoor.GPu

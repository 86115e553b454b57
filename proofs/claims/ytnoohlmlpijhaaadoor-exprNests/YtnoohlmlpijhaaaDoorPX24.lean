import Derived.Lib.ItoaLen
import Derived.Test.YtnoohlmlpijhaaaDoorPX04
import Derived.Test.YtnoohlmlpijhaaaDoorPX17
import Derived.Test.YtnoohlmlpijhaaaDoorPX23
namespace Go.Proofs.YtnoohlmlpijhaaaDoor.PPe
open Go.RowKit Go.Proofs.YtnoohlmlpijhaaaDoor.Base Go.Proofs.YtnoohlmlpijhaaaDoor.EPure Go.Proofs.YtnoohlmlpijhaaaDoor.ENd Go.Proofs.YtnoohlmlpijhaaaDoor.PPk Go.Proofs.YtnoohlmlpijhaaaDoor.PPl Go.Proofs.YtnoohlmlpijhaaaDoor.PFit Go.Proofs.YtnoohlmlpijhaaaDoor.PPr Go.Proofs.YtnoohlmlpijhaaaDoor.PBt Go.Proofs.YtnoohlmlpijhaaaDoor.PSg Go.Proofs.YtnoohlmlpijhaaaDoor.PPa Go.Proofs.YtnoohlmlpijhaaaDoor.PPb Go.Proofs.YtnoohlmlpijhaaaDoor.PPc Go.Proofs.YtnoohlmlpijhaaaDoor.PPd
set_option linter.unusedVariables false
theorem pr_open {z o i : Int} {s : ByteArray} {l : List Ex} (h : ¬ lvl o < z) : pr z (.mk o i s l) = bdy o i s (prL l (kl o)) := by
  show PPr.par z o (bdy o i s (prL l (kl o))) = _
  unfold PPr.par
  rw [if_neg h]
theorem pr_shut {z : Int} {x : Ex} (h : lvl x.o < z) : pr z x = 40 :: pr (-1) x ++ [41] := by
  have h1 : ¬ lvl x.o < -1 := by have := lvl_ge x.o; omega
  unfold pr PPr.par
  rw [if_pos h, if_neg h1]
theorem one_of {l : List Ex} (h : l.length = 1) : ∃ y, l = [y] := by
  match l, h with
  | [y], _ => exact ⟨y, rfl⟩
theorem two_of {l : List Ex} (h : l.length = 2) : ∃ y x, l = [y, x] := by
  match l, h with
  | [y, x], _ => exact ⟨y, x, rfl⟩
theorem three_of {l : List Ex} (h : l.length = 3) : ∃ y x t, l = [y, x, t] := by
  match l, h with
  | [y, x, t], _ => exact ⟨y, x, t, rfl⟩
theorem kd_bin {o : Int} (h1 : 12 ≤ o) (h2 : o ≤ 30) : kd o = 2 := by
  unfold kd
  rw [if_neg (by omega), if_neg (by omega), if_pos (by omega)]
theorem lvl_bin {o : Int} (h1 : 12 ≤ o) (h2 : o ≤ 30) : 0 ≤ lvl o ∧ lvl o ≤ 10 := by
  unfold lvl
  repeat' split
  all_goals omega
theorem lvl_part {o : Int} (h1 : 1 ≤ o) (h2 : o ≤ 9) : lvl o = 12 := by
  unfold lvl
  repeat' rw [if_neg (by omega)]
theorem kl_bin {o : Int} (h1 : 12 ≤ o) (h2 : o ≤ 30) : kl o = [lvl o, lvl o + 1] := by
  unfold kl
  repeat' rw [if_neg (by omega)]
theorem bdy_bin {o i : Int} {s : ByteArray} {p q : List UInt8} (h1 : 12 ≤ o) (h2 : o ≤ 30) : bdy o i s [p, q] = p ++ [32] ++ sgo o ++ [32] ++ q := by
  unfold bdy
  repeat' rw [if_neg (by omega)]
  rfl
theorem bdy_word {o i : Int} {s : ByteArray} {p : List (List UInt8)} (h1 : 1 ≤ o) (h2 : o ≤ 3) : bdy o i s p = (wdl.getD o.toNat ByteArray.empty).data.toList := by
  unfold bdy
  iterate 9 rw [if_neg (by omega)]
  rw [if_pos h2]
theorem str_len {i : Int} {s : ByteArray} (h : ft 5 i s = true) : s.size ≤ 4096 := by
  have h : ((i == 0) && tx s) = true := h
  simp only [tx, tg, Bool.and_eq_true, decide_eq_true_eq] at h
  exact h.2.1.1
theorem call_rg {i : Int} {s : ByteArray} (h : ft 9 i s = true) : 1 ≤ i ∧ i ≤ 8 := by
  have h : ((decide (1 ≤ i) && decide (i ≤ 8)) && (s.size == 0)) = true := h
  simp only [Bool.and_eq_true, decide_eq_true_eq] at h
  exact h.1
theorem part_all {m : Nat} {o i : Int} {s : ByteArray} {l : List Ex} (ih : ∀ x : Ex, gd x → ∀ z, Ap m z x) (hg : gd (.mk o i s l)) (h1 : 1 ≤ o) (h9 : o ≤ 9) : Cl 28 (m + 1) (.mk o i s l) (bdy o i s (prL l (kl o))) := by
  obtain ⟨hn, hf, hk⟩ := hg
  have hn : (l.length : Int) = kd o := hn
  have hf : ft o i s = true := hf
  have hk : gdL l := hk
  intro B W v u L hin hT hp hl
  by_cases h3 : o ≤ 3
  · have hkd : kd o = 0 := by unfold kd; rw [if_pos (by omega)]
    obtain rfl : l = [] := List.length_eq_zero_iff.1 (by omega)
    rw [bdy_word h1 h3] at hl ⊢
    exact part_word h1 h3 hin hT hp hl
  have ho : o = 4 ∨ o = 5 ∨ o = 6 ∨ o = 7 ∨ o = 8 ∨ o = 9 := by omega
  rcases ho with rfl | rfl | rfl | rfl | rfl | rfl
  · obtain rfl : l = [] := List.length_eq_zero_iff.1 (by have : kd 4 = 0 := rfl; omega)
    exact part_int hin hT hp hl
  · obtain rfl : l = [] := List.length_eq_zero_iff.1 (by have : kd 5 = 0 := rfl; omega)
    exact part_str (str_len hf) hin hT hp hl
  · obtain rfl : l = [] := List.length_eq_zero_iff.1 (by have : kd 6 = 0 := rfl; omega)
    exact part_var hin hT hp hl
  · obtain ⟨y, rfl⟩ := one_of (l := l) (by have : kd 7 = 1 := rfl; omega)
    have e : bdy 7 i s (prL [y] (kl 7)) = pr 12 y ++ [46] ++ s.data.toList := by rw [show kl 7 = [12] from rfl, pr1]; rfl
    rw [e] at hl ⊢
    exact part_field (ih y (gdL_cons.1 hk).1 12) hin hT hp hl
  · obtain ⟨y, x, rfl⟩ := two_of (l := l) (by have : kd 8 = 2 := rfl; omega)
    have e : bdy 8 i s (prL [y, x] (kl 8)) = pr 12 y ++ (91 :: pr (-1) x ++ [93]) := by rw [show kl 8 = [12, -1] from rfl, pr2]; rfl
    rw [e] at hl ⊢
    exact part_index (ih y (gdL_cons.1 hk).1 12) (ih x (gdL_cons.1 (gdL_cons.1 hk).2).1 (-1)) hin hT hp hl
  · obtain ⟨y, rfl⟩ := one_of (l := l) (by have : kd 9 = 1 := rfl; omega)
    have e : bdy 9 i s (prL [y] (kl 9)) = (cll.getD i.toNat ByteArray.empty).data.toList ++ (40 :: pr (-1) y ++ [41]) := by rw [show kl 9 = [-1] from rfl, pr1]; rfl
    rw [e] at hl ⊢
    exact part_call (call_rg hf).1 (call_rg hf).2 (ih y (gdL_cons.1 hk).1 (-1)) hin hT hp hl
theorem open_all {m : Nat} {o i : Int} {s : ByteArray} {l : List Ex} (ih : ∀ x : Ex, gd x → ∀ z, Ap m z x) (hg : gd (.mk o i s l)) {z : Int} (hz : ¬ lvl o < z) : Ap (m + 1) z (.mk o i s l) := by
  have hr := gd_range hg
  have hr : 1 ≤ o ∧ o ≤ 31 := hr
  have hn : (l.length : Int) = kd o := hg.1
  have hk : gdL l := hg.2.2
  intro B W v u L hin hT hp hl
  rw [pr_open hz] at hl ⊢
  by_cases h9 : o ≤ 9
  · exact expr_part (x := .mk o i s l) hr hz (lvl_part hr.1 h9) (part_all ih hg hr.1 h9) hin hT hp hl
  by_cases h11 : o = 10 ∨ o = 11
  · rcases h11 with rfl | rfl
    · obtain ⟨y, rfl⟩ := one_of (l := l) (by have : kd 10 = 1 := rfl; omega)
      have e : bdy 10 i s (prL [y] (kl 10)) = 45 :: pr 11 y := by rw [show kl 10 = [11] from rfl, pr1]; rfl
      rw [e] at hl ⊢
      refine expr_sign (x := .mk _ i s [y]) hr hz rfl (R := 45 :: pr 11 y) ?_ hin hT hp hl
      intro B W v u L hin hT hp hl
      exact signed_c (k := 45) (.inl ⟨rfl, rfl, rfl⟩) (ih y (gdL_cons.1 hk).1 11) hin hT hp (by simp only [List.length_cons] at hl; omega)
    · obtain ⟨y, rfl⟩ := one_of (l := l) (by have : kd 11 = 1 := rfl; omega)
      have e : bdy 11 i s (prL [y] (kl 11)) = 33 :: pr 11 y := by rw [show kl 11 = [11] from rfl, pr1]; rfl
      rw [e] at hl ⊢
      refine expr_sign (x := .mk _ i s [y]) hr hz rfl (R := 33 :: pr 11 y) ?_ hin hT hp hl
      intro B W v u L hin hT hp hl
      exact signed_c (k := 33) (.inr ⟨rfl, rfl, rfl⟩) (ih y (gdL_cons.1 hk).1 11) hin hT hp (by simp only [List.length_cons] at hl; omega)
  by_cases h31 : o = 31
  · subst h31
    obtain ⟨y, x, t, rfl⟩ := three_of (l := l) (by have : kd 31 = 3 := rfl; omega)
    have e : bdy 31 i s (prL [y, x, t] (kl 31)) = pr 0 y ++ [32, 63, 32] ++ pr (-1) x ++ [32, 58, 32] ++ pr (-1) t := by rw [show kl 31 = [0, -1, -1] from rfl, pr3]; rfl
    rw [e] at hl ⊢
    have hz1 : z ≤ -1 := by have : lvl 31 = -1 := rfl; omega
    exact expr_choice hz1 (ih y (gdL_cons.1 hk).1 0) (ih x (gdL_cons.1 (gdL_cons.1 hk).2).1 (-1)) (ih t (gdL_cons.1 (gdL_cons.1 (gdL_cons.1 hk).2).2).1 (-1)) hin hT hp hl
  have h12 : 12 ≤ o := by omega
  have h30 : o ≤ 30 := by omega
  obtain ⟨y, x, rfl⟩ := two_of (l := l) (by have := kd_bin h12 h30; omega)
  have e : bdy o i s (prL [y, x] (kl o)) = pr (lvl o) y ++ [32] ++ (⟨(sgo o).toArray⟩ : ByteArray).data.toList ++ [32] ++ pr (lvl o + 1) x := by rw [kl_bin h12 h30, pr2, bdy_bin h12 h30]
  rw [e] at hl ⊢
  exact expr_bin hr rfl rfl (lvl_bin h12 h30).1 (lvl_bin h12 h30).2 hz (ih y (gdL_cons.1 hk).1 _) (ih x (gdL_cons.1 (gdL_cons.1 hk).2).1 _) hin hT hp hl
/-- appendExpr appends pr z x. -/
theorem expr_all : ∀ (m : Nat) (x : Ex), gd x → ∀ z, Ap m z x := by
  intro m
  induction m with
  | zero =>
    intro x _ z B W v u L hin
    obtain ⟨m', _, h, _⟩ := hin.shape
    exact absurd h (by omega)
  | succ m ih =>
    intro x hg z
    obtain ⟨o, i, s, l⟩ := x
    by_cases hz : lvl o < z
    · have h1 : ¬ lvl o < -1 := by have := lvl_ge o; omega
      have hc : Ap (m + 1) (-1) (.mk o i s l) := open_all ih hg h1
      intro B W v u L hin hT hp hl
      rw [pr_shut (x := .mk o i s l) hz] at hl ⊢
      exact expr_par (x := .mk o i s l) (gd_range hg) hz hc hin hT hp hl
    · exact open_all ih hg hz
end Go.Proofs.YtnoohlmlpijhaaaDoor.PPe
namespace Go.Proofs.YtnoohlmlpijhaaaDoor.PPp
open Go.RowKit Go.Proofs.YtnoohlmlpijhaaaDoor.Base Go.Proofs.YtnoohlmlpijhaaaDoor.EPure Go.Proofs.YtnoohlmlpijhaaaDoor.ERd Go.Proofs.YtnoohlmlpijhaaaDoor.ETx Go.Proofs.YtnoohlmlpijhaaaDoor.PPk Go.Proofs.YtnoohlmlpijhaaaDoor.PMay Go.Proofs.YtnoohlmlpijhaaaDoor.PPr Go.Proofs.YtnoohlmlpijhaaaDoor.PBt Go.Proofs.YtnoohlmlpijhaaaDoor.PPe
open Go.Proofs.YtnoohlmlpijhaaaDoor.XBase (four_box)
set_option linter.unusedVariables false
/-- What Print answers: the text and the code. -/
def ptx (x : Ex) : List UInt8 := if (mayL [x] 512).1 = true then pr (-1) x else []
def pcd (x : Ex) : Int := if (mayL [x] 512).1 = true then 0 else 1003
set_option maxRecDepth 20000 in
set_option maxHeartbeats 3200000 in
theorem print_c {m : Nat} {x : Ex} {w : World} {u : Value} (hin : XBase.In false (fun b => b < w.heap.size) w m u x) (hT : ∀ W', Below w.heap.size w W' → Digits.Tab W') (hl : (mayL [x] 512).1 = true → (pr (-1) x).length ≤ 100000000000) :
    Calls Tryd.prog 9 #[u] w fun e w' => e = .returned (.tuple #[.string ⟨(ptx x).toArray⟩, .int .i64 (pcd x)]) ∧ Below w.heap.size w w' := by
  obtain ⟨m', lv, rfl, hu, ho, hi, hs, hL⟩ := hin.shape
  obtain ⟨a, cap, rfl, hLr⟩ := hL
  have HIN : Hid (XBase.In false (fun b => b < w.heap.size) w (m' + 1) u x) := hin
  have HT : Hid (∀ W', Below w.heap.size w W' → Digits.Tab W') := hT
  clear hin hLr hT
  subst hu
  obtain ⟨W1, hW1⟩ : ∃ W1, w.alloc (.cells #[.int .i64 x.o, .int .i64 x.i, .string x.s, .slice a x.l.length cap] 24) = W1 := ⟨_, rfl⟩
  have b1 : Below w.heap.size w W1 := by rw [← hW1]; exact (Below.refl _ w).alloc (Nat.le_refl _) _
  have hs1 : W1.heap.size = w.heap.size + 1 := by rw [← hW1]; simp
  have hbx : W1.heap[w.heap.size]? = some (.cells #[.int .i64 x.o, .int .i64 x.i, .string x.s, .slice a x.l.length cap] 24 (0, 0)) := by rw [← hW1]; exact heap_alloc_new w _
  have HBX1 : Hid (W1.heap[w.heap.size]? = some (.cells #[.int .i64 x.o, .int .i64 x.i, .string x.s, .slice a x.l.length cap] 24 (0, 0))) := hbx
  have cM := may_c (m := m' + 1) (w := W1) (x := x) ((HIN.out.keep (keepB b1)).weak (S' := fun _ => True) (fun b _ => trivial) false id (m' + 1) (Nat.le_refl _))
  obtain ⟨y0, y1, y2, y3⟩ := four_box hbx
  have HS1 : Hid (W1.heap.size = w.heap.size + 1) := hs1
  have HB1 : Hid (Below w.heap.size w W1) := b1
  clear hbx b1 hs1
  unfold ptx pcd
  cases hm : (mayL [x] 512).1 with
  | false =>
    rw [hm] at cM
    simp only [Bool.false_eq_true, if_false]
    clear hl hm
    go_enter Tryd.func9, Tryd.ntmps9
    go_wp2_with fail
    refine cM.mono ?_
    rintro e W3 ⟨rfl, b3⟩
    clear y0 y1 y2 y3 hW1 cM
    go_wp2_with fail
    go_ret2
    exact ⟨rfl, nx HB1.out b3⟩
  | true =>
    rw [hm] at cM
    simp only [if_true]
    have HG : Hid (gd x) := (gdL_cons.1 (gd_of _ [x] 512 (Nat.le_refl _) hm)).1
    have HLN : Hid ((pr (-1) x).length ≤ 100000000000) := hl hm
    clear hl hm
    go_enter Tryd.func9, Tryd.ntmps9
    go_wp2_with fail
    refine cM.mono ?_
    rintro e W3 ⟨rfl, b3⟩
    clear y0 y1 y2 y3 hW1 cM
    have hb3 : Below w.heap.size w W3 := nx HB1.out b3
    have hbx3 := (b3.block w.heap.size (by have := HS1.out; omega)).trans HBX1.out
    obtain ⟨y0, y1, y2, y3⟩ := four_box hbx3
    have hsz := hb3.size
    have cE := expr_all (m' + 1) x HG.out (-1) w.heap.size W3 (.slice none 0 0) _ [] (HIN.out.keep (keepB hb3)) (fun W' hW => HT.out W' (hb3.trans hW)) (Pk.start (World.ownsRow_nil _ _ _ _) hsz (by simp)) (by have := HLN.out; simp only [List.length_nil]; omega)
    have HB3 : Hid (Below w.heap.size w W3) := hb3
    clear hb3 hbx3 b3
    go_wp2_with fail
    refine cE.mono ?_
    rintro e W4 ⟨v4, rfl, hq4⟩
    have hconv := own_conv hq4.own
    have HB4 : Hid (Below w.heap.size w W4) := HB3.out.trans hq4.bel
    obtain ⟨a4, n4, c4, rfl⟩ := hq4.shape
    rw [List.nil_append] at hconv
    obtain ⟨X, hX⟩ : ∃ X, pr (-1) x = X := ⟨_, rfl⟩
    have HXE : Hid (pr (-1) x = X) := hX
    rw [hX] at hconv
    clear hq4 cE y0 y1 y2 y3 hX
    go_wp2_with fail
    go_ret2
    rw [HXE.out]
    exact ⟨rfl, HB4.out⟩
end Go.Proofs.YtnoohlmlpijhaaaDoor.PPp
namespace Go.Proofs.YtnoohlmlpijhaaaDoor.ERg
open Go.Proofs.YtnoohlmlpijhaaaDoor.EPure
set_option linter.unusedVariables false
/-- Each Int is one. -/
def rgL : List Ex → Prop
  | [] => True
  | .mk o i s l :: t => (-9223372036854775808 ≤ i ∧ i ≤ 9223372036854775807) ∧ rgL l ∧ rgL t
theorem rgL_cons {x : Ex} {t : List Ex} : rgL (x :: t) ↔ (-9223372036854775808 ≤ x.i ∧ x.i ≤ 9223372036854775807) ∧ rgL x.l ∧ rgL t := by
  obtain ⟨o, i, s, l⟩ := x
  rw [rgL]
  exact Iff.rfl
theorem rgL_all : ∀ {l : List Ex}, (∀ j (h : j < l.length), rgL [l[j]]) → rgL l
  | [], _ => by rw [rgL]; trivial
  | x :: t, h => by
    have h0 := rgL_cons.1 (h 0 (by simp))
    have ht := rgL_all (l := t) fun j hj => h (j + 1) (by simp; omega)
    exact rgL_cons.2 ⟨h0.1, h0.2.1, ht⟩
end Go.Proofs.YtnoohlmlpijhaaaDoor.ERg
namespace Go.Proofs.YtnoohlmlpijhaaaDoor.PLen
open Go.RowKit Go.Proofs.YtnoohlmlpijhaaaDoor.Base Go.Proofs.YtnoohlmlpijhaaaDoor.UBase Go.Proofs.YtnoohlmlpijhaaaDoor.EPure Go.Proofs.YtnoohlmlpijhaaaDoor.ENd Go.Proofs.YtnoohlmlpijhaaaDoor.PPl Go.Proofs.YtnoohlmlpijhaaaDoor.PFit Go.Proofs.YtnoohlmlpijhaaaDoor.PMay Go.Proofs.YtnoohlmlpijhaaaDoor.PTx Go.Proofs.YtnoohlmlpijhaaaDoor.PPr Go.Proofs.YtnoohlmlpijhaaaDoor.ERg
set_option linter.unusedVariables false
theorem rg_of {r : Bool} {S : Nat → Prop} {w : World} : ∀ {m : Nat} {v : Value} {c : Ex}, XBase.In r S w m v c → rgL [c] := by
  intro m
  induction m with
  | zero => intro v c h; rw [XBase.In] at h; exact h.elim
  | succ m ih =>
    intro v c h
    obtain ⟨o, i, s, l⟩ := c
    rw [XBase.In] at h
    obtain ⟨a, cap, h1, h2, h3, h4, h5, h6, h7, h8, h9⟩ := h
    refine rgL_cons.2 ⟨h3, ?_, by rw [rgL]; trivial⟩
    rcases h9 with ⟨rfl, -⟩ | ⟨g, q, -, -, hg, -⟩
    · show rgL []; rw [rgL]; trivial
    · exact rgL_all fun j hj => by
        obtain ⟨u, -, hu⟩ := hg j hj
        exact ih hu
theorem getD3 (p : List (List UInt8)) : (p.getD 0 []).length + (p.getD 1 []).length + (p.getD 2 []).length ≤ p.flatten.length := by
  rcases p with _ | ⟨a, _ | ⟨b, _ | ⟨c, t⟩⟩⟩ <;> simp
  omega
theorem word_len {s : ByteArray} {j : Nat} (h : word s j = true) : s.data.toList.length ≤ 32 := by
  unfold word at h
  simp only [Bool.and_eq_true, decide_eq_true_eq] at h
  have := h.2.1
  rwa [← ByteArray.size_data, ← Array.length_toList] at this
theorem wdl_len : ∀ k : Nat, (wdl.getD k ByteArray.empty).data.toList.length ≤ 8
  | 0 => by decide
  | 1 => by decide
  | 2 => by decide
  | 3 => by decide
  | k + 4 => by
    have : (wdl.getD (k + 4) ByteArray.empty) = ByteArray.empty := by simp [wdl]
    rw [this]; decide
theorem cll_len : ∀ k : Nat, (cll.getD k ByteArray.empty).data.toList.length ≤ 8
  | 0 => by decide
  | 1 => by decide
  | 2 => by decide
  | 3 => by decide
  | 4 => by decide
  | 5 => by decide
  | 6 => by decide
  | 7 => by decide
  | 8 => by decide
  | k + 9 => by
    have : (cll.getD (k + 9) ByteArray.empty) = ByteArray.empty := by simp [cll]
    rw [this]; decide
theorem ite_len {p : Prop} [Decidable p] {a b : List UInt8} {n : Nat} (ha : a.length ≤ n) (hb : b.length ≤ n) : (if p then a else b).length ≤ n := by
  by_cases h : p
  · rwa [if_pos h]
  · rwa [if_neg h]
theorem sgo_len (o : Int) : (sgo o).length ≤ 2 := by
  unfold sgo
  repeat refine ite_len (by decide) ?_
  decide
theorem tx_len {s : ByteArray} (h : tx s = true) : s.data.toList.length ≤ 4096 := by
  unfold tx tg at h
  simp only [Bool.and_eq_true, decide_eq_true_eq] at h
  have := h.1.1
  rwa [← ByteArray.size_data, ← Array.length_toList] at this
theorem bdy_len {o i : Int} {s : ByteArray} (p : List (List UInt8)) (hf : ft o i s = true) (hi : -9223372036854775808 ≤ i ∧ i ≤ 9223372036854775807) : (bdy o i s p).length ≤ p.flatten.length + 8300 := by
  have h3 := getD3 p
  unfold bdy
  unfold ft at hf
  by_cases h : o = 31
  · rw [if_pos h]; simp only [List.length_append, List.length_cons, List.length_nil]; omega
  rw [if_neg h]
  by_cases h : o = 10
  · rw [if_pos h]; simp only [List.length_cons]; omega
  rw [if_neg h]
  by_cases h : o = 11
  · rw [if_pos h]; simp only [List.length_cons]; omega
  rw [if_neg h]
  by_cases h : o = 4
  · rw [if_pos h]
    have := Lib.itoa_length_le i hi.1 hi.2
    omega
  rw [if_neg h]; rw [if_neg h] at hf
  by_cases h : o = 5
  · rw [if_pos h]; rw [if_pos h] at hf
    simp only [Bool.and_eq_true] at hf
    have h1 := tx_len hf.2
    have h2 := fm_len s.data.toList
    unfold qt
    simp only [List.length_cons, List.length_append, List.length_nil]
    omega
  rw [if_neg h]; rw [if_neg h] at hf
  by_cases h : o = 6
  · rw [if_pos h]; rw [if_pos h] at hf
    simp only [Bool.and_eq_true] at hf
    have := word_len hf.2.1
    omega
  rw [if_neg h]; rw [if_neg h] at hf
  by_cases h : o = 7
  · rw [if_pos h]; rw [if_pos h] at hf
    simp only [Bool.and_eq_true] at hf
    have := word_len hf.2
    simp only [List.length_append, List.length_cons, List.length_nil]
    omega
  rw [if_neg h]; rw [if_neg h] at hf
  by_cases h : o = 8
  · rw [if_pos h]; simp only [List.length_append, List.length_cons, List.length_nil]; omega
  rw [if_neg h]
  by_cases h : o = 9
  · rw [if_pos h]
    have := cll_len i.toNat
    simp only [List.length_append, List.length_cons, List.length_nil]; omega
  rw [if_neg h]
  by_cases h : o ≤ 3
  · rw [if_pos h]
    have := wdl_len o.toNat
    omega
  rw [if_neg h]
  have := sgo_len o
  simp only [List.length_append, List.length_cons, List.length_nil]; omega
theorem par_len (z o : Int) (t : List UInt8) : (PPr.par z o t).length ≤ t.length + 2 := by
  unfold PPr.par
  split
  · simp
  · omega
theorem prL_len : ∀ (n : Nat) (l : List Ex) (r : Nat) (z : List Int), SizeOf.sizeOf l ≤ n → rgL l → (mayL l r).1 = true → (prL l z).flatten.length + 9000 * (mayL l r).2 ≤ 9000 * r := by
  intro n
  induction n with
  | zero =>
    intro l r z h _ hm
    cases l with
    | nil => rw [mayL_nil, prL_nil]; simp
    | cons x t => exact absurd h (by simp)
  | succ n ih =>
    intro l r z h hg hm
    cases l with
    | nil => rw [mayL_nil, prL_nil]; simp
    | cons x t =>
      obtain ⟨o, i, s, k⟩ := x
      obtain ⟨gi, gk, gt⟩ := rgL_cons.1 hg
      rw [mayL] at hm ⊢
      by_cases hc : r = 0 ∨ (k.length : Int) ≠ kd o ∨ ft o i s = false
      · rw [if_pos hc] at hm; cases hm
      · rw [if_neg hc] at hm ⊢
        have h1 := ih k (r - 1) (kl o) (by simp at h; omega) gk
        have hf : ft o i s = true := by
          cases hf : ft o i s with
          | true => rfl
          | false => exact (hc (.inr (.inr hf))).elim
        have hb := bdy_len (prL k (kl o)) hf gi
        have hp := par_len (z.headD 0) o (bdy o i s (prL k (kl o)))
        cases e : mayL k (r - 1) with
        | mk b r' =>
          rw [e] at h1 hm
          cases b with
          | false => cases hm
          | true =>
            have h2 := ih t r' z.tail (by simp at h; omega) gt hm
            have h3 := h1 rfl
            rw [prL]
            simp only [List.flatten_cons, List.length_append] at *
            omega
theorem pr_len {x : Ex} (hg : rgL [x]) (hm : (mayL [x] 512).1 = true) : (pr (-1) x).length ≤ 100000000000 := by
  have h := prL_len _ [x] 512 [-1] (Nat.le_refl _) hg hm
  rw [pr1] at h
  simp only [List.flatten_cons, List.flatten_nil, List.append_nil] at h
  omega
/-- Print, at every tree. -/
theorem print_c {m : Nat} {x : Ex} {w : World} {u : Value} (hin : XBase.In false (fun b => b < w.heap.size) w m u x) (hT : ∀ W', Below w.heap.size w W' → Digits.Tab W') :
    Calls Tryd.prog 9 #[u] w fun e w' => e = .returned (.tuple #[.string ⟨(PPp.ptx x).toArray⟩, .int .i64 (PPp.pcd x)]) ∧ Below w.heap.size w w' :=
  PPp.print_c hin hT fun hm => pr_len (rg_of hin) hm
end Go.Proofs.YtnoohlmlpijhaaaDoor.PLen
namespace Go.Proofs.YtnoohlmlpijhaaaDoor.ECo
open Go.RowKit Go.Proofs.YtnoohlmlpijhaaaDoor.Base Go.Proofs.YtnoohlmlpijhaaaDoor.UBase Go.Proofs.YtnoohlmlpijhaaaDoor.EPure Go.Proofs.YtnoohlmlpijhaaaDoor.ERd Go.Proofs.YtnoohlmlpijhaaaDoor.ESk Go.Proofs.YtnoohlmlpijhaaaDoor.ETk Go.Proofs.YtnoohlmlpijhaaaDoor.EChr Go.Proofs.YtnoohlmlpijhaaaDoor.ECh Go.Proofs.YtnoohlmlpijhaaaDoor.ESc Go.Proofs.YtnoohlmlpijhaaaDoor.EAdv Go.Proofs.YtnoohlmlpijhaaaDoor.EDn Go.Proofs.YtnoohlmlpijhaaaDoor.EGx Go.Proofs.YtnoohlmlpijhaaaDoor.EBt Go.Proofs.YtnoohlmlpijhaaaDoor.EPa Go.Proofs.YtnoohlmlpijhaaaDoor.EPt
open Go.Proofs.YtnoohlmlpijhaaaDoor.XBase (four_box frozen_box Rg)
set_option linter.unusedVariables false
def chk5 (t a : Ex) : A Ex → A Ex
  | .error e => .error e
  | .ok (b, g5) => .ok (nd 31 [t, a, b], g5)
def chk4 (C : P) (t a : Ex) : Except F Sr → A Ex
  | .error e => .error e
  | .ok g4 => chk5 t a (C g4)
def chk3 (s : ByteArray) (C : P) (t : Ex) : A Ex → A Ex
  | .error e => .error e
  | .ok (a, g3) => chk4 C t a (tak s [58] g3)
def chk2 (s : ByteArray) (C : P) (t : Ex) : Except F Sr → A Ex
  | .error e => .error e
  | .ok g2 => chk3 s C t (C g2)
def chk1 (s : ByteArray) (C : P) : A Ex → A Ex
  | .error e => .error e
  | .ok (t, g1) => if is g1.tk [63] = true then chk2 s C t (adv s g1.a g1.r) else .ok (t, g1)
theorem chc_eq (s : ByteArray) (S C : P) (g : Sr) : chc s S C g = chk1 s C (lev s S 11 g) := by
  unfold chc chk1 chk2 chk3 chk4 chk5
  rfl
set_option maxRecDepth 20000 in
set_option maxHeartbeats 3200000 in
theorem choice_c {s : ByteArray} {n : Nat} {S C : P} (hn : n ≤ 100) (hL : LvI s 0 n (lev s S 11)) (hDS : Dn s (lev s S 11)) (hC : ChI s (n + 1) C) (hD : Dn s C) : ChI s n (chc s S C) := by
  intro w R g h ho
  have hRlt := h.er.lt
  have G0 := Gx.start h ho
  obtain ⟨W0, hW0⟩ : ∃ W0, w.alloc (.cells #[.int .i64 0, .int .i64 0, .string ⟨#[]⟩, .slice none 0 0] 24) = W0 := ⟨_, rfl⟩
  rw [hW0] at G0
  rw [chc_eq]
  obtain ⟨X, hX⟩ : ∃ X, lev s S 11 g = X := ⟨_, rfl⟩
  rw [hX]
  have HX : Hid (lev s S 11 g = X) := hX
  obtain ⟨U, hU⟩ : ∃ U, chk1 s C X = U := ⟨_, rfl⟩
  rw [hU]
  have HU : Hid (chk1 s C X = U) := hU
  have cL := hL W0 R g G0.es G0.ok
  rw [hX, show ((0 : Nat) : Int) = 0 from rfl] at cL
  unfold ptr at cL ⊢
  clear h hX hU
  go_enter Tryd.func31, Tryd.ntmps31
  go_wp2_with fail
  refine cL.mono ?_
  intro e W1 hT
  clear cL hW0
  cases X with
  | error f =>
    obtain ⟨K1, rfl⟩ := hT
    have hU : Except.error f = U := HU.out
    subst hU
    exact ⟨rfl, G0.kr.trans K1, rfl⟩
  | ok p =>
    obtain ⟨x, g1⟩ := p
    obtain ⟨K1, ⟨m, a, c, rfl, hin⟩, E1⟩ := hT
    have G1 := G0.step hRlt K1 E1 (hDS _ _ _ G0.ok HX.out).1
    have l0 := G0.lt
    have s1 := K1.below.size
    obtain ⟨W2, hW2⟩ : ∃ W2, W1.alloc (.cells #[.int .i64 x.o, .int .i64 x.i, .string x.s, .slice a x.l.length c] 24) = W2 := ⟨_, rfl⟩
    have b2 : Below W1.heap.size W1 W2 := by rw [← hW2]; exact (Below.refl _ W1).alloc (Nat.le_refl _) _
    have q2 : W2.heap[W1.heap.size]? = some (.cells #[.int .i64 x.o, .int .i64 x.i, .string x.s, .slice a x.l.length c] 24 (0, 0)) := by rw [← hW2]; exact heap_alloc_new W1 _
    have s2 : W2.heap.size = W1.heap.size + 1 := by rw [← hW2]; simp
    have G2 := G1.below hRlt b2
    have hin2 := hin.below b2
    obtain ⟨k3, k4, k5, k6⟩ := Es.cells G2.es
    obtain ⟨B, hB⟩ : ∃ B, W1.heap.size = B := ⟨_, rfl⟩
    rw [hB] at q2 s2 hin2 s1
    have HBE : Hid (W1.heap.size = B) := hB
    have HIN2 : Hid (XBase.In false (Rg W0.heap.size B) W2 m (.agg #[.int .i64 x.o, .int .i64 x.i, .string x.s, .slice a x.l.length c]) x) := hin2
    have HQ2 : Hid (W2.heap[B]? = some (.cells #[.int .i64 x.o, .int .i64 x.i, .string x.s, .slice a x.l.length c] 24 (0, 0))) := q2
    have HG2 : Hid (Gx w W2 R s g1) := G2
    have HN0 : Hid (w.heap.size < W0.heap.size ∧ W0.heap.size ≤ B ∧ W2.heap.size = B + 1) := ⟨l0, s1, s2⟩
    clear G1 K1 E1 hin hin2 b2 hB G0 l0 s1 s2
    cases hb : is g1.tk [63] with
    | false =>
      have hU : Except.ok (x, g1) = U := by
        rw [← HU.out]
        unfold chk1
        dsimp only
        rw [if_neg (by simp [hb])]
      subst hU
      have cI := is_b hb W2
      obtain ⟨c0, c1, c2, c3⟩ := four_box q2
      clear hb q2 G2
      go_wp2_with fail
      rw [HBE.out]
      clear hW2
      refine cI.mono ?_
      rintro e W3 ⟨rfl, b3⟩
      have G3 := HG2.out.below hRlt b3
      obtain ⟨n0, n1, n2⟩ := HN0.out
      have s3 := b3.size
      have q3 := (b3.block B (by omega)).trans HQ2.out
      have hin3 : XBase.In false (Rg W0.heap.size W3.heap.size) W3 m (.agg #[.int .i64 x.o, .int .i64 x.i, .string x.s, .slice a x.l.length c]) x := in_rg (HIN2.out.below b3) (Nat.le_refl _) (by omega)
      clear c0 c1 c2 c3 k3 k4 k5 k6
      obtain ⟨c0, c1, c2, c3⟩ := four_box q3
      obtain ⟨d0, d1, d2, d3⟩ := four_box G3.box
      have f0 := frozen_box G3.box 0
      have f1 := frozen_box G3.box 1
      have f2 := frozen_box G3.box 2
      have f3 := frozen_box G3.box 3
      obtain ⟨W5, hW5⟩ : ∃ W5, ((((W3.setCell ⟨w.heap.size, 0, none⟩ (.int .i64 x.o)).setCell ⟨w.heap.size, 1, none⟩ (.int .i64 x.i)).setCell ⟨w.heap.size, 2, none⟩ (.string x.s)).setCell ⟨w.heap.size, 3, none⟩ (.slice a x.l.length c)) = W5 := ⟨_, rfl⟩
      obtain ⟨p1, p2⟩ := G3.fin hRlt hin3 n0 hW5
      obtain ⟨y0, y1, y2, y3⟩ := four_box p1
      have HP2 : Hid (PR w W5 R s (.returned (.agg #[.int .i64 x.o, .int .i64 x.i, .string x.s, .slice a x.l.length c])) (.ok (x, g1))) := p2
      clear p1 p2 G3 hin3 q3 cI b3
      go_wp2_with fail
      refine bodyPost_ret (v := .agg #[.int .i64 x.o, .int .i64 x.i, .string x.s, .slice a x.l.length c]) (by simp [results, Tryd.results31, go_sem, y0, y1, y2, y3]) rfl ?_
      exact HP2.out
    | true =>
      have hkk := is_k hb
      obtain ⟨X2, hX2⟩ : ∃ X2, adv s g1.a g1.r = X2 := ⟨_, rfl⟩
      have HX2 : Hid (adv s g1.a g1.r = X2) := hX2
      have HU2 : Hid (chk2 s C x X2 = U) := by
        show _ = _
        rw [← HU.out]
        unfold chk1
        dsimp only
        rw [if_pos hb, hX2]
      have cI := is_b hb W2
      clear hb q2 G2 hX2 HU
      go_wp2_with fail
      rw [HBE.out]
      clear hW2
      refine cI.mono ?_
      rintro e W3 ⟨rfl, b3⟩
      have G3 := HG2.out.below hRlt b3
      obtain ⟨n0, n1, n2⟩ := HN0.out
      have s3 := b3.size
      have q3 := (b3.block B (by omega)).trans HQ2.out
      have hin3 := HIN2.out.below b3
      have cA := adv_c G3.es G3.ok.r
      rw [HX2.out] at cA
      unfold ptr at cA
      clear cI k3 k4 k5 k6 b3 HG2 HIN2 HQ2
      go_wp2_with fail
      refine cA.mono ?_
      intro e W4 hA
      clear cA
      cases X2 with
      | error f =>
        obtain ⟨K4, rfl⟩ := hA
        have hU : Except.error f = U := HU2.out
        subst hU
        exact ⟨rfl, G3.kr.trans K4, rfl⟩
      | ok g2 =>
        obtain ⟨K4, ⟨z, rfl⟩, E4⟩ := hA
        have G4 := G3.step hRlt K4 E4 (adv_mu G3.ok hkk HX2.out).1
        have s4 := K4.below.size
        have q4 := (K4.other B (by omega) (by omega)).trans q3
        have hin4 := in_kr hin3 K4 (by omega)
        have cC := hC W4 R g2 G4.es G4.ok
        obtain ⟨X3, hX3⟩ : ∃ X3, C g2 = X3 := ⟨_, rfl⟩
        have HX3 : Hid (C g2 = X3) := hX3
        have HU3 : Hid (chk3 s C x X3 = U) := by
          show _ = _
          rw [← hX3]
          exact HU2.out
        rw [hX3] at cC
        unfold ptr at cC
        clear K4 E4 G3 q3 hin3 hX3 HU2
        go_wp2_with fail
        refine cC.mono ?_
        intro e W5 hC5
        clear cC
        cases X3 with
        | error f =>
          obtain ⟨K5, rfl⟩ := hC5
          have hU : Except.error f = U := HU3.out
          subst hU
          exact ⟨rfl, G4.kr.trans K5, rfl⟩
        | ok p =>
          obtain ⟨y, g3⟩ := p
          obtain ⟨K5, ⟨m', a', c', rfl, hiny⟩, E5⟩ := hC5
          have G5 := G4.step hRlt K5 E5 (hD _ _ _ G4.ok HX3.out).1
          have s5 := K5.below.size
          have q5 := (K5.other B (by omega) (by omega)).trans q4
          have hin5 := in_kr hin4 K5 (by omega)
          obtain ⟨W6, hW6⟩ : ∃ W6, W5.alloc (.cells #[.int .i64 y.o, .int .i64 y.i, .string y.s, .slice a' y.l.length c'] 24) = W6 := ⟨_, rfl⟩
          have b6 : Below W5.heap.size W5 W6 := by rw [← hW6]; exact (Below.refl _ W5).alloc (Nat.le_refl _) _
          have p6 : W6.heap[W5.heap.size]? = some (.cells #[.int .i64 y.o, .int .i64 y.i, .string y.s, .slice a' y.l.length c'] 24 (0, 0)) := by rw [← hW6]; exact heap_alloc_new W5 _
          have s6 : W6.heap.size = W5.heap.size + 1 := by rw [← hW6]; simp
          have G6 := G5.below hRlt b6
          have q6 := (b6.block B (by omega)).trans q5
          have hin6 := hin5.below b6
          have hiny6 := hiny.below b6
          have cT := take_c G6.es G6.ok.r [58]
          obtain ⟨X4, hX4⟩ : ∃ X4, tak s [58] g3 = X4 := ⟨_, rfl⟩
          have HX4 : Hid (tak s [58] g3 = X4) := hX4
          have HU4 : Hid (chk4 C x y X4 = U) := by
            show _ = _
            rw [← hX4]
            exact HU3.out
          rw [hX4] at cT
          unfold ptr at cT
          obtain ⟨D, hDD⟩ : ∃ D, W5.heap.size = D := ⟨_, rfl⟩
          have HDE : Hid (W5.heap.size = D) := hDD
          rw [hDD] at p6 s6 hiny6 s5
          clear K5 E5 G5 G4 q4 q5 hin4 hin5 hiny b6 hX4 HU3 hDD
          go_wp2_with fail
          rw [HDE.out]
          refine cT.mono ?_
          intro e W7 hT7
          clear cT hW6
          cases X4 with
          | error f =>
            obtain ⟨K7, rfl⟩ := hT7
            have hU : Except.error f = U := HU4.out
            subst hU
            exact ⟨rfl, G6.kr.trans K7, rfl⟩
          | ok g4 =>
            obtain ⟨K7, ⟨z7, rfl⟩, E7⟩ := hT7
            have G7 := G6.step hRlt K7 E7 (tak_mu G6.ok HX4.out).1
            have s7 := K7.below.size
            have q7 := (K7.other B (by omega) (by omega)).trans q6
            have p7 := (K7.other D (by omega) (by omega)).trans p6
            have hin7 := in_kr hin6 K7 (by omega)
            have hiny7 := in_kr hiny6 K7 (by omega)
            have G7d : Gx w W7.drew R s g4 := G7.below hRlt (Below.refl _ W7).drew
            have cC := hC W7.drew R g4 G7d.es G7d.ok
            obtain ⟨X5, hX5⟩ : ∃ X5, C g4 = X5 := ⟨_, rfl⟩
            have HX5 : Hid (C g4 = X5) := hX5
            have HU5 : Hid (chk5 x y X5 = U) := by
              show _ = _
              rw [← hX5]
              exact HU4.out
            rw [hX5, show ((n + 1 : Nat) : Int) = (n : Int) + 1 from by omega] at cC
            unfold ptr at cC
            have hwk : IntKind.i64.wrap ((n : Int) + 1) = (n : Int) + 1 := by rw [IntKind.wrap_i64]; omega
            obtain ⟨j0, j1, j2, j3⟩ := four_box q7
            obtain ⟨j4, j5, j6, j7⟩ := four_box p7
            have HG7 : Hid (Gx w W7.drew R s g4) := G7d
            have HQ7 : Hid (W7.heap[B]? = some (.cells #[.int .i64 x.o, .int .i64 x.i, .string x.s, .slice a x.l.length c] 24 (0, 0))) := q7
            have HP7 : Hid (W7.heap[D]? = some (.cells #[.int .i64 y.o, .int .i64 y.i, .string y.s, .slice a' y.l.length c'] 24 (0, 0))) := p7
            have HI7 : Hid (XBase.In false (Rg W0.heap.size B) W7 m (.agg #[.int .i64 x.o, .int .i64 x.i, .string x.s, .slice a x.l.length c]) x) := hin7
            have HJ7 : Hid (XBase.In false (Rg W4.heap.size D) W7 m' (.agg #[.int .i64 y.o, .int .i64 y.i, .string y.s, .slice a' y.l.length c']) y) := hiny7
            have hx7 : R < w.heap.size := hRlt
            have hz7 : w.heap.size < W0.heap.size ∧ W0.heap.size ≤ B ∧ B < D ∧ B < W4.heap.size ∧ W4.heap.size ≤ D ∧ D < W7.heap.size := ⟨by omega, by omega, by omega, by omega, by omega, by omega⟩
            clear K7 E7 G7 G7d G6 q6 p6 q7 p7 hin6 hiny6 hin7 hiny7 hX5 HU4
            obtain ⟨z0, z1, z2, z3, z4, z5⟩ := hz7
            have S7 : (W7.drew.cell? ⟨B, 0, none⟩ = some (.int .i64 x.o) ∧ W7.drew.cell? ⟨B, 1, none⟩ = some (.int .i64 x.i) ∧ W7.drew.cell? ⟨B, 2, none⟩ = some (.string x.s) ∧ W7.drew.cell? ⟨B, 3, none⟩ = some (.slice a x.l.length c)) ∧ W7.drew.cell? ⟨D, 0, none⟩ = some (.int .i64 y.o) ∧ W7.drew.cell? ⟨D, 1, none⟩ = some (.int .i64 y.i) ∧ W7.drew.cell? ⟨D, 2, none⟩ = some (.string y.s) ∧ W7.drew.cell? ⟨D, 3, none⟩ = some (.slice a' y.l.length c') := ⟨four_box (show W7.drew.heap[B]? = _ from HQ7.out), four_box (show W7.drew.heap[D]? = _ from HP7.out)⟩
            cases X5 with
            | error f =>
              have hU : Except.error f = U := HU5.out
              subst hU
              go_wp2_with fail
              refine wp_region_held_drew (S := (fun w' => (w'.cell? ⟨B, 0, none⟩ = some (.int .i64 x.o) ∧ w'.cell? ⟨B, 1, none⟩ = some (.int .i64 x.i) ∧ w'.cell? ⟨B, 2, none⟩ = some (.string x.s) ∧ w'.cell? ⟨B, 3, none⟩ = some (.slice a x.l.length c)) ∧ w'.cell? ⟨D, 0, none⟩ = some (.int .i64 y.o) ∧ w'.cell? ⟨D, 1, none⟩ = some (.int .i64 y.i) ∧ w'.cell? ⟨D, 2, none⟩ = some (.string y.s) ∧ w'.cell? ⟨D, 3, none⟩ = some (.slice a' y.l.length c'))) (by kernel_rfl) ?_ (fun hHeld => ?_)
              · exact S7
              clear S7
              refine wpAnyH_take (i := 0) (v := ?_) rfl (by kernel_rfl) (by kernel_rfl) (by kernel_rfl) (fun _ _ _ h => h) (Or.inl ⟨by rfl, ?_⟩) (by assumption) ?_
              rotate_left 1
              · intro w hSw; (try dsimp only at hSw); go_simp; first | done | with_reducible rfl
              try simp only [Act.put, List.getElem_toArray, List.getElem_cons_zero, List.setIfInBounds_toArray, List.set_cons_zero, List.set_cons_succ]
              refine wpAnyH_take (i := 1) (v := ?_) rfl (by kernel_rfl) (by kernel_rfl) (by kernel_rfl) (fun _ _ _ h => h) (Or.inl ⟨by rfl, ?_⟩) (by assumption) ?_
              rotate_left 1
              · intro w hSw; (try dsimp only at hSw); go_simp; first | done | with_reducible rfl
              try simp only [Act.put, List.getElem_toArray, List.getElem_cons_zero, List.getElem_cons_succ, List.setIfInBounds_toArray, List.set_cons_zero, List.set_cons_succ]
              refine wpAnyH_take (i := 2) (v := ?_) rfl (by kernel_rfl) (by kernel_rfl) (by kernel_rfl) (fun _ _ _ h => h) (Or.inl ⟨by rfl, ?_⟩) (by assumption) ?_
              rotate_left 1
              · intro w hSw; (try dsimp only at hSw); go_simp; first | done | with_reducible rfl
              try simp only [Act.put, List.getElem_toArray, List.getElem_cons_zero, List.getElem_cons_succ, List.setIfInBounds_toArray, List.set_cons_zero, List.set_cons_succ]
              refine wpAnyH_take (i := 3) (v := ?_) rfl (by kernel_rfl) (by kernel_rfl) (by kernel_rfl) (fun _ _ _ h => h) (Or.inl ⟨by rfl, ?_⟩) (by assumption) ?_
              rotate_left 1
              · intro w hSw; (try dsimp only at hSw); go_simp; first | done | with_reducible rfl
              try simp only [Act.put, List.getElem_toArray, List.getElem_cons_zero, List.getElem_cons_succ, List.setIfInBounds_toArray, List.set_cons_zero, List.set_cons_succ]
              refine wpAnyH_take (i := 4) (v := ?_) rfl (by kernel_rfl) (by kernel_rfl) (by kernel_rfl) (fun _ _ _ h => h) (Or.inl ⟨by rfl, ?_⟩) (by assumption) ?_
              rotate_left 1
              · intro w hSw; (try dsimp only at hSw); go_simp; first | done | with_reducible rfl
              try simp only [Act.put, List.getElem_toArray, List.getElem_cons_zero, List.getElem_cons_succ, List.setIfInBounds_toArray, List.set_cons_zero, List.set_cons_succ]
              refine wpAnyH_ready (rs := [5]) (by kernel_rfl) (by simp) ?_
              refine AllReadyH.cons rfl (fun K hK => ?_) AllReadyH.nil
              go_simp
              try rw [hwk]
              refine cC.mono ?_
              rintro e W8 ⟨K8, rfl⟩
              exact ⟨rfl, HG7.out.kr.trans K8, rfl⟩
            | ok p =>
              obtain ⟨v, g5⟩ := p
              have hU : Except.ok (nd 31 [x, y, v], g5) = U := HU5.out
              subst hU
              go_wp2_with fail
              refine wp_region_held_drew (S := (fun w' => (w'.cell? ⟨B, 0, none⟩ = some (.int .i64 x.o) ∧ w'.cell? ⟨B, 1, none⟩ = some (.int .i64 x.i) ∧ w'.cell? ⟨B, 2, none⟩ = some (.string x.s) ∧ w'.cell? ⟨B, 3, none⟩ = some (.slice a x.l.length c)) ∧ w'.cell? ⟨D, 0, none⟩ = some (.int .i64 y.o) ∧ w'.cell? ⟨D, 1, none⟩ = some (.int .i64 y.i) ∧ w'.cell? ⟨D, 2, none⟩ = some (.string y.s) ∧ w'.cell? ⟨D, 3, none⟩ = some (.slice a' y.l.length c'))) (by kernel_rfl) ?_ (fun hHeld => ?_)
              · exact S7
              clear S7
              refine wpAnyH_take (i := 0) (v := ?_) rfl (by kernel_rfl) (by kernel_rfl) (by kernel_rfl) (fun _ _ _ h => h) (Or.inl ⟨by rfl, ?_⟩) (by assumption) ?_
              rotate_left 1
              · intro w hSw; (try dsimp only at hSw); go_simp; first | done | with_reducible rfl
              try simp only [Act.put, List.getElem_toArray, List.getElem_cons_zero, List.setIfInBounds_toArray, List.set_cons_zero, List.set_cons_succ]
              refine wpAnyH_take (i := 1) (v := ?_) rfl (by kernel_rfl) (by kernel_rfl) (by kernel_rfl) (fun _ _ _ h => h) (Or.inl ⟨by rfl, ?_⟩) (by assumption) ?_
              rotate_left 1
              · intro w hSw; (try dsimp only at hSw); go_simp; first | done | with_reducible rfl
              try simp only [Act.put, List.getElem_toArray, List.getElem_cons_zero, List.getElem_cons_succ, List.setIfInBounds_toArray, List.set_cons_zero, List.set_cons_succ]
              refine wpAnyH_take (i := 2) (v := ?_) rfl (by kernel_rfl) (by kernel_rfl) (by kernel_rfl) (fun _ _ _ h => h) (Or.inl ⟨by rfl, ?_⟩) (by assumption) ?_
              rotate_left 1
              · intro w hSw; (try dsimp only at hSw); go_simp; first | done | with_reducible rfl
              try simp only [Act.put, List.getElem_toArray, List.getElem_cons_zero, List.getElem_cons_succ, List.setIfInBounds_toArray, List.set_cons_zero, List.set_cons_succ]
              refine wpAnyH_take (i := 3) (v := ?_) rfl (by kernel_rfl) (by kernel_rfl) (by kernel_rfl) (fun _ _ _ h => h) (Or.inl ⟨by rfl, ?_⟩) (by assumption) ?_
              rotate_left 1
              · intro w hSw; (try dsimp only at hSw); go_simp; first | done | with_reducible rfl
              try simp only [Act.put, List.getElem_toArray, List.getElem_cons_zero, List.getElem_cons_succ, List.setIfInBounds_toArray, List.set_cons_zero, List.set_cons_succ]
              refine wpAnyH_take (i := 4) (v := ?_) rfl (by kernel_rfl) (by kernel_rfl) (by kernel_rfl) (fun _ _ _ h => h) (Or.inl ⟨by rfl, ?_⟩) (by assumption) ?_
              rotate_left 1
              · intro w hSw; (try dsimp only at hSw); go_simp; first | done | with_reducible rfl
              try simp only [Act.put, List.getElem_toArray, List.getElem_cons_zero, List.getElem_cons_succ, List.setIfInBounds_toArray, List.set_cons_zero, List.set_cons_succ]
              refine wpAnyH_ready (rs := [5]) (by kernel_rfl) (by simp) ?_
              refine AllReadyH.cons rfl (fun K hK => ?_) AllReadyH.nil
              go_simp
              try rw [hwk]
              refine cC.mono ?_
              rintro e W8 ⟨K8, ⟨m8, a8, c8, rfl, hin8⟩, E8⟩
              have G8 := HG7.out.step hRlt K8 E8 (hD _ _ _ HG7.out.ok HX5.out).1
              have hd7 : W7.drew.heap.size = W7.heap.size := rfl
              have s8 := K8.below.size
              have q8 := (K8.other B (by omega) (by omega)).trans HQ7.out
              have p8 := (K8.other D (by omega) (by omega)).trans HP7.out
              have hxd : XBase.In false (Rg W0.heap.size B) W7.drew m (.agg #[.int .i64 x.o, .int .i64 x.i, .string x.s, .slice a x.l.length c]) x := HI7.out.below (Below.refl _ W7).drew
              have hyd : XBase.In false (Rg W4.heap.size D) W7.drew m' (.agg #[.int .i64 y.o, .int .i64 y.i, .string y.s, .slice a' y.l.length c']) y := HJ7.out.below (Below.refl _ W7).drew
              have hx8 := in_kr hxd K8 (by omega)
              have hy8 := in_kr hyd K8 (by omega)
              clear hxd hyd
              refine hK.out _ _ ?_ (fun hHeld => ?_)
              · exact ⟨four_box q8, four_box p8⟩
              clear hK K
              try simp only [Act.put, List.getElem_toArray, List.getElem_cons_zero, List.getElem_cons_succ, List.setIfInBounds_toArray, List.set_cons_zero, List.set_cons_succ]
              refine wpAnyH_ready (rs := [6]) (by kernel_rfl) (by simp) ?_
              refine AllReadyH.cons rfl (fun K hK => ?_) AllReadyH.nil
              obtain ⟨W9, hW9⟩ : ∃ W9, W8.alloc (.cells #[.int .i64 x.o, .int .i64 x.i, .string x.s, .slice a x.l.length c, .int .i64 y.o, .int .i64 y.i, .string y.s, .slice a' y.l.length c', .int .i64 v.o, .int .i64 v.i, .string v.s, .slice a8 v.l.length c8] 24) = W9 := ⟨_, rfl⟩
              have b9 : Below W8.heap.size W8 W9 := by rw [← hW9]; exact (Below.refl _ W8).alloc (Nat.le_refl _) _
              have r9 : W9.heap[W8.heap.size]? = some (.cells #[.int .i64 x.o, .int .i64 x.i, .string x.s, .slice a x.l.length c, .int .i64 y.o, .int .i64 y.i, .string y.s, .slice a' y.l.length c', .int .i64 v.o, .int .i64 v.i, .string v.s, .slice a8 v.l.length c8] 24 (0, 0)) := by rw [← hW9]; exact heap_alloc_new W8 _
              have s9 : W9.heap.size = W8.heap.size + 1 := by rw [← hW9]; simp
              have q9 := (b9.block B (by omega)).trans q8
              have p9 := (b9.block D (by omega)).trans p8
              have cN := node_c 31 (some ⟨W8.heap.size, 0, none⟩) 3 3 W9
              go_simp
              refine hK.out _ _ ?_ (fun hHeld => ?_)
              · exact ⟨four_box q9, four_box p9⟩
              clear hK K
              try simp only [Act.put, List.getElem_toArray, List.getElem_cons_zero, List.getElem_cons_succ, List.setIfInBounds_toArray, List.set_cons_zero, List.set_cons_succ]
              refine wpAnyH_ready (rs := [7]) (by kernel_rfl) (by simp) ?_
              refine AllReadyH.cons rfl (fun K hK => ?_) AllReadyH.nil
              go_simp
              refine cN.mono ?_
              rintro e W10 ⟨rfl, b10⟩
              have b810 := nx b9 b10
              have s10 := b10.size
              have G10 := G8.below hRlt b810
              have q10 := (b10.block B (by omega)).trans q9
              have p10 := (b10.block D (by omega)).trans p9
              obtain ⟨e0, e1, e2, e3⟩ := four_box G10.box
              have f0 := frozen_box G10.box 0
              have f1 := frozen_box G10.box 1
              have f2 := frozen_box G10.box 2
              have f3 := frozen_box G10.box 3
              refine hK.out _ _ ?_ (fun hHeld => ?_)
              · exact ⟨four_box q10, four_box p10⟩
              clear hK K
              try simp only [Act.put, List.getElem_toArray, List.getElem_cons_zero, List.getElem_cons_succ, List.setIfInBounds_toArray, List.set_cons_zero, List.set_cons_succ]
              refine wpAnyH_ready (rs := [8]) (by kernel_rfl) (by simp) ?_
              refine AllReadyH.cons rfl (fun K hK => ?_) AllReadyH.nil
              obtain ⟨W11, hW11⟩ : ∃ W11, ((((W10.setCell ⟨w.heap.size, 0, none⟩ (.int .i64 31)).setCell ⟨w.heap.size, 1, none⟩ (.int .i64 0)).setCell ⟨w.heap.size, 2, none⟩ (.string ⟨#[]⟩)).setCell ⟨w.heap.size, 3, none⟩ (.slice (some ⟨W8.heap.size, 0, none⟩) 3 3)) = W11 := ⟨_, rfl⟩
              have hne11 : ∀ z, z ≠ w.heap.size → W11.heap[z]? = W10.heap[z]? := fun z hne => by rw [← hW11, Below.heap_setCell _ _ _ _ hne, Below.heap_setCell _ _ _ _ hne, Below.heap_setCell _ _ _ _ hne, Below.heap_setCell _ _ _ _ hne]
              have M : Nat := m + m' + m8
              have hx10 : XBase.In false (Rg W0.heap.size W10.heap.size) W10 (m + m' + m8) (.agg #[.int .i64 x.o, .int .i64 x.i, .string x.s, .slice a x.l.length c]) x := EKd.in_deep (in_rg (hx8.below b810) (Nat.le_refl _) (by omega)) (by omega)
              have hy10 : XBase.In false (Rg W0.heap.size W10.heap.size) W10 (m + m' + m8) (.agg #[.int .i64 y.o, .int .i64 y.i, .string y.s, .slice a' y.l.length c']) y := EKd.in_deep (in_rg (hy8.below b810) (by omega) (by omega)) (by omega)
              have hv10 : XBase.In false (Rg W0.heap.size W10.heap.size) W10 (m + m' + m8) (.agg #[.int .i64 v.o, .int .i64 v.i, .string v.s, .slice a8 v.l.length c8]) v := EKd.in_deep (in_rg (hin8.below b810) (by omega) (by omega)) (by omega)
              have hi10 := EKd.in_three ((b10.block _ (by omega)).trans r9) (show Rg W0.heap.size W10.heap.size W8.heap.size from ⟨by omega, by omega⟩) hx10 hy10 hv10 31 0 ⟨#[]⟩ (by omega) (by omega) (by decide)
              obtain ⟨p1, p2⟩ := EKd.made (l := [x, y, v]) G10 hRlt hi10 z0 hW11
              obtain ⟨y0, y1, y2, y3⟩ := four_box p1
              have HP2 : Hid (PR w W11 R s (.returned (.agg #[.int .i64 31, .int .i64 0, .string ⟨#[]⟩, .slice (some ⟨W8.heap.size, 0, none⟩) 3 3])) (.ok (.mk 31 0 ⟨#[]⟩ [x, y, v], g5))) := p2
              go_simp
              try rw [hW11]
              refine hK.out _ _ ?_ (fun hHeld => ?_)
              · exact ⟨four_box ((hne11 B (by omega)).trans q10), four_box ((hne11 D (by omega)).trans p10)⟩
              clear hK K
              try simp only [Act.put, List.getElem_toArray, List.getElem_cons_zero, List.getElem_cons_succ, List.setIfInBounds_toArray, List.set_cons_zero, List.set_cons_succ]
              refine wpAnyH_done (by kernel_rfl) ?_ _
              clear hHeld p1 p2 hx10 hy10 hv10 hi10 G10 G8 b9 b10 b810 q8 q9 q10 p8 p9 p10 cN cC K8 E8 hin8 hx8 hy8 hW11 hW9 hne11 r9
              go_wp2_with fail
              refine bodyPost_ret (v := .agg #[.int .i64 31, .int .i64 0, .string ⟨#[]⟩, .slice (some ⟨W8.heap.size, 0, none⟩) 3 3]) (by simp [results, Tryd.results31, go_sem, y0, y1, y2, y3]) rfl ?_
              exact HP2.out
end Go.Proofs.YtnoohlmlpijhaaaDoor.ECo

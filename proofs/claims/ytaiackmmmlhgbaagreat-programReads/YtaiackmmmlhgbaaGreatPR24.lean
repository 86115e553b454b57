import Derived.Test.YtaiackmmmlhgbaaGreatPR18
import Derived.Test.YtaiackmmmlhgbaaGreatPR20
import Derived.Test.YtaiackmmmlhgbaaGreatPR23
open Go.Proofs.Tryz
set_option linter.unusedVariables false
set_option maxRecDepth 20000
set_option maxHeartbeats 3200000
namespace Go.Proofs.YtaiackmmmlhgbaaGreat.YRnf
open Go.RowKit YPl YRd YWr YRr YRsf YRbf YRlf YRtf
open TBase (T Keep)
theorem Rb.setk {K R p k j : Nat} {z : Int} {w : World} {b : By} (h : Rb K w R b p k) (hz : (j : Int) = z) (hj : j <= 4097) : Rb K (w.setCell ⟨R, 2, none⟩ (.int .i64 z)) R b p j /\ Gx R w (w.setCell ⟨R, 2, none⟩ (.int .i64 z)) := by
  subst hz
  obtain ⟨h1, h2, h3, h4, h5, ia, n, cap, h6, h7, h8⟩ := h
  have hg : Gx R w (w.setCell ⟨R, 2, none⟩ (.int .i64 j)) := ⟨rfl, rfl, rfl, by simp, fun k hk hne => Below.heap_setCell _ _ _ _ (fun e => hne (by rw [e]))⟩
  refine ⟨⟨h1, by simpa using h2, h3, h4, hj, ia, n, cap, ?_, seen_low h7 h8 (hg.below h1 h2), h8⟩, hg⟩
  simp [World.setCell, Array.getElem?_modify, h6]
theorem rrs_ax {S : Nat -> Prop} {w : World} {v : Value} {n : List (ByteArray × ByteArray)} (h : RrS 2 LyA S w v n) (hl : n.length <= 4096) : TBase.Ax false S w v n := by
  obtain ⟨a, cap, h1, h2, h3, h4, h5, h6⟩ := h
  rcases h6 with h6 | ⟨g, o, ha, hg, hc⟩
  · subst h6
    exact ⟨a, cap, h1, h2, h3, by simp, by simp, h5, .inl ⟨rfl, rfl⟩⟩
  · refine ⟨a, cap, h1, h2, h3, by omega, fun t ht => ?_, h5, .inr ⟨g, o, ha, hg, fun j hj => ⟨(hc j hj).1, (hc j hj).2.1⟩, fun h => by cases h⟩⟩
    obtain ⟨j, hj, rfl⟩ := List.getElem_of_mem ht
    exact (hc j hj).2.2
theorem one_treeS {S : Nat -> Prop} {W : World} {m B n c k d : Nat} {a b : Option Addr} {t : T} (hW : W.heap[B]? = some (.cells #[.string t.g, .string t.s, .slice a n c, .slice b k d] 68 (0, 0))) (h : TBase.In false S W m (.agg #[.string t.g, .string t.s, .slice a n c, .slice b k d]) t) :
    TBase.InL false TBase.All W m (.slice (some ⟨B, 0, none⟩) 1 1) [t] := by
  refine ⟨_, 1, rfl, by simp, by omega, by simp, by simp, .inr ⟨B, 0, rfl, trivial, fun j hj => ?_, fun h => by cases h⟩⟩
  obtain rfl : j = 0 := by simp at hj; omega
  exact ⟨.agg #[.string t.g, .string t.s, .slice a n c, .slice b k d], ⟨_, _, _, _, rfl, cell_of hW 0 _ rfl, cell_of hW 1 _ rfl, cell_of hW 2 _ rfl, cell_of hW 3 _ rfl⟩, h.weak (fun _ _ => trivial) false id m (Nat.le_refl _)⟩
theorem rmany_len {α : Type} {f : Nat -> Rs α} : ∀ (n p : Nat) {l : List α} {q : Nat}, rmany f n p = .ok (l, q) -> l.length = n := by
  intro n
  induction n with
  | zero => intro p l q h; rw [rmany] at h; cases h; rfl
  | succ n ih =>
    intro p l q h
    rw [rmany] at h
    unfold bnd at h
    split at h
    · dsimp only at h
      split at h
      · rename_i h2
        cases h
        simp [ih _ h2]
      · cases h
    · cases h
theorem rlst_len {α : Type} {f : Nat -> Rs α} {lim p : Nat} {b : By} {l : List α} {q : Nat} (h : rlst lim f b p = .ok (l, q)) : l.length <= lim := by
  unfold rlst bnd at h
  split at h
  · rename_i n r hc
    rw [rmany_len _ _ h]
    unfold rcnt at hc
    simp only at hc
    split at hc
    · cases hc; rename_i h0; exact h0.2
    · cases hc
  · cases h
def asT (g : ByteArray) (n : List (ByteArray × ByteArray)) (a : Rt (List T)) : Rt T := match a with
  | .error z => .error z
  | .ok (l, z, k) => .ok (.mk g ⟨#[]⟩ n l, z, k)
def NdP (K R : Nat) (b : By) (m : Nat) : Prop := ∀ (w : World) (p k : Nat) (d : Int), d = 65 - (m : Int) -> Rb K w R b p k -> k <= 4096 -> Calls prog 110 #[ptw R, .int .i64 d] w fun e w' => RT K R b (VA (HdT (m + 1))) (rnd b m p k) w e w'
theorem inner_c {K R m P2 P3 : Nat} {b : By} (hm : m <= 64) (ih : NdP K R b m) {w : World} {p k : Nat} {d : Int} (hd : d + 1 = 65 - (m : Int)) (h2 : w.heap[P2]? = some (.cells #[ptw R] 111 (0, 0))) (h3 : w.heap[P3]? = some (.cells #[.int .i64 d] 3 (0, 0))) (h : Rb K w R b p k) (hk : k <= 4096) :
    Calls prog 164 #[ptw P2, ptw P3] w fun e w' => RT K R b (VA (HdT (m + 1))) (rnd b m p k) w e w' := by
  have hRlt := h.lt
  have hdl : 0 <= d := by omega
  have hdu : d <= 64 := by omega
  obtain ⟨W0, hW0⟩ : ∃ W, w.alloc (.cells #[.string ⟨#[]⟩, .string ⟨#[]⟩, .slice none 0 0, .slice none 0 0] 68) = W := ⟨_, rfl⟩
  have b0 : Below w.heap.size w W0 := by rw [<- hW0]; exact (Below.refl _ w).alloc (Nat.le_refl _) _
  have s0 : w.heap.size < W0.heap.size := by rw [<- hW0]; simp
  have g0 : W0.heap[w.heap.size]? = some (.cells #[.string ⟨#[]⟩, .string ⟨#[]⟩, .slice none 0 0, .slice none 0 0] 68 (0, 0)) := by rw [<- hW0]; exact heap_alloc_new w _
  have y2 := cell_of ((b0.block P2 (Array.getElem?_eq_some_iff.1 h2).1).trans h2) 0 _ rfl
  have y3 := cell_of ((b0.block P3 (Array.getElem?_eq_some_iff.1 h3).1).trans h3) 0 _ rfl
  have c1 := ih W0 p k (d + 1) hd (Rb.below h b0) hk
  obtain ⟨A, hE⟩ : ∃ A, rnd b m p k = A := ⟨_, rfl⟩
  rw [hE] at c1 ⊢
  clear hE ih hd
  have HZ : Hid _ := g0
  have HB0 : Hid (Gx R w W0) := Gx.of b0
  clear h b0 g0 h2 h3
  go_enter func164, ntmps164
  go_wp2_with fail
  try rw [hW0]
  refine c1.mono ?_
  rintro e W1 ⟨g1, hA⟩
  cases A with
  | error z =>
    obtain rfl := hA
    exact ⟨rfl, Gx.trans HB0.out g1, rfl⟩
  | ok t =>
    obtain ⟨x, q, k2⟩ := t
    obtain ⟨ve, rfl, ⟨cc, rfl, nv, lv, rfl, hin⟩, hR2, hk2⟩ := hA
    obtain ⟨na, nn, nc, rfl⟩ : ∃ a n c, nv = .slice a n c := by obtain ⟨m', nv', lv', -, e, -, -, ⟨a, c, h, -⟩, -⟩ := hin.shape; cases e; exact ⟨_, _, _, h⟩
    obtain ⟨la, ln, lc, rfl⟩ : ∃ a n c, lv = .slice a n c := by obtain ⟨m', nv', lv', -, e, -, -, -, ⟨a, c, h, -⟩⟩ := hin.shape; cases e; exact ⟨_, _, _, h⟩
    have hz := (g1.block w.heap.size s0 (fun e => by cases e; omega)).trans HZ.out
    have z0 := cell_of hz 0 _ rfl
    have z1 := cell_of hz 1 _ rfl
    have z2 := cell_of hz 2 _ rfl
    have z3 := cell_of hz 3 _ rfl
    have f0 := TBase.frozen_box hz 0
    have f1 := TBase.frozen_box hz 1
    have f2 := TBase.frozen_box hz 2
    have f3 := TBase.frozen_box hz 3
    obtain ⟨W9, hW9⟩ : ∃ W, (((W1.setCell ⟨w.heap.size, 0, none⟩ (.string x.g)).setCell ⟨w.heap.size, 1, none⟩ (.string x.s)).setCell ⟨w.heap.size, 2, none⟩ (.slice na nn nc)).setCell ⟨w.heap.size, 3, none⟩ (.slice la ln lc) = W := ⟨_, rfl⟩
    obtain ⟨hn, hg9⟩ := YRgf.set4 _ _ _ _ hz hW9
    have l1 := g1.size
    have l9 := hg9.size
    have HN : Hid _ := hn
    have HG9 : Hid (Gx R w W9) := gx_row (Gx.trans HB0.out g1) hg9 (fun r hr => by cases hr; exact Nat.le_refl _)
    have HR9 : Hid (Rb K W9 R b q k2) := Rb.row (lo := w.heap.size) hR2 hg9 hRlt (fun r hr => by cases hr; exact Nat.le_refl _)
    have HI : Hid (TBase.In false (Bz W9 w.heap.size) W9 (m + 1) (.agg #[.string x.g, .string x.s, .slice na nn nc, .slice la ln lc]) x) := (hin.keep (w' := W9) (fun g hg hl => hg9.block g hl (fun e => by have hg := hg.at'; cases e; omega))).weak (bz_up (fun g hg hl => hg9.block g hl (fun e => by have hg := hg.at'; cases e; omega)) (by omega) (by omega)) false id _ (Nat.le_refl _)
    clear hz hn hg9 hin hR2 g1 c1
    go_wp2_with fail
    try rw [hW9]
    refine bodyPost_ret (results_cell_row rfl _ W9 w.heap.size 68 _ (0, 0) _ rfl HN.out underlying68 rfl (by kernel_rfl)) rfl ?_
    exact ⟨HG9.out, _, rfl, ⟨_, rfl, _, _, rfl, HI.out⟩, HR9.out, hk2⟩
theorem node_of {K R m : Nat} {b : By} (hm : m <= 64) (ih : ∀ m', m = m' + 1 -> NdP K R b m') : NdP K R b m := by
  intro w p k d hd h hk
  have hRlt := h.lt
  have hdl : 1 <= d := by omega
  have hdu : d <= 65 := by omega
  obtain ⟨W0, hW0⟩ : ∃ W, ((w.alloc (.cells #[ptw R] 111)).alloc (.cells #[.int .i64 d] 3)).alloc (.cells #[.string ⟨#[]⟩, .string ⟨#[]⟩, .slice none 0 0, .slice none 0 0] 68) = W := ⟨_, rfl⟩
  have b0 : Below w.heap.size w W0 := by rw [<- hW0]; exact (((Below.refl _ w).alloc (Nat.le_refl _) _).alloc (by simp) _).alloc (by simp <;> omega) _
  have s0 : W0.heap.size = w.heap.size + 3 := by rw [<- hW0]; simp
  have q2 : W0.heap[w.heap.size]? = some (.cells #[ptw R] 111 (0, 0)) := by rw [<- hW0, Below.heap_alloc _ _ _ (by simp <;> omega), Below.heap_alloc _ _ _ (by simp), heap_alloc_new]
  have q3 : W0.heap[w.heap.size + 1]? = some (.cells #[.int .i64 d] 3 (0, 0)) := by
    rw [<- hW0, Below.heap_alloc _ _ _ (by simp)]
    have := heap_alloc_new (w.alloc (.cells #[ptw R] 111)) (.cells #[.int .i64 d] 3)
    rwa [World.size_alloc] at this
  have q4 : W0.heap[w.heap.size + 2]? = some (.cells #[.string ⟨#[]⟩, .string ⟨#[]⟩, .slice none 0 0, .slice none 0 0] 68 (0, 0)) := by
    rw [<- hW0]
    have := heap_alloc_new ((w.alloc (.cells #[ptw R] 111)).alloc (.cells #[.int .i64 d] 3)) (.cells #[.string ⟨#[]⟩, .string ⟨#[]⟩, .slice none 0 0, .slice none 0 0] 68)
    rwa [World.size_alloc, World.size_alloc] at this
  have HZ : Hid (∀ W, Gx R W0 W -> W.heap[w.heap.size]? = some (.cells #[ptw R] 111 (0, 0)) /\ W.heap[w.heap.size + 1]? = some (.cells #[.int .i64 d] 3 (0, 0)) /\ W.heap[w.heap.size + 2]? = some (.cells #[.string ⟨#[]⟩, .string ⟨#[]⟩, .slice none 0 0, .slice none 0 0] 68 (0, 0))) := fun W hg =>
    ⟨(hg.block _ (by omega) (fun e => by cases e; omega)).trans q2, (hg.block _ (by omega) (fun e => by cases e; omega)).trans q3, (hg.block _ (by omega) (fun e => by cases e; omega)).trans q4⟩
  have hR0 : Rb K W0 R b p k := Rb.below h b0
  have G0 : Hid (Gx R w W0 /\ Rb K W0 R b p k) := ⟨Gx.of b0, hR0⟩
  obtain ⟨-, -, -, -, -, ia, il, ic, h6, -, -⟩ := hR0
  have y1 := cell_of h6 1 _ rfl
  have y2 := cell_of h6 2 _ rfl
  have fy := TBase.frozen_box h6 2
  have z2 := cell_of q2 0 _ rfl
  have z3 := cell_of q3 0 _ rfl
  obtain ⟨W1, hW1⟩ : ∃ W, W0.setCell ⟨R, 2, none⟩ (.int .i64 ((k : Int) + 1)) = W := ⟨_, rfl⟩
  have G1 : Hid (Gx R w W1 /\ Gx R W0 W1 /\ Rb K W1 R b p (k + 1)) := by
    have z := Rb.setk (j := k + 1) (z := (k : Int) + 1) G0.out.2 (by omega) (by omega)
    rw [hW1] at z
    exact ⟨Gx.trans G0.out.1 z.2, z.2, z.1⟩
  have IH : Hid _ := ih
  clear h b0 q2 q3 q4 h6 ih
  have hkb : (k : Int) <= 4096 := by omega
  cases m with
  | zero =>
    have hd' : (64 : Int) < d := by omega
    have HE : Hid (rnd b 0 p k = .error p) := by show _ = _; rw [rnd]
    have x2 := cell_of (HZ.out W1 G1.out.2.1).1 0 _ rfl
    have x3 := cell_of (HZ.out W1 G1.out.2.1).2.1 0 _ rfl
    obtain ⟨-, -, -, -, -, ia2, il2, ic2, k6, -, -⟩ := G1.out.2.2
    have w2 := cell_of k6 2 _ rfl
    clear k6 hd
    by_cases hk1 : 4096 < k + 1
    · have hk1' : (4096 : Int) < (k : Int) + 1 := by omega
      go_enter func110, ntmps110
      go_wp2_with fail
      refine (refuse_c _ _).mono ?_
      rintro e w9 ⟨rfl, rfl⟩
      exact ⟨rfl, by rw [HE.out]; exact ⟨G1.out.1, rfl⟩⟩
    · have hk1' : ¬ (4096 : Int) < (k : Int) + 1 := by omega
      go_enter func110, ntmps110
      go_wp2_with fail
      refine (refuse_c _ _).mono ?_
      rintro e w9 ⟨rfl, rfl⟩
      exact ⟨rfl, by rw [HE.out]; exact ⟨G1.out.1, rfl⟩⟩
  | succ m =>
    have hd' : ¬ (64 : Int) < d := by omega
    have x2 := cell_of (HZ.out W1 G1.out.2.1).1 0 _ rfl
    have x3 := cell_of (HZ.out W1 G1.out.2.1).2.1 0 _ rfl
    obtain ⟨-, -, -, -, -, ia2, il2, ic2, k6, -, -⟩ := G1.out.2.2
    have w2 := cell_of k6 2 _ rfl
    have HD : Hid (d + 1 = 65 - (m : Int)) := by show _ = _; omega
    clear k6 hd
    by_cases hk1 : 4096 < k + 1
    · have hk1' : (4096 : Int) < (k : Int) + 1 := by omega
      have HE : Hid (rnd b (m + 1) p k = .error p) := by show _ = _; rw [rnd, if_pos hk1]
      go_enter func110, ntmps110
      go_wp2_with fail
      refine (refuse_c _ _).mono ?_
      rintro e w9 ⟨rfl, rfl⟩
      exact ⟨rfl, by rw [HE.out]; exact ⟨G1.out.1, rfl⟩⟩
    have hk1' : ¬ (4096 : Int) < (k : Int) + 1 := by omega
    have c1 := YRxf.text_c G1.out.2.2
    go_enter func110, ntmps110
    go_wp2_with fail
    refine c1.mono ?_
    rintro e W2 ⟨g2, hA⟩
    cases hT : rtxt b p with
    | error z =>
      rw [hT] at hA
      obtain rfl := hA
      exact ⟨rfl, by rw [rnd, if_neg hk1, hT]; exact ⟨Gx.trans G1.out.1 g2, rfl⟩⟩
    | ok t =>
    obtain ⟨g, q⟩ := t
    rw [hT] at hA
    obtain ⟨v, rfl, ⟨rfl, hgs⟩, hR2⟩ := hA
    have G2 : Hid (Gx R w W2 /\ Gx R W0 W2 /\ Rb K W2 R b q (k + 1)) := ⟨Gx.trans G1.out.1 g2, Gx.trans G1.out.2.1 g2, hR2⟩
    clear c1 g2 hR2 x2 x3 w2 y1 y2 fy z2 z3 hW1
    have x2 := cell_of (HZ.out W2 G2.out.2.1).1 0 _ rfl
    by_cases hz : g.size = 0
    · have hz' : g = ⟨#[]⟩ := by
        have : g.data = #[] := Array.eq_empty_of_size_eq_zero hz
        cases g; simp at this; rw [this]
      subst hz'
      have c2 := YRxf.text_c G2.out.2.2
      go_wp2_with fail
      refine c2.mono ?_
      rintro e W3 ⟨g3, hA⟩
      cases hS : rtxt b q with
      | error z =>
        rw [hS] at hA
        obtain rfl := hA
        exact ⟨rfl, by rw [rnd, if_neg hk1, hT]; simp only [hz, if_true, hS]; exact ⟨Gx.trans G2.out.1 g3, rfl⟩⟩
      | ok t =>
      obtain ⟨s, r⟩ := t
      rw [hS] at hA
      obtain ⟨v, rfl, ⟨rfl, hss⟩, hR3⟩ := hA
      have hz4 := (HZ.out W3 (Gx.trans G2.out.2.1 g3)).2.2
      have z0 := cell_of hz4 0 _ rfl
      have z1 := cell_of hz4 1 _ rfl
      have z2 := cell_of hz4 2 _ rfl
      have z3 := cell_of hz4 3 _ rfl
      have f0 := TBase.frozen_box hz4 0
      have f1 := TBase.frozen_box hz4 1
      have f2 := TBase.frozen_box hz4 2
      have f3 := TBase.frozen_box hz4 3
      obtain ⟨W9, hW9⟩ : ∃ W, (((W3.setCell ⟨w.heap.size + 2, 0, none⟩ (.string ⟨#[]⟩)).setCell ⟨w.heap.size + 2, 1, none⟩ (.string s)).setCell ⟨w.heap.size + 2, 2, none⟩ (.slice none 0 0)).setCell ⟨w.heap.size + 2, 3, none⟩ (.slice none 0 0) = W := ⟨_, rfl⟩
      obtain ⟨hn, hg9⟩ := YRgf.set4 _ _ _ _ hz4 hW9
      have HN : Hid _ := hn
      have HG9 : Hid (Gx R w W9) := gx_row (Gx.trans G2.out.1 g3) hg9 (fun r hr => by cases hr; omega)
      have HR9 : Hid (Rb K W9 R b r (k + 1)) := Rb.row (lo := w.heap.size) hR3 hg9 hRlt (fun r hr => by cases hr; omega)
      have HI : Hid (TBase.In false (Bz W9 w.heap.size) W9 (m + 1 + 1) (.agg #[.string ⟨#[]⟩, .string s, .slice none 0 0, .slice none 0 0]) (.mk ⟨#[]⟩ s [] [])) := TBase.in_iff.2 ⟨_, _, rfl, by decide, by omega, ⟨none, 0, rfl, by simp, by omega, by simp, by simp, by simp, .inl ⟨rfl, rfl⟩⟩, ⟨none, 0, rfl, by simp, by omega, by simp, by simp, .inl ⟨rfl, rfl⟩⟩⟩
      clear hz4 hn hg9 hR3 g3 c2
      go_wp2_with fail
      try rw [hW9]
      refine bodyPost_ret (results_cell_row rfl _ W9 (w.heap.size + 2) 68 _ (0, 0) _ rfl HN.out underlying68 rfl (by kernel_rfl)) rfl ?_
      rw [rnd, if_neg hk1, hT]
      simp only [hz, if_true, hS]
      exact ⟨HG9.out, _, rfl, ⟨_, rfl, _, _, rfl, HI.out⟩, HR9.out, by omega⟩
    · have hz' : (g.toList == ([] : List UInt8)) = false := by
        rw [TPure.list_eq]
        cases hl : g.data.toList with
        | nil => exact absurd (show g.size = 0 by have := congrArg List.length hl; simpa using this) hz
        | cons c r => rfl
      have c2 := YRef.rl_a 4096 (by omega) (ratt b) G2.out.2.2 (show _ from fun W q h _ => YRgf.attr_c h)
      go_wp2_with fail
      refine c2.mono ?_
      rintro e W3 ⟨g3, hA⟩
      cases hS : rlst 4096 (ratt b) b q with
      | error z =>
        rw [hS] at hA
        obtain rfl := hA
        exact ⟨rfl, by rw [rnd, if_neg hk1, hT]; simp only [hz, if_false, hS]; exact ⟨Gx.trans G2.out.1 g3, rfl⟩⟩
      | ok t =>
      obtain ⟨n, r⟩ := t
      rw [hS] at hA
      obtain ⟨v, rfl, hv, hR3⟩ := hA
      have hnl : n.length <= 4096 := rlst_len hS
      have HV : Hid _ := hv
      obtain ⟨na, nn, nc, rfl⟩ := RrS.slice hv
      have G3 : Hid (Gx R w W3 /\ Gx R W0 W3 /\ Rb K W3 R b r (k + 1)) := ⟨Gx.trans G2.out.1 g3, Gx.trans G2.out.2.1 g3, hR3⟩
      have L3 : Hid (w.heap.size + 3 <= W2.heap.size) := by have := G2.out.2.1.size; show _ <= _; omega
      have L23 : Hid (W2.heap.size <= W3.heap.size) := g3.size
      clear hv hR3 g3 c2 x2
      obtain ⟨W4, hW4⟩ : ∃ W, W3.alloc (.cells #[.string g, .string ⟨#[]⟩, .slice na nn nc, .slice none 0 0] 68) = W := ⟨_, rfl⟩
      obtain ⟨Wz, hWz⟩ : ∃ W, W3.alloc (.cells #[.string ⟨#[]⟩, .string ⟨#[]⟩, .slice none 0 0, .slice none 0 0] 68) = W := ⟨_, rfl⟩
      have nz : Wz.heap[W3.heap.size]? = some (.cells #[.string ⟨#[]⟩, .string ⟨#[]⟩, .slice none 0 0, .slice none 0 0] 68 (0, 0)) := by rw [<- hWz]; exact heap_alloc_new W3 _
      have hWs : (((Wz.setCell ⟨W3.heap.size, 0, none⟩ (.string g)).setCell ⟨W3.heap.size, 1, none⟩ (.string ⟨#[]⟩)).setCell ⟨W3.heap.size, 2, none⟩ (.slice na nn nc)).setCell ⟨W3.heap.size, 3, none⟩ (.slice none 0 0) = W4 := by rw [<- hWz, <- hW4]; exact TPure.box4 _ _ _ _ _ _ _ _ _ _
      have a0 := cell_of nz 0 _ rfl
      have a1 := cell_of nz 1 _ rfl
      have a2 := cell_of nz 2 _ rfl
      have a3 := cell_of nz 3 _ rfl
      have fz0 := TBase.frozen_box nz 0
      have fz1 := TBase.frozen_box nz 1
      have fz2 := TBase.frozen_box nz 2
      have fz3 := TBase.frozen_box nz 3
      obtain ⟨W5, hW5⟩ : ∃ W, W4.alloc (.cells #[.string g, .string ⟨#[]⟩, .slice na nn nc, .slice none 0 0] 68) = W := ⟨_, rfl⟩
      have b4 : Below W3.heap.size W3 W4 := by rw [<- hW4]; exact (Below.refl _ W3).alloc (Nat.le_refl _) _
      have s4 : W4.heap.size = W3.heap.size + 1 := by rw [<- hW4]; simp
      have b5 : Below W4.heap.size W4 W5 := by rw [<- hW5]; exact (Below.refl _ W4).alloc (Nat.le_refl _) _
      have s5 : W5.heap.size = W3.heap.size + 2 := by rw [<- hW5]; simp [s4]
      have n4 : W4.heap[W3.heap.size]? = some (.cells #[.string g, .string ⟨#[]⟩, .slice na nn nc, .slice none 0 0] 68 (0, 0)) := by rw [<- hW4]; exact heap_alloc_new W3 _
      have n5 : W5.heap[W4.heap.size]? = some (.cells #[.string g, .string ⟨#[]⟩, .slice na nn nc, .slice none 0 0] 68 (0, 0)) := by rw [<- hW5]; exact heap_alloc_new W4 _
      have b35 : Below W3.heap.size W3 W5 := b4.trans (b5.mono b4.size)
      have hax : TBase.Ax false (Bz W3 W2.heap.size) W3 (.slice na nn nc) n := rrs_ax HV.out hnl
      have hin5 : TBase.In false (Bz W3 W2.heap.size) W5 1 (.agg #[.string g, .string ⟨#[]⟩, .slice na nn nc, .slice none 0 0]) (.mk g ⟨#[]⟩ n []) := TBase.in_iff.2 ⟨_, _, rfl, by omega, by decide, hax.keep (fun g hg hl => b35.block g hl), ⟨none, 0, rfl, by simp, by omega, by simp, by simp, .inl ⟨rfl, rfl⟩⟩⟩
      have cC := TMeas.check_c 1 _ _ W5 (one_treeS (t := .mk g ⟨#[]⟩ n []) n5 hin5)
      rw [s4] at cC
      have z0 := cell_of n4 0 _ rfl
      have z1 := cell_of n4 1 _ rfl
      have z2 := cell_of n4 2 _ rfl
      have z3 := cell_of n4 3 _ rfl
      have H5 : Hid (∀ W, Below W5.heap.size W5 W -> Gx R w W /\ Gx R W0 W /\ Rb K W R b r (k + 1) /\ W.heap[W3.heap.size]? = some (.cells #[.string g, .string ⟨#[]⟩, .slice na nn nc, .slice none 0 0] 68 (0, 0)) /\ Below W3.heap.size W3 W) := fun W hb =>
        ⟨Gx.trans (Gx.trans G3.out.1 (Gx.of b35)) (Gx.of hb), Gx.trans (Gx.trans G3.out.2.1 (Gx.of b35)) (Gx.of hb), Rb.below (Rb.below G3.out.2.2 b35) hb, ((hb.block _ (by omega)).trans (b5.block _ (by omega))).trans n4, b35.trans (hb.mono b35.size)⟩
      have HAX : Hid _ := hax
      have HE0 : Hid (rnd b (m + 1) p k = if TMeas.ck [.mk g ⟨#[]⟩ n []] = 0 then (match rcnt 4096 b r with
            | .error z => .error z
            | .ok (c, z) => match rmanyT (rnd b m) c z (k + 1) with
              | .error z => .error z
              | .ok (l, z, k) => .ok (.mk g ⟨#[]⟩ n l, z, k)) else .error p) := by show _ = _; rw [rnd, if_neg hk1, hT]; simp only [hz, if_false, hS]; rfl
      clear hax hin5 b35 n4 n5 b4 b5 hT hS nz hW4
      generalize hck : TMeas.ck [.mk g ⟨#[]⟩ n []] = ck at *
      go_wp2_with fail
      try rw [hWs]
      try rw [hW5]
      refine cC.mono ?_
      rintro e W6 ⟨rfl, b6⟩
      obtain ⟨g6, g06, hR6, n6, b36⟩ := H5.out W6 b6
      clear cC z0 z1 z2 z3 hWz hWs hW5 H5 a0 a1 a2 a3 fz0 fz1 fz2 fz3
      by_cases hc0 : ck = 0
      · subst hc0
        have h2 := (HZ.out W6 g06).1
        have x2 := cell_of h2 0 _ rfl
        have c3 := YRtf.rl_u (m := m + 1) (P2 := w.heap.size) (P3 := w.heap.size + 1) 4096 (by omega) (rnd b m) hR6 (by omega) (show _ from fun W q k' hR hk' hg => inner_c (by omega) (IH.out m rfl) HD.out (HZ.out W (Gx.trans g06 hg)).1 (HZ.out W (Gx.trans g06 hg)).2.1 hR hk')
        have HE1 : Hid (rnd b (m + 1) p k = asT g n (rlstT 4096 (rnd b m) b r (k + 1))) := by
          show _ = _
          rw [HE0.out]
          simp only [if_true, rlstT, asT]
          cases rcnt 4096 b r with
          | error z => rfl
          | ok t => obtain ⟨c, z⟩ := t; rfl
        have H6 : Hid (Gx R w W6 /\ Gx R W0 W6 /\ W6.heap[W3.heap.size]? = some (.cells #[.string g, .string ⟨#[]⟩, .slice na nn nc, .slice none 0 0] 68 (0, 0)) /\ Below W3.heap.size W3 W6 /\ W5.heap.size <= W6.heap.size) := ⟨g6, g06, n6, b36, b6.size⟩
        clear g6 g06 hR6 n6 b36 b6 h2 HE0 hck
        obtain ⟨AA, hAA⟩ : ∃ A, rlstT 4096 (rnd b m) b r (k + 1) = A := ⟨_, rfl⟩
        rw [hAA] at c3
        have HE2 : Hid (rnd b (m + 1) p k = asT g n AA) := by show _ = _; rw [HE1.out, hAA]
        clear HE1 hAA
        go_wp2_with fail
        refine c3.mono ?_
        rintro e W7 ⟨g7, hA⟩
        cases AA with
        | error z =>
          obtain rfl := hA
          exact ⟨rfl, by rw [HE2.out]; exact ⟨Gx.trans H6.out.1 g7, rfl⟩⟩
        | ok t =>
        obtain ⟨l, z, k3⟩ := t
        obtain ⟨v, rfl, hv, hR7, hk3⟩ := hA
        have HK : Hid _ := hv
        obtain ⟨la, ln, lc, rfl⟩ : ∃ a n c, v = .slice a n c := by obtain ⟨a, c, h, -⟩ := hv; exact ⟨_, _, _, h⟩
        have l7 := g7.size
        have l65 := H6.out.2.2.2.2
        have l23 := L23.out
        have l3 := L3.out
        have n7 := (g7.block W3.heap.size (by omega) (fun e => by cases e; omega)).trans H6.out.2.2.1
        have m7 := (HZ.out W7 (Gx.trans H6.out.2.1 g7)).2.2
        have f3 := TBase.frozen_box n7 3
        have z3 := cell_of n7 3 _ rfl
        obtain ⟨W8, hW8⟩ : ∃ W, W7.setCell ⟨W3.heap.size, 3, none⟩ (.slice la ln lc) = W := ⟨_, rfl⟩
        have n8 : W8.heap[W3.heap.size]? = some (.cells #[.string g, .string ⟨#[]⟩, .slice na nn nc, .slice la ln lc] 68 (0, 0)) := by rw [<- hW8, YCb.block_set n7]; rfl
        have gg8 : W7.grownBy W8 (some W3.heap.size) := by rw [<- hW8]; exact ⟨rfl, rfl, rfl, by simp, fun k hk hne => Below.heap_setCell _ _ _ _ (fun e => hne (by rw [e]))⟩
        have m8 := (gg8.block (w.heap.size + 2) (by omega) (fun e => by have := Option.some.inj e; omega)).trans m7
        have y0 := cell_of n8 0 _ rfl
        have y1 := cell_of n8 1 _ rfl
        have y2 := cell_of n8 2 _ rfl
        have y3 := cell_of n8 3 _ rfl
        have u0 := cell_of m8 0 _ rfl
        have u1 := cell_of m8 1 _ rfl
        have u2 := cell_of m8 2 _ rfl
        have u3 := cell_of m8 3 _ rfl
        have e0 := TBase.frozen_box m8 0
        have e1 := TBase.frozen_box m8 1
        have e2 := TBase.frozen_box m8 2
        have e3 := TBase.frozen_box m8 3
        obtain ⟨W9, hW9⟩ : ∃ W, (((W8.setCell ⟨w.heap.size + 2, 0, none⟩ (.string g)).setCell ⟨w.heap.size + 2, 1, none⟩ (.string ⟨#[]⟩)).setCell ⟨w.heap.size + 2, 2, none⟩ (.slice na nn nc)).setCell ⟨w.heap.size + 2, 3, none⟩ (.slice la ln lc) = W := ⟨_, rfl⟩
        obtain ⟨hn, hg9⟩ := YRgf.set4 _ _ _ _ m8 hW9
        have l8 := gg8.size
        have l9 := hg9.size
        have HN : Hid _ := hn
        have HG9 : Hid (Gx R w W9) := gx_row (gx_row (Gx.trans H6.out.1 g7) gg8 (fun r hr => by cases hr; omega)) hg9 (fun r hr => by cases hr; omega)
        have HR9 : Hid (Rb K W9 R b z k3) := Rb.row (lo := w.heap.size) (Rb.row (lo := w.heap.size) hR7 gg8 hRlt (fun r hr => by cases hr; omega)) hg9 hRlt (fun r hr => by cases hr; omega)
        have K1 : TBase.Keep (Bz W3 W2.heap.size) W3 W9 := fun g hg hl => by
            have hg := hg.at'
            have a1 := H6.out.2.2.2.1.block g hg.2
            have a2 := g7.block g (by have := H6.out.2.2.2.1.size; omega) (fun e => by have := Option.some.inj e; omega)
            have a3 := gg8.block g (by omega) (fun e => by have := Option.some.inj e; omega)
            have a4 := hg9.block g (by omega) (fun e => by have := Option.some.inj e; omega)
            rw [a4, a3, a2, a1]
        have K2 : TBase.Keep (Bz W7 W6.heap.size) W7 W9 := fun g hg hl => by
            have hg := hg.at'
            have a3 := gg8.block g hl (fun e => by have := Option.some.inj e; omega)
            have a4 := hg9.block g (by omega) (fun e => by have := Option.some.inj e; omega)
            rw [a4, a3]
        have HI : Hid (TBase.In false (Bz W9 w.heap.size) W9 (m + 1 + 1) (.agg #[.string g, .string ⟨#[]⟩, .slice na nn nc, .slice la ln lc]) (.mk g ⟨#[]⟩ n l)) := TBase.in_iff.2 ⟨_, _, rfl, by omega, by decide,
          (TBase.Ax.keep (w' := W9) HAX.out K1).weak (bz_up K1 (by omega) (by omega)) false id,
          (TBase.InL.keep (w' := W9) HK.out K2).weak (bz_up K2 (by omega) (by omega)) false id _ (Nat.le_refl _)⟩
        clear n7 m7 n8 m8 gg8 hn hg9 hR7 hv g7 c3
        go_wp2_with fail
        try rw [hW8]
        try rw [hW9]
        refine bodyPost_ret (results_cell_row rfl _ W9 (w.heap.size + 2) 68 _ (0, 0) _ rfl HN.out underlying68 rfl (by kernel_rfl)) rfl ?_
        rw [HE2.out]
        exact ⟨HG9.out, _, rfl, ⟨_, rfl, _, _, rfl, HI.out⟩, HR9.out, hk3⟩
      · have hc1 : (((ck : Nat) : Int) != 0) = true := by simp [hc0]
        have HE : Hid (rnd b (m + 1) p k = .error p) := by show _ = _; rw [HE0.out, if_neg hc0]
        have H6 : Hid (Gx R w W6) := g6
        clear HE0 hck g06 hR6 n6 b36
        go_wp2_with fail
        refine (refuse_c _ _).mono ?_
        rintro e w9 ⟨rfl, rfl⟩
        exact ⟨rfl, by rw [HE.out]; exact ⟨H6.out, rfl⟩⟩
theorem nodes {K R : Nat} {b : By} : ∀ m, m <= 64 -> NdP K R b m := by
  intro m
  induction m with
  | zero => intro h; exact node_of h (fun m' e => by omega)
  | succ m ih => intro h; exact node_of h (fun m' e => by obtain rfl : m = m' := by omega
                                                          exact ih (by omega))
end Go.Proofs.YtaiackmmmlhgbaaGreat.YRnf
namespace Go.Proofs.YtaiackmmmlhgbaaGreat.YRpf
open Go.RowKit YPl YRd YWr YRr YRsf YRbf YRlf YRtf YRnf
open TBase (T Keep)
theorem static_c {K R p k : Nat} {w : World} {b : By} (h : Rb K w R b p k) :
    Calls prog 63 #[ptw R] w fun e w' => RT K R b (VA (HdT 65)) (rnd b 64 p 0) w e w' := by
  have hRlt := h.lt
  obtain ⟨W0, hW0⟩ : ∃ W, w.alloc (.cells #[.string ⟨#[]⟩, .string ⟨#[]⟩, .slice none 0 0, .slice none 0 0] 68) = W := ⟨_, rfl⟩
  have b0 : Below w.heap.size w W0 := by rw [<- hW0]; exact (Below.refl _ w).alloc (Nat.le_refl _) _
  have s0 : w.heap.size < W0.heap.size := by rw [<- hW0]; simp
  have g0 : W0.heap[w.heap.size]? = some (.cells #[.string ⟨#[]⟩, .string ⟨#[]⟩, .slice none 0 0, .slice none 0 0] 68 (0, 0)) := by rw [<- hW0]; exact heap_alloc_new w _
  have hR0 := Rb.below h b0
  obtain ⟨W1, hW1⟩ : ∃ W, W0.setCell ⟨R, 2, none⟩ (.int .i64 0) = W := ⟨_, rfl⟩
  have hz := Rb.setk (j := 0) (z := 0) hR0 rfl (by omega)
  rw [hW1] at hz
  obtain ⟨-, -, -, -, -, ia, il, ic, h6, -, -⟩ := hR0
  have y2 := cell_of h6 2 _ rfl
  have fy := TBase.frozen_box h6 2
  have c1 := nodes (K := K) (R := R) (b := b) 64 (by omega) W1 p 0 1 (by omega) hz.1 (by omega)
  have G1 : Hid (Gx R w W1 /\ Gx R W0 W1) := ⟨Gx.trans (Gx.of b0) hz.2, hz.2⟩
  have HZ : Hid _ := g0
  obtain ⟨A, hE⟩ : ∃ A, rnd b 64 p 0 = A := ⟨_, rfl⟩
  rw [hE] at c1 ⊢
  clear h b0 g0 h6 hz hE
  go_enter func63, ntmps63
  go_wp2_with fail
  try rw [hW0]
  try rw [hW1]
  refine c1.mono ?_
  rintro e W2 ⟨g2, hA⟩
  cases A with
  | error z =>
    obtain rfl := hA
    exact ⟨rfl, Gx.trans G1.out.1 g2, rfl⟩
  | ok t =>
    obtain ⟨x, q, k2⟩ := t
    obtain ⟨ve, rfl, ⟨cc, rfl, nv, lv, rfl, hin⟩, hR2, hk2⟩ := hA
    obtain ⟨na, nn, nc, rfl⟩ : ∃ a n c, nv = .slice a n c := by obtain ⟨m', nv', lv', -, e, -, -, ⟨a, c, h, -⟩, -⟩ := hin.shape; cases e; exact ⟨_, _, _, h⟩
    obtain ⟨la, ln, lc, rfl⟩ : ∃ a n c, lv = .slice a n c := by obtain ⟨m', nv', lv', -, e, -, -, -, ⟨a, c, h, -⟩⟩ := hin.shape; cases e; exact ⟨_, _, _, h⟩
    have hz := ((Gx.trans G1.out.2 g2).block w.heap.size s0 (fun e => by cases e; omega)).trans HZ.out
    have z0 := cell_of hz 0 _ rfl
    have z1 := cell_of hz 1 _ rfl
    have z2 := cell_of hz 2 _ rfl
    have z3 := cell_of hz 3 _ rfl
    have f0 := TBase.frozen_box hz 0
    have f1 := TBase.frozen_box hz 1
    have f2 := TBase.frozen_box hz 2
    have f3 := TBase.frozen_box hz 3
    obtain ⟨W9, hW9⟩ : ∃ W, (((W2.setCell ⟨w.heap.size, 0, none⟩ (.string x.g)).setCell ⟨w.heap.size, 1, none⟩ (.string x.s)).setCell ⟨w.heap.size, 2, none⟩ (.slice na nn nc)).setCell ⟨w.heap.size, 3, none⟩ (.slice la ln lc) = W := ⟨_, rfl⟩
    obtain ⟨hn, hg9⟩ := YRgf.set4 _ _ _ _ hz hW9
    have l1 := G1.out.2.size
    have l2 := g2.size
    have l9 := hg9.size
    have HN : Hid _ := hn
    have HG9 : Hid (Gx R w W9) := gx_row (Gx.trans G1.out.1 g2) hg9 (fun r hr => by cases hr; exact Nat.le_refl _)
    have HR9 : Hid (Rb K W9 R b q k2) := Rb.row (lo := w.heap.size) hR2 hg9 hRlt (fun r hr => by cases hr; exact Nat.le_refl _)
    have HI : Hid (TBase.In false (Bz W9 w.heap.size) W9 65 (.agg #[.string x.g, .string x.s, .slice na nn nc, .slice la ln lc]) x) := (hin.keep (w' := W9) (fun g hg hl => hg9.block g hl (fun e => by have hg := hg.at'; cases e; omega))).weak (bz_up (fun g hg hl => hg9.block g hl (fun e => by have hg := hg.at'; cases e; omega)) (by omega) (by omega)) false id _ (Nat.le_refl _)
    clear hz hn hg9 hin hR2 g2 c1
    go_wp2_with fail
    try rw [hW9]
    refine bodyPost_ret (results_cell_row rfl _ W9 w.heap.size 68 _ (0, 0) _ rfl HN.out underlying68 rfl (by kernel_rfl)) rfl ?_
    exact ⟨HG9.out, _, rfl, ⟨_, rfl, _, _, rfl, HI.out⟩, HR9.out, hk2⟩
def HvP (S : Nat -> Prop) (w : World) (v : Value) (x : Pg) : Prop := ∃ a n1 c1 b n2 c2 c n3 c3 d n4 c4, v = .agg #[.slice a n1 c1, .slice b n2 c2, .slice c n3 c3, .slice d n4 c4] /\ RrS 1 LyS S w (.slice a n1 c1) x.t /\ RrS 1 (LyCs S) S w (.slice b n2 c2) x.c /\ TBase.InL false S w 65 (.slice c n3 c3) x.s /\ RrS 3 (LyBs S) S w (.slice d n4 c4) x.b
theorem HvP.pg {S : Nat -> Prop} {w : World} {v : Value} {x : Pg} {K : Nat} (h : HvP S w v x) (hS : ∀ b, S b -> b < K) : YEn.InPg K 65 w v x := by
  obtain ⟨a, n1, c1, b, n2, c2, c, n3, c3, d, n4, c4, rfl, h1, h2, h3, h4⟩ := h
  refine ⟨a, n1, c1, b, n2, c2, c, n3, c3, d, n4, c4, rfl, h1.rr hS fun g o x _ h => h, h2.rr hS fun g o x _ h => ?_, h3.weak hS false id 65 (Nat.le_refl _), h4.rr hS fun g o x _ h => ?_⟩
  · obtain ⟨v, k1, k2⟩ := h
    exact ⟨v, k1, k2.rr hS fun g o x _ h => h⟩
  · obtain ⟨v, u, k1, k2, k3, k4, k5, k6⟩ := h
    refine ⟨v, u, k1, k2, k3, k4, k5.rr hS fun g o x _ h => ?_, k6.rr hS fun g o x _ h => h⟩
    obtain ⟨v, j1, j2, j3, j4, j5, j6, j7⟩ := h
    exact ⟨v, j1, j2, j3, j4, j5, j6, j7.rr hS fun g o x _ h => h⟩
theorem HvP.keep {S S' : Nat -> Prop} {w w' : World} {v : Value} {x : Pg} (hk : Keep S w w') (hS : ∀ b, S b -> S' b) (h : HvP S w v x) : HvP S' w' v x := by
  obtain ⟨a, n1, c1, b, n2, c2, c, n3, c3, d, n4, c4, rfl, h1, h2, h3, h4⟩ := h
  exact ⟨a, n1, c1, b, n2, c2, c, n3, c3, d, n4, c4, rfl, h1.keep hS fun g o x _ hg h => kS hk hg h, h2.keep hS fun g o x _ hg h => kC hk hS hg h, (h3.keep hk).weak hS false id 65 (Nat.le_refl _), h4.keep hS fun g o x _ hg h => kB hk hS hg h⟩
end Go.Proofs.YtaiackmmmlhgbaaGreat.YRpf

import Derived.Test.YthjbknncbhkinaaGreatDoorPS17
open Go.Proofs.Tryz
set_option linter.unusedVariables false
set_option maxRecDepth 20000
set_option maxHeartbeats 6400000
namespace Go.Proofs.YthjbknncbhkinaaGreatDoor.MPu
open Tak
open Go.RowKit Base VSm MBx
section
variable {ops : Array Oper} {o : Oper} {y : Act} {K : Act -> World -> Prop} {Q : Exit -> Act -> World -> Prop} {E : Prop} {w : World} {base n m c : Nat} {v : Value} {xs news : List Value} {ad : Addr}
theorem wp_val (x z : Operand) (ho : o.op = .call { callee := .builtin .append, args := #[x, z], argTypes := #[43, 43] }) (hown : w.ownsRow base 46 6 v n xs) (hl : news.length = m * 6) (hnews : ∀ j u, news[j]? = some u -> w.cell? (ad.add j) = some u) (h1 : ∀ u ∈ news, u.oneCell' = true) (hb : n + m <= 100000) (hbase : base <= w.heap.size)
  (hx : y.eval x = v) (hz : y.eval z = .slice (some ad) m c) (hk : ∀ v' W, W.ownsRow base 46 6 v' (n + m) (xs ++ news) -> w.grownBy W v.ownBlock -> (v'.ownBlock = v.ownBlock \/ v'.ownBlock = some w.heap.size) -> K (y.put o.dst v') W) : o.wp prog y w K Q := by
 obtain ⟨ij, hij, hj0, hj1, hj2⟩ := info_parts info25
 obtain ⟨v', W, hrun, h3, h4, -, h5⟩ := run_append_own_at (P := prog) w base 43 o.type 46 ij _ 6 88 underlying43 hij hj0 hj1 hj2 rfl (by decide) v n xs hown ad m c news hl hnews h1 (by unfold maxLen; omega) (by omega) hbase
 unfold Oper.wp execOp
 simp only [ho, resolve, invoke, builtin, Sem.run_bind, Sem.run_pure, Result.andThen_ok, List.map_toArray, List.map_cons, List.map_nil, hx, hz, hrun]
 exact hk v' W h3 h4 h5
theorem step_val (hgd : o.guard = none) (x z : Operand) (ho : o.op = .call { callee := .builtin .append, args := #[x, z], argTypes := #[43, 43] }) (hown : w.ownsRow base 46 6 v n xs) (hl : news.length = m * 6) (hnews : ∀ j u, news[j]? = some u -> w.cell? (ad.add j) = some u) (h1 : ∀ u ∈ news, u.oneCell' = true) (hb : n + m <= 100000) (hbase : base <= w.heap.size)
  (hx : y.eval x = v) (hz : y.eval z = .slice (some ad) m c) (hk : ∀ v' W, W.ownsRow base 46 6 v' (n + m) (xs ++ news) -> w.grownBy W v.ownBlock -> (v'.ownBlock = v.ownBlock \/ v'.ownBlock = some w.heap.size) -> K (y.put o.dst v') W) : if Region.wanted o (yielded ops y.tmps) = true then Oper.wp prog o y w K Q else E := by
 have hw : Region.wanted o (yielded ops y.tmps) = true := by simp [Region.wanted, hgd]
 rw [if_pos hw]
 exact wp_val x z ho hown hl hnews h1 hb hbase hx hz hk
end
abbrev zv : List Value := [.int .i64 0, .bool false, .int .i64 0, .string ⟨#[]⟩, .slice none 0 0, .slice none 0 0]
theorem set_comm (w : World) (a b : Addr) (u v : Value) (h : a.block ≠ b.block) : (w.setCell a u).setCell b v = (w.setCell b v).setCell a u := by
 unfold World.setCell
 simp only
 congr 1
 apply Array.ext
 ·simp
 ·intro i h1 h2
  simp only [Array.getElem_modify]
  by_cases e1 : a.block = i
  ·have e2 : ¬ b.block = i := fun e => h (e1.trans e.symm)
   simp [e1, e2]
  ·simp [e1]
theorem six_set {w : World} {base g n cap : Nat} {xs : List Value} {a0 a1 a2 a3 a4 a5 b0 b1 b2 b3 b4 b5 : Value} (h : w.ownsRow base 46 6 (.slice (some ⟨g, 0, none⟩) (n + 1) cap) (n + 1) (xs ++ [a0, a1, a2, a3, a4, a5])) (hx : xs.length = n * 6) :
  ((((((w.setCell ⟨g, n * 6, none⟩ b0).setCell ⟨g, n * 6 + 1, none⟩ b1).setCell ⟨g, n * 6 + 2, none⟩ b2).setCell ⟨g, n * 6 + 3, none⟩ b3).setCell ⟨g, n * 6 + 4, none⟩ b4).setCell ⟨g, n * 6 + 5, none⟩ b5).ownsRow base 46 6 (.slice (some ⟨g, 0, none⟩) (n + 1) cap) (n + 1) (xs ++ [b0, b1, b2, b3, b4, b5]) := by
 have h1 := (World.ownsRow.stored h (n * 6) b0).1
 have h2 := (World.ownsRow.stored h1 (n * 6 + 1) b1).1
 have h3 := (World.ownsRow.stored h2 (n * 6 + 2) b2).1
 have h4 := (World.ownsRow.stored h3 (n * 6 + 3) b3).1
 have h5 := (World.ownsRow.stored h4 (n * 6 + 4) b4).1
 have h6 := (World.ownsRow.stored h5 (n * 6 + 5) b5).1
 have e : ((((((xs ++ [a0, a1, a2, a3, a4, a5]).set (n * 6) b0).set (n * 6 + 1) b1).set (n * 6 + 2) b2).set (n * 6 + 3) b3).set (n * 6 + 4) b4).set (n * 6 + 5) b5 = xs ++ [b0, b1, b2, b3, b4, b5] := by
  rw [<- hx]
  simp []
 rw [e] at h6
 exact h6
theorem row_cells {W : World} {lo g n cap : Nat} {xs : List Value} {z0 z1 z2 z3 z4 z5 : Value} (h3 : W.ownsRow lo 46 6 (.slice (some ⟨g, 0, none⟩) (n + 1) cap) (n + 1) (xs ++ [z0, z1, z2, z3, z4, z5])) (hx : xs.length = n * 6) :
  W.cell? ⟨g, n * 6, none⟩ = some z0 /\ W.cell? ⟨g, n * 6 + 1, none⟩ = some z1 /\ W.cell? ⟨g, n * 6 + 2, none⟩ = some z2 /\ W.cell? ⟨g, n * 6 + 3, none⟩ = some z3 /\ W.cell? ⟨g, n * 6 + 4, none⟩ = some z4 /\ W.cell? ⟨g, n * 6 + 5, none⟩ = some z5 := by
 refine ⟨?_, ?_, ?_, ?_, ?_, ?_⟩
 all_goals rw [World.ownsRow.cellAt h3 _ (by omega), <- hx]
 all_goals simp
theorem value_on {K m : Nat} {w W1 W W5 W6 : World} {M g cap : Nat} {tv sv pv z0 z1 z2 z3 z4 z5 x0 x1 x2 x3 x4 x5 : Value} {p : List C} {us : List Value} {c : C} (h : Mc K m w M tv sv pv p) (how : OwnV w (M + 1) pv us) (hus : us.length = p.length) (hel : ∀ j (h : j < us.length) (h' : j < p.length), Base.In false (fun b => b < K) w m us[j] p[j])
  (b1 : Below w.heap.size w W1) (h3 : W.ownsRow (M + 1) 46 6 (.slice (some ⟨g, 0, none⟩) (us.length + 1) cap) (us.length + 1) (flat us ++ [z0, z1, z2, z3, z4, z5])) (h4 : W1.grownBy W pv.ownBlock) (h5 : some g = pv.ownBlock \/ g = W1.heap.size) (hone : ∀ x ∈ [x0, x1, x2, x3, x4, x5], x.oneCell' = true)
  (hW5 : (((((W.setCell ⟨g, us.length * 6, none⟩ x0).setCell ⟨g, us.length * 6 + 1, none⟩ x1).setCell ⟨g, us.length * 6 + 2, none⟩ x2).setCell ⟨g, us.length * 6 + 3, none⟩ x3).setCell ⟨g, us.length * 6 + 4, none⟩ x4).setCell ⟨g, us.length * 6 + 5, none⟩ x5 = W5) (hW6 : W5.setCell ⟨M, 2, none⟩ (.slice (some ⟨g, 0, none⟩) (us.length + 1) cap) = W6) (hin : Base.In false (fun b => b < K) w m (.agg #[x0, x1, x2, x3, x4, x5]) c) :
  Mc K m W6 M tv sv (.slice (some ⟨g, 0, none⟩) (us.length + 1) cap) (p ++ [c]) /\ Km M pv w W6 /\ (some g = pv.ownBlock \/ w.heap.size <= g) := by
 have hglt := World.ownsRow.lt h3 g rfl
 have hs1 := b1.size
 have hs4 := h4.size
 have hlt := h.lt
 have hlow := h.low
 have h6 := six_set h3 (by rw [flat_len how.2]) (b0 := x0) (b1 := x1) (b2 := x2) (b3 := x3) (b4 := x4) (b5 := x5)
 rw [hW5] at h6
 have h5o : ∀ b, b ≠ g -> W5.heap[b]? = W.heap[b]? := by
  intro b hb
  rw [<- hW5, Below.heap_setCell _ _ _ _ (by simpa using hb), Below.heap_setCell _ _ _ _ (by simpa using hb), Below.heap_setCell _ _ _ _ (by simpa using hb), Below.heap_setCell _ _ _ _ (by simpa using hb), Below.heap_setCell _ _ _ _ (by simpa using hb), Below.heap_setCell _ _ _ _ (by simpa using hb)]
 have h6o : ∀ b, b ≠ M -> W6.heap[b]? = W5.heap[b]? := by
  intro b hb
  rw [<- hW6, Below.heap_setCell _ _ _ _ (by simpa using hb)]
 have hMp : some M ≠ pv.ownBlock := fun e => by have := h.own_ne e.symm; omega
 have hoth : ∀ b, b < w.heap.size -> b ≠ M -> some b ≠ pv.ownBlock -> W6.heap[b]? = w.heap[b]? := by
  intro b hb h2 h1
  have hbg : b ≠ g := by
   rcases h5 with e | e
   ·intro e'; subst e'; exact h1 e
   ·omega
  rw [h6o b h2, h5o b hbg, h4.block b (by omega) h1, b1.block b hb]
 have hat : some g = pv.ownBlock \/ w.heap.size <= g := by
  rcases h5 with e | e
  ·exact .inl e
  ·exact .inr (by omega)
 have hK : ∀ b, b < K -> W6.heap[b]? = w.heap[b]? := fun b hb => hoth b (by omega) (by omega) (fun e => by have := h.own_ne e.symm; omega)
 have hbx : W5.heap[M]? = some (.cells #[tv, sv, pv] 90 (0, 0)) := by
  rw [h5o M (by omega), h4.block M (by omega) hMp, b1.block M hlt, h.box]
 refine ⟨⟨?_, h.low, us ++ [.agg #[x0, x1, x2, x3, x4, x5]], ⟨?_, sixes_snoc how.2 ⟨_, _, _, _, _, _, rfl, hone⟩⟩, by simp [hus], ?_⟩, ⟨?_, hoth⟩, hat⟩
 ·rw [<- hW6]
  exact block_set (j := 2) hbx _
 ·rw [flat_append, List.length_append]
  exact Fresh.own_keep h6 fun q hq => h6o q (by have := (World.ownsRow.lt h6 q hq).1; omega)
 ·intro j h1 h2
  by_cases hj : j < us.length
  ·rw [List.getElem_append_left hj, List.getElem_append_left (by omega)]
   exact (hel j hj (by omega)).keep fun b hb _ => hK b hb
  ·have e : j = us.length := by simp at h1; omega
   subst e
   simp only [List.getElem_append_right (Nat.le_refl _), Nat.sub_self, List.getElem_cons_zero]
   rw [List.getElem_append_right (by omega)]
   simp only [hus, Nat.sub_self, List.getElem_cons_zero]
   exact hin.keep fun b hb _ => hK b hb
 ·have hb : Below M w W := (b1.mono (by omega)).grown h4 (by omega) (fun k hk => by have := h.own_ne hk; omega)
  rw [<- hW6, <- hW5]
  exact ((((((hb.setCell (by simp; omega) _).setCell (by simp; omega) _).setCell (by simp; omega) _).setCell (by simp; omega) _).setCell (by simp; omega) _).setCell (by simp; omega) _).setCell (by simp) _
/-! the walk -/
theorem put_c {K m : Nat} {w : World} {M : Nat} {tv sv pv : Value} {p : List C} {c : C} {an : Option Addr} {ln cn : Nat} {al : Option Addr} {ll cl : Nat} (h : Mc K m w M tv sv pv p) (hF : p.length <= 65536) (hin : Base.In false (fun b => b < K) w m (vl c.k c.b c.i c.s (.slice an ln cn) (.slice al ll cl)) c) :
  Calls prog 101 #[ptr M, vl c.k c.b c.i c.s (.slice an ln cn) (.slice al ll cl)] w fun e w' => (∃ v, e = .returned v) /\ ∃ pv', Mc K m w' M tv sv pv' (p ++ [c]) /\ Km M pv w w' /\ (pv'.ownBlock = pv.ownBlock \/ ∃ g, pv'.ownBlock = some g /\ w.heap.size <= g) := by
 obtain ⟨us, how, hus, hel⟩ := h.own
 obtain ⟨a, cap, rfl, hc1, hc2⟩ := pshape how
 obtain ⟨W0, hW0⟩ : ∃ W, w.alloc (.cells #[.int .i64 c.k, .bool c.b, .int .i64 c.i, .string c.s, .slice an ln cn, .slice al ll cl] 46) = W := ⟨_, rfl⟩
 have b0 : Below w.heap.size w W0 := by rw [<- hW0]; exact (Below.refl _ w).alloc (Nat.le_refl _) _
 have s0 : W0.heap.size = w.heap.size + 1 := by rw [<- hW0]; simp
 have x0 : W0.heap[w.heap.size]? = some (.cells #[.int .i64 c.k, .bool c.b, .int .i64 c.i, .string c.s, .slice an ln cn, .slice al ll cl] 46 (0, 0)) := by rw [<- hW0]; exact heap_alloc_new w _
 obtain ⟨W1, hW1⟩ : ∃ W, (W0.drew).alloc (.cells #[.int .i64 0, .bool false, .int .i64 0, .string ⟨#[]⟩, .slice none 0 0, .slice none 0 0] 46) = W := ⟨_, rfl⟩
 have b01 : Below W0.heap.size W0 W1 := by rw [<- hW1]; exact ((Below.refl _ W0).drew).alloc (by simp) _
 have b1 : Below w.heap.size w W1 := b0.trans (b01.mono (by omega))
 have hs1 : W1.heap.size = w.heap.size + 2 := by rw [<- hW1]; simp [s0]
 have hlt := h.lt
 have hul : us.length <= 65536 := by omega
 have k0 : W0.cell? ⟨M, 2, none⟩ = some (.slice a us.length cap) := by
  have := (b0.block M hlt).trans h.box
  simp [World.cell?, this]
 have k1 : W1.cell? ⟨M, 2, none⟩ = some (.slice a us.length cap) := by
  have := (b1.block M hlt).trans h.box
  simp [World.cell?, this]
 have HSV : Hid (∀ W : World, W.heap[w.heap.size]? = W0.heap[w.heap.size]? -> W.cell? ⟨w.heap.size, 0, none⟩ = some (.int .i64 c.k) /\ W.cell? ⟨w.heap.size, 1, none⟩ = some (.bool c.b) /\ W.cell? ⟨w.heap.size, 2, none⟩ = some (.int .i64 c.i) /\ W.cell? ⟨w.heap.size, 3, none⟩ = some (.string c.s) /\ W.cell? ⟨w.heap.size, 4, none⟩ = some (.slice an ln cn) /\ W.cell? ⟨w.heap.size, 5, none⟩ = some (.slice al ll cl)) := fun W hW => six_box (hW.trans x0)
 have HO1 : Hid (W1.ownsRow (M + 1) 46 6 (.slice a us.length cap) us.length (flat us)) := own_below how.1 b1
 have HW : Hid _ := how
 have HE : Hid _ := hel
 have HU : Hid _ := hus
 have HH : Hid _ := h
 have HI : Hid _ := hin
 have HB1 : Hid (Below w.heap.size w W1) := b1
 have HB01 : Hid (Below W0.heap.size W0 W1) := b01
 have hW1s : W1.heap[w.heap.size]? = W0.heap[w.heap.size]? := b01.block _ (by omega)
 have HN1 : Hid (∀ j u, zv[j]? = some u -> W1.cell? ((⟨w.heap.size + 1, 0, none⟩ : Addr).add j) = some u) := by
  rw [<- hW1]
  have := new_cells W0.drew zv 46
  rw [show W0.drew.heap.size = w.heap.size + 1 from s0] at this
  exact this
 have HZ : Hid (∀ u ∈ zv, u.oneCell' = true) := by
  show ∀ u ∈ zv, _
  simp [Value.oneCell', zv]
 have hsD : W0.drew.heap.size = w.heap.size + 1 := s0
 have HW1S : Hid (W1.heap[w.heap.size]? = W0.heap[w.heap.size]?) := hW1s
 clear how hel hus h b1 b01 hin b0 x0 hW1s hF
 go_enter func101, ntmps101
 go_wp2_with fail
 try rw [hW0]
 refine wp_region_held_drew (S := fun W => W.cell? ⟨w.heap.size, 0, none⟩ = some (.int .i64 c.k) /\ W.cell? ⟨w.heap.size, 1, none⟩ = some (.bool c.b) /\ W.cell? ⟨w.heap.size, 2, none⟩ = some (.int .i64 c.i) /\ W.cell? ⟨w.heap.size, 3, none⟩ = some (.string c.s) /\ W.cell? ⟨w.heap.size, 4, none⟩ = some (.slice an ln cn) /\ W.cell? ⟨w.heap.size, 5, none⟩ = some (.slice al ll cl)) (by kernel_rfl) (HSV.out W0.drew rfl) (fun hHeld => ?_)
 refine tkH 0 rfl ?_; try simp only [ptH]
 refine tkH 1 rfl ?_; try simp only [ptH]
 refine tkH 2 rfl ?_; try simp only [ptH]
 refine tkH 4 rfl ?_; try simp only [ptH]
 refine rdH [3, 6] ?_
 refine AllReadyH.cons rfl (fun K0 hK => ?_) (AllReadyH.cons rfl (fun K0 hK => ?_) (AllReadyH.nil))
 ·go_simp
  refine hK.out _ _ (HSV.out _ rfl) (fun hHeld => ?_)
  clear hK K0
  try simp only [ptH]
  refine tkH 5 rfl ?_; try simp only [ptH]
  refine rdH [6] ?_
  refine alH rfl fun K0 hK => ?_
  go_simp
  try rw [hW1]
  refine hK.out _ _ (HSV.out _ HW1S.out) (fun hHeld => ?_)
  clear hK K0
  try simp only [ptH]
  refine rdH [7] ?_
  refine alH rfl fun K0 hK => ?_
  refine step_val (news := zv) (m := 1) (n := us.length) rfl _ _ rfl HO1.out rfl HN1.out HZ.out (by omega) (by omega) rfl rfl (fun v' W h3 h4 h5 => ?_)
  obtain ⟨g, cap2, rfl⟩ : ∃ g cap2, v' = .slice (some ⟨g, 0, none⟩) (us.length + 1) cap2 := by
   rcases h3.2 with ⟨_, e⟩ | ⟨g, cap2, cur, e, _⟩
   ·omega
   ·exact ⟨g, cap2, e⟩
  obtain ⟨c0, c1, c2, c3, c4, c5⟩ := row_cells h3 (flat_len HW.out.2)
  have f0 := World.ownsRow.frozenAt h3 (us.length * 6)
  have f1 := World.ownsRow.frozenAt h3 (us.length * 6 + 1)
  have f2 := World.ownsRow.frozenAt h3 (us.length * 6 + 2)
  have f3 := World.ownsRow.frozenAt h3 (us.length * 6 + 3)
  have f4 := World.ownsRow.frozenAt h3 (us.length * 6 + 4)
  have f5 := World.ownsRow.frozenAt h3 (us.length * 6 + 5)
  have hpn : ∀ b, some b = (Value.slice a us.length cap).ownBlock -> M < b /\ b < w.heap.size := fun b e => HH.out.own_ne e.symm
  have hbW : W.heap[M]? = some (.cells #[tv, sv, .slice a us.length cap] 90 (0, 0)) := by
   rw [h4.block M (by omega) (fun e => by have := hpn M e; omega), HB1.out.block M hlt, HH.out.box]
  have kW : W.cell? ⟨M, 2, none⟩ = some (.slice a us.length cap) := by simp [World.cell?, hbW]
  have fW := frozen_box hbW 2
  clear hbW
  have hvW : W.heap[w.heap.size]? = W0.heap[w.heap.size]? := (h4.block w.heap.size (by omega) (fun e => by have := hpn _ e; omega)).trans HW1S.out
  have hgv : g ≠ w.heap.size := by
   rcases h5 with e | e
   ·have := hpn g e; omega
   ·have e2 : g = W1.heap.size := Option.some.inj e; omega
  have hgB : M ≠ g := by have := (World.ownsRow.lt h3 g rfl).1; omega
  have hMv : M ≠ w.heap.size := by omega
  have HVW : Hid (W.heap[w.heap.size]? = W0.heap[w.heap.size]?) := hvW
  have H3 : Hid _ := h3
  have H4 : Hid _ := h4
  have H5 : Hid _ := h5
  clear h3 h4 h5 hvW hpn
  refine hK.out _ _ (HSV.out W HVW.out) (fun hHeld => ?_)
  clear hK K0
  try simp only [ptH]
  refine wpAnyH_take (i := 8) (v := ?_) rfl (by kernel_rfl) (by kernel_rfl) (by kernel_rfl) (fun _ _ _ h => h) (Or.inl ⟨by rfl, ?_⟩) (by assumption) ?_
  rotate_left 1
  ·intro w hSw; (try dsimp only at hSw); go_simp; first | done | with_reducible rfl | (rw [if_pos (by omega)])
  try simp only [ptH]
  refine wpAnyH_take (i := 10) (v := ?_) rfl (by kernel_rfl) (by kernel_rfl) (by kernel_rfl) (fun _ _ _ h => h) (Or.inl ⟨by rfl, ?_⟩) (by assumption) ?_
  rotate_left 1
  ·intro w hSw; (try dsimp only at hSw); go_simp; first | done | with_reducible rfl | (rw [if_pos (by omega)])
  try simp only [ptH]
  refine wpAnyH_take (i := 11) (v := ?_) rfl (by kernel_rfl) (by kernel_rfl) (by kernel_rfl) (fun _ _ _ h => h) (Or.inl ⟨by rfl, ?_⟩) (by assumption) ?_
  rotate_left 1
  ·intro w hSw; (try dsimp only at hSw); go_simp; first | done | with_reducible rfl | (rw [if_pos (by omega)])
  try simp only [ptH]
  refine rdH [9, 12] ?_
  refine AllReadyH.cons rfl (fun K0 hK => ?_) (AllReadyH.cons rfl (fun K0 hK => ?_) (AllReadyH.nil))
  ·go_simp
   refine hK.out _ _ (HSV.out _ (by rw [Below.heap_setCell _ _ _ _ hgv.symm, Below.heap_setCell _ _ _ _ hgv.symm, Below.heap_setCell _ _ _ _ hgv.symm, Below.heap_setCell _ _ _ _ hgv.symm, Below.heap_setCell _ _ _ _ hgv.symm, Below.heap_setCell _ _ _ _ hgv.symm]; exact HVW.out)) (fun hHeld => ?_)
   clear hK K0
   try simp only [ptH]
   refine rdH [12] ?_
   refine alH rfl fun K0 hK => ?_
   go_simp
   refine hK.out _ _ (HSV.out _ (by rw [Below.heap_setCell _ _ _ _ hMv.symm, Below.heap_setCell _ _ _ _ hgv.symm, Below.heap_setCell _ _ _ _ hgv.symm, Below.heap_setCell _ _ _ _ hgv.symm, Below.heap_setCell _ _ _ _ hgv.symm, Below.heap_setCell _ _ _ _ hgv.symm, Below.heap_setCell _ _ _ _ hgv.symm]; exact HVW.out)) (fun hHeld => ?_)
   clear hK K0
   try simp only [ptH]
   refine dnH ?_
   go_wp2_with fail
   go_end0
   refine ⟨⟨_, rfl⟩, .slice (some ⟨g, 0, none⟩) (us.length + 1) cap2, ?_⟩
   obtain ⟨r1, r2, r3⟩ := value_on HH.out HW.out HU.out HE.out HB1.out H3.out H4.out (H5.out.imp (fun e => e) (fun e => Option.some.inj e)) (x0 := .int .i64 c.k) (x1 := .bool c.b) (x2 := .int .i64 c.i) (x3 := .string c.s) (x4 := .slice an ln cn) (x5 := .slice al ll cl) (by simp [Value.oneCell']) rfl rfl HI.out
   refine ⟨r1, r2, ?_⟩
   rcases r3 with e | e
   ·exact .inl e
   ·exact .inr ⟨g, rfl, e⟩
  ·go_simp
   refine hK.out _ _ (HSV.out _ (by rw [Below.heap_setCell _ _ _ _ hMv.symm]; exact HVW.out)) (fun hHeld => ?_)
   clear hK K0
   try simp only [ptH]
   refine rdH [9] ?_
   refine alH rfl fun K0 hK => ?_
   go_simp
   refine hK.out _ _ (HSV.out _ (by rw [Below.heap_setCell _ _ _ _ hgv.symm, Below.heap_setCell _ _ _ _ hgv.symm, Below.heap_setCell _ _ _ _ hgv.symm, Below.heap_setCell _ _ _ _ hgv.symm, Below.heap_setCell _ _ _ _ hgv.symm, Below.heap_setCell _ _ _ _ hgv.symm, Below.heap_setCell _ _ _ _ hMv.symm]; exact HVW.out)) (fun hHeld => ?_)
   clear hK K0
   try simp only [ptH]
   refine dnH ?_
   go_wp2_with fail
   go_end0
   refine ⟨⟨_, rfl⟩, .slice (some ⟨g, 0, none⟩) (us.length + 1) cap2, ?_⟩
   rw [set_comm _ ⟨M, 2, none⟩ ⟨g, us.length * 6, none⟩ _ _ hgB, set_comm _ ⟨M, 2, none⟩ ⟨g, us.length * 6 + 1, none⟩ _ _ hgB, set_comm _ ⟨M, 2, none⟩ ⟨g, us.length * 6 + 2, none⟩ _ _ hgB, set_comm _ ⟨M, 2, none⟩ ⟨g, us.length * 6 + 3, none⟩ _ _ hgB, set_comm _ ⟨M, 2, none⟩ ⟨g, us.length * 6 + 4, none⟩ _ _ hgB, set_comm _ ⟨M, 2, none⟩ ⟨g, us.length * 6 + 5, none⟩ _ _ hgB]
   obtain ⟨r1, r2, r3⟩ := value_on HH.out HW.out HU.out HE.out HB1.out H3.out H4.out (H5.out.imp (fun e => e) (fun e => Option.some.inj e)) (x0 := .int .i64 c.k) (x1 := .bool c.b) (x2 := .int .i64 c.i) (x3 := .string c.s) (x4 := .slice an ln cn) (x5 := .slice al ll cl) (by simp [Value.oneCell']) rfl rfl HI.out
   refine ⟨r1, r2, ?_⟩
   rcases r3 with e | e
   ·exact .inl e
   ·exact .inr ⟨g, rfl, e⟩
 ·go_simp
  try rw [hW1]
  refine hK.out _ _ (HSV.out _ HW1S.out) (fun hHeld => ?_)
  clear hK K0
  try simp only [ptH]
  refine rdH [3] ?_
  refine alH rfl fun K0 hK => ?_
  go_simp
  refine hK.out _ _ (HSV.out _ HW1S.out) (fun hHeld => ?_)
  clear hK K0
  try simp only [ptH]
  refine tkH 5 rfl ?_; try simp only [ptH]
  refine rdH [7] ?_
  refine alH rfl fun K0 hK => ?_
  refine step_val (news := zv) (m := 1) (n := us.length) rfl _ _ rfl HO1.out rfl HN1.out HZ.out (by omega) (by omega) rfl rfl (fun v' W h3 h4 h5 => ?_)
  obtain ⟨g, cap2, rfl⟩ : ∃ g cap2, v' = .slice (some ⟨g, 0, none⟩) (us.length + 1) cap2 := by
   rcases h3.2 with ⟨_, e⟩ | ⟨g, cap2, cur, e, _⟩
   ·omega
   ·exact ⟨g, cap2, e⟩
  obtain ⟨c0, c1, c2, c3, c4, c5⟩ := row_cells h3 (flat_len HW.out.2)
  have f0 := World.ownsRow.frozenAt h3 (us.length * 6)
  have f1 := World.ownsRow.frozenAt h3 (us.length * 6 + 1)
  have f2 := World.ownsRow.frozenAt h3 (us.length * 6 + 2)
  have f3 := World.ownsRow.frozenAt h3 (us.length * 6 + 3)
  have f4 := World.ownsRow.frozenAt h3 (us.length * 6 + 4)
  have f5 := World.ownsRow.frozenAt h3 (us.length * 6 + 5)
  have hpn : ∀ b, some b = (Value.slice a us.length cap).ownBlock -> M < b /\ b < w.heap.size := fun b e => HH.out.own_ne e.symm
  have hbW : W.heap[M]? = some (.cells #[tv, sv, .slice a us.length cap] 90 (0, 0)) := by
   rw [h4.block M (by omega) (fun e => by have := hpn M e; omega), HB1.out.block M hlt, HH.out.box]
  have kW : W.cell? ⟨M, 2, none⟩ = some (.slice a us.length cap) := by simp [World.cell?, hbW]
  have fW := frozen_box hbW 2
  clear hbW
  have hvW : W.heap[w.heap.size]? = W0.heap[w.heap.size]? := (h4.block w.heap.size (by omega) (fun e => by have := hpn _ e; omega)).trans HW1S.out
  have hgv : g ≠ w.heap.size := by
   rcases h5 with e | e
   ·have := hpn g e; omega
   ·have e2 : g = W1.heap.size := Option.some.inj e; omega
  have hgB : M ≠ g := by have := (World.ownsRow.lt h3 g rfl).1; omega
  have hMv : M ≠ w.heap.size := by omega
  have HVW : Hid (W.heap[w.heap.size]? = W0.heap[w.heap.size]?) := hvW
  have H3 : Hid _ := h3
  have H4 : Hid _ := h4
  have H5 : Hid _ := h5
  clear h3 h4 h5 hvW hpn
  refine hK.out _ _ (HSV.out W HVW.out) (fun hHeld => ?_)
  clear hK K0
  try simp only [ptH]
  refine wpAnyH_take (i := 8) (v := ?_) rfl (by kernel_rfl) (by kernel_rfl) (by kernel_rfl) (fun _ _ _ h => h) (Or.inl ⟨by rfl, ?_⟩) (by assumption) ?_
  rotate_left 1
  ·intro w hSw; (try dsimp only at hSw); go_simp; first | done | with_reducible rfl | (rw [if_pos (by omega)])
  try simp only [ptH]
  refine wpAnyH_take (i := 10) (v := ?_) rfl (by kernel_rfl) (by kernel_rfl) (by kernel_rfl) (fun _ _ _ h => h) (Or.inl ⟨by rfl, ?_⟩) (by assumption) ?_
  rotate_left 1
  ·intro w hSw; (try dsimp only at hSw); go_simp; first | done | with_reducible rfl | (rw [if_pos (by omega)])
  try simp only [ptH]
  refine wpAnyH_take (i := 11) (v := ?_) rfl (by kernel_rfl) (by kernel_rfl) (by kernel_rfl) (fun _ _ _ h => h) (Or.inl ⟨by rfl, ?_⟩) (by assumption) ?_
  rotate_left 1
  ·intro w hSw; (try dsimp only at hSw); go_simp; first | done | with_reducible rfl | (rw [if_pos (by omega)])
  try simp only [ptH]
  refine rdH [9, 12] ?_
  refine AllReadyH.cons rfl (fun K0 hK => ?_) (AllReadyH.cons rfl (fun K0 hK => ?_) (AllReadyH.nil))
  ·go_simp
   refine hK.out _ _ (HSV.out _ (by rw [Below.heap_setCell _ _ _ _ hgv.symm, Below.heap_setCell _ _ _ _ hgv.symm, Below.heap_setCell _ _ _ _ hgv.symm, Below.heap_setCell _ _ _ _ hgv.symm, Below.heap_setCell _ _ _ _ hgv.symm, Below.heap_setCell _ _ _ _ hgv.symm]; exact HVW.out)) (fun hHeld => ?_)
   clear hK K0
   try simp only [ptH]
   refine rdH [12] ?_
   refine alH rfl fun K0 hK => ?_
   go_simp
   refine hK.out _ _ (HSV.out _ (by rw [Below.heap_setCell _ _ _ _ hMv.symm, Below.heap_setCell _ _ _ _ hgv.symm, Below.heap_setCell _ _ _ _ hgv.symm, Below.heap_setCell _ _ _ _ hgv.symm, Below.heap_setCell _ _ _ _ hgv.symm, Below.heap_setCell _ _ _ _ hgv.symm, Below.heap_setCell _ _ _ _ hgv.symm]; exact HVW.out)) (fun hHeld => ?_)
   clear hK K0
   try simp only [ptH]
   refine dnH ?_
   go_wp2_with fail
   go_end0
   refine ⟨⟨_, rfl⟩, .slice (some ⟨g, 0, none⟩) (us.length + 1) cap2, ?_⟩
   obtain ⟨r1, r2, r3⟩ := value_on HH.out HW.out HU.out HE.out HB1.out H3.out H4.out (H5.out.imp (fun e => e) (fun e => Option.some.inj e)) (x0 := .int .i64 c.k) (x1 := .bool c.b) (x2 := .int .i64 c.i) (x3 := .string c.s) (x4 := .slice an ln cn) (x5 := .slice al ll cl) (by simp [Value.oneCell']) rfl rfl HI.out
   refine ⟨r1, r2, ?_⟩
   rcases r3 with e | e
   ·exact .inl e
   ·exact .inr ⟨g, rfl, e⟩
  ·go_simp
   refine hK.out _ _ (HSV.out _ (by rw [Below.heap_setCell _ _ _ _ hMv.symm]; exact HVW.out)) (fun hHeld => ?_)
   clear hK K0
   try simp only [ptH]
   refine rdH [9] ?_
   refine alH rfl fun K0 hK => ?_
   go_simp
   refine hK.out _ _ (HSV.out _ (by rw [Below.heap_setCell _ _ _ _ hgv.symm, Below.heap_setCell _ _ _ _ hgv.symm, Below.heap_setCell _ _ _ _ hgv.symm, Below.heap_setCell _ _ _ _ hgv.symm, Below.heap_setCell _ _ _ _ hgv.symm, Below.heap_setCell _ _ _ _ hgv.symm, Below.heap_setCell _ _ _ _ hMv.symm]; exact HVW.out)) (fun hHeld => ?_)
   clear hK K0
   try simp only [ptH]
   refine dnH ?_
   go_wp2_with fail
   go_end0
   refine ⟨⟨_, rfl⟩, .slice (some ⟨g, 0, none⟩) (us.length + 1) cap2, ?_⟩
   rw [set_comm _ ⟨M, 2, none⟩ ⟨g, us.length * 6, none⟩ _ _ hgB, set_comm _ ⟨M, 2, none⟩ ⟨g, us.length * 6 + 1, none⟩ _ _ hgB, set_comm _ ⟨M, 2, none⟩ ⟨g, us.length * 6 + 2, none⟩ _ _ hgB, set_comm _ ⟨M, 2, none⟩ ⟨g, us.length * 6 + 3, none⟩ _ _ hgB, set_comm _ ⟨M, 2, none⟩ ⟨g, us.length * 6 + 4, none⟩ _ _ hgB, set_comm _ ⟨M, 2, none⟩ ⟨g, us.length * 6 + 5, none⟩ _ _ hgB]
   obtain ⟨r1, r2, r3⟩ := value_on HH.out HW.out HU.out HE.out HB1.out H3.out H4.out (H5.out.imp (fun e => e) (fun e => Option.some.inj e)) (x0 := .int .i64 c.k) (x1 := .bool c.b) (x2 := .int .i64 c.i) (x3 := .string c.s) (x4 := .slice an ln cn) (x5 := .slice al ll cl) (by simp [Value.oneCell']) rfl rfl HI.out
   refine ⟨r1, r2, ?_⟩
   rcases r3 with e | e
   ·exact .inl e
   ·exact .inr ⟨g, rfl, e⟩
end Go.Proofs.YthjbknncbhkinaaGreatDoor.MPu
namespace Go.Proofs.YthjbknncbhkinaaGreatDoor.VPk
open Go.RowKit Base VPure VSm VEx VJn VRs Sums
def PairOk (o : Int) : Prop := ∀ (K m : Nat) (w : World) (va vb : Value) (a b : C), K <= w.heap.size -> Tb w -> Base.In false (fun b => b < K) w (m + 1) va a -> Base.In false (fun b => b < K) w (m + 1) vb b -> wf a -> Calls prog 90 #[.int .i64 o, va, vb] w fun e w' => VR K (m + 1) w (pr2 o a b) e w'
theorem pair15 : PairOk 15 := by
 intro K m w va vb a b hK hT hva hvb hwf
 obtain ⟨an, ln, cn, al, ll, cl, rfl⟩ := in_shape hva
 obtain ⟨bn, mn, dn, bl, ml, dl, rfl⟩ := in_shape hvb
 have ha := in_rng hva
 have hb := in_rng hvb
 refine (VPn.pair_Add _ _ _ _ _ _ _ _ _ _ _ _ w (wh 15 a.i b.i).1 (wh 15 a.i b.i).2 (fun _ _ W => ?_)).mono ?_
 ·exact WhA.add a.i b.i ha.1 ha.2 hb.1 hb.2 W
 ·intro e w' h
  exact an_vr (fun c hc => by rw [tw_ok hc]; exact wh_rng ha) h
theorem pair16 : PairOk 16 := by
 intro K m w va vb a b hK hT hva hvb hwf
 obtain ⟨an, ln, cn, al, ll, cl, rfl⟩ := in_shape hva
 obtain ⟨bn, mn, dn, bl, ml, dl, rfl⟩ := in_shape hvb
 have ha := in_rng hva
 have hb := in_rng hvb
 refine (VPn.pair_Sub _ _ _ _ _ _ _ _ _ _ _ _ w (wh 16 a.i b.i).1 (wh 16 a.i b.i).2 (fun _ _ W => ?_)).mono ?_
 ·exact WhA.sub a.i b.i ha.1 ha.2 hb.1 hb.2 W
 ·intro e w' h
  exact an_vr (fun c hc => by rw [tw_ok hc]; exact wh_rng ha) h
theorem pair12 : PairOk 12 := by
 intro K m w va vb a b hK hT hva hvb hwf
 obtain ⟨an, ln, cn, al, ll, cl, rfl⟩ := in_shape hva
 obtain ⟨bn, mn, dn, bl, ml, dl, rfl⟩ := in_shape hvb
 have ha := in_rng hva
 have hb := in_rng hvb
 refine (VPn.pair_Mul _ _ _ _ _ _ _ _ _ _ _ _ w (wh 12 a.i b.i).1 (wh 12 a.i b.i).2 (fun _ _ W => ?_)).mono ?_
 ·exact WhA.mul a.i b.i ha.1 ha.2 hb.1 hb.2 W
 ·intro e w' h
  exact an_vr (fun c hc => by rw [tw_ok hc]; exact wh_rng ha) h
theorem pair13 : PairOk 13 := by
 intro K m w va vb a b hK hT hva hvb hwf
 obtain ⟨an, ln, cn, al, ll, cl, rfl⟩ := in_shape hva
 obtain ⟨bn, mn, dn, bl, ml, dl, rfl⟩ := in_shape hvb
 have ha := in_rng hva
 have hb := in_rng hvb
 refine (VPn.pair_Div _ _ _ _ _ _ _ _ _ _ _ _ w (wh 13 a.i b.i).1 (wh 13 a.i b.i).2 (fun _ _ W => ?_)).mono ?_
 ·exact WhA.div a.i b.i ha.1 ha.2 W
 ·intro e w' h
  exact an_vr (fun c hc => by rw [tw_ok hc]; exact wh_rng ha) h
theorem pair14 : PairOk 14 := by
 intro K m w va vb a b hK hT hva hvb hwf
 obtain ⟨an, ln, cn, al, ll, cl, rfl⟩ := in_shape hva
 obtain ⟨bn, mn, dn, bl, ml, dl, rfl⟩ := in_shape hvb
 have ha := in_rng hva
 have hb := in_rng hvb
 refine (VPn.pair_Mod _ _ _ _ _ _ _ _ _ _ _ _ w (wh 14 a.i b.i).1 (wh 14 a.i b.i).2 (fun _ _ W => ?_)).mono ?_
 ·exact WhA.mod a.i b.i W
 ·intro e w' h
  exact an_vr (fun c hc => by rw [tw_ok hc]; exact wh_rng ha) h
theorem pair18 : PairOk 18 := by
 intro K m w va vb a b hK hT hva hvb hwf
 obtain ⟨an, ln, cn, al, ll, cl, rfl⟩ := in_shape hva
 obtain ⟨bn, mn, dn, bl, ml, dl, rfl⟩ := in_shape hvb
 have ha := in_rng hva
 have hb := in_rng hvb
 refine (VPn.pair_Shl _ _ _ _ _ _ _ _ _ _ _ _ w (wh 18 a.i b.i).1 (wh 18 a.i b.i).2 (fun _ _ W => ?_)).mono ?_
 ·by_cases h : 0 <= b.i /\ b.i <= 63
  ·have e : wh 18 a.i b.i = (num (a.i * 2 ^ b.i.toNat), err (a.i * 2 ^ b.i.toNat)) := if_pos h
   rw [e]
   exact WhA.shl a.i b.i h.1 h.2 W
  ·have e : wh 18 a.i b.i = (0, 102) := if_neg h
   rw [e]
   exact WhA.shl_bad a.i b.i (by omega) W
 ·intro e w' h
  exact an_vr (fun c hc => by rw [tw_ok hc]; exact wh_rng ha) h
theorem pair19 : PairOk 19 := by
 intro K m w va vb a b hK hT hva hvb hwf
 obtain ⟨an, ln, cn, al, ll, cl, rfl⟩ := in_shape hva
 obtain ⟨bn, mn, dn, bl, ml, dl, rfl⟩ := in_shape hvb
 have ha := in_rng hva
 have hb := in_rng hvb
 refine (VPn.pair_Shr _ _ _ _ _ _ _ _ _ _ _ _ w (wh 19 a.i b.i).1 (wh 19 a.i b.i).2 (fun _ _ W => ?_)).mono ?_
 ·by_cases h : 0 <= b.i /\ b.i <= 63
  ·have e : wh 19 a.i b.i = (a.i / 2 ^ b.i.toNat, 0) := if_pos h
   rw [e]
   exact WhA.shr a.i b.i h.1 h.2 W
  ·have e : wh 19 a.i b.i = (0, 102) := if_neg h
   rw [e]
   exact WhA.shr_bad a.i b.i (by omega) W
 ·intro e w' h
  exact an_vr (fun c hc => by rw [tw_ok hc]; exact wh_rng ha) h
theorem pair_cat {m1 m2 : Nat} {c1 c2 : C} (k1 : Int) (b1 : Bool) (i1 : Int) (s1 : ByteArray) (n1 l1 : Value) (k2 : Int) (b2 : Bool) (i2 : Int) (s2 : ByteArray) (n2 l2 : Value) {w : World} (hi1 : Base.In false All w m1 (vl k1 b1 i1 s1 n1 l1) c1) (hi2 : Base.In false All w m2 (vl k2 b2 i2 s2 n2 l2) c2) (ht : Tb w) : Calls prog 90 #[.int .i64 17, vl k1 b1 i1 s1 n1 l1, vl k2 b2 i2 s2 n2 l2] w fun e w' => An w w' e (fun s : ByteArray => v0 4 false 0 s) (bnd (txt c1) fun x => bnd (txt c2) fun y => if 4096 < x.size + y.size then .error 1107 else .ok (x ++ y)) := by
 obtain ⟨W0, hW0, hs0, hb0, hp, hq, hr⟩ := two3 w #[.int .i64 k1, .bool b1, .int .i64 i1, .string s1, n1, l1] #[.int .i64 k2, .bool b2, .int .i64 i2, .string s2, n2, l2]
 have HR : Hid (W0.heap[w.heap.size + 2]? = some (.cells #[.int .i64 0, .bool false, .int .i64 0, .string ⟨#[]⟩, .slice none 0 0, .slice none 0 0] 46 (0, 0))) := hr
 have HB : Hid (Below w.heap.size w W0) := hb0
 obtain ⟨p0, p1, p2, p3, p4, p5⟩ := six_box hp
 obtain ⟨q0, q1, q2, q3, q4, q5⟩ := six_box hq
 have cJ := join_c k1 b1 i1 s1 n1 l1 k2 b2 i2 s2 n2 l2 (hi1.below hb0) (hi2.below hb0) (ht.below hb0)
 generalize (bnd (txt c1) fun x => bnd (txt c2) fun y => if 4096 < x.size + y.size then (.error 1107 : Except Nat ByteArray) else .ok (x ++ y)) = U at *
 clear hp hq hb0 hr hi1 hi2 ht
 go_enter func90, ntmps90
 go_upto_if 35 with fail
 refine wp_cond_true (by rfl) ?_
 refine wp_exit ?_
 repeat (first | (with_reducible refine ex_then ?_) | (with_reducible refine ex_skip (by decide) ?_))
 refine ex_hit ?_
 refine ex_norm ?_
 apply_assumption
 refine wp_mono (Q := Out ?outB) ?outM (out_mono ?outR ?outP)
 case outR => intro a w h; (repeat (first | (with_reducible refine rt_then ?_) | (with_reducible refine rt_blk ?_))); exact h
 case outP => intro c a w h; (repeat (first | (with_reducible refine pn_then ?_) | (with_reducible refine pn_blk ?_))); exact h
 try simp only [hW0]
 go_wp2_with fail
 try rw [hW0]
 refine cJ.mono ?_
 intro e W1 hA
 clear cJ
 cases U with
 | error c =>
  obtain ⟨rfl, hb1⟩ := hA
  exact ⟨rfl, rfl, HB.out.trans (hb1.mono HB.out.size)⟩
 | ok y =>
  obtain ⟨rfl, hb1⟩ := hA
  have hr := (hb1.block (w.heap.size + 2) (by omega)).trans HR.out
  have HB3 : Hid (Below w.heap.size w W1) := HB.out.trans (hb1.mono HB.out.size)
  clear hb1 HB HR p0 p1 p2 p3 p4 p5 q0 q1 q2 q3 q4 q5
  obtain ⟨r0, r1, r2, r3, r4, r5⟩ := six_box hr
  have rf0 := frozen_box hr 0
  have rf1 := frozen_box hr 1
  have rf2 := frozen_box hr 2
  have rf3 := frozen_box hr 3
  have rf4 := frozen_box hr 4
  have rf5 := frozen_box hr 5
  go_wp2_with fail
  obtain ⟨W9, hW9⟩ : ∃ W9, ((((((W1.setCell ⟨w.heap.size + 2, 0, none⟩ (.int .i64 4)).setCell ⟨w.heap.size + 2, 1, none⟩ (.bool false)).setCell ⟨w.heap.size + 2, 2, none⟩ (.int .i64 0)).setCell ⟨w.heap.size + 2, 3, none⟩ (.string y)).setCell ⟨w.heap.size + 2, 4, none⟩ (.slice none 0 0)).setCell ⟨w.heap.size + 2, 5, none⟩ (.slice none 0 0)) = W9 := ⟨_, rfl⟩
  rw [hW9]
  obtain ⟨q1, q2, q3, q4⟩ := set6 _ _ _ _ _ _ hr hW9
  refine out_ret (results_cell_row rfl _ W9 (w.heap.size + 2) 46 _ (0, 0) _ rfl q1 underlying46 rfl (by kernel_rfl)) rfl ?_
  exact ⟨rfl, q4 _ _ (by omega) HB3.out⟩
theorem pair17 : PairOk 17 := by
 intro K m w va vb a b hK hT hva hvb hwf
 have hz1 := fun x => @txt_le _ _ _ _ hva.plain x
 have hz2 := fun x => @txt_le _ _ _ _ hvb.plain x
 have h1 := hva.plain
 have h2 := hvb.plain
 obtain ⟨an, ln, cn, al, ll, cl, rfl⟩ := in_shape hva
 obtain ⟨bn, mn, dn, bl, ml, dl, rfl⟩ := in_shape hvb
 refine (pair_cat _ _ _ _ _ _ _ _ _ _ _ _ h1 h2 hT).mono ?_
 intro e w' h
 have e1 : pr2 17 a b = cat a b := rfl
 rw [e1]
 unfold cat
 generalize txt a = T1 at *
 generalize txt b = T2 at *
 cases T1 with
 | error n => exact ⟨h.2, h.1⟩
 | ok x =>
  cases T2 with
  | error n => exact ⟨h.2, h.1⟩
  | ok y =>
   have hx := hz1 x rfl
   have hy := hz2 y rfl
   by_cases hl : 4096 < x.size + y.size
   ·have e2 : (bnd (.ok x : Except Nat ByteArray) fun x => bnd (.ok y : Except Nat ByteArray) fun y => if 4096 < x.size + y.size then (.error 1107 : Except Nat ByteArray) else .ok (x ++ y)) = .error 1107 := if_pos hl
    have e3 : (bnd (.ok x : Except Nat ByteArray) fun x => bnd (.ok y : Except Nat ByteArray) fun y => if 4096 < x.size + y.size then (.error 1107 : Ans) else .ok (strC (x ++ y))) = .error 1107 := if_pos hl
    rw [e2] at h
    rw [e3]
    exact ⟨h.2, h.1⟩
   ·have e2 : (bnd (.ok x : Except Nat ByteArray) fun x => bnd (.ok y : Except Nat ByteArray) fun y => if 4096 < x.size + y.size then (.error 1107 : Except Nat ByteArray) else .ok (x ++ y)) = .ok (x ++ y) := if_neg hl
    have e3 : (bnd (.ok x : Except Nat ByteArray) fun x => bnd (.ok y : Except Nat ByteArray) fun y => if 4096 < x.size + y.size then (.error 1107 : Ans) else .ok (strC (x ++ y))) = .ok (strC (x ++ y)) := if_neg hl
    rw [e2] at h
    rw [e3]
    exact ⟨h.2, _, h.1, in_str _ w' m (by rw [ByteArray.size_append]; omega)⟩
end Go.Proofs.YthjbknncbhkinaaGreatDoor.VPk

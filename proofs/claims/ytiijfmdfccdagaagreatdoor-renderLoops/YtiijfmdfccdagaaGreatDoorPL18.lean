import Derived.Deep.RegionHeld3
import Derived.Test.YtiijfmdfccdagaaGreatDoorPL01
import Derived.Test.YtiijfmdfccdagaaGreatDoorPL02
import Derived.Test.YtiijfmdfccdagaaGreatDoorPL17
open Go.Proofs.Tryz
set_option linter.unusedVariables false
set_option maxRecDepth 20000
set_option maxHeartbeats 6400000
namespace Go.Proofs.YtiijfmdfccdagaaGreatDoor.GBu
open Go.RowKit TBase
open GEn (ptr)
section
variable {ops : Array Oper} {o : Oper} {y : Act} {K : Act -> World -> Prop} {Q : Exit -> Act -> World -> Prop} {E : Prop} {w : World} {base n m c : Nat} {v : Value} {xs news : List Value} {ad : Addr}
theorem wp_tree (x z : Operand) (ho : o.op = .call { callee := .builtin .append, args := #[x, z], argTypes := #[29, 29] }) (hown : w.ownsRow base 50 4 v n xs) (hl : news.length = m * 4) (hnews : ∀ j u, news[j]? = some u -> w.cell? (ad.add j) = some u) (h1 : ∀ u ∈ news, u.oneCell' = true) (hb : n + m <= 100000) (hbase : base <= w.heap.size)
    (hx : y.eval x = v) (hz : y.eval z = .slice (some ad) m c) (hk : ∀ v' W, W.ownsRow base 50 4 v' (n + m) (xs ++ news) -> w.grownBy W v.ownBlock -> (v'.ownBlock = v.ownBlock \/ v'.ownBlock = some w.heap.size) -> K (y.put o.dst v') W) : o.wp prog y w K Q := by
  obtain ⟨ij, hij, hj0, hj1, hj2⟩ := XLend.info_parts infoT
  obtain ⟨v', W, hrun, h3, h4, -, h5⟩ := run_append_own_at (P := prog) w base 29 o.type 50 ij _ 4 80 underlying29 hij hj0 hj1 hj2 rfl (by decide) v n xs hown ad m c news hl hnews h1 (by unfold maxLen; omega) (by omega) hbase
  unfold Oper.wp execOp
  simp only [ho, resolve, invoke, builtin, Sem.run_bind, Sem.run_pure, Result.andThen_ok, List.map_toArray, List.map_cons, List.map_nil, hx, hz, hrun]
  exact hk v' W h3 h4 h5
theorem step_tree (hgd : o.guard = none) (x z : Operand) (ho : o.op = .call { callee := .builtin .append, args := #[x, z], argTypes := #[29, 29] }) (hown : w.ownsRow base 50 4 v n xs) (hl : news.length = m * 4) (hnews : ∀ j u, news[j]? = some u -> w.cell? (ad.add j) = some u) (h1 : ∀ u ∈ news, u.oneCell' = true) (hb : n + m <= 100000) (hbase : base <= w.heap.size)
    (hx : y.eval x = v) (hz : y.eval z = .slice (some ad) m c) (hk : ∀ v' W, W.ownsRow base 50 4 v' (n + m) (xs ++ news) -> w.grownBy W v.ownBlock -> (v'.ownBlock = v.ownBlock \/ v'.ownBlock = some w.heap.size) -> K (y.put o.dst v') W) : if Region.wanted o (yielded ops y.tmps) = true then Oper.wp prog o y w K Q else E := by
  have hw : Region.wanted o (yielded ops y.tmps) = true := by simp [Region.wanted, hgd]
  rw [if_pos hw]
  exact wp_tree x z ho hown hl hnews h1 hb hbase hx hz hk
end
def Es (lo hi : Nat) (X : Option Nat) (tv : Value) : Nat -> Prop := fun b => lo <= b /\ b < hi /\ some b ≠ X /\ tv.ownBlock ≠ some b
structure Bt (lo : Nat) (w : World) (Bb : Nat) (X : Option Nat) (tv : Value) (F : List T) : Prop where
  box : w.heap[Bb]? = some (.cells #[tv] 68 (0, 0))
  lob : Bb < lo
  hi : lo <= w.heap.size
  xne : ∀ g, tv.ownBlock = some g -> some g ≠ X
  own : ∃ us, OwnV w lo tv us /\ us.length = F.length /\ ∀ j (h : j < us.length) (h' : j < F.length), ∃ m, TBase.In false (Es lo w.heap.size X tv) w m us[j] F[j]
structure Kb (Bb : Nat) (tv : Value) (w w' : World) : Prop where
  below : ∀ n, n <= Bb -> Below n w w'
  size : w.heap.size <= w'.heap.size
  other : ∀ b, b < w.heap.size -> b ≠ Bb -> some b ≠ tv.ownBlock -> w'.heap[b]? = w.heap[b]?
theorem bt_shape {w : World} {lo : Nat} {tv : Value} {us : List Value} (h : OwnV w lo tv us) : ∃ a cap, tv = .slice a us.length cap /\ us.length <= cap /\ cap <= 9223372036854775807 := by
  rcases h.1.2 with ⟨rfl, e⟩ | ⟨g, cap, cur, rfl, h2, h3, h4, h5, h6⟩
  · exact ⟨none, 0, by rw [e], by omega, by omega⟩
  · exact ⟨_, cap, rfl, h4, by unfold maxLen at h5; omega⟩
theorem bt_more {lo : Nat} {w w9 : World} {Bb : Nat} {X : Option Nat} {tv v' u : Value} {F : List T} {us : List Value} {t : T} (hlob : Bb < lo) (hhi : lo <= w.heap.size) (hxne : ∀ g, tv.ownBlock = some g -> some g ≠ X) (how : OwnV w lo tv us) (hus : us.length = F.length) (hel : ∀ j (h : j < us.length) (h' : j < F.length), ∃ m, TBase.In false (Es lo w.heap.size X tv) w m us[j] F[j])
    (hk : ∀ b, b < w.heap.size -> some b ≠ tv.ownBlock -> b ≠ Bb -> w9.heap[b]? = w.heap[b]?) (hsz : w.heap.size <= w9.heap.size) (hown : OwnV w9 lo v' (us ++ [u])) (hin : ∃ m, TBase.In false (Es lo w9.heap.size X v') w9 m u t)
    (hat : v'.ownBlock = tv.ownBlock \/ ∃ g, v'.ownBlock = some g /\ w.heap.size <= g) (hX : ∀ x, X = some x -> x < w.heap.size) (hbox : w9.heap[Bb]? = some (.cells #[v'] 68 (0, 0))) : Bt lo w9 Bb X v' (F ++ [t]) := by
  refine ⟨hbox, hlob, Nat.le_trans hhi hsz, ?_, us ++ [u], hown, by simp [hus], ?_⟩
  · intro g hg e
    rcases hat with k | ⟨g', k, hg'⟩
    · exact hxne g (by rw [<- k]; exact hg) e
    · rw [k] at hg
      have := Option.some.inj hg
      have := hX g e.symm
      omega
  · intro j h1 h2
    by_cases hj : j < us.length
    · rw [List.getElem_append_left hj, List.getElem_append_left (by omega)]
      obtain ⟨m, hi⟩ := hel j hj (by omega)
      refine ⟨m, (hi.keep (w' := w9) (fun b hb hb2 => hk b hb2 (fun e => hb.2.2.2 e.symm) (by have := hb.1; omega))).weak ?_ false id m (Nat.le_refl _)⟩
      intro b hb
      refine ⟨hb.1, by have := hb.2.1; omega, hb.2.2.1, ?_⟩
      rcases hat with k | ⟨g', k, hg'⟩
      · rw [k]; exact hb.2.2.2
      · rw [k]
        intro e
        have := Option.some.inj e
        have := hb.2.1
        omega
    · have e : j = us.length := by simp at h1; omega
      subst e
      simp only [List.getElem_append_right (Nat.le_refl _), Nat.sub_self, List.getElem_cons_zero]
      rw [List.getElem_append_right (by omega)]
      simp only [hus, Nat.sub_self, List.getElem_cons_zero]
      exact hin
theorem four_set {w : World} {base g n cap : Nat} {xs : List Value} {a0 a1 a2 a3 b0 b1 b2 b3 : Value} (h : w.ownsRow base 50 4 (.slice (some ⟨g, 0, none⟩) (n + 1) cap) (n + 1) (xs ++ [a0, a1, a2, a3])) (hx : xs.length = n * 4) :
    ((((w.setCell ⟨g, n * 4, none⟩ b0).setCell ⟨g, n * 4 + 1, none⟩ b1).setCell ⟨g, n * 4 + 2, none⟩ b2).setCell ⟨g, n * 4 + 3, none⟩ b3).ownsRow base 50 4 (.slice (some ⟨g, 0, none⟩) (n + 1) cap) (n + 1) (xs ++ [b0, b1, b2, b3]) := by
  have h1 := (World.ownsRow.stored h (n * 4) b0).1
  have h2 := (World.ownsRow.stored h1 (n * 4 + 1) b1).1
  have h3 := (World.ownsRow.stored h2 (n * 4 + 2) b2).1
  have h4 := (World.ownsRow.stored h3 (n * 4 + 3) b3).1
  have e : ((((xs ++ [a0, a1, a2, a3]).set (n * 4) b0).set (n * 4 + 1) b1).set (n * 4 + 2) b2).set (n * 4 + 3) b3 = xs ++ [b0, b1, b2, b3] := by
    rw [<- hx]
    simp []
  rw [e] at h4
  exact h4
end Go.Proofs.YtiijfmdfccdagaaGreatDoor.GBu
namespace Go.Proofs.YtiijfmdfccdagaaGreatDoor.GBt
open Tak
open Go.RowKit TBase GBu
open GEn (ptr)
abbrev zt : List Value := [.string ⟨#[]⟩, .string ⟨#[]⟩, .slice none 0 0, .slice none 0 0]
theorem set_comm (w : World) (a b : Addr) (u v : Value) (h : a.block ≠ b.block) : (w.setCell a u).setCell b v = (w.setCell b v).setCell a u := by
  unfold World.setCell
  simp only
  congr 1
  apply Array.ext
  · simp
  · intro i h1 h2
    simp only [Array.getElem_modify]
    by_cases e1 : a.block = i
    · have e2 : ¬ b.block = i := fun e => h (e1.trans e.symm)
      simp [e1, e2]
    · simp [e1]
theorem row_cells {W : World} {lo g n cap : Nat} {xs : List Value} {z0 z1 z2 z3 : Value} (h3 : W.ownsRow lo 50 4 (.slice (some ⟨g, 0, none⟩) (n + 1) cap) (n + 1) (xs ++ [z0, z1, z2, z3])) (hx : xs.length = n * 4) :
    W.cell? ⟨g, n * 4, none⟩ = some z0 /\ W.cell? ⟨g, n * 4 + 1, none⟩ = some z1 /\ W.cell? ⟨g, n * 4 + 2, none⟩ = some z2 /\ W.cell? ⟨g, n * 4 + 3, none⟩ = some z3 := by
  refine ⟨?_, ?_, ?_, ?_⟩
  all_goals rw [World.ownsRow.cellAt h3 _ (by omega), <- hx]
  all_goals simp
theorem in_text {S : Nat -> Prop} {w : World} {s : ByteArray} (hs : s.size <= 140737488351232) : TBase.In false S w 1 (.agg #[.string ⟨#[]⟩, .string s, .slice none 0 0, .slice none 0 0]) (T.mk ⟨#[]⟩ s [] []) := by
  rw [in_iff]
  exact ⟨_, _, rfl, by simp [ByteArray.size], hs, ⟨none, 0, rfl, by simp, by omega, by simp, by simp, fun _ => rfl, .inl ⟨rfl, rfl⟩⟩, none, 0, rfl, by simp, by omega, by simp, fun _ => rfl, .inl ⟨rfl, rfl⟩⟩
theorem tree_on {lo : Nat} {w W1 W W5 W6 : World} {Bb g cap : Nat} {X : Option Nat} {tv bv z0 z1 z2 z3 x0 x1 x2 x3 : Value} {F : List T} {us : List Value} {t : T} (hlob : Bb < lo) (hhi : lo <= w.heap.size) (hxne : ∀ g, tv.ownBlock = some g -> some g ≠ X) (how : OwnV w lo tv us) (hus : us.length = F.length) (hel : ∀ j (h : j < us.length) (h' : j < F.length), ∃ m, TBase.In false (Es lo w.heap.size X tv) w m us[j] F[j])
    (hX : ∀ x, X = some x -> x < w.heap.size) (hbv : w.heap[Bb]? = some (.cells #[bv] 68 (0, 0))) (b1 : Below w.heap.size w W1) (h3 : W.ownsRow lo 50 4 (.slice (some ⟨g, 0, none⟩) (us.length + 1) cap) (us.length + 1) (flat us ++ [z0, z1, z2, z3])) (h4 : W1.grownBy W tv.ownBlock) (h5 : some g = tv.ownBlock \/ g = W1.heap.size) (hone : ∀ x ∈ [x0, x1, x2, x3], x.oneCell' = true)
    (hW5 : (((W.setCell ⟨g, us.length * 4, none⟩ x0).setCell ⟨g, us.length * 4 + 1, none⟩ x1).setCell ⟨g, us.length * 4 + 2, none⟩ x2).setCell ⟨g, us.length * 4 + 3, none⟩ x3 = W5) (hW6 : W5.setCell ⟨Bb, 0, none⟩ (.slice (some ⟨g, 0, none⟩) (us.length + 1) cap) = W6) (hin : ∃ m, TBase.In false (Es lo w.heap.size X tv) w m (.agg #[x0, x1, x2, x3]) t) :
    Bt lo W6 Bb X (.slice (some ⟨g, 0, none⟩) (us.length + 1) cap) (F ++ [t]) /\ Kb Bb tv w W6 /\ (some g = tv.ownBlock \/ w.heap.size <= g) := by
  have hglt := World.ownsRow.lt h3 g rfl
  have hs1 := b1.size
  have hs4 := h4.size
  have h6 := four_set h3 (by rw [flat_len how.2]) (b0 := x0) (b1 := x1) (b2 := x2) (b3 := x3)
  rw [hW5] at h6
  have hne : Bb ≠ g := by omega
  have h5o : ∀ b, b ≠ g -> W5.heap[b]? = W.heap[b]? := by
    intro b hb
    rw [<- hW5, Below.heap_setCell _ _ _ _ (by simpa using hb), Below.heap_setCell _ _ _ _ (by simpa using hb), Below.heap_setCell _ _ _ _ (by simpa using hb), Below.heap_setCell _ _ _ _ (by simpa using hb)]
  have h6o : ∀ b, b ≠ Bb -> W6.heap[b]? = W5.heap[b]? := by
    intro b hb
    rw [<- hW6, Below.heap_setCell _ _ _ _ (by simpa using hb)]
  have s5 : W5.heap.size = W.heap.size := by rw [<- hW5]; simp
  have s6 : W6.heap.size = W.heap.size := by rw [<- hW6, World.size_setCell, s5]
  have hoth : ∀ b, b < w.heap.size -> some b ≠ tv.ownBlock -> b ≠ Bb -> W6.heap[b]? = w.heap[b]? := by
    intro b hb h1 h2
    have hbg : b ≠ g := by
      rcases h5 with e | e
      · intro e'; subst e'; exact h1 e
      · omega
    rw [h6o b h2, h5o b hbg, h4.block b (by omega) h1, b1.block b hb]
  have hat : some g = tv.ownBlock \/ w.heap.size <= g := by
    rcases h5 with e | e
    · exact .inl e
    · exact .inr (by omega)
  have hown : OwnV W6 lo (.slice (some ⟨g, 0, none⟩) (us.length + 1) cap) (us ++ [.agg #[x0, x1, x2, x3]]) := by
    refine ⟨?_, fours_snoc how.2 ⟨_, _, _, _, rfl, hone⟩⟩
    rw [flat_append, List.length_append]
    exact Fresh.own_keep h6 fun q hq => h6o q (by have := (World.ownsRow.lt h6 q hq).1; omega)
  have hbox : W6.heap[Bb]? = some (.cells #[.slice (some ⟨g, 0, none⟩) (us.length + 1) cap] 68 (0, 0)) := by
    have e5 : W5.heap[Bb]? = some (.cells #[bv] 68 (0, 0)) := by
      rw [h5o Bb hne, h4.block Bb (by omega) (fun e => by have := (World.ownsRow.lt how.1 Bb e.symm).1; omega), b1.block Bb (by omega), hbv]
    rw [<- hW6]
    exact TBase.block_set e5 _
  refine ⟨bt_more hlob hhi hxne how hus hel hoth (by omega) hown ?_ ?_ hX hbox, ⟨fun n hn => ?_, by omega, fun b h1 h2 h3 => hoth b h1 h3 h2⟩, hat⟩
  · obtain ⟨m, hi⟩ := hin
    refine ⟨m, (hi.keep (w' := W6) (fun b hb hb2 => hoth b hb2 (fun e => hb.2.2.2 e.symm) (by have := hb.1; omega))).weak ?_ false id m (Nat.le_refl _)⟩
    intro b hb
    refine ⟨hb.1, by have := hb.2.1; omega, hb.2.2.1, ?_⟩
    intro e
    have e := Option.some.inj e
    subst e
    rcases hat with k | k
    · exact hb.2.2.2 k.symm
    · exact absurd hb.2.1 (Nat.not_lt.2 k)
  · rcases hat with k | k
    · exact .inl k
    · exact .inr ⟨g, rfl, k⟩
  · have hb : Below n w W := (b1.mono (by omega)).grown h4 (by omega) (fun k hk => by have := (World.ownsRow.lt how.1 k hk).1; omega)
    rw [<- hW6, <- hW5]
    exact ((((hb.setCell (by simp; omega) _).setCell (by simp; omega) _).setCell (by simp; omega) _).setCell (by simp; omega) _).setCell (by simp; omega) _
/-! the walk -/
theorem btext_c {lo : Nat} {w : World} {Bb : Nat} {X : Option Nat} {tv : Value} {F : List T} {num : Int} {s : ByteArray} (h : Bt lo w Bb X tv F) (hX : ∀ x, X = some x -> x < w.heap.size) (hF : F.length <= 65536) (hs : s.size <= 140737488351232) :
    Calls prog 210 #[ptr Bb, .int .i64 num, .string s] w fun e w' => (∃ v, e = .returned v) /\ ∃ tv', Bt lo w' Bb X tv' (F ++ [T.mk ⟨#[]⟩ s [] []]) /\ Kb Bb tv w w' /\ (tv'.ownBlock = tv.ownBlock \/ ∃ g, tv'.ownBlock = some g /\ w.heap.size <= g) := by
  obtain ⟨us, how, hus, hel⟩ := h.own
  obtain ⟨a, cap, rfl, hc1, hc2⟩ := bt_shape how
  have k0 : w.cell? ⟨Bb, 0, none⟩ = some (.slice a us.length cap) := by simp [World.cell?, h.box]
  obtain ⟨W1, hW1⟩ : ∃ W, (w.drew).alloc (.cells #[.string ⟨#[]⟩, .string ⟨#[]⟩, .slice none 0 0, .slice none 0 0] 50) = W := ⟨_, rfl⟩
  have b1 : Below w.heap.size w W1 := by rw [<- hW1]; exact ((Below.refl _ w).drew).alloc (by simp) _
  have hs1 : W1.heap.size = w.heap.size + 1 := by rw [<- hW1]; simp
  have hlo := h.hi
  have HO1 := hid (TBase.own_below how.1 b1)
  have HW := hid how
  have HE := hid hel
  have HU := hid hus
  have HH := hid h
  have hul : us.length <= 65536 := by omega
  have HB1 := hid b1
  have HN1 : Hid (∀ j u, zt[j]? = some u -> W1.cell? ((⟨w.heap.size, 0, none⟩ : Addr).add j) = some u) := by
    rw [<- hW1]
    exact new_cells w.drew zt 50
  have hz : ∀ u ∈ zt, u.oneCell' = true := by simp [Value.oneCell', zt]
  have HZ := hid hz
  clear hz
  have hlt := (Array.getElem?_eq_some_iff.1 h.box).1
  have k1 := (World.cell?_of_block (w := w) (b1.block Bb hlt)).trans k0
  clear how hel hus h b1 hF
  go_enter func210, ntmps210
  go_wp2_with fail
  refine wp_region_held_drew (S := fun _ => True) (by kernel_rfl) (by trivial) (fun hHeld => ?_)
  refine tkH 0 rfl ?_; try simp only [ptH]
  refine tkH 1 rfl ?_; try simp only [ptH]
  refine tkH 2 rfl ?_; try simp only [ptH]
  refine tkH 4 rfl ?_; try simp only [ptH]
  refine tkH 5 rfl ?_; try simp only [ptH]
  refine rdH [3, 7] ?_
  refine AllReadyH.cons rfl (fun K0 hK => ?_) (AllReadyH.cons rfl (fun K0 hK => ?_) (AllReadyH.nil))
  · go_simp
    refine hK.out _ _ (by trivial) (fun hHeld => ?_)
    clear hK K0
    try simp only [ptH]
    refine tkH 6 rfl ?_; try simp only [ptH]
    refine rdH [7] ?_
    refine alH rfl fun K0 hK => ?_
    go_simp
    try rw [hW1]
    refine hK.out _ _ (by trivial) (fun hHeld => ?_)
    clear hK K0
    try simp only [ptH]
    refine rdH [8] ?_
    refine alH rfl fun K0 hK => ?_
    refine step_tree (news := zt) (m := 1) (n := us.length) rfl _ _ rfl HO1.out rfl HN1.out HZ.out (by omega) (by omega) rfl rfl (fun v' W h3 h4 h5 => ?_)
    obtain ⟨g, cap2, rfl⟩ : ∃ g cap2, v' = .slice (some ⟨g, 0, none⟩) (us.length + 1) cap2 := by
      rcases h3.2 with ⟨_, e⟩ | ⟨g, cap2, cur, e, _⟩
      · omega
      · exact ⟨g, cap2, e⟩
    obtain ⟨c0, c1, c2, c3⟩ := row_cells h3 (flat_len HW.out.2)
    have f0 := World.ownsRow.frozenAt h3 (us.length * 4)
    have f1 := World.ownsRow.frozenAt h3 (us.length * 4 + 1)
    have f2 := World.ownsRow.frozenAt h3 (us.length * 4 + 2)
    have f3 := World.ownsRow.frozenAt h3 (us.length * 4 + 3)
    have hbW : W.heap[Bb]? = some (.cells #[.slice a us.length cap] 68 (0, 0)) := by
      rw [h4.block Bb (by omega) (fun e => by have := (World.ownsRow.lt HO1.out Bb e.symm).1; have := HH.out.lob; omega), HB1.out.block Bb hlt, HH.out.box]
    have kW : W.cell? ⟨Bb, 0, none⟩ = some (.slice a us.length cap) := by simp [World.cell?, hbW]
    have fW := TBase.frozen_box hbW 0
    clear hbW
    have hgB : Bb ≠ g := by have := (World.ownsRow.lt h3 g rfl).1; have := HH.out.lob; omega
    have H3 := hid h3
    have H4 := hid h4
    have H5 := hid h5
    clear h3 h4 h5
    refine hK.out _ _ (by trivial) (fun hHeld => ?_)
    clear hK K0
    try simp only [ptH]
    refine wpAnyH_take (i := 9) (v := ?_) rfl (by kernel_rfl) (by kernel_rfl) (by kernel_rfl) (fun _ _ _ h => h) (Or.inl ⟨by rfl, ?_⟩) (by assumption) ?_
    rotate_left 1
    · intro w hSw; (try dsimp only at hSw); go_simp; first | done | with_reducible rfl | (rw [if_pos (by omega)])
    try simp only [ptH]
    refine wpAnyH_take (i := 11) (v := ?_) rfl (by kernel_rfl) (by kernel_rfl) (by kernel_rfl) (fun _ _ _ h => h) (Or.inl ⟨by rfl, ?_⟩) (by assumption) ?_
    rotate_left 1
    · intro w hSw; (try dsimp only at hSw); go_simp; first | done | with_reducible rfl | (rw [if_pos (by omega)])
    try simp only [ptH]
    refine wpAnyH_take (i := 12) (v := ?_) rfl (by kernel_rfl) (by kernel_rfl) (by kernel_rfl) (fun _ _ _ h => h) (Or.inl ⟨by rfl, ?_⟩) (by assumption) ?_
    rotate_left 1
    · intro w hSw; (try dsimp only at hSw); go_simp; first | done | with_reducible rfl | (rw [if_pos (by omega)])
    try simp only [ptH]
    refine rdH [10, 13] ?_
    refine AllReadyH.cons rfl (fun K0 hK => ?_) (AllReadyH.cons rfl (fun K0 hK => ?_) (AllReadyH.nil))
    · go_simp
      refine hK.out _ _ (by trivial) (fun hHeld => ?_)
      clear hK K0
      try simp only [ptH]
      refine rdH [13] ?_
      refine alH rfl fun K0 hK => ?_
      go_simp
      refine hK.out _ _ (by trivial) (fun hHeld => ?_)
      clear hK K0
      try simp only [ptH]
      refine dnH ?_
      go_wp2_with fail
      go_end0
      refine ⟨⟨_, rfl⟩, .slice (some ⟨g, 0, none⟩) (us.length + 1) cap2, ?_⟩
      obtain ⟨r1, r2, r3⟩ := tree_on HH.out.lob hlo HH.out.xne HW.out HU.out HE.out hX HH.out.box HB1.out H3.out H4.out (H5.out.imp (fun e => e) (fun e => Option.some.inj e)) (x0 := .string ⟨#[]⟩) (x1 := .string s) (x2 := .slice none 0 0) (x3 := .slice none 0 0) (by simp [Value.oneCell']) rfl rfl ⟨1, in_text hs⟩
      refine ⟨r1, r2, ?_⟩
      rcases r3 with e | e
      · exact .inl e
      · exact .inr ⟨g, rfl, e⟩
    · go_simp
      refine hK.out _ _ (by trivial) (fun hHeld => ?_)
      clear hK K0
      try simp only [ptH]
      refine rdH [10] ?_
      refine alH rfl fun K0 hK => ?_
      go_simp
      refine hK.out _ _ (by trivial) (fun hHeld => ?_)
      clear hK K0
      try simp only [ptH]
      refine dnH ?_
      go_wp2_with fail
      go_end0
      refine ⟨⟨_, rfl⟩, .slice (some ⟨g, 0, none⟩) (us.length + 1) cap2, ?_⟩
      rw [set_comm _ ⟨Bb, 0, none⟩ ⟨g, us.length * 4, none⟩ _ _ hgB, set_comm _ ⟨Bb, 0, none⟩ ⟨g, us.length * 4 + 1, none⟩ _ _ hgB, set_comm _ ⟨Bb, 0, none⟩ ⟨g, us.length * 4 + 2, none⟩ _ _ hgB, set_comm _ ⟨Bb, 0, none⟩ ⟨g, us.length * 4 + 3, none⟩ _ _ hgB]
      obtain ⟨r1, r2, r3⟩ := tree_on HH.out.lob hlo HH.out.xne HW.out HU.out HE.out hX HH.out.box HB1.out H3.out H4.out (H5.out.imp (fun e => e) (fun e => Option.some.inj e)) (x0 := .string ⟨#[]⟩) (x1 := .string s) (x2 := .slice none 0 0) (x3 := .slice none 0 0) (by simp [Value.oneCell']) rfl rfl ⟨1, in_text hs⟩
      refine ⟨r1, r2, ?_⟩
      rcases r3 with e | e
      · exact .inl e
      · exact .inr ⟨g, rfl, e⟩
  · go_simp
    try rw [hW1]
    refine hK.out _ _ (by trivial) (fun hHeld => ?_)
    clear hK K0
    try simp only [ptH]
    refine rdH [3] ?_
    refine alH rfl fun K0 hK => ?_
    go_simp
    refine hK.out _ _ (by trivial) (fun hHeld => ?_)
    clear hK K0
    try simp only [ptH]
    refine tkH 6 rfl ?_; try simp only [ptH]
    refine rdH [8] ?_
    refine alH rfl fun K0 hK => ?_
    refine step_tree (news := zt) (m := 1) (n := us.length) rfl _ _ rfl HO1.out rfl HN1.out HZ.out (by omega) (by omega) rfl rfl (fun v' W h3 h4 h5 => ?_)
    obtain ⟨g, cap2, rfl⟩ : ∃ g cap2, v' = .slice (some ⟨g, 0, none⟩) (us.length + 1) cap2 := by
      rcases h3.2 with ⟨_, e⟩ | ⟨g, cap2, cur, e, _⟩
      · omega
      · exact ⟨g, cap2, e⟩
    obtain ⟨c0, c1, c2, c3⟩ := row_cells h3 (flat_len HW.out.2)
    have f0 := World.ownsRow.frozenAt h3 (us.length * 4)
    have f1 := World.ownsRow.frozenAt h3 (us.length * 4 + 1)
    have f2 := World.ownsRow.frozenAt h3 (us.length * 4 + 2)
    have f3 := World.ownsRow.frozenAt h3 (us.length * 4 + 3)
    have hbW : W.heap[Bb]? = some (.cells #[.slice a us.length cap] 68 (0, 0)) := by
      rw [h4.block Bb (by omega) (fun e => by have := (World.ownsRow.lt HO1.out Bb e.symm).1; have := HH.out.lob; omega), HB1.out.block Bb hlt, HH.out.box]
    have kW : W.cell? ⟨Bb, 0, none⟩ = some (.slice a us.length cap) := by simp [World.cell?, hbW]
    have fW := TBase.frozen_box hbW 0
    clear hbW
    have hgB : Bb ≠ g := by have := (World.ownsRow.lt h3 g rfl).1; have := HH.out.lob; omega
    have H3 := hid h3
    have H4 := hid h4
    have H5 := hid h5
    clear h3 h4 h5
    refine hK.out _ _ (by trivial) (fun hHeld => ?_)
    clear hK K0
    try simp only [ptH]
    refine wpAnyH_take (i := 9) (v := ?_) rfl (by kernel_rfl) (by kernel_rfl) (by kernel_rfl) (fun _ _ _ h => h) (Or.inl ⟨by rfl, ?_⟩) (by assumption) ?_
    rotate_left 1
    · intro w hSw; (try dsimp only at hSw); go_simp; first | done | with_reducible rfl | (rw [if_pos (by omega)])
    try simp only [ptH]
    refine wpAnyH_take (i := 11) (v := ?_) rfl (by kernel_rfl) (by kernel_rfl) (by kernel_rfl) (fun _ _ _ h => h) (Or.inl ⟨by rfl, ?_⟩) (by assumption) ?_
    rotate_left 1
    · intro w hSw; (try dsimp only at hSw); go_simp; first | done | with_reducible rfl | (rw [if_pos (by omega)])
    try simp only [ptH]
    refine wpAnyH_take (i := 12) (v := ?_) rfl (by kernel_rfl) (by kernel_rfl) (by kernel_rfl) (fun _ _ _ h => h) (Or.inl ⟨by rfl, ?_⟩) (by assumption) ?_
    rotate_left 1
    · intro w hSw; (try dsimp only at hSw); go_simp; first | done | with_reducible rfl | (rw [if_pos (by omega)])
    try simp only [ptH]
    refine rdH [10, 13] ?_
    refine AllReadyH.cons rfl (fun K0 hK => ?_) (AllReadyH.cons rfl (fun K0 hK => ?_) (AllReadyH.nil))
    · go_simp
      refine hK.out _ _ (by trivial) (fun hHeld => ?_)
      clear hK K0
      try simp only [ptH]
      refine rdH [13] ?_
      refine alH rfl fun K0 hK => ?_
      go_simp
      refine hK.out _ _ (by trivial) (fun hHeld => ?_)
      clear hK K0
      try simp only [ptH]
      refine dnH ?_
      go_wp2_with fail
      go_end0
      refine ⟨⟨_, rfl⟩, .slice (some ⟨g, 0, none⟩) (us.length + 1) cap2, ?_⟩
      obtain ⟨r1, r2, r3⟩ := tree_on HH.out.lob hlo HH.out.xne HW.out HU.out HE.out hX HH.out.box HB1.out H3.out H4.out (H5.out.imp (fun e => e) (fun e => Option.some.inj e)) (x0 := .string ⟨#[]⟩) (x1 := .string s) (x2 := .slice none 0 0) (x3 := .slice none 0 0) (by simp [Value.oneCell']) rfl rfl ⟨1, in_text hs⟩
      refine ⟨r1, r2, ?_⟩
      rcases r3 with e | e
      · exact .inl e
      · exact .inr ⟨g, rfl, e⟩
    · go_simp
      refine hK.out _ _ (by trivial) (fun hHeld => ?_)
      clear hK K0
      try simp only [ptH]
      refine rdH [10] ?_
      refine alH rfl fun K0 hK => ?_
      go_simp
      refine hK.out _ _ (by trivial) (fun hHeld => ?_)
      clear hK K0
      try simp only [ptH]
      refine dnH ?_
      go_wp2_with fail
      go_end0
      refine ⟨⟨_, rfl⟩, .slice (some ⟨g, 0, none⟩) (us.length + 1) cap2, ?_⟩
      rw [set_comm _ ⟨Bb, 0, none⟩ ⟨g, us.length * 4, none⟩ _ _ hgB, set_comm _ ⟨Bb, 0, none⟩ ⟨g, us.length * 4 + 1, none⟩ _ _ hgB, set_comm _ ⟨Bb, 0, none⟩ ⟨g, us.length * 4 + 2, none⟩ _ _ hgB, set_comm _ ⟨Bb, 0, none⟩ ⟨g, us.length * 4 + 3, none⟩ _ _ hgB]
      obtain ⟨r1, r2, r3⟩ := tree_on HH.out.lob hlo HH.out.xne HW.out HU.out HE.out hX HH.out.box HB1.out H3.out H4.out (H5.out.imp (fun e => e) (fun e => Option.some.inj e)) (x0 := .string ⟨#[]⟩) (x1 := .string s) (x2 := .slice none 0 0) (x3 := .slice none 0 0) (by simp [Value.oneCell']) rfl rfl ⟨1, in_text hs⟩
      refine ⟨r1, r2, ?_⟩
      rcases r3 with e | e
      · exact .inl e
      · exact .inr ⟨g, rfl, e⟩
end Go.Proofs.YtiijfmdfccdagaaGreatDoor.GBt
namespace Go.Proofs.YtiijfmdfccdagaaGreatDoor.GBe
open Go.RowKit TBase GBu
open GEn (ptr)
open VSm (pkE)
structure Fm (B Bb : Nat) (X Y : Option Nat) (w w' : World) : Prop where
  below : ∀ n, n <= B -> n <= Bb -> (∀ x, X = some x -> n <= x) -> (∀ y, Y = some y -> n <= y) -> Below n w w'
  size : w.heap.size <= w'.heap.size
  other : ∀ b, b < w.heap.size -> b ≠ B -> b ≠ Bb -> some b ≠ X -> some b ≠ Y -> w'.heap[b]? = w.heap[b]?
theorem upto_all {P : Nat -> Nat -> Prop} (hm : ∀ m m' j, m <= m' -> P m j -> P m' j) : ∀ n, (∀ j, j < n -> ∃ m, P m j) -> ∃ M, ∀ j, j < n -> P M j
  | 0, _ => ⟨0, fun j hj => absurd hj (Nat.not_lt_zero j)⟩
  | n + 1, h => by
    obtain ⟨M, hM⟩ := upto_all hm n fun j hj => h j (by omega)
    obtain ⟨m, hm'⟩ := h n (by omega)
    refine ⟨M + m, fun j hj => ?_⟩
    by_cases e : j = n
    · subst e; exact hm m _ j (by omega) hm'
    · exact hm M _ j (by omega) (hM j (by omega))
theorem bt_inL {lo0 lo : Nat} {w : World} {X : Option Nat} {tv tv2 : Value} {ks : List T} {Bb : Nat} (h2 : Bt lo0 w Bb X tv2 ks) (hlo : lo <= lo0) (htv : ∀ g, tv.ownBlock = some g -> g < lo0) (hn : ks.length <= 65536) : ∃ m, InL false (Es lo w.heap.size X tv) w m tv2 ks := by
  obtain ⟨us, how, hus, hel⟩ := h2.own
  have hwk : ∀ b, Es lo0 w.heap.size X tv2 b -> Es lo w.heap.size X tv b := fun b hb => ⟨by have := hb.1; omega, hb.2.1, hb.2.2.1, fun e => by have := htv b e; have := hb.1; omega⟩
  obtain ⟨M, hM⟩ := upto_all (P := fun m j => ∀ (h : j < us.length) (h' : j < ks.length), TBase.In false (Es lo w.heap.size X tv) w m us[j] ks[j]) (fun m m' j hm h h1 h2 => (h h1 h2).weak (fun _ hb => hb) false id m' hm) us.length (fun j hj => by
    obtain ⟨m, hi⟩ := hel j hj (by omega)
    exact ⟨m, fun _ _ => hi.weak hwk false id m (Nat.le_refl _)⟩)
  refine ⟨M, ?_⟩
  rcases how.1.2 with ⟨rfl, e⟩ | ⟨g, cap, cur, rfl, h2', h3, h4, h5, h6⟩
  · obtain rfl : ks = [] := List.eq_nil_of_length_eq_zero (by omega)
    exact ⟨none, 0, rfl, by simp, by omega, by simp, fun _ => rfl, .inl ⟨rfl, rfl⟩⟩
  · have hlt := World.ownsRow.lt how.1 g rfl
    refine ⟨some ⟨g, 0, none⟩, cap, by rw [hus], by omega, by unfold maxLen at h5; omega, by omega, fun e => by simp at e, ?_⟩
    refine .inr ⟨g, 0, rfl, ⟨by omega, hlt.2, h2.xne g rfl, fun e => by have := htv g e; omega⟩, fun j hj => ⟨us[j], ?_, hM j (by omega) (by omega) hj⟩, fun e => by cases e⟩
    exact ownV_four how j (by omega)
def KR (R : Int -> World -> Option Nat -> Prop) (lo0 B Bb : Nat) (X : Option Nat) (w : World) (A : Except Nat (List T × Int)) (e : Ending) (w' : World) : Prop := match A with
  | .ok a => a.1.length <= 65536 /\ (∃ v, e = .returned v) /\ Fm B Bb X none w w' /\ ∃ X' tv2, (X' = X \/ ∃ x, X' = some x /\ w.heap.size <= x) /\ (∀ x, X' = some x -> x < w'.heap.size) /\ R a.2 w' X' /\ Bt lo0 w' Bb X' tv2 a.1
  | .error q => e = .panicked (pkE q) /\ Fm B Bb X none w w'
def ER (R : Int -> World -> Option Nat -> Prop) (lo B Bb : Nat) (X : Option Nat) (tv : Value) (F : List T) (w : World) (A : Except Nat (T × Int)) (e : Ending) (w' : World) : Prop := match A with
  | .ok a => (∃ v, e = .returned v) /\ Fm B Bb X tv.ownBlock w w' /\ ∃ X' tv', (X' = X \/ ∃ x, X' = some x /\ w.heap.size <= x) /\ (∀ x, X' = some x -> x < w'.heap.size) /\ R a.2 w' X' /\ Bt lo w' Bb X' tv' (F ++ [a.1]) /\ (tv'.ownBlock = tv.ownBlock \/ ∃ g, tv'.ownBlock = some g /\ w.heap.size <= g)
  | .error q => e = .panicked (pkE q) /\ Fm B Bb X tv.ownBlock w w'
theorem tree_put {lo : Nat} {w W1 W W6 : World} {Bb g cap : Nat} {X : Option Nat} {tv bv x0 x1 x2 x3 : Value} {F : List T} {us : List Value} {t : T} (hlob : Bb < lo) (hhi : lo <= w.heap.size) (hxne : ∀ g, tv.ownBlock = some g -> some g ≠ X) (how : OwnV w lo tv us) (hus : us.length = F.length) (hel : ∀ j (h : j < us.length) (h' : j < F.length), ∃ m, TBase.In false (Es lo w.heap.size X tv) w m us[j] F[j])
    (hX : ∀ x, X = some x -> x < w.heap.size) (hbv : w.heap[Bb]? = some (.cells #[bv] 68 (0, 0))) (b1 : Below w.heap.size w W1) (h3 : W.ownsRow lo 50 4 (.slice (some ⟨g, 0, none⟩) (us.length + 1) cap) (us.length + 1) (flat us ++ [x0, x1, x2, x3])) (h4 : W1.grownBy W tv.ownBlock) (h5 : some g = tv.ownBlock \/ g = W1.heap.size) (hone : ∀ x ∈ [x0, x1, x2, x3], x.oneCell' = true)
    (hW6 : W.setCell ⟨Bb, 0, none⟩ (.slice (some ⟨g, 0, none⟩) (us.length + 1) cap) = W6) (hin : ∃ m, TBase.In false (Es lo w.heap.size X tv) w m (.agg #[x0, x1, x2, x3]) t) :
    Bt lo W6 Bb X (.slice (some ⟨g, 0, none⟩) (us.length + 1) cap) (F ++ [t]) /\ Kb Bb tv w W6 /\ (some g = tv.ownBlock \/ w.heap.size <= g) := by
  have hglt := World.ownsRow.lt h3 g rfl
  have hs1 := b1.size
  have hs4 := h4.size
  have hne : Bb ≠ g := by omega
  have h6o : ∀ b, b ≠ Bb -> W6.heap[b]? = W.heap[b]? := by
    intro b hb
    rw [<- hW6, Below.heap_setCell _ _ _ _ (by simpa using hb)]
  have s6 : W6.heap.size = W.heap.size := by rw [<- hW6, World.size_setCell]
  have hoth : ∀ b, b < w.heap.size -> some b ≠ tv.ownBlock -> b ≠ Bb -> W6.heap[b]? = w.heap[b]? := by
    intro b hb h1 h2
    rw [h6o b h2, h4.block b (by omega) h1, b1.block b hb]
  have hat : some g = tv.ownBlock \/ w.heap.size <= g := by
    rcases h5 with e | e
    · exact .inl e
    · exact .inr (by omega)
  have hown : OwnV W6 lo (.slice (some ⟨g, 0, none⟩) (us.length + 1) cap) (us ++ [.agg #[x0, x1, x2, x3]]) := by
    refine ⟨?_, fours_snoc how.2 ⟨_, _, _, _, rfl, hone⟩⟩
    rw [flat_append, List.length_append]
    exact Fresh.own_keep h3 fun q hq => h6o q (by have := (World.ownsRow.lt h3 q hq).1; omega)
  have hbox : W6.heap[Bb]? = some (.cells #[.slice (some ⟨g, 0, none⟩) (us.length + 1) cap] 68 (0, 0)) := by
    have e5 : W.heap[Bb]? = some (.cells #[bv] 68 (0, 0)) := by
      rw [h4.block Bb (by omega) (fun e => by have := (World.ownsRow.lt how.1 Bb e.symm).1; omega), b1.block Bb (by omega), hbv]
    rw [<- hW6]
    exact TBase.block_set e5 _
  refine ⟨bt_more hlob hhi hxne how hus hel hoth (by omega) hown ?_ ?_ hX hbox, ⟨fun n hn => ?_, by omega, fun b h1 h2 h3 => hoth b h1 h3 h2⟩, hat⟩
  · obtain ⟨m, hi⟩ := hin
    refine ⟨m, (hi.keep (w' := W6) (fun b hb hb2 => hoth b hb2 (fun e => hb.2.2.2 e.symm) (by have := hb.1; omega))).weak ?_ false id m (Nat.le_refl _)⟩
    intro b hb
    refine ⟨hb.1, by have := hb.2.1; omega, hb.2.2.1, ?_⟩
    intro e
    have e := Option.some.inj e
    subst e
    rcases hat with k | k
    · exact hb.2.2.2 k.symm
    · exact absurd hb.2.1 (Nat.not_lt.2 k)
  · rcases hat with k | k
    · exact .inl k
    · exact .inr ⟨g, rfl, k⟩
  · have hb : Below n w W := (b1.mono (by omega)).grown h4 (by omega) (fun k hk => by have := (World.ownsRow.lt how.1 k hk).1; omega)
    rw [<- hW6]
    exact hb.setCell (by simp; omega) _
theorem elem_c {lo : Nat} {w : World} {B Bb : Nat} {X : Option Nat} {tv : Value} {F : List T} {num : Int} {tag : ByteArray} {av : Value} {n : List (ByteArray × ByteArray)} {caps : Array Value} {A : Except Nat (List T × Int)} {R : Int -> World -> Option Nat -> Prop} (hR : ∀ r W W' X', R r W X' -> (∀ g, tv.ownBlock = some g -> g < W.heap.size /\ some g ≠ X') -> W.heap.size <= W'.heap.size -> (∀ n, n <= Bb -> Below n W W') -> (∀ b, b < W.heap.size -> b ≠ Bb -> some b ≠ tv.ownBlock -> W'.heap[b]? = W.heap[b]?) -> R r W' X') (h : Bt lo w Bb X tv F) (hX : ∀ x, X = some x -> x < w.heap.size) (hB : B < lo) (hF : F.length <= 65536) (hs : tag.size <= 140737488351232) (ha : Ax false (Es lo w.heap.size X tv) w av n)
    (hk : Calls prog 100 caps (w.setCell ⟨Bb, 0, none⟩ (.slice none 0 0)) fun e w' => KR R w.heap.size B Bb X (w.setCell ⟨Bb, 0, none⟩ (.slice none 0 0)) A e w') :
    Calls prog 208 #[ptr Bb, .int .i64 num, .string tag, av, .func (.func 100) #[] caps] w fun e w' => ER R lo B Bb X tv F w (VPure.bnd A fun a => .ok (T.mk tag ⟨#[]⟩ n a.1, a.2)) e w' := by
  obtain ⟨us, how, hus, hel⟩ := h.own
  obtain ⟨a, cap, rfl, hc1, hc2⟩ := bt_shape how
  have HA := hid ha
  obtain ⟨aa, ac, rfl, -⟩ := ha
  have k0 : w.cell? ⟨Bb, 0, none⟩ = some (.slice a us.length cap) := by simp [World.cell?, h.box]
  have f0 := TBase.frozen_box h.box 0
  have hlo := h.hi
  have hlob := h.lob
  have hlt := (Array.getElem?_eq_some_iff.1 h.box).1
  obtain ⟨W1, hW1⟩ : ∃ W, w.setCell ⟨Bb, 0, none⟩ (.slice none 0 0) = W := ⟨_, rfl⟩
  rw [hW1] at hk
  have s1 : W1.heap.size = w.heap.size := by rw [<- hW1, World.size_setCell]
  have HO1 : Hid (∀ b, b ≠ Bb -> W1.heap[b]? = w.heap[b]?) := fun b hb => by rw [<- hW1, Below.heap_setCell _ _ _ _ (by simpa using hb)]
  have HB1 : Hid (∀ n, n <= Bb -> Below n w W1) := fun n hn => by rw [<- hW1]; exact (Below.refl n w).setCell (by simpa using hn) _
  have HH := hid h
  have hul : us.length <= 65536 := by omega
  have HU := hid hus
  have HW := hid how
  have HE := hid hel
  have HX := hid hX
  have HR : Hid _ := hR
  clear h hus hF how hel hX hR
  cases A with
  | error q =>
    go_enter func208, ntmps208
    go_wp2_with (first
      | (go_at_call 100; refine hk.mono ?_; rintro e W2 ⟨rfl, hf⟩))
    refine ⟨rfl, rfl, fun n h1 h2 h3 h4 => (HB1.out n h2).trans (hf.below n h1 h2 h3 (fun y e => by cases e)), by have := hf.size; omega, fun b h1 h2 h3 h4 h5 => ?_⟩
    rw [hf.other b (by omega) h2 h3 h4 (by simp), HO1.out b h3]
  | ok aks =>
    obtain ⟨ks, rm⟩ := aks
    have hone : ∀ x ∈ [Value.string tag, .string ⟨#[]⟩, .slice aa n.length ac], x.oneCell' = true := by simp [Value.oneCell']
    go_enter func208, ntmps208
    go_wp2_with (first
      | (at_builtin; refine wpList_plain rfl fun _ hK => wp_tree (news := [.string tag, .string ⟨#[]⟩, .slice aa n.length ac, .slice a2 us2.length cap2]) (m := 1) (n := us.length) _ _ rfl HR3.out rfl HN3.out HZ3.out (by omega) (by omega) rfl rfl ?_)
      | (go_at_call 100; refine hk.mono ?_; rintro e W2 ⟨hkn, ⟨v9, rfl⟩, hf, X2, tv2, hx2, hx3, hrr, hb2⟩; have HX2 : Hid _ := hx2; have HX3 : Hid _ := hx3; have HRR : Hid _ := hrr; obtain ⟨us2, how2, hus2, -⟩ := hb2.own; obtain ⟨a2, cap2, rfl, hd1, hd2⟩ := bt_shape how2; have HF2 : Hid _ := hf; have HB2 : Hid _ := hb2; have HN2 : Hid (us2.length = ks.length) := hus2; have HKN : Hid (ks.length <= 65536) := hkn
         have k2 : W2.cell? ⟨Bb, 0, none⟩ = some (.slice a2 us2.length cap2) := by simp [World.cell?, hb2.box]
         have s2 : w.heap.size <= W2.heap.size := by have := hf.size; omega
         have HK2 : Hid (∀ b, lo <= b -> b < w.heap.size -> some b ≠ X -> W2.heap[b]? = w.heap[b]?) := fun b h1 h2 h3 => by rw [hf.other b (by omega) (by omega) (by omega) h3 (by simp), HO1.out b (by omega)]
         have HR3 : Hid ((W2.alloc (.cells #[.string tag, .string ⟨#[]⟩, .slice aa n.length ac, .slice a2 us2.length cap2] 50)).ownsRow lo 50 4 (.slice a us.length cap) us.length (flat us)) := World.ownsRow.alloc (Fresh.own_keep HW.out.1 (fun g hg => HK2.out g (World.ownsRow.lt HW.out.1 g hg).1 (World.ownsRow.lt HW.out.1 g hg).2 (HH.out.xne g hg))) _
         have HN3 : Hid (∀ j u, ([.string tag, .string ⟨#[]⟩, .slice aa n.length ac, .slice a2 us2.length cap2] : List Value)[j]? = some u -> (W2.alloc (.cells #[.string tag, .string ⟨#[]⟩, .slice aa n.length ac, .slice a2 us2.length cap2] 50)).cell? ((⟨W2.heap.size, 0, none⟩ : Addr).add j) = some u) := new_cells W2 [.string tag, .string ⟨#[]⟩, .slice aa n.length ac, .slice a2 us2.length cap2] 50
         have hz3 : ∀ u ∈ ([.string tag, .string ⟨#[]⟩, .slice aa n.length ac, .slice a2 us2.length cap2] : List Value), u.oneCell' = true := by simp [Value.oneCell']
         have HZ3 : Hid (∀ u ∈ ([.string tag, .string ⟨#[]⟩, .slice aa n.length ac, .slice a2 us2.length cap2] : List Value), u.oneCell' = true) := hz3
         have hs3 : (W2.alloc (.cells #[.string tag, .string ⟨#[]⟩, .slice aa n.length ac, .slice a2 us2.length cap2] 50)).heap.size = W2.heap.size + 1 := by simp
         clear hf hb2 hus2 hkn how2 hz3 hx2 hx3 hrr))
    intro v' W h3 h4 h5
    refine hK _ _ ?_
    clear hK
    obtain ⟨g, cap3, rfl⟩ : ∃ g cap3, v' = .slice (some ⟨g, 0, none⟩) (us.length + 1) cap3 := by
      rcases h3.2 with ⟨_, e⟩ | ⟨g, cap3, cur, e, _⟩
      · omega
      · exact ⟨g, cap3, e⟩
    have hbW : W.heap[Bb]? = some (.cells #[.slice a2 us2.length cap2] 68 (0, 0)) := by
      rw [h4.block Bb (by omega) (fun e => by have := (World.ownsRow.lt HW.out.1 Bb e.symm).1; omega), Below.heap_alloc _ _ _ (by omega), HB2.out.box]
    have kW : W.cell? ⟨Bb, 0, none⟩ = some (.slice a2 us2.length cap2) := by simp [World.cell?, hbW]
    have fW := TBase.frozen_box hbW 0
    have H3 := hid h3
    have H4 := hid h4
    have H5 := hid h5
    clear h3 h4 h5 hbW hs3
    go_wp2_with fail
    go_end0
    have hnX : ∀ b, b < w.heap.size -> some b ≠ X -> some b ≠ X2 := by
      intro b h1 h2 e
      rcases HX2.out with k | ⟨x, k, hx⟩
      · exact h2 (e.trans k)
      · rw [k] at e
        have := Option.some.inj e
        omega
    have hS : ∀ b, Es lo w.heap.size X (.slice a us.length cap) b -> Es lo W2.heap.size X2 (.slice a us.length cap) b := fun b hb => ⟨hb.1, Nat.lt_of_lt_of_le hb.2.1 s2, hnX b hb.2.1 hb.2.2.1, hb.2.2.2⟩
    have hkp : Keep (Es lo w.heap.size X (.slice a us.length cap)) w W2 := fun b hb _ => HK2.out b hb.1 hb.2.1 hb.2.2.1
    have hel2 : ∀ j (h : j < us.length) (h' : j < F.length), ∃ m, TBase.In false (Es lo W2.heap.size X2 (.slice a us.length cap)) W2 m us[j] F[j] := by
      intro j h1 h2
      obtain ⟨m, hi⟩ := HE.out j h1 h2
      exact ⟨m, (hi.keep hkp).weak hS false id m (Nat.le_refl _)⟩
    have hin : ∃ m, TBase.In false (Es lo W2.heap.size X2 (.slice a us.length cap)) W2 m (.agg #[.string tag, .string ⟨#[]⟩, .slice aa n.length ac, .slice a2 us2.length cap2]) (T.mk tag ⟨#[]⟩ n ks) := by
      obtain ⟨m, hL⟩ := bt_inL (lo := lo) (tv := .slice a us.length cap) HB2.out hlo (fun g hg => (World.ownsRow.lt HW.out.1 g hg).2) HKN.out
      refine ⟨m + 1, ?_⟩
      rw [in_iff]
      exact ⟨_, _, rfl, hs, by simp [ByteArray.size], (HA.out.keep hkp).weak hS false id, hL⟩
    obtain ⟨r1, r2, r3⟩ := tree_put (w := W2) (X := X2) (tv := .slice a us.length cap) (F := F) (t := T.mk tag ⟨#[]⟩ n ks) hlob (by omega) (fun g hg => hnX g (World.ownsRow.lt HW.out.1 g hg).2 (HH.out.xne g hg)) ⟨Fresh.own_keep HW.out.1 (fun g hg => HK2.out g (World.ownsRow.lt HW.out.1 g hg).1 (World.ownsRow.lt HW.out.1 g hg).2 (HH.out.xne g hg)), HW.out.2⟩ HU.out hel2 HX3.out HB2.out.box ((Below.refl _ W2).alloc (Nat.le_refl _) _) H3.out H4.out (H5.out.imp (fun e => e) (fun e => by have := Option.some.inj e; simpa using this)) HZ3.out rfl hin
    refine ⟨⟨_, rfl⟩, ⟨fun n h1 h2 h3 h4 => ((HB1.out n h2).trans (HF2.out.below n h1 h2 h3 (fun y e => by cases e))).trans (r2.below n h2), by have := r2.size; omega, fun b h1 h2 h3 h4 h5 => ?_⟩, X2, _, HX2.out.imp (fun e => e) (fun ⟨x, e, hx⟩ => ⟨x, e, by omega⟩), fun x e => Nat.lt_of_lt_of_le (HX3.out x e) r2.size, HR.out _ _ _ _ HRR.out (fun g hg => ⟨Nat.lt_of_lt_of_le (World.ownsRow.lt HW.out.1 g hg).2 s2, hnX g (World.ownsRow.lt HW.out.1 g hg).2 (HH.out.xne g hg)⟩) r2.size (fun n hn => r2.below n hn) (fun b h1 h2 h3 => r2.other b h1 h2 h3), r1, ?_⟩
    · rw [r2.other b (by omega) h3 h5, HF2.out.other b (by omega) h2 h3 h4 (by simp), HO1.out b h3]
    · rcases r3 with k | k
      · exact .inl k
      · exact .inr ⟨g, rfl, by omega⟩
end Go.Proofs.YtiijfmdfccdagaaGreatDoor.GBe

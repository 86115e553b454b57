/- Behind an operation (package verify): pass at an OpOpen. -/
import Derived.Test.YtgknjjaemjkloaaBOf
import Derived.Maps.AppendAt
namespace Go.Proofs.Ytgknjjaemjkloaa.BPs
open Go.Proofs.Ytgknjjaemjkloaa.Tak
open Go.RowKit Go.Proofs.Ytgknjjaemjkloaa.BPl Go.Proofs.Ytgknjjaemjkloaa.YRr Go.Proofs.Ytgknjjaemjkloaa.YRs Go.Proofs.Ytgknjjaemjkloaa.BBx Go.Proofs.Ytgknjjaemjkloaa.BSm Go.Proofs.Ytgknjjaemjkloaa.BIn
open Go.Proofs.Ytgknjjaemjkloaa.YPl (Oq Bk Pg)
open Go.Proofs.Ytgknjjaemjkloaa.CBx (w64)
open Go.Proofs.Ytgknjjaemjkloaa.IBase (heap_alloc_new)
set_option linter.unusedVariables false

theorem info_parts {t : TypeId} {z : Value} {s b : Nat} (h : (Try.prog.info? t).map (fun i => (i.zero, i.size, i.bytes)) = some (some z, s, b)) : ∃ i, Try.prog.info? t = some i ∧ i.zero = some z ∧ i.size = s ∧ i.bytes = b := by
  cases hi : Try.prog.info? t with
  | none => rw [hi] at h; cases h
  | some i =>
    rw [hi] at h
    simp only [Option.map_some, Option.some.injEq, Prod.mk.injEq] at h
    exact ⟨i, rfl, h.1, h.2.1, h.2.2⟩
section
variable {ops : Array Oper} {o : Oper} {y : Act} {K : Act → World → Prop} {Q : Exit → Act → World → Prop} {E : Prop} {w : World} {base n m c : Nat} {v : Value} {xs news : List Value} {ad : Addr}
theorem wp_int (x z : Operand) (ho : o.op = .call { callee := .builtin .append, args := #[x, z], argTypes := #[41, 41] }) (hown : w.ownsRow base 3 1 v n xs) (hl : news.length = m * 1) (hnews : ∀ j u, news[j]? = some u → w.cell? (ad.add j) = some u) (h1 : ∀ u ∈ news, u.oneCell' = true) (hb : n + m ≤ 100000) (hbase : base ≤ w.heap.size)
    (hx : y.eval x = v) (hz : y.eval z = .slice (some ad) m c) (hk : ∀ v' W, W.ownsRow base 3 1 v' (n + m) (xs ++ news) → w.grownBy W v.ownBlock → (v'.ownBlock = v.ownBlock ∨ v'.ownBlock = some w.heap.size) → K (y.put o.dst v') W) : o.wp Try.prog y w K Q := by
  obtain ⟨ij, hij, hj0, hj1, hj2⟩ := info_parts IBase.infoI
  obtain ⟨v', W, hrun, h3, h4, -, h5⟩ := run_append_own_at (P := Try.prog) w base 41 o.type 3 ij _ 1 8 Try.underlying41 hij hj0 hj1 hj2 rfl (by decide) v n xs hown ad m c news hl hnews h1 (by unfold maxLen; omega) (by omega) hbase
  unfold Oper.wp execOp
  simp only [ho, resolve, invoke, builtin, Sem.run_bind, Sem.run_pure, Result.andThen_ok, List.map_toArray, List.map_cons, List.map_nil, hx, hz, hrun]
  exact hk v' W h3 h4 h5
theorem step_int (hgd : o.guard = none) (x z : Operand) (ho : o.op = .call { callee := .builtin .append, args := #[x, z], argTypes := #[41, 41] }) (hown : w.ownsRow base 3 1 v n xs) (hl : news.length = m * 1) (hnews : ∀ j u, news[j]? = some u → w.cell? (ad.add j) = some u) (h1 : ∀ u ∈ news, u.oneCell' = true) (hb : n + m ≤ 100000) (hbase : base ≤ w.heap.size)
    (hx : y.eval x = v) (hz : y.eval z = .slice (some ad) m c) (hk : ∀ v' W, W.ownsRow base 3 1 v' (n + m) (xs ++ news) → w.grownBy W v.ownBlock → (v'.ownBlock = v.ownBlock ∨ v'.ownBlock = some w.heap.size) → K (y.put o.dst v') W) : if Region.wanted o (yielded ops y.tmps) = true then Oper.wp Try.prog o y w K Q else E := by
  have hw : Region.wanted o (yielded ops y.tmps) = true := by simp [Region.wanted, hgd]
  rw [if_pos hw]
  exact wp_int x z ho hown hl hnews h1 hb hbase hx hz hk
end
/-- Only block B and those from L on have changed. -/
def Xl (B L : Nat) (w w' : World) : Prop := Below B w w' ∧ ∀ g, g < L → g ≠ B → w'.heap[g]? = w.heap[g]?
/-- A body in memory: its box, and the row of its own from block L on. -/
def Bs (w : World) (B L P : Nat) (b : Bd) (nb : Nat) (ov : Value) : Prop := ∃ uv, Bw w B P b.ar nb ov b.lt uv b.cl ∧ w.ownsRow L 3 1 uv b.ou.length (b.ou.map (Value.int .i64))
theorem own_shape {w : World} {lo n : Nat} {v : Value} {xs : List Value} (h : w.ownsRow lo 3 1 v n xs) : ∃ a cap, v = .slice a n cap ∧ n ≤ cap ∧ cap ≤ 9223372036854775807 := by
  rcases h.2 with ⟨rfl, rfl⟩ | ⟨g, cap, cur, rfl, -, -, h1, h2, -⟩
  · exact ⟨none, 0, rfl, Nat.le_refl _, by omega⟩
  · exact ⟨_, _, rfl, h1, by unfold maxLen at h2; omega⟩
theorem own_keep {w w' : World} {lo n : Nat} {v : Value} {xs : List Value} (h : w.ownsRow lo 3 1 v n xs) (hk : ∀ g, v.ownBlock = some g → w'.heap[g]? = w.heap[g]?) : w'.ownsRow lo 3 1 v n xs := by
  refine ⟨h.1, ?_⟩
  rcases h.2 with h | ⟨g, cap, cur, h1, h2, h3, h4⟩
  · exact .inl h
  · exact .inr ⟨g, cap, cur, h1, h2, (hk g (by rw [h1]; rfl)).trans h3, h4⟩
theorem Bs.below {w w' : World} {B L P : Nat} {b : Bd} {nb : Nat} {ov : Value} (h : Bs w B L P b nb ov) (hb : Below w.heap.size w w') : Bs w' B L P b nb ov := by
  obtain ⟨uv, h1, h2⟩ := h
  exact ⟨uv, h1.keep hb, own_keep h2 fun g hg => hb.block g (World.ownsRow.lt h2 g hg).2⟩
section
variable {w : World} {B P : Nat} {A : Ar} {nb : Nat} {ov : Value} {lt : Int} {uv : Value} {cl : Int}
theorem Bw.set9 (h : Bw w B P A nb ov lt uv cl) (u : Value) : Bw (w.setCell ⟨B, 9, none⟩ u) B P A nb ov lt u cl := by
  unfold Bw at *
  simp [World.setCell, Array.getElem?_modify, h]
theorem Bw.set8 (h : Bw w B P A nb ov lt uv cl) (x : Int) : Bw (w.setCell ⟨B, 8, none⟩ (.int .i64 x)) B P A nb ov x uv cl := by
  unfold Bw at *
  simp [World.setCell, Array.getElem?_modify, h]
theorem Bw.set4 (h : Bw w B P A nb ov lt uv cl) (x : Int) : Bw (w.setCell ⟨B, 4, none⟩ (.int .i64 x)) B P { A with el := x } nb ov lt uv cl := by
  unfold Bw at *
  simp [World.setCell, Array.getElem?_modify, h]
theorem Bw.set3 (h : Bw w B P A nb ov lt uv cl) (x : Int) : Bw (w.setCell ⟨B, 3, none⟩ (.int .i64 x)) B P { A with st := x } nb ov lt uv cl := by
  unfold Bw at *
  simp [World.setCell, Array.getElem?_modify, h]
theorem Bw.set10 (h : Bw w B P A nb ov lt uv cl) (x : Int) : Bw (w.setCell ⟨B, 10, none⟩ (.int .i64 x)) B P A nb ov lt uv x := by
  unfold Bw at *
  simp [World.setCell, Array.getElem?_modify, h]
end
set_option maxRecDepth 20000 in
set_option maxHeartbeats 6400000 in
theorem pass3 {w : World} {B L P : Nat} {b : Bd} {nb : Nat} {ov : Value} (h : Bs w B L P b nb ov) (hBL : B < L) (hL : L ≤ w.heap.size) (p : Nat) (o : Oq) (a : Option Addr) (cap : Nat) (hk : o.k = 3) (hou : b.ou.length ≤ 8192) (he : 0 ≤ b.ar.el ∧ b.ar.el ≤ 64) :
    Calls Try.prog 63 #[.pointer (some ⟨B, 0, none⟩), .int .i64 p, opv o (.slice a o.l.length cap)] w fun e w' => (∃ v, e = .returned v) ∧ Bs w' B L P (pass b p o) nb ov ∧ Xl B L w w' := by
  obtain ⟨uv, hB, hU⟩ := h
  obtain ⟨ua, uc, rfl, huc, hum⟩ := own_shape hU
  have hlt := hB.lt
  obtain ⟨W, hW, b0, hs, hx⟩ := box5 w (.int .i64 o.k) (.int .i64 o.a) (.int .i64 o.b) (.int .i64 o.c) (.slice a o.l.length cap) 46
  obtain ⟨W1, hW1⟩ : ∃ W1, (W.drew).alloc (.cells #[.int .i64 b.lt] 3) = W1 := ⟨_, rfl⟩
  have b1 : Below W.heap.size W W1 := by rw [← hW1]; exact ((Below.refl _ W).drew).alloc (by simp) _
  have s1 : W1.heap.size = w.heap.size + 2 := by rw [← hW1]; simp [hs]
  have n1 : W1.heap[W.heap.size]? = some (.cells #[.int .i64 b.lt] 3 (0, 0)) := by rw [← hW1]; exact heap_alloc_new W.drew _
  have hB0 := hB.keep b0
  have hB1 := hB0.keep b1
  have HU1 : Hid (W1.ownsRow L 3 1 (.slice ua b.ou.length uc) b.ou.length (b.ou.map (Value.int .i64))) := own_keep hU fun g hg => by rw [b1.block g (by have := (World.ownsRow.lt hU g hg).2; omega), b0.block g (World.ownsRow.lt hU g hg).2]
  have HB1 : Hid (Bw W1 B P b.ar nb ov b.lt (.slice ua b.ou.length uc) b.cl) := hB1
  have HN1 : Hid (∀ j u, [Value.int .i64 b.lt][j]? = some u → W1.cell? ((⟨w.heap.size + 1, 0, none⟩ : Addr).add j) = some u) := by
    intro j u hu
    cases j with
    | zero =>
      simp at hu
      subst hu
      rw [← hs]
      exact cell_of n1 0 _ rfl
    | succ j => simp at hu
  have HBW : Hid (Below w.heap.size w W1) := b0.trans (b1.mono b0.size)
  have c0 := cell_of hx 0 _ rfl
  have e8 := cell_of hB0 8 _ rfl
  have e9 := cell_of hB0 9 _ rfl
  have y9 := cell_of hB1 9 _ rfl
  have y8 := cell_of hB1 8 _ rfl
  have ep : pass b p o = ⟨{ b.ar with el := b.ar.el + 1 }, 0, b.ou ++ [b.lt], b.cl⟩ := by unfold pass; rw [if_pos hk]
  rw [ep]
  have hw1 : IntKind.i64.wrap (b.ar.el + 1) = b.ar.el + 1 := w64 (by omega) (by omega)
  obtain ⟨k, x, y, z, l⟩ := o
  dsimp only at *
  subst hk
  clear hB hB0 hB1 hU b0 b1 n1 hx ep
  go_enter Try.func63, Try.ntmps63
  go_wp2_with fail
  refine wp_region_held_drew (S := fun w' => w'.cell? ⟨B, 8, none⟩ = some (.int .i64 b.lt)) (by kernel_rfl) (by exact e8) (fun hHeld => ?_)
  refine tkH 0 rfl ?_; try simp only [ptH]
  refine tkH 1 rfl ?_; try simp only [ptH]
  refine tkH 2 rfl ?_; try simp only [ptH]
  refine tkH 3 rfl ?_; try simp only [ptH]
  refine tkH 5 rfl ?_; try simp only [ptH]
  refine tkH 6 rfl ?_; try simp only [ptH]
  refine tkH 7 rfl ?_; try simp only [ptH]
  refine tkH 8 rfl ?_; try simp only [ptH]
  refine rdH [4, 9] ?_
  refine AllReadyH.cons rfl (fun K0 hK => ?_) (AllReadyH.cons rfl (fun K0 hK => ?_) (AllReadyH.nil))
  · go_simp
    refine hK.out _ _ (by assumption) (fun hHeld => ?_)
    clear hK K0
    try simp only [ptH]
    refine rdH [9] ?_
    refine alH rfl fun K0 hK => ?_
    go_simp
    try rw [hW1]
    refine hK.out _ _ y8 (fun hHeld => ?_)
    clear hK K0
    try simp only [ptH]
    refine rdH [10] ?_
    refine alH rfl fun K0 hK => ?_
    refine step_int (news := [.int .i64 b.lt]) (m := 1) (n := b.ou.length) rfl _ _ rfl HU1.out rfl HN1.out (by simp [Value.oneCell']) (by omega) (by omega) rfl rfl (fun v' W2 h3 h4 h5 => ?_)
    obtain ⟨g, cap2, rfl⟩ : ∃ g cap2, v' = .slice (some ⟨g, 0, none⟩) (b.ou.length + 1) cap2 := by
      rcases h3.2 with ⟨_, e⟩ | ⟨g, cap2, cur, e, _⟩
      · omega
      · exact ⟨g, cap2, e⟩
    have hgB : B ≠ g := by have := (World.ownsRow.lt h3 g rfl).1; omega
    have hBo : some B ≠ (Value.slice ua b.ou.length uc).ownBlock := fun e => by have := (World.ownsRow.lt HU1.out B e.symm).1; omega
    have hB2 : Bw W2 B P b.ar nb ov b.lt (.slice ua b.ou.length uc) b.cl := (h4.block B (by omega) hBo).trans HB1.out
    have m8 := cell_of hB2 8 _ rfl
    have m9 := cell_of hB2 9 _ rfl
    have m4 := cell_of hB2 4 _ rfl
    have r8 := frz hB2 8
    have r9 := frz hB2 9
    have r4 := frz hB2 4
    have HB2 : Hid (Bw W2 B P b.ar nb ov b.lt (.slice ua b.ou.length uc) b.cl) := hB2
    have H3 : Hid (W2.ownsRow L 3 1 (.slice (some ⟨g, 0, none⟩) (b.ou.length + 1) cap2) (b.ou.length + 1) (b.ou.map (Value.int .i64) ++ [.int .i64 b.lt])) := h3
    have HG : Hid (∀ g, g < L → W2.heap[g]? = w.heap[g]?) := fun q hq => (h4.block q (by omega) (fun e => by have := (World.ownsRow.lt HU1.out q e.symm).1; omega)).trans (HBW.out.block q (by omega))
    have HL : Hid (Below B w W2) := (HBW.out.mono (by omega)).grown h4 (by omega) (fun k hk => by have := (World.ownsRow.lt HU1.out k hk).1; omega)
    clear h3 h4 h5 hB2
    refine hK.out _ _ m8 (fun hHeld => ?_)
    clear hK K0
    try simp only [ptH]
    refine tkH 11 rfl ?_; try simp only [ptH]
    refine tkH 12 rfl ?_; try simp only [ptH]
    refine rdH [13] ?_
    refine alH rfl fun K0 hK => ?_
    go_simp
    refine hK.out _ _ (cell_of (Bw.set9 HB2.out _) 8 _ rfl) (fun hHeld => ?_)
    clear hK K0 hHeld
    try simp only [ptH]
    refine dnH ?_
    go_wp2_with fail
    go_end0
    refine ⟨⟨_, rfl⟩, ⟨_, Bw.set4 (Bw.set8 (Bw.set9 HB2.out _) _) _, ?_⟩, ((HL.out.setCell (p := ⟨B, 9, none⟩) (Nat.le_refl _) _).setCell (p := ⟨B, 8, none⟩) (Nat.le_refl _) _).setCell (p := ⟨B, 4, none⟩) (Nat.le_refl _) _, fun q hq hqB => ?_⟩
    rotate_left 1
    · rw [Below.heap_setCell _ _ _ _ hqB, Below.heap_setCell _ _ _ _ hqB, Below.heap_setCell _ _ _ _ hqB]
      exact HG.out q hq
    rw [List.length_append, List.map_append]
    refine own_keep H3.out fun q hq => ?_
    have hqB : q ≠ B := by
      have e : g = q := Option.some.inj hq
      have hgL : L ≤ g := (World.ownsRow.lt H3.out g rfl).1
      omega
    rw [Below.heap_setCell _ _ _ _ hqB, Below.heap_setCell _ _ _ _ hqB, Below.heap_setCell _ _ _ _ hqB]
  · go_simp
    try rw [hW1]
    refine hK.out _ _ y8 (fun hHeld => ?_)
    clear hK K0
    try simp only [ptH]
    refine rdH [4] ?_
    refine alH rfl fun K0 hK => ?_
    go_simp
    refine hK.out _ _ (by assumption) (fun hHeld => ?_)
    clear hK K0
    try simp only [ptH]
    refine rdH [10] ?_
    refine alH rfl fun K0 hK => ?_
    refine step_int (news := [.int .i64 b.lt]) (m := 1) (n := b.ou.length) rfl _ _ rfl HU1.out rfl HN1.out (by simp [Value.oneCell']) (by omega) (by omega) rfl rfl (fun v' W2 h3 h4 h5 => ?_)
    obtain ⟨g, cap2, rfl⟩ : ∃ g cap2, v' = .slice (some ⟨g, 0, none⟩) (b.ou.length + 1) cap2 := by
      rcases h3.2 with ⟨_, e⟩ | ⟨g, cap2, cur, e, _⟩
      · omega
      · exact ⟨g, cap2, e⟩
    have hgB : B ≠ g := by have := (World.ownsRow.lt h3 g rfl).1; omega
    have hBo : some B ≠ (Value.slice ua b.ou.length uc).ownBlock := fun e => by have := (World.ownsRow.lt HU1.out B e.symm).1; omega
    have hB2 : Bw W2 B P b.ar nb ov b.lt (.slice ua b.ou.length uc) b.cl := (h4.block B (by omega) hBo).trans HB1.out
    have m8 := cell_of hB2 8 _ rfl
    have m9 := cell_of hB2 9 _ rfl
    have m4 := cell_of hB2 4 _ rfl
    have r8 := frz hB2 8
    have r9 := frz hB2 9
    have r4 := frz hB2 4
    have HB2 : Hid (Bw W2 B P b.ar nb ov b.lt (.slice ua b.ou.length uc) b.cl) := hB2
    have H3 : Hid (W2.ownsRow L 3 1 (.slice (some ⟨g, 0, none⟩) (b.ou.length + 1) cap2) (b.ou.length + 1) (b.ou.map (Value.int .i64) ++ [.int .i64 b.lt])) := h3
    have HG : Hid (∀ g, g < L → W2.heap[g]? = w.heap[g]?) := fun q hq => (h4.block q (by omega) (fun e => by have := (World.ownsRow.lt HU1.out q e.symm).1; omega)).trans (HBW.out.block q (by omega))
    have HL : Hid (Below B w W2) := (HBW.out.mono (by omega)).grown h4 (by omega) (fun k hk => by have := (World.ownsRow.lt HU1.out k hk).1; omega)
    clear h3 h4 h5 hB2
    refine hK.out _ _ m8 (fun hHeld => ?_)
    clear hK K0
    try simp only [ptH]
    refine tkH 11 rfl ?_; try simp only [ptH]
    refine tkH 12 rfl ?_; try simp only [ptH]
    refine rdH [13] ?_
    refine alH rfl fun K0 hK => ?_
    go_simp
    refine hK.out _ _ (cell_of (Bw.set9 HB2.out _) 8 _ rfl) (fun hHeld => ?_)
    clear hK K0 hHeld
    try simp only [ptH]
    refine dnH ?_
    go_wp2_with fail
    go_end0
    refine ⟨⟨_, rfl⟩, ⟨_, Bw.set4 (Bw.set8 (Bw.set9 HB2.out _) _) _, ?_⟩, ((HL.out.setCell (p := ⟨B, 9, none⟩) (Nat.le_refl _) _).setCell (p := ⟨B, 8, none⟩) (Nat.le_refl _) _).setCell (p := ⟨B, 4, none⟩) (Nat.le_refl _) _, fun q hq hqB => ?_⟩
    rotate_left 1
    · rw [Below.heap_setCell _ _ _ _ hqB, Below.heap_setCell _ _ _ _ hqB, Below.heap_setCell _ _ _ _ hqB]
      exact HG.out q hq
    rw [List.length_append, List.map_append]
    refine own_keep H3.out fun q hq => ?_
    have hqB : q ≠ B := by
      have e : g = q := Option.some.inj hq
      have hgL : L ≤ g := (World.ownsRow.lt H3.out g rfl).1
      omega
    rw [Below.heap_setCell _ _ _ _ hqB, Below.heap_setCell _ _ _ _ hqB, Below.heap_setCell _ _ _ _ hqB]
end Go.Proofs.Ytgknjjaemjkloaa.BPs

/- Behind an operation (package verify): leave; pass at every kind. -/
import Derived.Test.YtgknjjaemjkloaaBOf
import Derived.Maps.AppendAt
import Derived.Test.YtgknjjaemjkloaaBSt
import Derived.BigQuiet
namespace Go.Proofs.Ytgknjjaemjkloaa.BPs
open Go.Proofs.Ytgknjjaemjkloaa.Tak
open Go.RowKit Go.Proofs.Ytgknjjaemjkloaa.BPl Go.Proofs.Ytgknjjaemjkloaa.YRr Go.Proofs.Ytgknjjaemjkloaa.YRs Go.Proofs.Ytgknjjaemjkloaa.BBx Go.Proofs.Ytgknjjaemjkloaa.BSm Go.Proofs.Ytgknjjaemjkloaa.BIn
open Go.Proofs.Ytgknjjaemjkloaa.YPl (Oq Bk Pg)
open Go.Proofs.Ytgknjjaemjkloaa.CBx (w64)
open Go.Proofs.Ytgknjjaemjkloaa.IBase (heap_alloc_new)
set_option linter.unusedVariables false

theorem info_parts {t : TypeId} {z : Value} {s b : Nat} (h : (Try.prog.info? t).map (fun i => (i.zero, i.size, i.bytes)) = some (some z, s, b)) : ∃ i, Try.prog.info? t = some i ∧ i.zero = some z ∧ i.size = s ∧ i.bytes = b := by
  cases hi : Try.prog.info? t with
  | none => rw [hi] at h; cases h
  | some i =>
    rw [hi] at h
    simp only [Option.map_some, Option.some.injEq, Prod.mk.injEq] at h
    exact ⟨i, rfl, h.1, h.2.1, h.2.2⟩
section
variable {ops : Array Oper} {o : Oper} {y : Act} {K : Act → World → Prop} {Q : Exit → Act → World → Prop} {E : Prop} {w : World} {base n m c : Nat} {v : Value} {xs news : List Value} {ad : Addr}
theorem wp_int (x z : Operand) (ho : o.op = .call { callee := .builtin .append, args := #[x, z], argTypes := #[41, 41] }) (hown : w.ownsRow base 3 1 v n xs) (hl : news.length = m * 1) (hnews : ∀ j u, news[j]? = some u → w.cell? (ad.add j) = some u) (h1 : ∀ u ∈ news, u.oneCell' = true) (hb : n + m ≤ 100000) (hbase : base ≤ w.heap.size)
    (hx : y.eval x = v) (hz : y.eval z = .slice (some ad) m c) (hk : ∀ v' W, W.ownsRow base 3 1 v' (n + m) (xs ++ news) → w.grownBy W v.ownBlock → (v'.ownBlock = v.ownBlock ∨ v'.ownBlock = some w.heap.size) → K (y.put o.dst v') W) : o.wp Try.prog y w K Q := by
  obtain ⟨ij, hij, hj0, hj1, hj2⟩ := info_parts IBase.infoI
  obtain ⟨v', W, hrun, h3, h4, -, h5⟩ := run_append_own_at (P := Try.prog) w base 41 o.type 3 ij _ 1 8 Try.underlying41 hij hj0 hj1 hj2 rfl (by decide) v n xs hown ad m c news hl hnews h1 (by unfold maxLen; omega) (by omega) hbase
  unfold Oper.wp execOp
  simp only [ho, resolve, invoke, builtin, Sem.run_bind, Sem.run_pure, Result.andThen_ok, List.map_toArray, List.map_cons, List.map_nil, hx, hz, hrun]
  exact hk v' W h3 h4 h5
theorem step_int (hgd : o.guard = none) (x z : Operand) (ho : o.op = .call { callee := .builtin .append, args := #[x, z], argTypes := #[41, 41] }) (hown : w.ownsRow base 3 1 v n xs) (hl : news.length = m * 1) (hnews : ∀ j u, news[j]? = some u → w.cell? (ad.add j) = some u) (h1 : ∀ u ∈ news, u.oneCell' = true) (hb : n + m ≤ 100000) (hbase : base ≤ w.heap.size)
    (hx : y.eval x = v) (hz : y.eval z = .slice (some ad) m c) (hk : ∀ v' W, W.ownsRow base 3 1 v' (n + m) (xs ++ news) → w.grownBy W v.ownBlock → (v'.ownBlock = v.ownBlock ∨ v'.ownBlock = some w.heap.size) → K (y.put o.dst v') W) : if Region.wanted o (yielded ops y.tmps) = true then Oper.wp Try.prog o y w K Q else E := by
  have hw : Region.wanted o (yielded ops y.tmps) = true := by simp [Region.wanted, hgd]
  rw [if_pos hw]
  exact wp_int x z ho hown hl hnews h1 hb hbase hx hz hk
end
/-- Only block B and those from L on have changed. -/
def Xl (B L : Nat) (w w' : World) : Prop := Below B w w' ∧ ∀ g, g < L → g ≠ B → w'.heap[g]? = w.heap[g]?
/-- A body in memory: its box, and the row of its own from block L on. -/
def Bs (w : World) (B L P : Nat) (b : Bd) (nb : Nat) (ov : Value) : Prop := ∃ uv, Bw w B P b.ar nb ov b.lt uv b.cl ∧ w.ownsRow L 3 1 uv b.ou.length (b.ou.map (Value.int .i64))
theorem own_shape {w : World} {lo n : Nat} {v : Value} {xs : List Value} (h : w.ownsRow lo 3 1 v n xs) : ∃ a cap, v = .slice a n cap ∧ n ≤ cap ∧ cap ≤ 9223372036854775807 := by
  rcases h.2 with ⟨rfl, rfl⟩ | ⟨g, cap, cur, rfl, -, -, h1, h2, -⟩
  · exact ⟨none, 0, rfl, Nat.le_refl _, by omega⟩
  · exact ⟨_, _, rfl, h1, by unfold maxLen at h2; omega⟩
theorem own_keep {w w' : World} {lo n : Nat} {v : Value} {xs : List Value} (h : w.ownsRow lo 3 1 v n xs) (hk : ∀ g, v.ownBlock = some g → w'.heap[g]? = w.heap[g]?) : w'.ownsRow lo 3 1 v n xs := by
  refine ⟨h.1, ?_⟩
  rcases h.2 with h | ⟨g, cap, cur, h1, h2, h3, h4⟩
  · exact .inl h
  · exact .inr ⟨g, cap, cur, h1, h2, (hk g (by rw [h1]; rfl)).trans h3, h4⟩
theorem Bs.below {w w' : World} {B L P : Nat} {b : Bd} {nb : Nat} {ov : Value} (h : Bs w B L P b nb ov) (hb : Below w.heap.size w w') : Bs w' B L P b nb ov := by
  obtain ⟨uv, h1, h2⟩ := h
  exact ⟨uv, h1.keep hb, own_keep h2 fun g hg => hb.block g (World.ownsRow.lt h2 g hg).2⟩
section
variable {w : World} {B P : Nat} {A : Ar} {nb : Nat} {ov : Value} {lt : Int} {uv : Value} {cl : Int}
theorem Bw.set9 (h : Bw w B P A nb ov lt uv cl) (u : Value) : Bw (w.setCell ⟨B, 9, none⟩ u) B P A nb ov lt u cl := by
  unfold Bw at *
  simp [World.setCell, Array.getElem?_modify, h]
theorem Bw.set8 (h : Bw w B P A nb ov lt uv cl) (x : Int) : Bw (w.setCell ⟨B, 8, none⟩ (.int .i64 x)) B P A nb ov x uv cl := by
  unfold Bw at *
  simp [World.setCell, Array.getElem?_modify, h]
theorem Bw.set4 (h : Bw w B P A nb ov lt uv cl) (x : Int) : Bw (w.setCell ⟨B, 4, none⟩ (.int .i64 x)) B P { A with el := x } nb ov lt uv cl := by
  unfold Bw at *
  simp [World.setCell, Array.getElem?_modify, h]
theorem Bw.set3 (h : Bw w B P A nb ov lt uv cl) (x : Int) : Bw (w.setCell ⟨B, 3, none⟩ (.int .i64 x)) B P { A with st := x } nb ov lt uv cl := by
  unfold Bw at *
  simp [World.setCell, Array.getElem?_modify, h]
theorem Bw.set10 (h : Bw w B P A nb ov lt uv cl) (x : Int) : Bw (w.setCell ⟨B, 10, none⟩ (.int .i64 x)) B P A nb ov lt uv x := by
  unfold Bw at *
  simp [World.setCell, Array.getElem?_modify, h]
end
set_option maxRecDepth 20000 in
set_option maxHeartbeats 6400000 in
theorem pass3 {w : World} {B L P : Nat} {b : Bd} {nb : Nat} {ov : Value} (h : Bs w B L P b nb ov) (hBL : B < L) (hL : L ≤ w.heap.size) (p : Nat) (o : Oq) (a : Option Addr) (cap : Nat) (hk : o.k = 3) (hou : b.ou.length ≤ 8192) (he : 0 ≤ b.ar.el ∧ b.ar.el ≤ 64) :
    Calls Try.prog 63 #[.pointer (some ⟨B, 0, none⟩), .int .i64 p, opv o (.slice a o.l.length cap)] w fun e w' => (∃ v, e = .returned v) ∧ Bs w' B L P (pass b p o) nb ov ∧ Xl B L w w' := by
  obtain ⟨uv, hB, hU⟩ := h
  obtain ⟨ua, uc, rfl, huc, hum⟩ := own_shape hU
  have hlt := hB.lt
  obtain ⟨W, hW, b0, hs, hx⟩ := box5 w (.int .i64 o.k) (.int .i64 o.a) (.int .i64 o.b) (.int .i64 o.c) (.slice a o.l.length cap) 46
  obtain ⟨W1, hW1⟩ : ∃ W1, (W.drew).alloc (.cells #[.int .i64 b.lt] 3) = W1 := ⟨_, rfl⟩
  have b1 : Below W.heap.size W W1 := by rw [← hW1]; exact ((Below.refl _ W).drew).alloc (by simp) _
  have s1 : W1.heap.size = w.heap.size + 2 := by rw [← hW1]; simp [hs]
  have n1 : W1.heap[W.heap.size]? = some (.cells #[.int .i64 b.lt] 3 (0, 0)) := by rw [← hW1]; exact heap_alloc_new W.drew _
  have hB0 := hB.keep b0
  have hB1 := hB0.keep b1
  have HU1 : Hid (W1.ownsRow L 3 1 (.slice ua b.ou.length uc) b.ou.length (b.ou.map (Value.int .i64))) := own_keep hU fun g hg => by rw [b1.block g (by have := (World.ownsRow.lt hU g hg).2; omega), b0.block g (World.ownsRow.lt hU g hg).2]
  have HB1 : Hid (Bw W1 B P b.ar nb ov b.lt (.slice ua b.ou.length uc) b.cl) := hB1
  have HN1 : Hid (∀ j u, [Value.int .i64 b.lt][j]? = some u → W1.cell? ((⟨w.heap.size + 1, 0, none⟩ : Addr).add j) = some u) := by
    intro j u hu
    cases j with
    | zero =>
      simp at hu
      subst hu
      rw [← hs]
      exact cell_of n1 0 _ rfl
    | succ j => simp at hu
  have HBW : Hid (Below w.heap.size w W1) := b0.trans (b1.mono b0.size)
  have c0 := cell_of hx 0 _ rfl
  have e8 := cell_of hB0 8 _ rfl
  have e9 := cell_of hB0 9 _ rfl
  have y9 := cell_of hB1 9 _ rfl
  have y8 := cell_of hB1 8 _ rfl
  have ep : pass b p o = ⟨{ b.ar with el := b.ar.el + 1 }, 0, b.ou ++ [b.lt], b.cl⟩ := by unfold pass; rw [if_pos hk]
  rw [ep]
  have hw1 : IntKind.i64.wrap (b.ar.el + 1) = b.ar.el + 1 := w64 (by omega) (by omega)
  obtain ⟨k, x, y, z, l⟩ := o
  dsimp only at *
  subst hk
  clear hB hB0 hB1 hU b0 b1 n1 hx ep
  go_enter Try.func63, Try.ntmps63
  go_wp2_with fail
  refine wp_region_held_drew (S := fun w' => w'.cell? ⟨B, 8, none⟩ = some (.int .i64 b.lt)) (by kernel_rfl) (by exact e8) (fun hHeld => ?_)
  refine tkH 0 rfl ?_; try simp only [ptH]
  refine tkH 1 rfl ?_; try simp only [ptH]
  refine tkH 2 rfl ?_; try simp only [ptH]
  refine tkH 3 rfl ?_; try simp only [ptH]
  refine tkH 5 rfl ?_; try simp only [ptH]
  refine tkH 6 rfl ?_; try simp only [ptH]
  refine tkH 7 rfl ?_; try simp only [ptH]
  refine tkH 8 rfl ?_; try simp only [ptH]
  refine rdH [4, 9] ?_
  refine AllReadyH.cons rfl (fun K0 hK => ?_) (AllReadyH.cons rfl (fun K0 hK => ?_) (AllReadyH.nil))
  · go_simp
    refine hK.out _ _ (by assumption) (fun hHeld => ?_)
    clear hK K0
    try simp only [ptH]
    refine rdH [9] ?_
    refine alH rfl fun K0 hK => ?_
    go_simp
    try rw [hW1]
    refine hK.out _ _ y8 (fun hHeld => ?_)
    clear hK K0
    try simp only [ptH]
    refine rdH [10] ?_
    refine alH rfl fun K0 hK => ?_
    refine step_int (news := [.int .i64 b.lt]) (m := 1) (n := b.ou.length) rfl _ _ rfl HU1.out rfl HN1.out (by simp [Value.oneCell']) (by omega) (by omega) rfl rfl (fun v' W2 h3 h4 h5 => ?_)
    obtain ⟨g, cap2, rfl⟩ : ∃ g cap2, v' = .slice (some ⟨g, 0, none⟩) (b.ou.length + 1) cap2 := by
      rcases h3.2 with ⟨_, e⟩ | ⟨g, cap2, cur, e, _⟩
      · omega
      · exact ⟨g, cap2, e⟩
    have hgB : B ≠ g := by have := (World.ownsRow.lt h3 g rfl).1; omega
    have hBo : some B ≠ (Value.slice ua b.ou.length uc).ownBlock := fun e => by have := (World.ownsRow.lt HU1.out B e.symm).1; omega
    have hB2 : Bw W2 B P b.ar nb ov b.lt (.slice ua b.ou.length uc) b.cl := (h4.block B (by omega) hBo).trans HB1.out
    have m8 := cell_of hB2 8 _ rfl
    have m9 := cell_of hB2 9 _ rfl
    have m4 := cell_of hB2 4 _ rfl
    have r8 := frz hB2 8
    have r9 := frz hB2 9
    have r4 := frz hB2 4
    have HB2 : Hid (Bw W2 B P b.ar nb ov b.lt (.slice ua b.ou.length uc) b.cl) := hB2
    have H3 : Hid (W2.ownsRow L 3 1 (.slice (some ⟨g, 0, none⟩) (b.ou.length + 1) cap2) (b.ou.length + 1) (b.ou.map (Value.int .i64) ++ [.int .i64 b.lt])) := h3
    have HG : Hid (∀ g, g < L → W2.heap[g]? = w.heap[g]?) := fun q hq => (h4.block q (by omega) (fun e => by have := (World.ownsRow.lt HU1.out q e.symm).1; omega)).trans (HBW.out.block q (by omega))
    have HL : Hid (Below B w W2) := (HBW.out.mono (by omega)).grown h4 (by omega) (fun k hk => by have := (World.ownsRow.lt HU1.out k hk).1; omega)
    clear h3 h4 h5 hB2
    refine hK.out _ _ m8 (fun hHeld => ?_)
    clear hK K0
    try simp only [ptH]
    refine tkH 11 rfl ?_; try simp only [ptH]
    refine tkH 12 rfl ?_; try simp only [ptH]
    refine rdH [13] ?_
    refine alH rfl fun K0 hK => ?_
    go_simp
    refine hK.out _ _ (cell_of (Bw.set9 HB2.out _) 8 _ rfl) (fun hHeld => ?_)
    clear hK K0 hHeld
    try simp only [ptH]
    refine dnH ?_
    go_wp2_with fail
    go_end0
    refine ⟨⟨_, rfl⟩, ⟨_, Bw.set4 (Bw.set8 (Bw.set9 HB2.out _) _) _, ?_⟩, ((HL.out.setCell (p := ⟨B, 9, none⟩) (Nat.le_refl _) _).setCell (p := ⟨B, 8, none⟩) (Nat.le_refl _) _).setCell (p := ⟨B, 4, none⟩) (Nat.le_refl _) _, fun q hq hqB => ?_⟩
    rotate_left 1
    · rw [Below.heap_setCell _ _ _ _ hqB, Below.heap_setCell _ _ _ _ hqB, Below.heap_setCell _ _ _ _ hqB]
      exact HG.out q hq
    rw [List.length_append, List.map_append]
    refine own_keep H3.out fun q hq => ?_
    have hqB : q ≠ B := by
      have e : g = q := Option.some.inj hq
      have hgL : L ≤ g := (World.ownsRow.lt H3.out g rfl).1
      omega
    rw [Below.heap_setCell _ _ _ _ hqB, Below.heap_setCell _ _ _ _ hqB, Below.heap_setCell _ _ _ _ hqB]
  · go_simp
    try rw [hW1]
    refine hK.out _ _ y8 (fun hHeld => ?_)
    clear hK K0
    try simp only [ptH]
    refine rdH [4] ?_
    refine alH rfl fun K0 hK => ?_
    go_simp
    refine hK.out _ _ (by assumption) (fun hHeld => ?_)
    clear hK K0
    try simp only [ptH]
    refine rdH [10] ?_
    refine alH rfl fun K0 hK => ?_
    refine step_int (news := [.int .i64 b.lt]) (m := 1) (n := b.ou.length) rfl _ _ rfl HU1.out rfl HN1.out (by simp [Value.oneCell']) (by omega) (by omega) rfl rfl (fun v' W2 h3 h4 h5 => ?_)
    obtain ⟨g, cap2, rfl⟩ : ∃ g cap2, v' = .slice (some ⟨g, 0, none⟩) (b.ou.length + 1) cap2 := by
      rcases h3.2 with ⟨_, e⟩ | ⟨g, cap2, cur, e, _⟩
      · omega
      · exact ⟨g, cap2, e⟩
    have hgB : B ≠ g := by have := (World.ownsRow.lt h3 g rfl).1; omega
    have hBo : some B ≠ (Value.slice ua b.ou.length uc).ownBlock := fun e => by have := (World.ownsRow.lt HU1.out B e.symm).1; omega
    have hB2 : Bw W2 B P b.ar nb ov b.lt (.slice ua b.ou.length uc) b.cl := (h4.block B (by omega) hBo).trans HB1.out
    have m8 := cell_of hB2 8 _ rfl
    have m9 := cell_of hB2 9 _ rfl
    have m4 := cell_of hB2 4 _ rfl
    have r8 := frz hB2 8
    have r9 := frz hB2 9
    have r4 := frz hB2 4
    have HB2 : Hid (Bw W2 B P b.ar nb ov b.lt (.slice ua b.ou.length uc) b.cl) := hB2
    have H3 : Hid (W2.ownsRow L 3 1 (.slice (some ⟨g, 0, none⟩) (b.ou.length + 1) cap2) (b.ou.length + 1) (b.ou.map (Value.int .i64) ++ [.int .i64 b.lt])) := h3
    have HG : Hid (∀ g, g < L → W2.heap[g]? = w.heap[g]?) := fun q hq => (h4.block q (by omega) (fun e => by have := (World.ownsRow.lt HU1.out q e.symm).1; omega)).trans (HBW.out.block q (by omega))
    have HL : Hid (Below B w W2) := (HBW.out.mono (by omega)).grown h4 (by omega) (fun k hk => by have := (World.ownsRow.lt HU1.out k hk).1; omega)
    clear h3 h4 h5 hB2
    refine hK.out _ _ m8 (fun hHeld => ?_)
    clear hK K0
    try simp only [ptH]
    refine tkH 11 rfl ?_; try simp only [ptH]
    refine tkH 12 rfl ?_; try simp only [ptH]
    refine rdH [13] ?_
    refine alH rfl fun K0 hK => ?_
    go_simp
    refine hK.out _ _ (cell_of (Bw.set9 HB2.out _) 8 _ rfl) (fun hHeld => ?_)
    clear hK K0 hHeld
    try simp only [ptH]
    refine dnH ?_
    go_wp2_with fail
    go_end0
    refine ⟨⟨_, rfl⟩, ⟨_, Bw.set4 (Bw.set8 (Bw.set9 HB2.out _) _) _, ?_⟩, ((HL.out.setCell (p := ⟨B, 9, none⟩) (Nat.le_refl _) _).setCell (p := ⟨B, 8, none⟩) (Nat.le_refl _) _).setCell (p := ⟨B, 4, none⟩) (Nat.le_refl _) _, fun q hq hqB => ?_⟩
    rotate_left 1
    · rw [Below.heap_setCell _ _ _ _ hqB, Below.heap_setCell _ _ _ _ hqB, Below.heap_setCell _ _ _ _ hqB]
      exact HG.out q hq
    rw [List.length_append, List.map_append]
    refine own_keep H3.out fun q hq => ?_
    have hqB : q ≠ B := by
      have e : g = q := Option.some.inj hq
      have hgL : L ≤ g := (World.ownsRow.lt H3.out g rfl).1
      omega
    rw [Below.heap_setCell _ _ _ _ hqB, Below.heap_setCell _ _ _ _ hqB, Below.heap_setCell _ _ _ _ hqB]
end Go.Proofs.Ytgknjjaemjkloaa.BPs

namespace Go.Proofs.Ytgknjjaemjkloaa.BGd
open Go.Proofs.Ytgknjjaemjkloaa.BPl Go.Proofs.Ytgknjjaemjkloaa.BSt
open Go.Proofs.Ytgknjjaemjkloaa.YPl (Oq Bk Pg)
set_option linter.unusedVariables false

/-- What may be around a block. -/
def Ga (A : Ar) : Prop := 0 ≤ A.st ∧ A.st ≤ 64 ∧ 0 ≤ A.el ∧ A.el ≤ 63 ∧ 0 ≤ A.ls ∧ A.ls ≤ 8
def Gh (H : List Ar) : Prop := ∀ A ∈ H, A.ow = true → Ga A
def Gb (b : Bd) : Prop := Ga b.ar ∧ 0 ≤ b.lt ∧ (∀ x ∈ b.ou, 0 ≤ x) ∧ b.lt + b.ou.sum ≤ b.ar.st ∧ (b.ou.length : Int) ≤ b.ar.el
theorem sum_nn : ∀ l : List Int, (∀ x ∈ l, 0 ≤ x) → 0 ≤ l.sum
  | [], _ => by simp
  | x :: r, h => by
    have h1 := sum_nn r fun y hy => h y (List.mem_cons_of_mem _ hy)
    have h2 := h x (List.mem_cons_self ..)
    rw [List.sum_cons]
    omega
theorem snoc {α : Type} : ∀ l : List α, l ≠ [] → ∃ m x, l = m ++ [x]
  | l, h => ⟨l.dropLast, l.getLast h, (List.dropLast_concat_getLast h).symm⟩
theorem Gb.lt64 {b : Bd} (h : Gb b) : b.lt ≤ 64 := by
  obtain ⟨⟨h1, h2, -⟩, h3, h4, h5, h6⟩ := h
  have := sum_nn _ h4
  omega
section
variable {S : Sh} {nb : Nat} {ops : List Oq} {b : Bd} {H H' : List Ar} {p : Nat} {o : Oq}
theorem opf_ok (h : opf S nb ops b H p o = .ok H') : p ≠ 8192 ∧ fits S o = true ∧ reaches S b.ar.st o = true ∧ stands S ops b p o = true ∧ clm nb (ins b.ar o) (bks o) H = some H' ∧ b.ar.st + grows o ≤ 64 ∧ ¬ (o.k = 9 ∧ b.ar.ls = 8) := by
  unfold opf at h
  by_cases h1 : p = 8192 ∨ fits S o = false
  · rw [if_pos h1] at h; cases h
  rw [if_neg h1] at h
  by_cases h2 : reaches S b.ar.st o = false
  · rw [if_pos h2] at h; cases h
  rw [if_neg h2] at h
  by_cases h3 : stands S ops b p o = false
  · rw [if_pos h3] at h; cases h
  rw [if_neg h3] at h
  cases h4 : clm nb (ins b.ar o) (bks o) H with
  | none => rw [h4] at h; cases h
  | some G =>
    rw [h4] at h
    dsimp only at h
    by_cases h5 : 64 < b.ar.st + grows o
    · rw [if_pos h5] at h; cases h
    rw [if_neg h5] at h
    by_cases h6 : o.k = 9 ∧ b.ar.ls = 8
    · rw [if_pos h6] at h; cases h
    rw [if_neg h6] at h
    cases h
    exact ⟨fun e => h1 (.inl e), by simpa using fun e => h1 (.inr e), by simpa using h2, by simpa using h3, rfl, by omega, h6⟩
theorem grows_nn (o : Oq) : 0 ≤ grows o := by unfold grows; split <;> (try split) <;> (try split) <;> omega
theorem ins_ga (hA : Ga b.ar) (h1 : b.ar.st + grows o ≤ 64) (h2 : ¬ (o.k = 9 ∧ b.ar.ls = 8)) : Ga (ins b.ar o) := by
  obtain ⟨a1, a2, a3, a4, a5, a6⟩ := hA
  have := grows_nn o
  refine ⟨?_, ?_, a3, a4, ?_, ?_⟩
  · show 0 ≤ b.ar.st + grows o; omega
  · exact h1
  · show 0 ≤ (if o.k = 9 then b.ar.ls + 1 else b.ar.ls); split <;> omega
  · show (if o.k = 9 then b.ar.ls + 1 else b.ar.ls) ≤ 8; split <;> omega
theorem clm_gh {A : Ar} (hA : Ga A) : ∀ (l : List Int) (H : List Ar), Gh H → ∀ H', clm nb A l H = some H' → Gh H' ∧ H'.length = H.length
  | [], H, hH, H', h => by cases h; exact ⟨hH, rfl⟩
  | n :: r, H, hH, H', h => by
    unfold clm at h
    split at h
    · cases h
    · have := clm_gh hA r (H.set n.toNat A) (fun B hB hw => by
        rcases List.mem_or_eq_of_mem_set hB with h | h
        · exact hH B h hw
        · rw [h]; exact hA) H' h
      rw [List.length_set] at this
      exact this
theorem fits_drop (h : fits S o = true) (hk : o.k = 12) : 1 ≤ o.a := by
  unfold fits at h
  simp only [hk] at h
  simpa using zr_true h
theorem stands_close (h : stands S ops b p o = true) (hk : o.k = 6) : b.ou ≠ [] ∧ b.lt = 0 := by
  unfold stands at h
  simp only [hk] at h
  have := band h
  refine ⟨fun e => ?_, by simpa using this.2⟩
  have h1 := this.1
  rw [e] at h1
  simp at h1
theorem stands_open (h : stands S ops b p o = true) (hk : o.k = 3) : b.ar.el + 1 ≤ 63 := by
  unfold stands at h
  simp only [hk] at h
  simpa using h
theorem stands_drop (h : stands S ops b p o = true) (hk : o.k = 12) : o.a ≤ b.lt := by
  unfold stands at h
  simp only [hk] at h
  simpa using h
theorem pass_3 (hk : o.k = 3) : pass b p o = ⟨{ b.ar with el := b.ar.el + 1 }, 0, b.ou ++ [b.lt], b.cl⟩ := by unfold pass; rw [if_pos hk]
theorem pass_6 (hk : o.k = 6) {l : List Int} {x : Int} (e : b.ou = l ++ [x]) : pass b p o = ⟨{ b.ar with el := b.ar.el - 1 }, x, l, if l.length = 0 ∧ b.cl = 0 then p else b.cl⟩ := by
  unfold pass
  rw [if_neg (by omega), if_pos hk, e]
  simp
theorem pass_11 (hk : o.k = 11) : pass b p o = ⟨{ b.ar with st := b.ar.st + 1 }, b.lt + 1, b.ou, b.cl⟩ := by unfold pass; rw [if_neg (by omega), if_neg (by omega), if_pos hk]
theorem pass_12 (hk : o.k = 12) : pass b p o = ⟨{ b.ar with st := b.ar.st - o.a }, b.lt - o.a, b.ou, b.cl⟩ := by unfold pass; rw [if_neg (by omega), if_neg (by omega), if_neg (by omega), if_pos hk]
theorem pass_0 (h3 : o.k ≠ 3) (h6 : o.k ≠ 6) (h11 : o.k ≠ 11) (h12 : o.k ≠ 12) : pass b p o = b := by unfold pass; rw [if_neg h3, if_neg h6, if_neg h11, if_neg h12]
theorem gb_pass (h : opf S nb ops b H p o = .ok H') (hb : Gb b) : Gb (pass b p o) := by
  obtain ⟨h1, h2, h3, h4, h5, h6, h7⟩ := opf_ok h
  obtain ⟨⟨a1, a2, a3, a4, a5, a6⟩, b1, b2, b3, b4⟩ := hb
  have hs := sum_nn _ b2
  by_cases k3 : o.k = 3
  · have := stands_open h4 k3
    rw [pass_3 k3]
    refine ⟨⟨a1, a2, by show 0 ≤ b.ar.el + 1; omega, this, a5, a6⟩, Int.le_refl 0, fun x hx => ?_, ?_, ?_⟩
    · rcases List.mem_append.1 hx with hx | hx
      · exact b2 x hx
      · rw [List.mem_singleton.1 hx]; exact b1
    · show 0 + (b.ou ++ [b.lt]).sum ≤ b.ar.st
      rw [List.sum_append]
      simp
      omega
    · show ((b.ou ++ [b.lt]).length : Int) ≤ b.ar.el + 1
      rw [List.length_append]
      simp
      omega
  by_cases k6 : o.k = 6
  · obtain ⟨h8, h9⟩ := stands_close h4 k6
    obtain ⟨l, x, e⟩ := snoc _ h8
    rw [pass_6 k6 e]
    rw [e] at b2 b3 b4 hs
    rw [List.sum_append] at b3
    rw [List.length_append] at b4
    simp at b3 b4
    have hx := b2 x (by simp)
    refine ⟨⟨a1, a2, by show 0 ≤ b.ar.el - 1; omega, by show b.ar.el - 1 ≤ 63; omega, a5, a6⟩, hx, fun y hy => b2 y (List.mem_append_left _ hy), ?_, ?_⟩
    · show x + l.sum ≤ b.ar.st; omega
    · show (l.length : Int) ≤ b.ar.el - 1; omega
  by_cases k11 : o.k = 11
  · rw [pass_11 k11]
    have hg : grows o = 1 := by unfold grows; rw [if_neg (by omega), if_neg (by omega), if_pos k11]
    refine ⟨⟨by show 0 ≤ b.ar.st + 1; omega, by show b.ar.st + 1 ≤ 64; omega, a3, a4, a5, a6⟩, by show 0 ≤ b.lt + 1; omega, b2, by show b.lt + 1 + b.ou.sum ≤ b.ar.st + 1; omega, b4⟩
  by_cases k12 : o.k = 12
  · rw [pass_12 k12]
    have hf := fits_drop h2 k12
    have hd := stands_drop h4 k12
    refine ⟨⟨by show 0 ≤ b.ar.st - o.a; omega, by show b.ar.st - o.a ≤ 64; omega, a3, a4, a5, a6⟩, by show 0 ≤ b.lt - o.a; omega, b2, by show b.lt - o.a + b.ou.sum ≤ b.ar.st - o.a; omega, b4⟩
  rw [pass_0 k3 k6 k11 k12]
  exact ⟨⟨a1, a2, a3, a4, a5, a6⟩, b1, b2, b3, b4⟩
theorem opf_gh (h : opf S nb ops b H p o = .ok H') (hb : Gb b) (hH : Gh H) : Gh H' ∧ H'.length = H.length := by
  obtain ⟨h1, h2, h3, h4, h5, h6, h7⟩ := opf_ok h
  exact clm_gh (ins_ga hb.1 h6 h7) _ _ hH _ h5
theorem pass_ar : (pass b p o).ar.ow = b.ar.ow ∧ (pass b p o).ar.lp = b.ar.lp ∧ (pass b p o).ar.ls = b.ar.ls := by
  unfold pass
  split
  · exact ⟨rfl, rfl, rfl⟩
  split
  · exact ⟨rfl, rfl, rfl⟩
  split
  · exact ⟨rfl, rfl, rfl⟩
  split
  · exact ⟨rfl, rfl, rfl⟩
  exact ⟨rfl, rfl, rfl⟩
theorem gos_step {i : Nat} (hi : i < ops.length) : gos S nb ops i (ops.drop i) b H = match opf S nb ops b H i ops[i] with
    | .error c => .error ((i : Int), c)
    | .ok H' => gos S nb ops (i + 1) (ops.drop (i + 1)) (pass b i ops[i]) H' := by
  rw [List.drop_eq_getElem_cons hi, gos]
  cases opf S nb ops b H i ops[i] <;> rfl
theorem gos_end : gos S nb ops ops.length (ops.drop ops.length) b H = .ok (b, H) := by
  rw [List.drop_length, gos]
theorem opf_ne {c : Int} (h : opf S nb ops b H p o = .error c) : c ≠ 0 := by
  unfold opf at h
  split at h
  · cases h; decide
  split at h
  · cases h; decide
  split at h
  · cases h; decide
  split at h
  · cases h; decide
  split at h
  · cases h; decide
  split at h
  · cases h; decide
  · cases h
end
theorem gos_ne {S : Sh} {nb : Nat} {ops : List Oq} {q : Int × Int} : ∀ (l : List Oq) (i : Nat) (b : Bd) (H : List Ar), gos S nb ops i l b H = .error q → q.2 ≠ 0
  | [], i, b, H, h => by rw [gos] at h; cases h
  | o :: r, i, b, H, h => by
    rw [gos] at h
    cases e : opf S nb ops b H i o with
    | error c => rw [e] at h; cases h; exact opf_ne e
    | ok H' => rw [e] at h; exact gos_ne r _ _ _ h
theorem blf_ne {S : Sh} {nb : Nat} {k : Bk} {H : List Ar} {q : Int × Int} (h : blf S nb k H = .error q) : q.2 ≠ 0 := by
  unfold blf at h
  split at h
  · cases h; decide
  split at h
  · cases h; decide
  cases e : gos S nb k.o 0 k.o ⟨H.getD nb ar0, 0, [], 0⟩ H with
  | error q' => rw [e] at h; cases h; exact gos_ne _ _ _ _ e
  | ok y =>
    obtain ⟨b, H'⟩ := y
    rw [e] at h
    dsimp only at h
    split at h
    · cases h; exact (by decide : (2204 : Int) ≠ 0)
    split at h
    · cases h; decide
    split at h
    · rename_i h1
      cases h
      exact h1
    · cases h
end Go.Proofs.Ytgknjjaemjkloaa.BGd

namespace Go.Proofs.Ytgknjjaemjkloaa.BPt
open Go.Proofs.Ytgknjjaemjkloaa.Tak
open Go.RowKit Go.Proofs.Ytgknjjaemjkloaa.BPl Go.Proofs.Ytgknjjaemjkloaa.YRr Go.Proofs.Ytgknjjaemjkloaa.YRs Go.Proofs.Ytgknjjaemjkloaa.BBx Go.Proofs.Ytgknjjaemjkloaa.BSm Go.Proofs.Ytgknjjaemjkloaa.BIn Go.Proofs.Ytgknjjaemjkloaa.BPs Go.Proofs.Ytgknjjaemjkloaa.BGd
open Go.Proofs.Ytgknjjaemjkloaa.YPl (Oq Bk Pg)
open Go.Proofs.Ytgknjjaemjkloaa.CBx (w64)
theorem hid {p : Prop} (h : p) : Hid p := h
set_option linter.unusedVariables false

theorem own_last {w : World} {lo : Nat} {v : Value} {l : List Int} {x : Int} (h : w.ownsRow lo 3 1 v (l ++ [x]).length ((l ++ [x]).map (Value.int .i64))) : ∃ g cap, v = .slice (some ⟨g, 0, none⟩) (l.length + 1) cap ∧ l.length + 1 ≤ cap ∧ cap ≤ 9223372036854775807 ∧ lo ≤ g ∧ w.cell? ⟨g, l.length, none⟩ = some (.int .i64 x) ∧ w.ownsRow lo 3 1 (.slice (some ⟨g, 0, none⟩) l.length cap) l.length (l.map (Value.int .i64)) := by
  have hn : (l ++ [x]).length = l.length + 1 := by simp
  rw [hn, List.map_append] at h
  rcases h.2 with ⟨-, e⟩ | ⟨g, cap, cur, rfl, hb, hc, hle, hm, hsz, htk⟩
  · omega
  · refine ⟨g, cap, rfl, hle, by unfold maxLen at hm; omega, hb, ?_, by simp, .inr ⟨g, cap, cur, rfl, hb, hc, by omega, hm, hsz, ?_⟩⟩
    · rw [h.cellAt l.length (by omega)]
      simp
    · have e2 := congrArg (List.take (l.length * 1)) htk
      rw [List.take_take, Nat.min_eq_left (by omega), List.take_append_of_le_length (by simp)] at e2
      rw [e2]
      exact List.take_of_length_le (by simp)
set_option maxRecDepth 20000 in
set_option maxHeartbeats 3200000 in
theorem leave_c {w : World} {B L P : Nat} {A : Ar} {nb : Nat} {ov : Value} {lt : Int} {l : List Int} {x cl : Int} (h : Bs w B L P ⟨A, lt, l ++ [x], cl⟩ nb ov) (hBL : B < L) (hL : L ≤ w.heap.size) (p : Nat) (hl : l.length ≤ 8192) (he : 0 ≤ A.el ∧ A.el ≤ 64) :
    Calls Try.prog 106 #[.pointer (some ⟨B, 0, none⟩), .int .i64 p] w fun e w' => (∃ v, e = .returned v) ∧ Bs w' B L P ⟨{ A with el := A.el - 1 }, x, l, if l.length = 0 ∧ cl = 0 then p else cl⟩ nb ov ∧ Xl B L w w' := by
  obtain ⟨uv, hB, hU⟩ := h
  dsimp only at hB hU
  obtain ⟨g, cap, rfl, hc, hm, hg, k0, hF⟩ := own_last hU
  have hlt := hB.lt
  have c4 := cell_of hB 4 _ rfl
  have c8 := cell_of hB 8 _ rfl
  have c9 := cell_of hB 9 _ rfl
  have c10 := cell_of hB 10 _ rfl
  have r4 := frz hB 4
  have r8 := frz hB 8
  have r9 := frz hB 9
  have r10 := frz hB 10
  have HB : Hid (Bw w B P A nb ov lt (.slice (some ⟨g, 0, none⟩) (l.length + 1) cap) cl) := hB
  have HF : Hid (w.ownsRow L 3 1 (.slice (some ⟨g, 0, none⟩) l.length cap) l.length (l.map (Value.int .i64))) := hF
  have hgB : g ≠ B := by omega
  have HK : Hid (∀ w' : World, (∀ q, q ≠ B → w'.heap[q]? = w.heap[q]?) → w'.ownsRow L 3 1 (.slice (some ⟨g, 0, none⟩) l.length cap) l.length (l.map (Value.int .i64))) := fun w' h => own_keep HF.out fun q hq => h q (by have e : g = q := Option.some.inj hq; omega)
  obtain ⟨Y, hY⟩ : ∃ Y, (if l.length = 0 ∧ cl = 0 then (p : Int) else cl) = Y := ⟨_, rfl⟩
  rw [hY]
  have HY : Hid ((if l.length = 0 ∧ cl = 0 then (p : Int) else cl) = Y) := hY
  have hw0 : IntKind.i64.wrap ((l.length : Int) + 1 - 1) = (l.length : Int) := by rw [w64 (by omega) (by omega)]; omega
  have hw1 : IntKind.i64.wrap (A.el - 1) = A.el - 1 := w64 (by omega) (by omega)
  have i0 : (0 : Int) ≤ (l.length : Int) := by omega
  have i1 : (l.length : Int) < ((l.length + 1 : Nat) : Int) := by omega
  have i2 : (l.length : Int) ≤ (cap : Int) := by omega
  clear hB hF hU hY
  go_enter Try.func106, Try.ntmps106
  go_wp2_with fail
  go_region
  obtain ⟨W, hW⟩ : ∃ W, ((w.setCell ⟨B, 8, none⟩ (.int .i64 x)).setCell ⟨B, 9, none⟩ (.slice (some ⟨g, 0, none⟩) l.length cap)).drew = W := ⟨_, rfl⟩
  rw [hW]
  have hBW : Bw W B P A nb ov x (.slice (some ⟨g, 0, none⟩) l.length cap) cl := by rw [← hW]; exact Bw.set9 (Bw.set8 HB.out _) _
  have HBW := hid hBW
  have HKW : Hid (∀ q, q ≠ B → W.heap[q]? = w.heap[q]?) := by
    rw [← hW]
    intro q hq
    exact (Below.heap_setCell _ _ _ _ hq).trans (Below.heap_setCell _ _ _ _ hq)
  have HLW : Hid (Below B w W) := by rw [← hW]; exact (((Below.refl B w).setCell (p := ⟨B, 8, none⟩) (Nat.le_refl _) _).setCell (p := ⟨B, 9, none⟩) (Nat.le_refl _) _).drew
  clear hW c4 c8 c9 c10 r4 r8 r9 r10 k0
  have c4 := cell_of hBW 4 _ rfl
  have c10 := cell_of hBW 10 _ rfl
  have r4 := frz hBW 4
  have r10 := frz hBW 10
  clear hBW
  by_cases e1 : l.length = 0
  · have d1 : ((l.length : Int) == 0) = true := by simp [e1]
    by_cases e2 : cl = 0
    · have hY := HY.out
      rw [if_pos ⟨e1, e2⟩] at hY
      have d2 : (cl == 0) = true := by simp [e2]
      have HY2 := hid hY
      clear e1 e2 hY HY
      go_wp2_with fail
      go_end0
      rw [← HY2.out]
      refine ⟨⟨_, rfl⟩, ⟨_, Bw.set10 (Bw.set4 HBW.out _) _, HK.out _ fun q hq => ?_⟩, (HLW.out.setCell (p := ⟨B, 4, none⟩) (Nat.le_refl _) _).setCell (p := ⟨B, 10, none⟩) (Nat.le_refl _) _, fun q _ hq => ?_⟩
      all_goals (
        rw [Below.heap_setCell _ _ _ _ hq, Below.heap_setCell _ _ _ _ hq]
        exact HKW.out q hq)
    · have hY := HY.out
      rw [if_neg (fun h => e2 h.2)] at hY
      have d2 : (cl == 0) = false := by simp [e2]
      have HY2 := hid hY
      clear e1 e2 hY HY
      go_wp2_with fail
      go_end0
      rw [← HY2.out]
      refine ⟨⟨_, rfl⟩, ⟨_, Bw.set4 HBW.out _, HK.out _ fun q hq => ?_⟩, HLW.out.setCell (p := ⟨B, 4, none⟩) (Nat.le_refl _) _, fun q _ hq => ?_⟩
      all_goals (
        rw [Below.heap_setCell _ _ _ _ hq]
        exact HKW.out q hq)
  · have d1 : ((l.length : Int) == 0) = false := by rw [beq_eq_false_iff_ne]; omega
    have hY := HY.out
    rw [if_neg (fun h => e1 h.1)] at hY
    have HY2 := hid hY
    clear e1 hY HY
    go_wp2_with fail
    go_end0
    rw [← HY2.out]
    refine ⟨⟨_, rfl⟩, ⟨_, Bw.set4 HBW.out _, HK.out _ fun q hq => ?_⟩, HLW.out.setCell (p := ⟨B, 4, none⟩) (Nat.le_refl _) _, fun q _ hq => ?_⟩
    all_goals (
      rw [Below.heap_setCell _ _ _ _ hq]
      exact HKW.out q hq)
/-- Bodies whose row of its own stays. -/
theorem Bs.box {w w' : World} {B L P : Nat} {b b' : Bd} {nb : Nat} {ov uv : Value} (hU : w.ownsRow L 3 1 uv b.ou.length (b.ou.map (Value.int .i64))) (hBL : B < L) (hk : ∀ q, q ≠ B → w'.heap[q]? = w.heap[q]?) (ho : b'.ou = b.ou) (hB : Bw w' B P b'.ar nb ov b'.lt uv b'.cl) : Bs w' B L P b' nb ov := by
  refine ⟨uv, hB, ?_⟩
  rw [ho]
  exact own_keep hU fun q hq => hk q (by have := (World.ownsRow.lt hU q hq).1; omega)
set_option maxRecDepth 20000 in
set_option maxHeartbeats 3200000 in
theorem pass_c {w : World} {B L P : Nat} {b : Bd} {nb : Nat} {ov : Value} (h : Bs w B L P b nb ov) (hBL : B < L) (hL : L ≤ w.heap.size) (p : Nat) (o : Oq) (a : Option Addr) (cap : Nat) (hou : b.ou.length ≤ 8192) (he : 0 ≤ b.ar.el ∧ b.ar.el ≤ 64) (hst : 0 ≤ b.ar.st ∧ b.ar.st ≤ 64) (hlt : 0 ≤ b.lt ∧ b.lt ≤ 64) (h6 : o.k = 6 → b.ou ≠ []) (h12 : o.k = 12 → 1 ≤ o.a ∧ o.a ≤ b.lt) :
    Calls Try.prog 63 #[.pointer (some ⟨B, 0, none⟩), .int .i64 p, opv o (.slice a o.l.length cap)] w fun e w' => (∃ v, e = .returned v) ∧ Bs w' B L P (pass b p o) nb ov ∧ Xl B L w w' := by
  by_cases k3 : o.k = 3
  · exact pass3 h hBL hL p o a cap k3 hou he
  obtain ⟨W, hW, b0, hs, hx⟩ := box5 w (.int .i64 o.k) (.int .i64 o.a) (.int .i64 o.b) (.int .i64 o.c) (.slice a o.l.length cap) 46
  have hBl : B < w.heap.size := by obtain ⟨uv, hB, -⟩ := h; exact hB.lt
  have c0 := cell_of hx 0 _ rfl
  have c1 := cell_of hx 1 _ rfl
  have HLW : Hid (Below B w W) := b0.mono (by omega)
  have HGW : Hid (∀ g, g < L → W.heap[g]? = w.heap[g]?) := fun g hg => b0.block g (by omega)
  by_cases k6 : o.k = 6
  · obtain ⟨l, x, e⟩ := snoc _ (h6 k6)
    rw [pass_6 k6 e]
    have hS := h.below b0
    obtain ⟨A, lt, ou, cl⟩ := b
    dsimp only at *
    subst e
    have cL := leave_c hS hBL (by omega) p (by simp at hou; omega) he
    generalize (if l.length = 0 ∧ cl = 0 then (p : Int) else cl) = Y at *
    obtain ⟨k, x1, x2, x3, x4⟩ := o
    dsimp only at *
    subst k6
    generalize x4.length = n at *
    clear hS h hx b0 h6 h12
    go_enter Try.func63, Try.ntmps63
    go_wp2_with fail
    refine cL.mono ?_
    rintro e W1 ⟨⟨v, rfl⟩, h1, h2⟩
    have H1 := hid h1
    have H2 := hid h2
    clear cL h1 h2
    go_wp2_with fail
    go_end0
    exact ⟨⟨_, rfl⟩, H1.out, HLW.out.trans H2.out.1, fun g hg hq => (H2.out.2 g hg hq).trans (HGW.out g hg)⟩
  obtain ⟨uv, hB, hU⟩ := h
  obtain ⟨ua, uc, rfl, huc, hum⟩ := own_shape hU
  have hB0 := hB.keep b0
  have e3 := cell_of hB0 3 _ rfl
  have e8 := cell_of hB0 8 _ rfl
  have r3 := frz hB0 3
  have r8 := frz hB0 8
  have HBW := hid hB0
  have HU := hid (own_keep hU fun g hg => b0.block g (World.ownsRow.lt hU g hg).2 : W.ownsRow L 3 1 (.slice ua b.ou.length uc) b.ou.length (b.ou.map (Value.int .i64)))
  have hBx : w.heap.size ≠ B := by omega
  clear hB hU hB0 b0 hx
  by_cases k11 : o.k = 11
  · rw [pass_11 k11]
    obtain ⟨A, lt, ou, cl⟩ := b
    obtain ⟨k, x1, x2, x3, x4⟩ := o
    dsimp only at *
    subst k11
    have hw1 : IntKind.i64.wrap (lt + 1) = lt + 1 := w64 (by omega) (by omega)
    have hw2 : IntKind.i64.wrap (A.st + 1) = A.st + 1 := w64 (by omega) (by omega)
    generalize x4.length = n at *
    clear h6 h12
    go_enter Try.func63, Try.ntmps63
    go_wp2_with fail
    go_end0
    refine ⟨⟨_, rfl⟩, Bs.box HU.out hBL (fun q hq => ?_) rfl (Bw.set3 (Bw.set8 HBW.out _) _), (HLW.out.setCell (p := ⟨B, 8, none⟩) (Nat.le_refl _) _).setCell (p := ⟨B, 3, none⟩) (Nat.le_refl _) _, fun q hg hq => ?_⟩
    · rw [Below.heap_setCell _ _ _ _ hq, Below.heap_setCell _ _ _ _ hq]
    · rw [Below.heap_setCell _ _ _ _ hq, Below.heap_setCell _ _ _ _ hq]
      exact HGW.out q hg
  by_cases k12 : o.k = 12
  · rw [pass_12 k12]
    have h12 := h12 k12
    obtain ⟨A, lt, ou, cl⟩ := b
    obtain ⟨k, x1, x2, x3, x4⟩ := o
    dsimp only at *
    subst k12
    have hw1 : IntKind.i64.wrap (lt - x1) = lt - x1 := w64 (by omega) (by omega)
    have hw2 : IntKind.i64.wrap (A.st - x1) = A.st - x1 := w64 (by omega) (by omega)
    generalize x4.length = n at *
    clear h6
    go_enter Try.func63, Try.ntmps63
    go_wp2_with fail
    go_region
    go_wp2_with fail
    go_region
    go_wp2_with fail
    go_end0
    refine ⟨⟨_, rfl⟩, Bs.box HU.out hBL (fun q hq => ?_) rfl (Bw.set3 (Bw.set8 HBW.out _) _), (((HLW.out.setCell (p := ⟨B, 8, none⟩) (Nat.le_refl _) _).setCell (p := ⟨B, 3, none⟩) (Nat.le_refl _) _).drew).drew, fun q hg hq => ?_⟩
    · exact (Below.heap_setCell _ _ _ _ hq).trans (Below.heap_setCell _ _ _ _ hq)
    · exact ((Below.heap_setCell _ _ _ _ hq).trans (Below.heap_setCell _ _ _ _ hq)).trans (HGW.out q hg)
  rw [pass_0 k3 k6 k11 k12]
  have d3 : (o.k == 3) = false := by simp [k3]
  have d6 : (o.k == 6) = false := by simp [k6]
  have d11 : (o.k == 11) = false := by simp [k11]
  have d12 : (o.k == 12) = false := by simp [k12]
  obtain ⟨k, x1, x2, x3, x4⟩ := o
  dsimp only at *
  generalize x4.length = n at *
  clear h6 h12
  go_enter Try.func63, Try.ntmps63
  go_wp2_with fail
  go_end0
  exact ⟨⟨_, rfl⟩, ⟨_, HBW.out, HU.out⟩, HLW.out, fun g hg _ => HGW.out g hg⟩
end Go.Proofs.Ytgknjjaemjkloaa.BPt

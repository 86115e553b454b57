import Derived.Test.YtaiackmmmlhgbaaGreatPR10
import Derived.Test.YtaiackmmmlhgbaaGreatPR17
import Derived.Test.YtaiackmmmlhgbaaGreatPR20
import Derived.Test.YtaiackmmmlhgbaaGreatPR28
open Go.Proofs.Tryz
set_option linter.unusedVariables false
set_option maxRecDepth 20000
set_option maxHeartbeats 12800000
namespace Go.Proofs.YtaiackmmmlhgbaaGreat.ZQj
open Go.RowKit Leb YPl YRd YWr YRr YRs YRb YRl ZQa ZQe ZQf ZQg ZQi
open TBase (T Keep heap_alloc_new frozen_box)
open Tak
theorem tree_all {K : Nat} {b : By} : ∀ m, m <= 64 -> TQ K b m
  | 0, h => tree_of 0 h fun m' e => by omega
  | m + 1, h => tree_of (m + 1) h fun m' e => by obtain rfl : m = m' := by omega
                                                 exact tree_all m (by omega)
abbrev Pb (W : World) (P : Nat) (tv cv sv bv : Value) : Prop := W.heap[P]? = some (.cells #[tv, cv, sv, bv] 29 (0, 0))
theorem Pb.set0 {W : World} {P : Nat} {tv cv sv bv : Value} (h : Pb W P tv cv sv bv) (x : Value) : Pb (W.setCell ⟨P, 0, none⟩ x) P x cv sv bv := by unfold Pb; rw [YCb.block_set h]; rfl
theorem Pb.set1 {W : World} {P : Nat} {tv cv sv bv : Value} (h : Pb W P tv cv sv bv) (x : Value) : Pb (W.setCell ⟨P, 1, none⟩ x) P tv x sv bv := by unfold Pb; rw [YCb.block_set h]; rfl
theorem Pb.set2 {W : World} {P : Nat} {tv cv sv bv : Value} (h : Pb W P tv cv sv bv) (x : Value) : Pb (W.setCell ⟨P, 2, none⟩ x) P tv cv x bv := by unfold Pb; rw [YCb.block_set h]; rfl
theorem Pb.set3 {W : World} {P : Nat} {tv cv sv bv : Value} (h : Pb W P tv cv sv bv) (x : Value) : Pb (W.setCell ⟨P, 3, none⟩ x) P tv cv sv x := by unfold Pb; rw [YCb.block_set h]; rfl
theorem ins_end {b : By} {s s1 s2 : Except Nat Nat} {x y : Int} (e1 : s1 = st (lf (roct b) s)) (h1 : ∀ v q, lf (roct b) s = .ok (v, q) -> x = v) (e2 : s2 = st (lf (rwhl b) s1)) (h2 : ∀ v q, lf (rwhl b) s1 = .ok (v, q) -> y = v) :
    s2 = st (lf (rins b) s) /\ ∀ v q, lf (rins b) s = .ok (v, q) -> ((x, y) : Ins) = v := by
  cases s with
  | error c => subst e1 e2; exact ⟨rfl, fun v q e => by cases e⟩
  | ok p =>
    simp only [lf] at e1 h1 ⊢
    unfold rins
    cases hc : roct b p with
    | error c => rw [hc] at e1; subst e1 e2; exact ⟨rfl, fun v q e => by cases e⟩
    | ok t =>
    obtain ⟨v1, p1⟩ := t
    obtain rfl := h1 _ _ hc
    rw [hc] at e1
    subst e1
    simp only [st, lf] at e2 h2
    simp only [bnd]
    cases hc2 : rwhl b p1 with
    | error c => rw [hc2] at e2; subst e2; exact ⟨rfl, fun v q e => by cases e⟩
    | ok t =>
    obtain ⟨v2, p2⟩ := t
    obtain rfl := h2 _ _ hc2
    rw [hc2] at e2
    subst e2
    exact ⟨rfl, fun v q e => by cases e; rfl⟩
def sV (v : Int) (s : Except Nat Nat) : Except Nat Nat := if v = 1 then s else fl s 0
def sE (b : By) (s : Except Nat Nat) : Except Nat Nat := match s with
  | .ok q => if q < b.length then .error q else .ok q
  | .error z => .error z
def Pr (b : By) (x : Pg) (s : Except Nat Nat) : Prop := match s with
  | .error z => rprg b = .error z
  | .ok q => rprg b = .ok (x, q)
theorem prg_end {b : By} {v : Int} {t : List ByteArray} {c : List (List Ins)} {sx : List T} {k : List Bk} {s1 s2 s3 s4 s5 : Except Nat Nat}
    (e1 : s1 = st (roct b 0)) (h1 : ∀ x q, roct b 0 = .ok (x, q) -> v = x)
    (e2 : s2 = st (lf (rlst 16384 (rtxt b) b) (sV v s1))) (h2 : ∀ x q, lf (rlst 16384 (rtxt b) b) (sV v s1) = .ok (x, q) -> t = x)
    (e3 : s3 = st (lf (rlst 8192 (rlst 8192 (rins b) b) b) s2)) (h3 : ∀ x q, lf (rlst 8192 (rlst 8192 (rins b) b) b) s2 = .ok (x, q) -> c = x)
    (e4 : s4 = stT (lfT (rlstT 4096 (fun p _ => rnd b 64 p 0) b) s3 0)) (h4 : ∀ x q j, lfT (rlstT 4096 (fun p _ => rnd b 64 p 0) b) s3 0 = .ok (x, q, j) -> sx = x)
    (e5 : s5 = st (lf (rlst 8192 (rblk b) b) s4)) (h5 : ∀ x q, lf (rlst 8192 (rblk b) b) s4 = .ok (x, q) -> k = x) : Pr b ⟨t, c, sx, k⟩ (sE b s5) := by
  unfold Pr rprg
  cases hc : roct b 0 with
  | error z =>
    rw [hc] at e1
    have e : sV v s1 = .error z := by subst e1; unfold sV; split <;> rfl
    rw [e] at e2
    subst e2
    subst e3
    subst e4
    subst e5
    rfl
  | ok w =>
  obtain ⟨v', p1⟩ := w
  obtain rfl := h1 _ _ hc
  rw [hc] at e1
  subst e1
  simp only [bnd]
  by_cases hv : v = 1
  · rw [if_pos hv]
    have e : sV v (st (Except.ok (v, p1) : Rs Int)) = .ok p1 := by unfold sV; rw [if_pos hv]; rfl
    rw [e] at e2 h2
    simp only [lf] at e2 h2
    cases hc2 : rlst 16384 (rtxt b) b p1 with
    | error z => rw [hc2] at e2; subst e2; subst e3; subst e4; subst e5; rfl
    | ok w =>
    obtain ⟨x2, p2⟩ := w
    obtain rfl := h2 _ _ hc2
    rw [hc2] at e2
    subst e2
    simp only [st, lf] at e3 h3
    try simp only
    cases hc3 : rlst 8192 (rlst 8192 (rins b) b) b p2 with
    | error z => rw [hc3] at e3; subst e3; subst e4; subst e5; rfl
    | ok w =>
    obtain ⟨x3, p3⟩ := w
    obtain rfl := h3 _ _ hc3
    rw [hc3] at e3
    subst e3
    simp only [lfT] at e4 h4
    try simp only
    cases hc4 : rlstT 4096 (fun p _ => rnd b 64 p 0) b p3 0 with
    | error z => rw [hc4] at e4; subst e4; subst e5; rfl
    | ok w =>
    obtain ⟨x4, p4, j⟩ := w
    obtain rfl := h4 _ _ _ hc4
    rw [hc4] at e4
    subst e4
    simp only [stT, lf] at e5 h5
    try simp only
    cases hc5 : rlst 8192 (rblk b) b p4 with
    | error z => rw [hc5] at e5; subst e5; rfl
    | ok w =>
    obtain ⟨x5, p5⟩ := w
    obtain rfl := h5 _ _ hc5
    rw [hc5] at e5
    subst e5
    simp only [st, sE]
    by_cases hq : p5 < b.length
    · rw [if_pos hq]; simp only; rw [if_pos hq]
    · rw [if_neg hq]; simp only; rw [if_neg hq]
  · rw [if_neg hv]
    have e : sV v (st (Except.ok (v, p1) : Rs Int)) = .error 0 := by unfold sV; rw [if_neg hv]; rfl
    rw [e] at e2
    subst e2
    subst e3
    subst e4
    subst e5
    rfl
theorem lstT_eq {f : Nat -> Nat -> Rt T} {lim : Nat} {b : By} {s : Except Nat Nat} {n k : Nat} (h : ∀ y q, lf (rcnt lim b) s = .ok (y, q) -> n = y) : lfT (rlstT lim f b) s k = lfT (rmanyT f n) (st (lf (rcnt lim b) s)) k := by
  cases s with
  | error z => rfl
  | ok p =>
    have h : ∀ y q, rcnt lim b p = .ok (y, q) -> n = y := h
    show rlstT lim f b p k = lfT (rmanyT f n) (st (rcnt lim b p)) k
    unfold rlstT
    cases hc : rcnt lim b p with
    | error z => rfl
    | ok t =>
      obtain ⟨y, q⟩ := t
      obtain rfl := h y q hc
      rfl
abbrev p0 : Value := .agg #[.slice none 0 0, .slice none 0 0, .slice none 0 0, .slice none 0 0]
def DR (a : Except (Nat × Nat) Pg) (w : World) (e : Ending) (w' : World) : Prop := Below w.heap.size w w' /\ match a with
  | .ok x => ∃ v, e = .returned (.tuple #[v, .int .i64 0, .int .i64 0]) /\ YRp.HvP (fun b => w.heap.size <= b /\ b < w'.heap.size) w' v x
  | .error (p, c) => e = .returned (.tuple #[p0, .int .i64 (p : Nat), .int .i64 (c : Nat)])
theorem hdB_parts {S : Nat -> Prop} {w : World} {cc : List Value} {x : Bk} (h : HdB S w cc x) : ∃ a1 a2 a3 b1 b2 b3, cc = [.int .i64 x.d, .slice a1 a2 a3, .slice b1 b2 b3] := by
  obtain ⟨v, u, rfl, -, h1, h2⟩ := h
  obtain ⟨a1, a2, a3, rfl⟩ := RrS.slice h1
  obtain ⟨b1, b2, b3, rfl⟩ := RrS.slice h2
  exact ⟨_, _, _, _, _, _, rfl⟩
theorem pg_rows {W : World} {lo L1 L2 L3 L4 : Nat} {v1 v2 v3 v4 : Value} {x1 : List ByteArray} {x2 : List (List Ins)} {x3 : List T} {x4 : List Bk} (h1 : RowI HdS 9 1 L1 W v1 x1) (l1 : x1.length <= 16384) (h2 : RowI HdC 63 1 L2 W v2 x2) (l2 : x2.length <= 8192) (h3 : RowI (HdT 65) 68 4 L3 W v3 x3) (l3 : x3.length <= 4096) (h4 : RowI HdB 74 3 L4 W v4 x4) (l4 : x4.length <= 8192) (k1 : lo <= L1) (k2 : lo <= L2) (k3 : lo <= L3) (k4 : lo <= L4) : YRp.HvP (fun b => lo <= b /\ b < W.heap.size) W (.agg #[v1, v2, v3, v4]) ⟨x1, x2, x3, x4⟩ := by
  obtain ⟨a1, b1, c1, rfl⟩ := RowI.slice h1
  obtain ⟨a2, b2, c2, rfl⟩ := RowI.slice h2
  obtain ⟨a3, b3, c3, rfl⟩ := RowI.slice h3
  obtain ⟨a4, b4, c4, rfl⟩ := RowI.slice h4
  exact ⟨_, _, _, _, _, _, _, _, _, _, _, _, rfl, RowI.rr h1 (Nat.le_trans l1 (by decide)) (fun b h1 h => ⟨Nat.le_trans k1 h1, h⟩) (YRa.ly_s (fun b hb => ⟨Nat.le_trans k1 hb.1, hb.2.1⟩)), RowI.rr h2 (Nat.le_trans l2 (by decide)) (fun b h1 h => ⟨Nat.le_trans k2 h1, h⟩) (YRf.ly_c (fun b hb => ⟨Nat.le_trans k2 hb.1, hb.2.1⟩)), YRt.rrs_inl (RowI.rr h3 (Nat.le_trans l3 (by decide)) (fun b h1 h => ⟨Nat.le_trans k3 h1, h⟩) (YRt.ly_t (fun b hb => ⟨Nat.le_trans k3 hb.1, hb.2.1⟩))) l3, RowI.rr h4 (Nat.le_trans l4 (by decide)) (fun b h1 h => ⟨Nat.le_trans k4 h1, h⟩) (YRf.ly_b (fun b hb => ⟨Nat.le_trans k4 hb.1, hb.2.1⟩))⟩
theorem sE_eq {b : By} {s : Except Nat Nat} {p n : Nat} {U : Bool} (hp : ∀ q, s = .ok q -> p = q) (hn : n = b.length) (hU : (!bad s && decide ((p : Int) < (n : Int))) = U) : (if U = true then fl s p else s) = sE b s := by
  cases s with
  | error z => have : U = false := by rw [<- hU]; rfl
               subst this; rfl
  | ok q =>
    obtain rfl := hp q rfl
    subst hn
    by_cases h : p < b.length
    · have : U = true := by rw [<- hU]; simp [bad]; omega
      subst this
      show Except.error p = if _ then _ else _
      rw [if_pos h]
    · have : U = false := by rw [<- hU]; simp [bad]; omega
      subst this
      show Except.ok p = if _ then _ else _
      rw [if_neg h]
theorem decode_long {w : World} {ia : Option Addr} {n cap : Nat} (hn : (1048576 : Int) < (n : Int)) :
    Calls prog 7 #[.slice ia n cap] w fun e w' => e = .returned (.tuple #[p0, .int .i64 0, .int .i64 2101]) /\ Below w.heap.size w w' := by
  obtain ⟨W0, hW0⟩ : ∃ W, w.alloc (.cells #[.slice none 0 0, .slice none 0 0, .slice none 0 0, .slice none 0 0] 29) = W := ⟨_, rfl⟩
  have b0 : Below w.heap.size w W0 := by rw [<- hW0]; exact (Below.refl _ w).alloc (Nat.le_refl _) _
  have g0 : Pb W0 w.heap.size (.slice none 0 0) (.slice none 0 0) (.slice none 0 0) (.slice none 0 0) := by rw [<- hW0]; exact heap_alloc_new w _
  have z0 := cell_of g0 0 _ rfl
  have z1 := cell_of g0 1 _ rfl
  have z2 := cell_of g0 2 _ rfl
  have z3 := cell_of g0 3 _ rfl
  have f0 := frozen_box g0 0
  have f1 := frozen_box g0 1
  have f2 := frozen_box g0 2
  have f3 := frozen_box g0 3
  obtain ⟨W6, hW6⟩ : ∃ W6, ((((W0.setCell ⟨w.heap.size, 0, none⟩ (.slice none 0 0)).setCell ⟨w.heap.size, 1, none⟩ (.slice none 0 0)).setCell ⟨w.heap.size, 2, none⟩ (.slice none 0 0)).setCell ⟨w.heap.size, 3, none⟩ (.slice none 0 0)) = W6 := ⟨_, rfl⟩
  obtain ⟨q1, g6⟩ := YRg.set4 _ _ _ _ g0 hW6
  have p0 := cell_of q1 0 _ rfl
  have p1 := cell_of q1 1 _ rfl
  have p2 := cell_of q1 2 _ rfl
  have p3 := cell_of q1 3 _ rfl
  have HB : Hid (Below w.heap.size w W6) := b0.trans ⟨g6.os, g6.tape, g6.output, g6.size, fun k hk => g6.block k (by have := b0.size; omega) (fun e => by have := Option.some.inj e; omega)⟩
  clear b0 g0 q1 g6
  go_enter func7, ntmps7
  go_wp2_with fail
  try rw [hW0]
  try rw [hW6]
  refine bodyPost_ret (v := .tuple #[ZQj.p0, .int .i64 0, .int .i64 2101]) (by simp [results, results7, go_sem, p0, p1, p2, p3]) rfl ?_
  exact ⟨rfl, HB.out⟩
theorem decode_d {w : World} {ia : Option Addr} {n cap : Nat} {b : By} (hS : Seen w (.slice ia n cap) b) (hl : ∀ g, ia = some g -> g.block < w.heap.size) :
    Calls prog 7 #[.slice ia n cap] w fun e w' => DR (dec b) w e w' := by
  have hnb : n = b.length := by obtain ⟨a, c, e, -⟩ := hS; cases e; rfl
  by_cases hn : 1048576 < b.length
  · refine (decode_long (ia := ia) (n := n) (cap := cap) (w := w) (by omega)).mono ?_
    rintro e w' ⟨rfl, hb⟩
    rw [show dec b = .error (0, 2101) by unfold dec; rw [if_pos hn]]
    exact ⟨hb, rfl⟩
  obtain ⟨i0, hi, hz0, hz1, hz2⟩ := info_parts YRa.info_s
  obtain ⟨j0, hj, hy0, hy1, hy2⟩ := info_parts TBase.infoT
  obtain ⟨k0, hk', hk0, hk1, hk2⟩ := info_parts YRf.info_b
  obtain ⟨n0, hn', hn0, hn1, hn2⟩ := info_parts YRe.info_n
  obtain ⟨c0, hc', hc0, hc1, hc2'⟩ := info_parts YRf.info_c
  obtain ⟨B0, hB0⟩ : ∃ B, w.heap.size = B := ⟨_, rfl⟩
  obtain ⟨W0, hW0⟩ : ∃ W, w.alloc (.cells #[.slice none 0 0, .slice none 0 0, .slice none 0 0, .slice none 0 0] 29) = W := ⟨_, rfl⟩
  have b0 : Below w.heap.size w W0 := by rw [<- hW0]; exact (Below.refl _ w).alloc (Nat.le_refl _) _
  have s0 : W0.heap.size = B0 + 1 := by rw [<- hW0, <- hB0]; simp
  have g0 : Pb W0 B0 (.slice none 0 0) (.slice none 0 0) (.slice none 0 0) (.slice none 0 0) := by rw [<- hW0, <- hB0]; exact heap_alloc_new w _
  obtain ⟨R, hR⟩ : ∃ R, W0.heap.size = R := ⟨_, rfl⟩
  obtain ⟨W1, hW1⟩ : ∃ W, W0.alloc (.cells #[.slice ia n cap, .int .i64 0, .bool false, .int .i64 0] 58) = W := ⟨_, rfl⟩
  have b1 : Below W0.heap.size W0 W1 := by rw [<- hW1]; exact (Below.refl _ W0).alloc (Nat.le_refl _) _
  have s1 : W1.heap.size = R + 1 := by rw [<- hW1, <- hR]; simp
  have g1 : W1.heap[R]? = some (.cells #[.slice ia n cap, .int .i64 0, .bool false, .int .i64 0] 58 (0, 0)) := by rw [<- hW1, <- hR]; exact heap_alloc_new W0 _
  obtain ⟨P, hP⟩ : ∃ P, W1.heap.size = P := ⟨_, rfl⟩
  obtain ⟨V1, hV1⟩ : ∃ W, W1.alloc (.cells #[.slice none 0 0, .slice none 0 0, .slice none 0 0, .slice none 0 0] 29) = W := ⟨_, rfl⟩
  have b2 : Below W1.heap.size W1 V1 := by rw [<- hV1]; exact (Below.refl _ W1).alloc (Nat.le_refl _) _
  have s2 : V1.heap.size = P + 1 := by rw [<- hV1, <- hP]; simp
  have g2 : Pb V1 P (.slice none 0 0) (.slice none 0 0) (.slice none 0 0) (.slice none 0 0) := by rw [<- hV1, <- hP]; exact heap_alloc_new W1 _
  have HBP : Hid (B0 < R /\ R < P /\ w.heap.size = B0) := ⟨by omega, by omega, hB0⟩
  have hQ1 : Qs B0 V1 R b (.ok 0) := by
    rw [<- hB0]
    exact ⟨by omega, by have := b0.size; have := b1.size; have := b2.size; omega, by omega, ia, n, cap, seen_low hS hl (b0.trans ((b1.mono b0.size).trans (b2.mono (Nat.le_trans b0.size b1.size)))), hl, Nat.zero_le _, (b2.block R (by omega)).trans g1⟩
  obtain ⟨V2, hV2⟩ : ∃ W, (((V1.setCell ⟨P, 0, none⟩ (.slice none 0 0)).setCell ⟨P, 1, none⟩ (.slice none 0 0)).setCell ⟨P, 2, none⟩ (.slice none 0 0)).setCell ⟨P, 3, none⟩ (.slice none 0 0) = W := ⟨_, rfl⟩
  obtain ⟨m2, g3⟩ := YRg.set4 _ _ _ _ g2 hV2
  have u0 := cell_of g2 0 _ rfl
  have u1 := cell_of g2 1 _ rfl
  have u2 := cell_of g2 2 _ rfl
  have u3 := cell_of g2 3 _ rfl
  have v0 := frozen_box g2 0
  have v1 := frozen_box g2 1
  have v2 := frozen_box g2 2
  have v3 := frozen_box g2 3
  have hg0 : Pb V1 B0 (.slice none 0 0) (.slice none 0 0) (.slice none 0 0) (.slice none 0 0) := (b2.block B0 (by omega)).trans ((b1.block B0 (by omega)).trans g0)
  have HE0 : Hid (Qs B0 V2 R b (.ok 0) /\ Pb V2 P (.slice none 0 0) (.slice none 0 0) (.slice none 0 0) (.slice none 0 0) /\ Pb V2 B0 (.slice none 0 0) (.slice none 0 0) (.slice none 0 0) (.slice none 0 0) /\ Below w.heap.size w V2 /\ P < V2.heap.size) := by
    have hz := g3.size
    exact ⟨hQ1.row (lo := P) g3 (by omega) (fun r hr => by cases hr; exact Nat.le_refl _), m2, (g3.block B0 (by omega) (fun e => by cases e; omega)).trans hg0, (b0.trans ((b1.mono b0.size).trans (b2.mono (Nat.le_trans b0.size b1.size)))).trans ⟨g3.os, g3.tape, g3.output, g3.size, fun k hk => g3.block k (by omega) (fun e => by cases e; omega)⟩, by omega⟩
  have cV := byte_s HE0.out.1
  have d0 : decide ((1048576 : Int) < (n : Int)) = false := by simp; omega
  obtain ⟨M, hM⟩ : ∃ M : Nat, 64 = M := ⟨_, rfl⟩
  have HTA : Hid (TQ B0 b M) := by rw [<- hM]; exact tree_all 64 (by omega)
  have HM64 : Hid (64 = M) := hM
  clear hM
  have HNB : Hid (n = b.length /\ ¬ 1048576 < b.length) := ⟨hnb, hn⟩
  clear hS hl hn b0 g0 b1 g1 b2 g2 s0 s1 s2 hQ1 m2 g3 hg0 hnb
  go_enter func7, ntmps7
  go_upto_region 1 with fail
  try rw [hW0]
  go_upto_region 4 with fail
  try rw [hW1]
  go_wp2_with fail
  try rw [hV2]
  refine cV.mono ?_
  rintro e W3 ⟨g3, v, x0, rfl, ⟨rfl, hb0⟩, q3, x3⟩
  change Qs B0 W3 R b (st (roct b 0)) at q3
  change ∀ y r, roct b 0 = .ok (y, r) -> x0 = y at x3
  obtain ⟨t1, ht1⟩ : ∃ s, st (roct b 0) = s := ⟨_, rfl⟩
  rw [ht1] at q3
  have HT1 : Hid (t1 = st (roct b 0) /\ ∀ y r, roct b 0 = .ok (y, r) -> x0 = y) := ⟨ht1.symm, x3⟩
  have HE3 : Hid (Cx (fun j => j = R \/ j = P) V2 W3 /\ Pb W3 P (.slice none 0 0) (.slice none 0 0) (.slice none 0 0) (.slice none 0 0) /\ Qs B0 W3 R b t1) := ⟨Cx.of g3 (.inl rfl), (g3.block P HE0.out.2.2.2.2 (fun e => by have := HBP.out; cases e; omega)).trans HE0.out.2.1, q3⟩
  clear g3 q3 x3 ht1 cV u0 u1 u2 u3 v0 v1 v2 v3 hV1 hV2 hW0 hW1 hR hP d0 hB0
  obtain ⟨s0, hs0⟩ : ∃ s, sV x0 t1 = s := ⟨_, rfl⟩
  have HS0 : Hid (sV x0 t1 = s0) := hs0
  obtain ⟨C, hC⟩ : ∃ C, (x0 != 1) = C := ⟨_, rfl⟩
  have HCC : Hid ((x0 != 1) = C) := hC
  clear hs0
  go_upto_if 27 with fail
  go_cut [] from 28 to 30 (fun wx => Cx (fun j => j = R \/ j = P) V2 wx /\ Pb wx P (.slice none 0 0) (.slice none 0 0) (.slice none 0 0) (.slice none 0 0) /\ Qs B0 wx R b s0)
  case first =>
    clear hC
    cases C with
    | false =>
      have hv : x0 = 1 := by have := HCC.out; simpa using this
      obtain rfl : t1 = s0 := by rw [<- HS0.out]; unfold sV; rw [if_pos hv]
      clear hv
      go_wp2_with fail
      go_meet
      exact HE3.out
    | true =>
      have hv : ¬ x0 = 1 := by have := HCC.out; simpa using this
      obtain rfl : s0 = fl t1 0 := by rw [<- HS0.out]; unfold sV; rw [if_neg hv]
      clear hv
      have cF : Calls prog 23 #[ptw R, .int .i64 0] W3 _ := fail_c HE3.out.2.2 0
      go_wp2_with fail
      refine cF.mono ?_
      rintro e w5 ⟨⟨r, rfl⟩, g5, q5⟩
      have H5 : Hid (Cx (fun j => j = R \/ j = P) V2 w5 /\ Pb w5 P (.slice none 0 0) (.slice none 0 0) (.slice none 0 0) (.slice none 0 0) /\ Qs B0 w5 R b (fl t1 0)) := ⟨HE3.out.1.trans (Cx.of g5 (.inl rfl)), (g5.block P (Array.getElem?_eq_some_iff.1 HE3.out.2.1).1 (fun e => by have := HBP.out; cases e; omega)).trans HE3.out.2.1, q5⟩
      clear g5 q5 cF
      go_wp2_with fail
      go_meet
      exact H5.out
  case rest =>
  obtain ⟨X0, hX0⟩ : ∃ X, X = wc := ⟨_, rfl⟩
  subst hX0
  have HX0 : Hid _ := hcut
  clear hcut hC
  have cN := count_s 16384 (by omega) HX0.out.2.2
  go_wp2_with fail
  refine cN.mono ?_
  rintro e Wk1 ⟨g8, v, n1, rfl, ⟨rfl, hn⟩, q8, x8⟩
  obtain ⟨c1, hc1⟩ : ∃ S, st (lf (rcnt 16384 b) s0) = S := ⟨_, rfl⟩
  rw [hc1] at q8
  obtain ⟨a1, ha1⟩ : ∃ a, lf (rmany (rtxt b) n1) c1 = a := ⟨_, rfl⟩
  have HAL1 : Hid (lf (rlst 16384 (rtxt b) b) s0 = a1) := by
    show _ = _
    rw [lst_eq x8, hc1, ha1]
  have HN : Hid (n1 <= 16384) := hn
  have HA : Hid (lf (rmany (rtxt b) n1) c1 = a1) := ha1
  obtain ⟨LO1, hLO⟩ : ∃ L, Wk1.heap.size = L := ⟨_, rfl⟩
  have HP1 : Hid (Cx (fun j => j = R \/ j = P) X0 Wk1) := Cx.of g8 (.inl rfl)
  have HE : Hid (Pb Wk1 P (.slice none 0 0) (.slice none 0 0) (.slice none 0 0) (.slice none 0 0) /\ Qs B0 Wk1 R b c1) := ⟨(g8.block P (Array.getElem?_eq_some_iff.1 HX0.out.2.1).1 (fun e => by have := HBP.out; cases e; omega)).trans HX0.out.2.1, q8⟩
  have HOF : Hid (R < P /\ P < LO1 /\ B0 < R /\ Wk1.heap.size = LO1) := ⟨HBP.out.2.1, by rw [<- hLO]; exact (Array.getElem?_eq_some_iff.1 HE.out.1).1, HBP.out.1, hLO⟩
  clear g8 q8 x8 hn hc1 ha1 hLO cN
  go_upto_block 0 with fail
  go_cut [] from 32 to 50 (fun wx => ∃ (nv : Value) (xs : List (ByteArray)), xs.length <= n1 /\ Cx (fun j => j = R \/ j = P) Wk1 wx /\ Pb wx P (nv) (.slice none 0 0) (.slice none 0 0) (.slice none 0 0) /\ RowI HdS 9 1 LO1 wx nv xs /\ Qs B0 wx R b (st a1) /\ ∀ y q, a1 = .ok (y, q) -> xs = y)
  case first => as_aux_lemma =>
    go_wp2_with fail
    go_loopw [8] (fun i wr => ∃ (q1 : Nat) (nv : Value) (xs : List (ByteArray)) (s' : Except Nat Nat), i = .int .i64 q1 /\ q1 <= n1 /\ xs.length = q1 /\ Hid (Cx (fun j => j = R \/ j = P) Wk1 wr /\ Pb wr P (nv) (.slice none 0 0) (.slice none 0 0) (.slice none 0 0) /\ RowI HdS 9 1 LO1 wr nv xs /\ Qs B0 wr R b s') /\ Hid (LI (rtxt b) n1 q1 xs s' a1)) (fun i _ => n1 - (intOf i).toNat)
    case atStart => exact ⟨0, _, [], c1, rfl, by omega, rfl, ⟨Cx.refl, HE.out.1, RowI.nil _ _ _ _ _, HE.out.2⟩, by rw [<- HA.out]; exact li_0⟩
    case round =>
      obtain ⟨q1, nv, xs, s', rfl, hq, hxl, HGR, HS⟩ := hrel
      obtain ⟨Wr, hWr⟩ : ∃ W, W = wr := ⟨_, rfl⟩
      subst hWr
      obtain ⟨va, vm, vc, rfl⟩ := RowI.slice HGR.out.2.2.1
      obtain ⟨ja, jn, jc, jp, jl, hx, -, -⟩ := HGR.out.2.2.2.cells
      obtain ⟨BB, hBB⟩ : ∃ B, bad s' = B := ⟨_, rfl⟩
      rw [hBB] at hx
      have zf := cell_of hx 2 _ rfl
      clear hx
      by_cases hgo : q1 < n1 /\ BB = false
      · obtain ⟨hlt, rfl⟩ := hgo
        obtain ⟨p', rfl⟩ : ∃ p, s' = .ok p := by cases s' with | ok p => exact ⟨p, rfl⟩ | error z => cases hBB
        have HXR : Hid (P < Wr.heap.size /\ R < Wr.heap.size /\ LO1 <= Wr.heap.size) := ⟨(Array.getElem?_eq_some_iff.1 HGR.out.2.1).1, HGR.out.2.2.2.lt, by rw [<- HOF.out.2.2.2]; exact HGR.out.1.size⟩
        have cx := text_s (Qs.drew HGR.out.2.2.2)
        have zl := cell_of HGR.out.2.1 0 _ rfl
        have hn4 : n1 <= 16384 := HN.out
        clear hBB
        go_wp2_with fail
        refine wp_region_held_drew (S := fun _ => True) (by kernel_rfl) trivial (fun hHeld => ?_)
        refine tkH 0 rfl ?_; try simp only [ptH]
        refine tkH 2 rfl ?_; try simp only [ptH]
        refine rdH [1, 3] ?_
        refine AllReadyH.cons rfl (fun K0 hK => ?_) (AllReadyH.cons rfl (fun K0 hK => ?_) (AllReadyH.nil))
        · skip
          go_simp
          refine hK.out _ _ trivial (fun hHeld => ?_)
          clear hK K0
          try simp only [ptH]
          refine rdH [3] ?_
          refine alH rfl fun K0 hK => ?_
          go_simp
          refine cx.mono ?_
          rintro e w2 ⟨g2, ve, x, rfl, ⟨rfl, hxb⟩, q2, x2⟩
          have HC2 : Hid (Cx (fun j => j = R) Wr w2) := Cx.of (Gx.trans (Gx.of (Below.refl Wr.heap.size Wr).drew : Gx R Wr Wr.drew) g2) rfl
          have HQ2' : Hid (Qs B0 w2 R b (st (rtxt b p'))) := q2
          have HXB : Hid (x.size <= 4096) := hxb
          have HX2 : Hid (∀ y q, rtxt b p' = .ok (y, q) -> x = y) := x2
          clear g2 q2 x2 hxb
          obtain ⟨W3, hW3⟩ : ∃ W, w2.alloc (.cells #[.string x] 9) = W := ⟨_, rfl⟩
          have b3 : Below w2.heap.size w2 W3 := by rw [<- hW3]; exact (Below.refl _ w2).alloc (Nat.le_refl _) _
          have n3 : W3.heap[w2.heap.size]? = some (.cells #[.string x] 9 (0, 0)) := by rw [<- hW3]; exact heap_alloc_new w2 _
          obtain ⟨css, k1, k2, k3, k4, k5⟩ := rowi_push sS HGR.out.2.2.1 HC2.out.size (fun k h1 h2 => HC2.out.block k h2 (by have := HOF.out; rintro rfl; omega)) (c := [.string x]) (x := x) (S := fun g => Wr.heap.size <= g /\ g < w2.heap.size) ⟨rfl, by have := HXB.out; show x.size <= _; omega⟩ (fun b hb => ⟨by have := HXR.out; have := hb.1; omega, hb.1, hb.2⟩) b3
          have HK1 := Hid.mk' k1
          have HK2 : Hid (_ /\ _ /\ _ /\ _) := And.intro k2 (And.intro k3 (And.intro k4 k5))
          have HN3 : Hid (W3.heap[w2.heap.size]? = some (.cells #[.string x] 9 (0, 0))) := n3
          have HC3 : Hid (Cx (fun j => j = R) Wr W3 /\ LO1 <= W3.heap.size) := ⟨HC2.out.trans (Cx.bel b3), by have := HC2.out.size; have := b3.size; have := HXR.out.2.2; omega⟩
          have HQ3' : Hid (Qs B0 W3 R b (st (rtxt b p'))) := HQ2'.out.below b3
          have hb2 := (HC2.out.block P HXR.out.1 (by have := HOF.out; rintro rfl; omega)).trans HGR.out.2.1
          have HB3 : Hid (Pb W3 P (Value.slice va vm vc) (.slice none 0 0) (.slice none 0 0) (.slice none 0 0)) := (HC3.out.1.block P HXR.out.1 (by have := HOF.out; rintro rfl; omega)).trans HGR.out.2.1
          have y0 := cell_of hb2 0 _ rfl
          have y1 := cell_of HB3.out 0 _ rfl
          clear b3 n3 k1 k2 k3 k4 k5 hb2
          refine hK.out _ _ trivial (fun hHeld => ?_)
          clear hK K0
          try simp only [ptH]
          refine rdH [4] ?_
          refine alH rfl fun K0 hK => ?_
          go_simp
          try rw [hW3]
          refine hK.out _ _ trivial (fun hHeld => ?_)
          clear hK K0
          try simp only [ptH]
          refine rdH [5] ?_
          refine alH rfl fun K0 hK => ?_
          refine ZQd.step_any rfl _ _ 24 rfl LO1 9 i0 (.string ⟨#[]⟩) 1 16 underlying24 hi hz0 hz1 hz2 rfl (by decide) _ _ _ rfl HK1.out _ _ [.string x] rfl rfl (ZQd.src_cells HN3.out) (by intro u hu; simp only [List.mem_cons, List.not_mem_nil, or_false] at hu; rcases hu with rfl; rfl) (by unfold maxLen; omega) (by omega) HC3.out.2 ?_
          intro v' W4 hown hgrow hnb
          have HF : Hid (W3.grownBy W4 (Value.slice va vm vc).ownBlock /\ RowI HdS 9 1 LO1 W4 v' (xs ++ [x])) := ⟨hgrow, RowI.snoc sS HK1.out HK2.out.1 HK2.out.2.1 HK2.out.2.2.1 HK2.out.2.2.2 rfl hgrow hown hnb⟩
          obtain ⟨va2, vm2, vc2, rfl⟩ := RowI.slice HF.out.2
          have HB4 : Hid (Pb W4 P (Value.slice va vm vc) (.slice none 0 0) (.slice none 0 0) (.slice none 0 0)) := (hgrow.block P (by have := HC3.out.2; have := HOF.out; omega) (fun e => by have := (World.ownsRow.lt HK1.out _ e.symm).1; have := HOF.out; omega)).trans HB3.out
          have y2 := cell_of HB4.out 0 _ rfl
          have r2 := frozen_box HB4.out 0
          clear hown hgrow hnb
          refine hK.out _ _ trivial (fun hHeld => ?_)
          clear hK K0
          try simp only [ptH]
          refine tkH 6 rfl ?_; try simp only [ptH]
          refine rdH [7] ?_
          refine alH rfl fun K0 hK => ?_
          go_simp
          refine hK.out _ _ trivial (fun hHeld => ?_)
          clear hK K0 hHeld
          try simp only [ptH]
          refine dnH ?_
          go_wp2_with fail
          go_roundw
          case rel =>
            have h1 := HOF.out
            have gs := gb_set W4 P 0 (.slice va2 vm2 vc2)
            have hlo := fun r hr => (World.ownsRow.lt HK1.out r hr).1
            have hl0 := HXR.out
            have c4 : Cx (fun j => j = R \/ j = P) Wk1 W4 := (HGR.out.1.trans (HC3.out.1.wide (fun k _ h => .inl h))).row HF.out.1 (fun r hr => by have := hlo r hr; omega)
            exact ⟨q1 + 1, _, xs ++ [x], st (rtxt b p'), by go_num, by omega, by simp [hxl], ⟨c4.trans (Cx.of (R := P) gs (.inr rfl)), Pb.set0 HB4.out _, rowi_own sS HF.out.2 (by omega) gs, (HQ3'.out.row (lo := LO1) HF.out.1 (by omega) hlo).row (lo := P) gs (by omega) (fun r hr => by cases hr; exact Nat.le_refl _)⟩, li_step hlt HS.out HX2.out⟩
          case measure => simp only [intOf]; omega
        · skip
          go_simp
          refine cx.mono ?_
          rintro e w2 ⟨g2, ve, x, rfl, ⟨rfl, hxb⟩, q2, x2⟩
          have HC2 : Hid (Cx (fun j => j = R) Wr w2) := Cx.of (Gx.trans (Gx.of (Below.refl Wr.heap.size Wr).drew : Gx R Wr Wr.drew) g2) rfl
          have HQ2' : Hid (Qs B0 w2 R b (st (rtxt b p'))) := q2
          have HXB : Hid (x.size <= 4096) := hxb
          have HX2 : Hid (∀ y q, rtxt b p' = .ok (y, q) -> x = y) := x2
          clear g2 q2 x2 hxb
          obtain ⟨W3, hW3⟩ : ∃ W, w2.alloc (.cells #[.string x] 9) = W := ⟨_, rfl⟩
          have b3 : Below w2.heap.size w2 W3 := by rw [<- hW3]; exact (Below.refl _ w2).alloc (Nat.le_refl _) _
          have n3 : W3.heap[w2.heap.size]? = some (.cells #[.string x] 9 (0, 0)) := by rw [<- hW3]; exact heap_alloc_new w2 _
          obtain ⟨css, k1, k2, k3, k4, k5⟩ := rowi_push sS HGR.out.2.2.1 HC2.out.size (fun k h1 h2 => HC2.out.block k h2 (by have := HOF.out; rintro rfl; omega)) (c := [.string x]) (x := x) (S := fun g => Wr.heap.size <= g /\ g < w2.heap.size) ⟨rfl, by have := HXB.out; show x.size <= _; omega⟩ (fun b hb => ⟨by have := HXR.out; have := hb.1; omega, hb.1, hb.2⟩) b3
          have HK1 := Hid.mk' k1
          have HK2 : Hid (_ /\ _ /\ _ /\ _) := And.intro k2 (And.intro k3 (And.intro k4 k5))
          have HN3 : Hid (W3.heap[w2.heap.size]? = some (.cells #[.string x] 9 (0, 0))) := n3
          have HC3 : Hid (Cx (fun j => j = R) Wr W3 /\ LO1 <= W3.heap.size) := ⟨HC2.out.trans (Cx.bel b3), by have := HC2.out.size; have := b3.size; have := HXR.out.2.2; omega⟩
          have HQ3' : Hid (Qs B0 W3 R b (st (rtxt b p'))) := HQ2'.out.below b3
          have hb2 := (HC2.out.block P HXR.out.1 (by have := HOF.out; rintro rfl; omega)).trans HGR.out.2.1
          have HB3 : Hid (Pb W3 P (Value.slice va vm vc) (.slice none 0 0) (.slice none 0 0) (.slice none 0 0)) := (HC3.out.1.block P HXR.out.1 (by have := HOF.out; rintro rfl; omega)).trans HGR.out.2.1
          have y0 := cell_of hb2 0 _ rfl
          have y1 := cell_of HB3.out 0 _ rfl
          clear b3 n3 k1 k2 k3 k4 k5 hb2
          refine hK.out _ _ trivial (fun hHeld => ?_)
          clear hK K0
          try simp only [ptH]
          refine rdH [1, 4] ?_
          refine AllReadyH.cons rfl (fun K0 hK => ?_) (AllReadyH.cons rfl (fun K0 hK => ?_) (AllReadyH.nil))
          · skip
            go_simp
            refine hK.out _ _ trivial (fun hHeld => ?_)
            clear hK K0
            try simp only [ptH]
            refine rdH [4] ?_
            refine alH rfl fun K0 hK => ?_
            go_simp
            try rw [hW3]
            refine hK.out _ _ trivial (fun hHeld => ?_)
            clear hK K0
            try simp only [ptH]
            refine rdH [5] ?_
            refine alH rfl fun K0 hK => ?_
            refine ZQd.step_any rfl _ _ 24 rfl LO1 9 i0 (.string ⟨#[]⟩) 1 16 underlying24 hi hz0 hz1 hz2 rfl (by decide) _ _ _ rfl HK1.out _ _ [.string x] rfl rfl (ZQd.src_cells HN3.out) (by intro u hu; simp only [List.mem_cons, List.not_mem_nil, or_false] at hu; rcases hu with rfl; rfl) (by unfold maxLen; omega) (by omega) HC3.out.2 ?_
            intro v' W4 hown hgrow hnb
            have HF : Hid (W3.grownBy W4 (Value.slice va vm vc).ownBlock /\ RowI HdS 9 1 LO1 W4 v' (xs ++ [x])) := ⟨hgrow, RowI.snoc sS HK1.out HK2.out.1 HK2.out.2.1 HK2.out.2.2.1 HK2.out.2.2.2 rfl hgrow hown hnb⟩
            obtain ⟨va2, vm2, vc2, rfl⟩ := RowI.slice HF.out.2
            have HB4 : Hid (Pb W4 P (Value.slice va vm vc) (.slice none 0 0) (.slice none 0 0) (.slice none 0 0)) := (hgrow.block P (by have := HC3.out.2; have := HOF.out; omega) (fun e => by have := (World.ownsRow.lt HK1.out _ e.symm).1; have := HOF.out; omega)).trans HB3.out
            have y2 := cell_of HB4.out 0 _ rfl
            have r2 := frozen_box HB4.out 0
            clear hown hgrow hnb
            refine hK.out _ _ trivial (fun hHeld => ?_)
            clear hK K0
            try simp only [ptH]
            refine tkH 6 rfl ?_; try simp only [ptH]
            refine rdH [7] ?_
            refine alH rfl fun K0 hK => ?_
            go_simp
            refine hK.out _ _ trivial (fun hHeld => ?_)
            clear hK K0 hHeld
            try simp only [ptH]
            refine dnH ?_
            go_wp2_with fail
            go_roundw
            case rel =>
              have h1 := HOF.out
              have gs := gb_set W4 P 0 (.slice va2 vm2 vc2)
              have hlo := fun r hr => (World.ownsRow.lt HK1.out r hr).1
              have hl0 := HXR.out
              have c4 : Cx (fun j => j = R \/ j = P) Wk1 W4 := (HGR.out.1.trans (HC3.out.1.wide (fun k _ h => .inl h))).row HF.out.1 (fun r hr => by have := hlo r hr; omega)
              exact ⟨q1 + 1, _, xs ++ [x], st (rtxt b p'), by go_num, by omega, by simp [hxl], ⟨c4.trans (Cx.of (R := P) gs (.inr rfl)), Pb.set0 HB4.out _, rowi_own sS HF.out.2 (by omega) gs, (HQ3'.out.row (lo := LO1) HF.out.1 (by omega) hlo).row (lo := P) gs (by omega) (fun r hr => by cases hr; exact Nat.le_refl _)⟩, li_step hlt HS.out HX2.out⟩
            case measure => simp only [intOf]; omega
          · skip
            go_simp
            try rw [hW3]
            refine hK.out _ _ trivial (fun hHeld => ?_)
            clear hK K0
            try simp only [ptH]
            refine rdH [1] ?_
            refine alH rfl fun K0 hK => ?_
            go_simp
            refine hK.out _ _ trivial (fun hHeld => ?_)
            clear hK K0
            try simp only [ptH]
            refine rdH [5] ?_
            refine alH rfl fun K0 hK => ?_
            refine ZQd.step_any rfl _ _ 24 rfl LO1 9 i0 (.string ⟨#[]⟩) 1 16 underlying24 hi hz0 hz1 hz2 rfl (by decide) _ _ _ rfl HK1.out _ _ [.string x] rfl rfl (ZQd.src_cells HN3.out) (by intro u hu; simp only [List.mem_cons, List.not_mem_nil, or_false] at hu; rcases hu with rfl; rfl) (by unfold maxLen; omega) (by omega) HC3.out.2 ?_
            intro v' W4 hown hgrow hnb
            have HF : Hid (W3.grownBy W4 (Value.slice va vm vc).ownBlock /\ RowI HdS 9 1 LO1 W4 v' (xs ++ [x])) := ⟨hgrow, RowI.snoc sS HK1.out HK2.out.1 HK2.out.2.1 HK2.out.2.2.1 HK2.out.2.2.2 rfl hgrow hown hnb⟩
            obtain ⟨va2, vm2, vc2, rfl⟩ := RowI.slice HF.out.2
            have HB4 : Hid (Pb W4 P (Value.slice va vm vc) (.slice none 0 0) (.slice none 0 0) (.slice none 0 0)) := (hgrow.block P (by have := HC3.out.2; have := HOF.out; omega) (fun e => by have := (World.ownsRow.lt HK1.out _ e.symm).1; have := HOF.out; omega)).trans HB3.out
            have y2 := cell_of HB4.out 0 _ rfl
            have r2 := frozen_box HB4.out 0
            clear hown hgrow hnb
            refine hK.out _ _ trivial (fun hHeld => ?_)
            clear hK K0
            try simp only [ptH]
            refine tkH 6 rfl ?_; try simp only [ptH]
            refine rdH [7] ?_
            refine alH rfl fun K0 hK => ?_
            go_simp
            refine hK.out _ _ trivial (fun hHeld => ?_)
            clear hK K0 hHeld
            try simp only [ptH]
            refine dnH ?_
            go_wp2_with fail
            go_roundw
            case rel =>
              have h1 := HOF.out
              have gs := gb_set W4 P 0 (.slice va2 vm2 vc2)
              have hlo := fun r hr => (World.ownsRow.lt HK1.out r hr).1
              have hl0 := HXR.out
              have c4 : Cx (fun j => j = R \/ j = P) Wk1 W4 := (HGR.out.1.trans (HC3.out.1.wide (fun k _ h => .inl h))).row HF.out.1 (fun r hr => by have := hlo r hr; omega)
              exact ⟨q1 + 1, _, xs ++ [x], st (rtxt b p'), by go_num, by omega, by simp [hxl], ⟨c4.trans (Cx.of (R := P) gs (.inr rfl)), Pb.set0 HB4.out _, rowi_own sS HF.out.2 (by omega) gs, (HQ3'.out.row (lo := LO1) HF.out.1 (by omega) hlo).row (lo := P) gs (by omega) (fun r hr => by cases hr; exact Nat.le_refl _)⟩, li_step hlt HS.out HX2.out⟩
            case measure => simp only [intOf]; omega
      · have HEND := li_end HS.out (fun h => by cases BB with | true => exact hBB | false => exact (hgo ⟨h, rfl⟩).elim) hq
        have HEN : Hid _ := HEND
        clear HEND hBB
        by_cases hlt : q1 < n1
        · obtain rfl : BB = true := by cases BB with | true => rfl | false => exact (hgo ⟨hlt, rfl⟩).elim
          clear hgo
          go_wp2_with fail
          go_meet
          exact ⟨_, xs, by omega, HGR.out.1, HGR.out.2.1, HGR.out.2.2.1, by rw [HEN.out.1]; exact HGR.out.2.2.2, HEN.out.2⟩
        · have d0 : decide ((q1 : Int) < (n1 : Int)) = false := by simp; omega
          clear hgo
          go_wp2_with fail
          go_meet
          exact ⟨_, xs, by omega, HGR.out.1, HGR.out.2.1, HGR.out.2.2.1, by rw [HEN.out.1]; exact HGR.out.2.2.2, HEN.out.2⟩
  case rest =>
  obtain ⟨nv, xs1, hxl, hcx, hpb, hrow, hqs, hxe⟩ := hcut
  obtain ⟨X1, hX1⟩ : ∃ X, X = wc := ⟨_, rfl⟩
  subst hX1
  obtain ⟨ra1, rm1, rc1, rfl⟩ := RowI.slice hrow
  have HR1 : Hid (xs1.length <= 16384 /\ RowI HdS 9 1 LO1 X1 (.slice ra1 rm1 rc1) xs1 /\ (∀ y q, a1 = .ok (y, q) -> xs1 = y) /\ Cx (fun j => j = R \/ j = P) Wk1 X1) := ⟨by have := HN.out; omega, hrow, hxe, hcx⟩
  have HX1 : Hid (Cx (fun j => j = R \/ j = P) X1 X1 /\ Pb X1 P ((.slice ra1 rm1 rc1)) (.slice none 0 0) (.slice none 0 0) (.slice none 0 0) /\ Qs B0 X1 R b (st a1)) := ⟨Cx.refl, hpb, hqs⟩
  have HOF1 := HOF
  clear hxl hcx hpb hrow hqs hxe HOF HN HE HA
  have cN := count_s 8192 (by omega) HX1.out.2.2
  go_wp2_with fail
  refine cN.mono ?_
  rintro e Wk2 ⟨g8, v, n2, rfl, ⟨rfl, hn⟩, q8, x8⟩
  obtain ⟨c2, hc2⟩ : ∃ S, st (lf (rcnt 8192 b) (st a1)) = S := ⟨_, rfl⟩
  rw [hc2] at q8
  obtain ⟨a2, ha2⟩ : ∃ a, lf (rmany (rlst 8192 (rins b) b) n2) c2 = a := ⟨_, rfl⟩
  have HAL2 : Hid (lf (rlst 8192 (rlst 8192 (rins b) b) b) (st a1) = a2) := by
    show _ = _
    rw [lst_eq x8, hc2, ha2]
  have HN : Hid (n2 <= 8192) := hn
  have HA : Hid (lf (rmany (rlst 8192 (rins b) b) n2) c2 = a2) := ha2
  obtain ⟨LO2, hLO⟩ : ∃ L, Wk2.heap.size = L := ⟨_, rfl⟩
  have HP2 : Hid (Cx (fun j => j = R \/ j = P) X1 Wk2) := Cx.of g8 (.inl rfl)
  have HE : Hid (Pb Wk2 P (.slice ra1 rm1 rc1) (.slice none 0 0) (.slice none 0 0) (.slice none 0 0) /\ Qs B0 Wk2 R b c2) := ⟨(g8.block P (Array.getElem?_eq_some_iff.1 HX1.out.2.1).1 (fun e => by have := HBP.out; cases e; omega)).trans HX1.out.2.1, q8⟩
  have HOF : Hid (R < P /\ P < LO2 /\ B0 < R /\ Wk2.heap.size = LO2) := ⟨HBP.out.2.1, by rw [<- hLO]; exact (Array.getElem?_eq_some_iff.1 HE.out.1).1, HBP.out.1, hLO⟩
  clear g8 q8 x8 hn hc2 ha2 hLO cN
  go_upto_block 2 with fail
  go_cut [] from 53 to 93 (fun wx => ∃ (nv : Value) (xs : List (List Ins)), xs.length <= n2 /\ Cx (fun j => j = R \/ j = P) Wk2 wx /\ Pb wx P (.slice ra1 rm1 rc1) (nv) (.slice none 0 0) (.slice none 0 0) /\ RowI HdC 63 1 LO2 wx nv xs /\ Qs B0 wx R b (st a2) /\ ∀ y q, a2 = .ok (y, q) -> xs = y)
  case first => as_aux_lemma =>
    go_wp2_with fail
    go_loopw [9, 10, 11, 12, 13] (fun i _ _ _ _ wr => ∃ (q1 : Nat) (nv : Value) (xs : List (List Ins)) (s' : Except Nat Nat), i = .int .i64 q1 /\ q1 <= n2 /\ xs.length = q1 /\ Hid (Cx (fun j => j = R \/ j = P) Wk2 wr /\ Pb wr P (.slice ra1 rm1 rc1) (nv) (.slice none 0 0) (.slice none 0 0) /\ RowI HdC 63 1 LO2 wr nv xs /\ Qs B0 wr R b s') /\ Hid (LI (rlst 8192 (rins b) b) n2 q1 xs s' a2)) (fun i _ _ _ _ _ => n2 - (intOf i).toNat)
    case atStart => exact ⟨0, _, [], c2, rfl, by omega, rfl, ⟨Cx.refl, HE.out.1, RowI.nil _ _ _ _ _, HE.out.2⟩, by rw [<- HA.out]; exact li_0⟩
    case round =>
      obtain ⟨q1, nv, xs, s', rfl, hq, hxl, HGR, HS⟩ := hrel
      obtain ⟨Wr, hWr⟩ : ∃ W, W = wr := ⟨_, rfl⟩
      subst hWr
      obtain ⟨va, vm, vc, rfl⟩ := RowI.slice HGR.out.2.2.1
      obtain ⟨ja, jn, jc, jp, jl, hx, -, -⟩ := HGR.out.2.2.2.cells
      obtain ⟨BB, hBB⟩ : ∃ B, bad s' = B := ⟨_, rfl⟩
      rw [hBB] at hx
      have zf := cell_of hx 2 _ rfl
      clear hx
      by_cases hgo : q1 < n2 /\ BB = false
      · obtain ⟨hlt, rfl⟩ := hgo
        obtain ⟨p', rfl⟩ : ∃ p, s' = .ok p := by cases s' with | ok p => exact ⟨p, rfl⟩ | error z => cases hBB
        have HXR : Hid (P < Wr.heap.size /\ R < Wr.heap.size /\ LO2 <= Wr.heap.size) := ⟨(Array.getElem?_eq_some_iff.1 HGR.out.2.1).1, HGR.out.2.2.2.lt, by rw [<- HOF.out.2.2.2]; exact HGR.out.1.size⟩
        have cx := count_s 8192 (by omega) HGR.out.2.2.2
        clear hBB
        go_wp2_with fail
        refine cx.mono ?_
        rintro e w2 ⟨g2, ve, m, rfl, ⟨rfl, hm⟩, q2, x2⟩
        obtain ⟨e1, he1⟩ : ∃ S, st (lf (rcnt 8192 b) (.ok p')) = S := ⟨_, rfl⟩
        rw [he1] at q2
        obtain ⟨aI, haI⟩ : ∃ a, lf (rmany (rins b) m) e1 = a := ⟨_, rfl⟩
        have HAI : Hid (rlst 8192 (rins b) b p' = aI) := by
          show _ = _
          rw [<- haI, <- he1]
          exact lst_eq (f := rins b) (lim := 8192) (b := b) (s := .ok p') (n := m) x2
        have HM : Hid (m <= 8192) := hm
        have HA2 : Hid (lf (rmany (rins b) m) e1 = aI) := haI
        have HW2 : Hid (Cx (fun j => j = R) Wr w2 /\ Qs B0 w2 R b e1 /\ R < w2.heap.size /\ Wr.heap.size <= w2.heap.size) := ⟨Cx.of g2 rfl, q2, q2.lt, g2.size⟩
        clear g2 q2 x2 hm he1 haI cx zf
        go_upto_block 4 with fail
        go_cut [10] from 67 to 87 (fun row wx => ∃ (ys : List Ins), ys.length <= m /\ Cx (fun j => j = R) w2 wx /\ RowI HdN 65 2 w2.heap.size wx row ys /\ Qs B0 wx R b (st aI) /\ ∀ y q, aI = .ok (y, q) -> ys = y)
        case first => as_aux_lemma =>
          go_wp2_with fail
          go_loopw [10, 12, 13] (fun row i _ wx => ∃ (q2 : Nat) (ys : List Ins) (s2 : Except Nat Nat), i = .int .i64 q2 /\ q2 <= m /\ ys.length = q2 /\ Hid (Cx (fun j => j = R) w2 wx /\ RowI HdN 65 2 w2.heap.size wx row ys /\ Qs B0 wx R b s2) /\ Hid (LI (rins b) m q2 ys s2 aI)) (fun _ i _ _ => m - (intOf i).toNat)
          case atStart => exact ⟨0, [], e1, rfl, by omega, rfl, ⟨Cx.refl, RowI.nil _ _ _ _ _, HW2.out.2.1⟩, by rw [<- HA2.out]; exact li_0⟩
          case round =>
            obtain ⟨q2, ys, s2, rfl, hq2, hyl, HGI, HSI⟩ := hrel
            obtain ⟨Wx, hWx⟩ : ∃ W, W = wr := ⟨_, rfl⟩
            subst hWx
            obtain ⟨va', vm', vc', rfl⟩ := RowI.slice HGI.out.2.1
            obtain ⟨ja, jn, jc, jp, jl, hx, -, -⟩ := HGI.out.2.2.cells
            obtain ⟨BI, hBI⟩ : ∃ B, bad s2 = B := ⟨_, rfl⟩
            rw [hBI] at hx
            have zf := cell_of hx 2 _ rfl
            clear hx
            by_cases hgo : q2 < m /\ BI = false
            · obtain ⟨hltI, rfl⟩ := hgo
              obtain ⟨pI, rfl⟩ : ∃ p, s2 = .ok p := by cases s2 with | ok p => exact ⟨p, rfl⟩ | error z => cases hBI
              have ca := byte_s HGI.out.2.2
              clear hBI
              go_wp2_with fail
              refine ca.mono ?_
              rintro e x1 ⟨ga, v, kk, rfl, ⟨rfl, hk⟩, qa, xa⟩
              obtain ⟨f1, hf1⟩ : ∃ S, st (lf (roct b) (.ok pI)) = S := ⟨_, rfl⟩
              rw [hf1] at qa
              have HF1 : Hid (f1 = st (lf (roct b) (.ok pI)) /\ ∀ y q, lf (roct b) (.ok pI) = .ok (y, q) -> kk = y) := ⟨hf1.symm, xa⟩
              have HX1' : Hid (Cx (fun j => j = R) Wx x1 /\ Qs B0 x1 R b f1 /\ i64 kk) := ⟨Cx.of ga rfl, qa, hk⟩
              have cb := whole_s HX1'.out.2.1
              clear ga qa xa hf1 hk ca zf
              go_wp2_with fail
              refine cb.mono ?_
              rintro e x2 ⟨gb, v, ii, rfl, ⟨rfl, hi2⟩, qb, xb⟩
              obtain ⟨e5, e6⟩ := ins_end HF1.out.1 HF1.out.2 (s2 := st (lf (rwhl b) f1)) rfl xb
              change st (lf (rwhl b) f1) = st (rins b pI) at e5
              rw [e5] at qb
              have HLI : Hid (LI (rins b) m (q2 + 1) (ys ++ [(kk, ii)]) (st (rins b pI)) aI) := li_step hltI HSI.out e6
              obtain ⟨W3, hW3⟩ : ∃ W, x2.alloc (.cells #[.int .i64 kk, .int .i64 ii] 65) = W := ⟨_, rfl⟩
              have b3 : Below x2.heap.size x2 W3 := by rw [<- hW3]; exact (Below.refl _ x2).alloc (Nat.le_refl _) _
              have n3 : W3.heap[x2.heap.size]? = some (.cells #[.int .i64 kk, .int .i64 ii] 65 (0, 0)) := by rw [<- hW3]; exact heap_alloc_new x2 _
              have hcx2 : Cx (fun j => j = R) Wx x2 := HX1'.out.1.trans (Cx.of gb rfl)
              obtain ⟨css, k1, k2, k3, k4, k5⟩ := rowi_push (S := fun g => Wx.heap.size <= g /\ g < x2.heap.size) sN HGI.out.2.1 hcx2.size (fun k h1 h2 => hcx2.block k h2 (by have := HW2.out.2.2.1; rintro rfl; omega)) (c := [.int .i64 kk, .int .i64 ii]) (x := (kk, ii)) ⟨rfl, HX1'.out.2.2, hi2⟩ (fun b hb => ⟨by have := HGI.out.1.size; have := hb.1; omega, hb.1, hb.2⟩) b3
              have HK2 : Hid (_ /\ _ /\ _ /\ _) := And.intro k2 (And.intro k3 (And.intro k4 k5))
              have HQ6 : Hid (Cx (fun j => j = R) w2 W3 /\ Qs B0 W3 R b (st (rins b pI))) := ⟨(HGI.out.1.trans hcx2).trans (Cx.bel b3), qb.below b3⟩
              have hcl := src_of n3
              have hsz : w2.heap.size <= W3.heap.size := HQ6.out.1.size
              have hl3 := k1.1
              have hn8 : m <= 8192 := HM.out
              clear gb xb qb e5 e6 b3 n3 hcx2 k2 k3 k4 k5 hi2 cb
              go_wp2_with (first
                | (at_builtin; (try rw [hW3]); refine YAp.app_seen rfl _ _ 63 rfl w2.heap.size 65 n0 (.agg #[.int .i64 0, .int .i64 0]) 2 16 underlying63 hn' hn0 hn1 hn2 rfl (by decide) _ _ _ rfl k1 _ 1 _ [.int .i64 kk, .int .i64 ii] rfl hcl rfl (by intro u hu; simp only [List.mem_cons, List.not_mem_nil, or_false] at hu; rcases hu with rfl | rfl <;> rfl) (by unfold maxLen; omega) (by omega) hsz ?_))
              intro v' W4 hown hgrow hnb
              have HF : Hid (Cx (fun j => j = R) w2 W4 /\ RowI HdN 65 2 w2.heap.size W4 v' (ys ++ [(kk, ii)]) /\ Qs B0 W4 R b (st (rins b pI))) := ⟨HQ6.out.1.row hgrow (fun r hr => (World.ownsRow.lt k1 r hr).1), RowI.snoc sN k1 HK2.out.1 HK2.out.2.1 HK2.out.2.2.1 HK2.out.2.2.2 rfl hgrow (by rw [hyl]; exact hown) hnb, HQ6.out.2.row (lo := w2.heap.size) hgrow HW2.out.2.2.1 (fun r hr => (World.ownsRow.lt k1 r hr).1)⟩
              clear hown hgrow hnb k1 hcl
              go_wp2_with fail
              go_roundw
              case rel => exact ⟨q2 + 1, ys ++ [(kk, ii)], st (rins b pI), by go_num, by omega, by simp [hyl], HF, HLI⟩
              case measure => simp only [intOf]; omega
            · have HEND := li_end HSI.out (fun h => by cases BI with | true => exact hBI | false => exact (hgo ⟨h, rfl⟩).elim) hq2
              have HEN : Hid _ := HEND
              clear HEND hBI
              by_cases hltI : q2 < m
              · obtain rfl : BI = true := by cases BI with | true => rfl | false => exact (hgo ⟨hltI, rfl⟩).elim
                clear hgo
                go_wp2_with fail
                go_meet
                exact ⟨ys, by omega, HGI.out.1, HGI.out.2.1, by rw [HEN.out.1]; exact HGI.out.2.2, HEN.out.2⟩
              · have d0 : decide ((q2 : Int) < (m : Int)) = false := by simp; omega
                clear hgo
                go_wp2_with fail
                go_meet
                exact ⟨ys, by omega, HGI.out.1, HGI.out.2.1, by rw [HEN.out.1]; exact HGI.out.2.2, HEN.out.2⟩
        case rest =>
        obtain ⟨ys, hyl, hcx, hrow, hqs, hye⟩ := hcut
        obtain ⟨W5, hW5⟩ : ∃ W5, W5 = wc := ⟨_, rfl⟩
        subst hW5
        obtain ⟨la, lm, lc, rfl⟩ := RowI.slice hrow
        have hrr : RrS 2 LyN (fun g => Wr.heap.size <= g /\ g < W5.heap.size) W5 (.slice la lm lc) ys := RowI.rr hrow (by have := HM.out; omega) (fun b h1 h2 => ⟨by have := HW2.out.2.2.2; omega, h2⟩) (YRe.ly_n (fun b hb => ⟨by have := hb.1; have := HW2.out.2.2.2; omega, hb.2.1⟩))
        rw [<- HAI.out] at hye hqs
        have HLI : Hid (LI (rlst 8192 (rins b) b) n2 (q1 + 1) (xs ++ [ys]) (st (rlst 8192 (rins b) b p')) a2) := li_step hlt HS.out hye
        have hcx2 : Cx (fun j => j = R) Wr W5 := HW2.out.1.trans (hcx.wide (fun k _ h => h))
        have hpb := (hcx2.block P HXR.out.1 (by have := HOF.out; rintro rfl; omega)).trans HGR.out.2.1
        obtain ⟨W6, hW6⟩ : ∃ W, W5.alloc (.cells #[.slice la lm lc] 63) = W := ⟨_, rfl⟩
        have b6 : Below W5.heap.size W5 W6 := by rw [<- hW6]; exact (Below.refl _ W5).alloc (Nat.le_refl _) _
        have n6 : W6.heap[W5.heap.size]? = some (.cells #[.slice la lm lc] 63 (0, 0)) := by rw [<- hW6]; exact heap_alloc_new W5 _
        obtain ⟨css, k1, k2, k3, k4, k5⟩ := rowi_push (S := fun g => Wr.heap.size <= g /\ g < W5.heap.size) sC HGR.out.2.2.1 hcx2.size (fun k h1 h2 => hcx2.block k h2 (by have := HOF.out; rintro rfl; omega)) (c := [.slice la lm lc]) (x := ys) ⟨_, rfl, hrr⟩ (fun b hb => ⟨by have := HXR.out.2.2; have := hb.1; omega, hb.1, hb.2⟩) b6
        have HK2 : Hid (_ /\ _ /\ _ /\ _) := And.intro k2 (And.intro k3 (And.intro k4 k5))
        have HQ6 : Hid (Cx (fun j => j = R \/ j = P) Wk2 W6 /\ Qs B0 W6 R b (st (rlst 8192 (rins b) b p')) /\ Pb W6 P (.slice ra1 rm1 rc1) (.slice va vm vc) (.slice none 0 0) (.slice none 0 0)) := ⟨(HGR.out.1.trans (hcx2.wide (fun k _ h => .inl h))).trans (Cx.bel b6), hqs.below b6, (b6.block P (by have := HXR.out.1; have := hcx2.size; omega)).trans hpb⟩
        have zl := cell_of hpb 1 _ rfl
        have hcl := src_of n6
        have hsz : LO2 <= W6.heap.size := by have := HXR.out.2.2; have := hcx2.size; have := b6.size; omega
        have hl3 := k1.1
        have hn8 : n2 <= 8192 := HN.out
        clear hyl hcx hrow hqs hye hrr hcx2 hpb b6 n6 k2 k3 k4 k5
        go_wp2_with (first
          | (at_builtin; (try rw [hW6]); refine YAp.app_seen rfl _ _ 25 rfl LO2 63 c0 (.slice none 0 0) 1 24 underlying25 hc' hc0 hc1 hc2' rfl (by decide) _ _ _ rfl k1 _ 1 _ [.slice la lm lc] rfl hcl rfl (by intro u hu; simp only [List.mem_cons, List.not_mem_nil, or_false] at hu; rcases hu with rfl; rfl) (by unfold maxLen; omega) (by omega) hsz ?_))
        intro v' W7 hown hgrow hnb
        have HF7 : Hid (Cx (fun j => j = R \/ j = P) Wk2 W7 /\ RowI HdC 63 1 LO2 W7 v' (xs ++ [ys]) /\ Qs B0 W7 R b (st (rlst 8192 (rins b) b p')) /\ Pb W7 P (.slice ra1 rm1 rc1) (.slice va vm vc) (.slice none 0 0) (.slice none 0 0)) := by
          have h7 := HOF.out
          have h8 := HXR.out
          exact ⟨HQ6.out.1.row hgrow (fun r hr => by have := (World.ownsRow.lt k1 r hr).1; omega), RowI.snoc sC k1 HK2.out.1 HK2.out.2.1 HK2.out.2.2.1 HK2.out.2.2.2 rfl hgrow (by rw [hxl]; exact hown) hnb, HQ6.out.2.1.row (lo := LO2) hgrow (by omega) (fun r hr => (World.ownsRow.lt k1 r hr).1), (hgrow.block P (Array.getElem?_eq_some_iff.1 HQ6.out.2.2).1 (fun e => by have := (World.ownsRow.lt k1 _ e.symm).1; omega)).trans HQ6.out.2.2⟩
        obtain ⟨va2, vm2, vc2, rfl⟩ := RowI.slice HF7.out.2.1
        have yc := cell_of HF7.out.2.2.2 1 _ rfl
        have rc := frozen_box HF7.out.2.2.2 1
        clear hown hgrow hnb k1 hcl
        go_wp2_with fail
        go_roundw
        case rel =>
          have h1 := HOF.out
          have gs := gb_set W7 P 1 (.slice va2 vm2 vc2)
          exact ⟨q1 + 1, _, xs ++ [ys], st (rlst 8192 (rins b) b p'), by go_num, by omega, by simp [hxl], ⟨HF7.out.1.trans (Cx.of (R := P) gs (.inr rfl)), Pb.set1 HF7.out.2.2.2 _, rowi_own sC HF7.out.2.1 (by omega) gs, HF7.out.2.2.1.row (lo := P) gs (by omega) (fun r hr => by cases hr; exact Nat.le_refl _)⟩, HLI⟩
        case measure => simp only [intOf]; omega
      · have HEND := li_end HS.out (fun h => by cases BB with | true => exact hBB | false => exact (hgo ⟨h, rfl⟩).elim) hq
        have HEN : Hid _ := HEND
        clear HEND hBB
        by_cases hlt : q1 < n2
        · obtain rfl : BB = true := by cases BB with | true => rfl | false => exact (hgo ⟨hlt, rfl⟩).elim
          clear hgo
          go_wp2_with fail
          go_meet
          exact ⟨_, xs, by omega, HGR.out.1, HGR.out.2.1, HGR.out.2.2.1, by rw [HEN.out.1]; exact HGR.out.2.2.2, HEN.out.2⟩
        · have d0 : decide ((q1 : Int) < (n2 : Int)) = false := by simp; omega
          clear hgo
          go_wp2_with fail
          go_meet
          exact ⟨_, xs, by omega, HGR.out.1, HGR.out.2.1, HGR.out.2.2.1, by rw [HEN.out.1]; exact HGR.out.2.2.2, HEN.out.2⟩
  case rest =>
  obtain ⟨nv, xs2, hxl, hcx, hpb, hrow, hqs, hxe⟩ := hcut
  obtain ⟨X2, hX2⟩ : ∃ X, X = wc := ⟨_, rfl⟩
  subst hX2
  obtain ⟨ra2, rm2, rc2, rfl⟩ := RowI.slice hrow
  have HR2 : Hid (xs2.length <= 8192 /\ RowI HdC 63 1 LO2 X2 (.slice ra2 rm2 rc2) xs2 /\ (∀ y q, a2 = .ok (y, q) -> xs2 = y) /\ Cx (fun j => j = R \/ j = P) Wk2 X2) := ⟨by have := HN.out; omega, hrow, hxe, hcx⟩
  have HX2 : Hid (Cx (fun j => j = R \/ j = P) X2 X2 /\ Pb X2 P (.slice ra1 rm1 rc1) ((.slice ra2 rm2 rc2)) (.slice none 0 0) (.slice none 0 0) /\ Qs B0 X2 R b (st a2)) := ⟨Cx.refl, hpb, hqs⟩
  have HOF2 := HOF
  clear hxl hcx hpb hrow hqs hxe HOF HN HE HA
  have cN := count_s 4096 (by omega) HX2.out.2.2
  go_wp2_with fail
  refine cN.mono ?_
  rintro e Wk3 ⟨g8, v, n3, rfl, ⟨rfl, hn⟩, q8, x8⟩
  obtain ⟨c3, hc3⟩ : ∃ S, st (lf (rcnt 4096 b) (st a2)) = S := ⟨_, rfl⟩
  rw [hc3] at q8
  obtain ⟨a3, ha3⟩ : ∃ a, lfT (rmanyT (fun p _ => rnd b M p 0) n3) c3 0 = a := ⟨_, rfl⟩
  have HAL3 : Hid (lfT (rlstT 4096 (fun p _ => rnd b M p 0) b) (st a2) 0 = a3) := by
    show _ = _
    rw [lstT_eq x8, hc3, ha3]
  have HN : Hid (n3 <= 4096) := hn
  have HA : Hid (lfT (rmanyT (fun p _ => rnd b M p 0) n3) c3 0 = a3) := ha3
  obtain ⟨LO3, hLO⟩ : ∃ L, Wk3.heap.size = L := ⟨_, rfl⟩
  have HP3 : Hid (Cx (fun j => j = R \/ j = P) X2 Wk3) := Cx.of g8 (.inl rfl)
  have HE : Hid (Pb Wk3 P (.slice ra1 rm1 rc1) (.slice ra2 rm2 rc2) (.slice none 0 0) (.slice none 0 0) /\ Qs B0 Wk3 R b c3) := ⟨(g8.block P (Array.getElem?_eq_some_iff.1 HX2.out.2.1).1 (fun e => by have := HBP.out; cases e; omega)).trans HX2.out.2.1, q8⟩
  have HOF : Hid (R < P /\ P < LO3 /\ B0 < R /\ Wk3.heap.size = LO3) := ⟨HBP.out.2.1, by rw [<- hLO]; exact (Array.getElem?_eq_some_iff.1 HE.out.1).1, HBP.out.1, hLO⟩
  clear g8 q8 x8 hn hc3 ha3 hLO cN
  go_upto_block 6 with fail
  go_cut [] from 96 to 114 (fun wx => ∃ (nv : Value) (xs : List (T)) (k1 : Nat), xs.length <= n3 /\ Cx (fun j => j = R \/ j = P) Wk3 wx /\ Pb wx P (.slice ra1 rm1 rc1) (.slice ra2 rm2 rc2) (nv) (.slice none 0 0) /\ RowI (HdT (M + 1)) 68 4 LO3 wx nv xs /\ Qs B0 wx R b (stT a3) /\ ∀ y q j, a3 = .ok (y, q, j) -> xs = y /\ k1 = j)
  case first => as_aux_lemma =>
    go_wp2_with fail
    go_loopw [14, 15] (fun i _ wr => ∃ (q1 : Nat) (nv : Value) (xs : List (T)) (s' : Except Nat Nat) (k1 : Nat), i = .int .i64 q1 /\ q1 <= n3 /\ xs.length = q1 /\ Hid (Cx (fun j => j = R \/ j = P) Wk3 wr /\ Pb wr P (.slice ra1 rm1 rc1) (.slice ra2 rm2 rc2) (nv) (.slice none 0 0) /\ RowI (HdT (M + 1)) 68 4 LO3 wr nv xs /\ Qs B0 wr R b s') /\ Hid (LT (fun p _ => rnd b M p 0) n3 q1 xs s' k1 a3)) (fun i _ _ => n3 - (intOf i).toNat)
    case atStart => exact ⟨0, _, [], c3, 0, rfl, by omega, rfl, ⟨Cx.refl, HE.out.1, RowI.nil _ _ _ _ _, HE.out.2⟩, by rw [<- HA.out]; exact lt_0⟩
    case round =>
      obtain ⟨q1, nv, xs, s', k1, rfl, hq, hxl, HGR, HS⟩ := hrel
      obtain ⟨Wr, hWr⟩ : ∃ W, W = wr := ⟨_, rfl⟩
      subst hWr
      obtain ⟨va, vm, vc, rfl⟩ := RowI.slice HGR.out.2.2.1
      obtain ⟨ja, jn, jc, jp, jl, hx, -, -⟩ := HGR.out.2.2.2.cells
      obtain ⟨BB, hBB⟩ : ∃ B, bad s' = B := ⟨_, rfl⟩
      rw [hBB] at hx
      have zf := cell_of hx 2 _ rfl
      clear hx
      by_cases hgo : q1 < n3 /\ BB = false
      · obtain ⟨hlt, rfl⟩ := hgo
        obtain ⟨p', rfl⟩ : ∃ p, s' = .ok p := by cases s' with | ok p => exact ⟨p, rfl⟩ | error z => cases hBB
        have HXR : Hid (P < Wr.heap.size /\ R < Wr.heap.size /\ LO3 <= Wr.heap.size) := ⟨(Array.getElem?_eq_some_iff.1 HGR.out.2.1).1, HGR.out.2.2.2.lt, by rw [<- HOF.out.2.2.2]; exact HGR.out.1.size⟩
        obtain ⟨G, hG⟩ : ∃ G, Wr.heap.size = G := ⟨_, rfl⟩
        obtain ⟨Wz, hWz⟩ : ∃ W, Wr.alloc (.cells #[.int .i64 0] 3) = W := ⟨_, rfl⟩
        have bz : Below Wr.heap.size Wr Wz := by rw [<- hWz]; exact (Below.refl _ Wr).alloc (Nat.le_refl _) _
        have sz : Wz.heap.size = G + 1 := by rw [<- hWz, <- hG]; simp
        have gz : Wz.heap[G]? = some (.cells #[.int .i64 0] 3 (0, 0)) := by rw [<- hWz, <- hG]; exact heap_alloc_new Wr _
        have zz := cell_of gz 0 _ rfl
        have fz := frozen_box gz 0
        obtain ⟨Wg, hWg⟩ : ∃ W, Wz.setCell ⟨G, 0, none⟩ (.int .i64 0) = W := ⟨_, rfl⟩
        have gs := gb_set Wz G 0 (.int .i64 0)
        rw [hWg] at gs
        have bg : Below Wr.heap.size Wr Wg := bz.trans ⟨gs.os, gs.tape, gs.output, gs.size, fun k hk => gs.block k (by omega) (fun e => by cases e; omega)⟩
        have sg : G + 1 <= Wg.heap.size := by have := gs.size; omega
        have gg : Wg.heap[G]? = some (.cells #[.int .i64 0] 3 (0, 0)) := by rw [<- hWg, YCb.block_set gz]; rfl
        have HWG : Hid (Below Wr.heap.size Wr Wg /\ Wr.heap.size = G /\ Wr.heap.size < Wg.heap.size) := ⟨bg, hG, by omega⟩
        have hpg := (bg.block P HXR.out.1).trans HGR.out.2.1
        have cx := HTA.out R G 0 Wg.drew (.ok p') (Qs.drew (HGR.out.2.2.2.below bg)) gg (by have := HXR.out; omega) (by have := HXR.out; have := HOF.out; omega)
        rw [show (65 - (M : Int)) = 1 by have := HM64.out; omega] at cx
        have zl := cell_of hpg 2 _ rfl
        have zg := cell_of gg 0 _ rfl
        have hn4 : n3 <= 4096 := HN.out
        clear hBB bg sg gg hpg bz sz gz gs
        go_upto_region 29 with fail
        try rw [hWg]
        clear hWz hWg zz fz
        refine wp_region_held_drew (S := fun _ => True) (by kernel_rfl) trivial (fun hHeld => ?_)
        refine tkH 0 rfl ?_; try simp only [ptH]
        refine tkH 2 rfl ?_; try simp only [ptH]
        refine rdH [1, 3] ?_
        refine AllReadyH.cons rfl (fun K0 hK => ?_) (AllReadyH.cons rfl (fun K0 hK => ?_) (AllReadyH.nil))
        · skip
          go_simp
          refine hK.out _ _ trivial (fun hHeld => ?_)
          clear hK K0
          try simp only [ptH]
          refine rdH [3] ?_
          refine alH rfl fun K0 hK => ?_
          go_simp
          refine cx.mono ?_
          rintro e w2 ⟨c2, ve, x, kk, rfl, ⟨cc, rfl, hhd⟩, q2, gn2, x2⟩
          obtain ⟨xg, xs', xn, xl⟩ := x
          obtain ⟨xa1, xa2, xa3, xb1, xb2, xb3, rfl⟩ := hdT_parts hhd
          have HC2 : Hid (Cx (fun j => j = R) Wr w2) := ((Cx.bel HWG.out.1).trans ((Cx.bel (Below.refl Wg.heap.size Wg).drew).trans c2)).wide (fun k hk h => by have := HWG.out.2.1; rcases h with h | h; exact h; omega)
          have HQ2' : Hid (Qs B0 w2 R b (stT (rnd b M p' 0))) := q2
          have HHD : Hid (HdT (M + 1) (fun g => Wg.heap.size <= g /\ g < w2.heap.size) w2 [.string xg, .string xs', .slice xa1 xa2 xa3, .slice xb1 xb2 xb3] (.mk xg xs' xn xl)) := hhd
          have HX2 : Hid (∀ y r j, rnd b M p' 0 = .ok (y, r, j) -> (T.mk xg xs' xn xl) = y /\ kk = j) := x2
          clear c2 q2 x2 gn2 hhd
          obtain ⟨W3, hW3⟩ : ∃ W, w2.alloc (.cells #[.string xg, .string xs', .slice xa1 xa2 xa3, .slice xb1 xb2 xb3] 68) = W := ⟨_, rfl⟩
          have b3 : Below w2.heap.size w2 W3 := by rw [<- hW3]; exact (Below.refl _ w2).alloc (Nat.le_refl _) _
          have n3 : W3.heap[w2.heap.size]? = some (.cells #[.string xg, .string xs', .slice xa1 xa2 xa3, .slice xb1 xb2 xb3] 68 (0, 0)) := by rw [<- hW3]; exact heap_alloc_new w2 _
          obtain ⟨css, k1, k2, k3, k4, k5⟩ := rowi_push sT HGR.out.2.2.1 HC2.out.size (fun k h1 h2 => HC2.out.block k h2 (by have := HOF.out; rintro rfl; omega)) (c := [.string xg, .string xs', .slice xa1 xa2 xa3, .slice xb1 xb2 xb3]) (x := (.mk xg xs' xn xl)) (S := fun g => Wg.heap.size <= g /\ g < w2.heap.size) HHD.out (fun b hb => ⟨by have := HXR.out; have := hb.1; have := HWG.out.2.2; omega, by have := hb.1; have := HWG.out.2.2; omega, hb.2⟩) b3
          have HK1 := Hid.mk' k1
          have HK2 : Hid (_ /\ _ /\ _ /\ _) := And.intro k2 (And.intro k3 (And.intro k4 k5))
          have HN3 : Hid (W3.heap[w2.heap.size]? = some (.cells #[.string xg, .string xs', .slice xa1 xa2 xa3, .slice xb1 xb2 xb3] 68 (0, 0))) := n3
          have HC3 : Hid (Cx (fun j => j = R) Wr W3 /\ LO3 <= W3.heap.size) := ⟨HC2.out.trans (Cx.bel b3), by have := HC2.out.size; have := b3.size; have := HXR.out.2.2; omega⟩
          have HQ3' : Hid (Qs B0 W3 R b (stT (rnd b M p' 0))) := HQ2'.out.below b3
          have hb2 := (HC2.out.block P HXR.out.1 (by have := HOF.out; rintro rfl; omega)).trans HGR.out.2.1
          have HB3 : Hid (Pb W3 P (.slice ra1 rm1 rc1) (.slice ra2 rm2 rc2) (Value.slice va vm vc) (.slice none 0 0)) := (HC3.out.1.block P HXR.out.1 (by have := HOF.out; rintro rfl; omega)).trans HGR.out.2.1
          have y0 := cell_of hb2 2 _ rfl
          have y1 := cell_of HB3.out 2 _ rfl
          clear b3 n3 k1 k2 k3 k4 k5 hb2
          refine hK.out _ _ trivial (fun hHeld => ?_)
          clear hK K0
          try simp only [ptH]
          refine rdH [4] ?_
          refine alH rfl fun K0 hK => ?_
          go_simp
          try rw [hW3]
          refine hK.out _ _ trivial (fun hHeld => ?_)
          clear hK K0
          try simp only [ptH]
          refine rdH [5] ?_
          refine alH rfl fun K0 hK => ?_
          refine ZQd.step_any rfl _ _ 26 rfl LO3 68 j0 (.agg #[.string ⟨#[]⟩, .string ⟨#[]⟩, .slice none 0 0, .slice none 0 0]) 4 80 underlying26 hj hy0 hy1 hy2 rfl (by decide) _ _ _ rfl HK1.out _ _ [.string xg, .string xs', .slice xa1 xa2 xa3, .slice xb1 xb2 xb3] rfl rfl (ZQd.src_cells HN3.out) (by intro u hu; simp only [List.mem_cons, List.not_mem_nil, or_false] at hu; rcases hu with rfl | rfl | rfl | rfl <;> rfl) (by unfold maxLen; omega) (by omega) HC3.out.2 ?_
          intro v' W4 hown hgrow hnb
          have HF : Hid (W3.grownBy W4 (Value.slice va vm vc).ownBlock /\ RowI (HdT (M + 1)) 68 4 LO3 W4 v' (xs ++ [(.mk xg xs' xn xl)])) := ⟨hgrow, RowI.snoc sT HK1.out HK2.out.1 HK2.out.2.1 HK2.out.2.2.1 HK2.out.2.2.2 rfl hgrow hown hnb⟩
          obtain ⟨va2, vm2, vc2, rfl⟩ := RowI.slice HF.out.2
          have HB4 : Hid (Pb W4 P (.slice ra1 rm1 rc1) (.slice ra2 rm2 rc2) (Value.slice va vm vc) (.slice none 0 0)) := (hgrow.block P (by have := HC3.out.2; have := HOF.out; omega) (fun e => by have := (World.ownsRow.lt HK1.out _ e.symm).1; have := HOF.out; omega)).trans HB3.out
          have y2 := cell_of HB4.out 2 _ rfl
          have r2 := frozen_box HB4.out 2
          clear hown hgrow hnb
          refine hK.out _ _ trivial (fun hHeld => ?_)
          clear hK K0
          try simp only [ptH]
          refine tkH 6 rfl ?_; try simp only [ptH]
          refine rdH [7] ?_
          refine alH rfl fun K0 hK => ?_
          go_simp
          refine hK.out _ _ trivial (fun hHeld => ?_)
          clear hK K0 hHeld
          try simp only [ptH]
          refine dnH ?_
          go_wp2_with fail
          go_roundw
          case rel =>
            have h1 := HOF.out
            have gs := gb_set W4 P 2 (.slice va2 vm2 vc2)
            have hlo := fun r hr => (World.ownsRow.lt HK1.out r hr).1
            have hl0 := HXR.out
            have c4 : Cx (fun j => j = R \/ j = P) Wk3 W4 := (HGR.out.1.trans (HC3.out.1.wide (fun k _ h => .inl h))).row HF.out.1 (fun r hr => by have := hlo r hr; omega)
            exact ⟨q1 + 1, _, xs ++ [(.mk xg xs' xn xl)], stT (rnd b M p' 0), kk, by go_num, by omega, by simp [hxl], ⟨c4.trans (Cx.of (R := P) gs (.inr rfl)), Pb.set2 HB4.out _, rowi_own sT HF.out.2 (by omega) gs, (HQ3'.out.row (lo := LO3) HF.out.1 (by omega) hlo).row (lo := P) gs (by omega) (fun r hr => by cases hr; exact Nat.le_refl _)⟩, lt_step hlt HS.out HX2.out⟩
          case measure => simp only [intOf]; omega
        · skip
          go_simp
          refine cx.mono ?_
          rintro e w2 ⟨c2, ve, x, kk, rfl, ⟨cc, rfl, hhd⟩, q2, gn2, x2⟩
          obtain ⟨xg, xs', xn, xl⟩ := x
          obtain ⟨xa1, xa2, xa3, xb1, xb2, xb3, rfl⟩ := hdT_parts hhd
          have HC2 : Hid (Cx (fun j => j = R) Wr w2) := ((Cx.bel HWG.out.1).trans ((Cx.bel (Below.refl Wg.heap.size Wg).drew).trans c2)).wide (fun k hk h => by have := HWG.out.2.1; rcases h with h | h; exact h; omega)
          have HQ2' : Hid (Qs B0 w2 R b (stT (rnd b M p' 0))) := q2
          have HHD : Hid (HdT (M + 1) (fun g => Wg.heap.size <= g /\ g < w2.heap.size) w2 [.string xg, .string xs', .slice xa1 xa2 xa3, .slice xb1 xb2 xb3] (.mk xg xs' xn xl)) := hhd
          have HX2 : Hid (∀ y r j, rnd b M p' 0 = .ok (y, r, j) -> (T.mk xg xs' xn xl) = y /\ kk = j) := x2
          clear c2 q2 x2 gn2 hhd
          obtain ⟨W3, hW3⟩ : ∃ W, w2.alloc (.cells #[.string xg, .string xs', .slice xa1 xa2 xa3, .slice xb1 xb2 xb3] 68) = W := ⟨_, rfl⟩
          have b3 : Below w2.heap.size w2 W3 := by rw [<- hW3]; exact (Below.refl _ w2).alloc (Nat.le_refl _) _
          have n3 : W3.heap[w2.heap.size]? = some (.cells #[.string xg, .string xs', .slice xa1 xa2 xa3, .slice xb1 xb2 xb3] 68 (0, 0)) := by rw [<- hW3]; exact heap_alloc_new w2 _
          obtain ⟨css, k1, k2, k3, k4, k5⟩ := rowi_push sT HGR.out.2.2.1 HC2.out.size (fun k h1 h2 => HC2.out.block k h2 (by have := HOF.out; rintro rfl; omega)) (c := [.string xg, .string xs', .slice xa1 xa2 xa3, .slice xb1 xb2 xb3]) (x := (.mk xg xs' xn xl)) (S := fun g => Wg.heap.size <= g /\ g < w2.heap.size) HHD.out (fun b hb => ⟨by have := HXR.out; have := hb.1; have := HWG.out.2.2; omega, by have := hb.1; have := HWG.out.2.2; omega, hb.2⟩) b3
          have HK1 := Hid.mk' k1
          have HK2 : Hid (_ /\ _ /\ _ /\ _) := And.intro k2 (And.intro k3 (And.intro k4 k5))
          have HN3 : Hid (W3.heap[w2.heap.size]? = some (.cells #[.string xg, .string xs', .slice xa1 xa2 xa3, .slice xb1 xb2 xb3] 68 (0, 0))) := n3
          have HC3 : Hid (Cx (fun j => j = R) Wr W3 /\ LO3 <= W3.heap.size) := ⟨HC2.out.trans (Cx.bel b3), by have := HC2.out.size; have := b3.size; have := HXR.out.2.2; omega⟩
          have HQ3' : Hid (Qs B0 W3 R b (stT (rnd b M p' 0))) := HQ2'.out.below b3
          have hb2 := (HC2.out.block P HXR.out.1 (by have := HOF.out; rintro rfl; omega)).trans HGR.out.2.1
          have HB3 : Hid (Pb W3 P (.slice ra1 rm1 rc1) (.slice ra2 rm2 rc2) (Value.slice va vm vc) (.slice none 0 0)) := (HC3.out.1.block P HXR.out.1 (by have := HOF.out; rintro rfl; omega)).trans HGR.out.2.1
          have y0 := cell_of hb2 2 _ rfl
          have y1 := cell_of HB3.out 2 _ rfl
          clear b3 n3 k1 k2 k3 k4 k5 hb2
          refine hK.out _ _ trivial (fun hHeld => ?_)
          clear hK K0
          try simp only [ptH]
          refine rdH [1, 4] ?_
          refine AllReadyH.cons rfl (fun K0 hK => ?_) (AllReadyH.cons rfl (fun K0 hK => ?_) (AllReadyH.nil))
          · skip
            go_simp
            refine hK.out _ _ trivial (fun hHeld => ?_)
            clear hK K0
            try simp only [ptH]
            refine rdH [4] ?_
            refine alH rfl fun K0 hK => ?_
            go_simp
            try rw [hW3]
            refine hK.out _ _ trivial (fun hHeld => ?_)
            clear hK K0
            try simp only [ptH]
            refine rdH [5] ?_
            refine alH rfl fun K0 hK => ?_
            refine ZQd.step_any rfl _ _ 26 rfl LO3 68 j0 (.agg #[.string ⟨#[]⟩, .string ⟨#[]⟩, .slice none 0 0, .slice none 0 0]) 4 80 underlying26 hj hy0 hy1 hy2 rfl (by decide) _ _ _ rfl HK1.out _ _ [.string xg, .string xs', .slice xa1 xa2 xa3, .slice xb1 xb2 xb3] rfl rfl (ZQd.src_cells HN3.out) (by intro u hu; simp only [List.mem_cons, List.not_mem_nil, or_false] at hu; rcases hu with rfl | rfl | rfl | rfl <;> rfl) (by unfold maxLen; omega) (by omega) HC3.out.2 ?_
            intro v' W4 hown hgrow hnb
            have HF : Hid (W3.grownBy W4 (Value.slice va vm vc).ownBlock /\ RowI (HdT (M + 1)) 68 4 LO3 W4 v' (xs ++ [(.mk xg xs' xn xl)])) := ⟨hgrow, RowI.snoc sT HK1.out HK2.out.1 HK2.out.2.1 HK2.out.2.2.1 HK2.out.2.2.2 rfl hgrow hown hnb⟩
            obtain ⟨va2, vm2, vc2, rfl⟩ := RowI.slice HF.out.2
            have HB4 : Hid (Pb W4 P (.slice ra1 rm1 rc1) (.slice ra2 rm2 rc2) (Value.slice va vm vc) (.slice none 0 0)) := (hgrow.block P (by have := HC3.out.2; have := HOF.out; omega) (fun e => by have := (World.ownsRow.lt HK1.out _ e.symm).1; have := HOF.out; omega)).trans HB3.out
            have y2 := cell_of HB4.out 2 _ rfl
            have r2 := frozen_box HB4.out 2
            clear hown hgrow hnb
            refine hK.out _ _ trivial (fun hHeld => ?_)
            clear hK K0
            try simp only [ptH]
            refine tkH 6 rfl ?_; try simp only [ptH]
            refine rdH [7] ?_
            refine alH rfl fun K0 hK => ?_
            go_simp
            refine hK.out _ _ trivial (fun hHeld => ?_)
            clear hK K0 hHeld
            try simp only [ptH]
            refine dnH ?_
            go_wp2_with fail
            go_roundw
            case rel =>
              have h1 := HOF.out
              have gs := gb_set W4 P 2 (.slice va2 vm2 vc2)
              have hlo := fun r hr => (World.ownsRow.lt HK1.out r hr).1
              have hl0 := HXR.out
              have c4 : Cx (fun j => j = R \/ j = P) Wk3 W4 := (HGR.out.1.trans (HC3.out.1.wide (fun k _ h => .inl h))).row HF.out.1 (fun r hr => by have := hlo r hr; omega)
              exact ⟨q1 + 1, _, xs ++ [(.mk xg xs' xn xl)], stT (rnd b M p' 0), kk, by go_num, by omega, by simp [hxl], ⟨c4.trans (Cx.of (R := P) gs (.inr rfl)), Pb.set2 HB4.out _, rowi_own sT HF.out.2 (by omega) gs, (HQ3'.out.row (lo := LO3) HF.out.1 (by omega) hlo).row (lo := P) gs (by omega) (fun r hr => by cases hr; exact Nat.le_refl _)⟩, lt_step hlt HS.out HX2.out⟩
            case measure => simp only [intOf]; omega
          · skip
            go_simp
            try rw [hW3]
            refine hK.out _ _ trivial (fun hHeld => ?_)
            clear hK K0
            try simp only [ptH]
            refine rdH [1] ?_
            refine alH rfl fun K0 hK => ?_
            go_simp
            refine hK.out _ _ trivial (fun hHeld => ?_)
            clear hK K0
            try simp only [ptH]
            refine rdH [5] ?_
            refine alH rfl fun K0 hK => ?_
            refine ZQd.step_any rfl _ _ 26 rfl LO3 68 j0 (.agg #[.string ⟨#[]⟩, .string ⟨#[]⟩, .slice none 0 0, .slice none 0 0]) 4 80 underlying26 hj hy0 hy1 hy2 rfl (by decide) _ _ _ rfl HK1.out _ _ [.string xg, .string xs', .slice xa1 xa2 xa3, .slice xb1 xb2 xb3] rfl rfl (ZQd.src_cells HN3.out) (by intro u hu; simp only [List.mem_cons, List.not_mem_nil, or_false] at hu; rcases hu with rfl | rfl | rfl | rfl <;> rfl) (by unfold maxLen; omega) (by omega) HC3.out.2 ?_
            intro v' W4 hown hgrow hnb
            have HF : Hid (W3.grownBy W4 (Value.slice va vm vc).ownBlock /\ RowI (HdT (M + 1)) 68 4 LO3 W4 v' (xs ++ [(.mk xg xs' xn xl)])) := ⟨hgrow, RowI.snoc sT HK1.out HK2.out.1 HK2.out.2.1 HK2.out.2.2.1 HK2.out.2.2.2 rfl hgrow hown hnb⟩
            obtain ⟨va2, vm2, vc2, rfl⟩ := RowI.slice HF.out.2
            have HB4 : Hid (Pb W4 P (.slice ra1 rm1 rc1) (.slice ra2 rm2 rc2) (Value.slice va vm vc) (.slice none 0 0)) := (hgrow.block P (by have := HC3.out.2; have := HOF.out; omega) (fun e => by have := (World.ownsRow.lt HK1.out _ e.symm).1; have := HOF.out; omega)).trans HB3.out
            have y2 := cell_of HB4.out 2 _ rfl
            have r2 := frozen_box HB4.out 2
            clear hown hgrow hnb
            refine hK.out _ _ trivial (fun hHeld => ?_)
            clear hK K0
            try simp only [ptH]
            refine tkH 6 rfl ?_; try simp only [ptH]
            refine rdH [7] ?_
            refine alH rfl fun K0 hK => ?_
            go_simp
            refine hK.out _ _ trivial (fun hHeld => ?_)
            clear hK K0 hHeld
            try simp only [ptH]
            refine dnH ?_
            go_wp2_with fail
            go_roundw
            case rel =>
              have h1 := HOF.out
              have gs := gb_set W4 P 2 (.slice va2 vm2 vc2)
              have hlo := fun r hr => (World.ownsRow.lt HK1.out r hr).1
              have hl0 := HXR.out
              have c4 : Cx (fun j => j = R \/ j = P) Wk3 W4 := (HGR.out.1.trans (HC3.out.1.wide (fun k _ h => .inl h))).row HF.out.1 (fun r hr => by have := hlo r hr; omega)
              exact ⟨q1 + 1, _, xs ++ [(.mk xg xs' xn xl)], stT (rnd b M p' 0), kk, by go_num, by omega, by simp [hxl], ⟨c4.trans (Cx.of (R := P) gs (.inr rfl)), Pb.set2 HB4.out _, rowi_own sT HF.out.2 (by omega) gs, (HQ3'.out.row (lo := LO3) HF.out.1 (by omega) hlo).row (lo := P) gs (by omega) (fun r hr => by cases hr; exact Nat.le_refl _)⟩, lt_step hlt HS.out HX2.out⟩
            case measure => simp only [intOf]; omega
      · have HEND := lt_end HS.out (fun h => by cases BB with | true => exact hBB | false => exact (hgo ⟨h, rfl⟩).elim) hq
        have HEN : Hid _ := HEND
        clear HEND hBB
        by_cases hlt : q1 < n3
        · obtain rfl : BB = true := by cases BB with | true => rfl | false => exact (hgo ⟨hlt, rfl⟩).elim
          clear hgo
          go_wp2_with fail
          go_meet
          exact ⟨_, xs, k1, by omega, HGR.out.1, HGR.out.2.1, HGR.out.2.2.1, by rw [HEN.out.1]; exact HGR.out.2.2.2, HEN.out.2⟩
        · have d0 : decide ((q1 : Int) < (n3 : Int)) = false := by simp; omega
          clear hgo
          go_wp2_with fail
          go_meet
          exact ⟨_, xs, k1, by omega, HGR.out.1, HGR.out.2.1, HGR.out.2.2.1, by rw [HEN.out.1]; exact HGR.out.2.2.2, HEN.out.2⟩
  case rest =>
  obtain ⟨nv, xs3, k1, hxl, hcx, hpb, hrow, hqs, hxe⟩ := hcut
  obtain ⟨X3, hX3⟩ : ∃ X, X = wc := ⟨_, rfl⟩
  subst hX3
  obtain ⟨ra3, rm3, rc3, rfl⟩ := RowI.slice hrow
  have HR3 : Hid (xs3.length <= 4096 /\ RowI (HdT (M + 1)) 68 4 LO3 X3 (.slice ra3 rm3 rc3) xs3 /\ (∀ y q j, a3 = .ok (y, q, j) -> xs3 = y /\ k1 = j) /\ Cx (fun j => j = R \/ j = P) Wk3 X3) := ⟨by have := HN.out; omega, hrow, hxe, hcx⟩
  have HX3 : Hid (Cx (fun j => j = R \/ j = P) X3 X3 /\ Pb X3 P (.slice ra1 rm1 rc1) (.slice ra2 rm2 rc2) ((.slice ra3 rm3 rc3)) (.slice none 0 0) /\ Qs B0 X3 R b (stT a3)) := ⟨Cx.refl, hpb, hqs⟩
  have HOF3 := HOF
  clear hxl hcx hpb hrow hqs hxe HOF HN HE HA
  have cN := count_s 8192 (by omega) HX3.out.2.2
  go_wp2_with fail
  refine cN.mono ?_
  rintro e Wk4 ⟨g8, v, n4, rfl, ⟨rfl, hn⟩, q8, x8⟩
  obtain ⟨c4, hc4⟩ : ∃ S, st (lf (rcnt 8192 b) (stT a3)) = S := ⟨_, rfl⟩
  rw [hc4] at q8
  obtain ⟨a4, ha4⟩ : ∃ a, lf (rmany (rblk b) n4) c4 = a := ⟨_, rfl⟩
  have HAL4 : Hid (lf (rlst 8192 (rblk b) b) (stT a3) = a4) := by
    show _ = _
    rw [lst_eq x8, hc4, ha4]
  have HN : Hid (n4 <= 8192) := hn
  have HA : Hid (lf (rmany (rblk b) n4) c4 = a4) := ha4
  obtain ⟨LO4, hLO⟩ : ∃ L, Wk4.heap.size = L := ⟨_, rfl⟩
  have HP4 : Hid (Cx (fun j => j = R \/ j = P) X3 Wk4) := Cx.of g8 (.inl rfl)
  have HE : Hid (Pb Wk4 P (.slice ra1 rm1 rc1) (.slice ra2 rm2 rc2) (.slice ra3 rm3 rc3) (.slice none 0 0) /\ Qs B0 Wk4 R b c4) := ⟨(g8.block P (Array.getElem?_eq_some_iff.1 HX3.out.2.1).1 (fun e => by have := HBP.out; cases e; omega)).trans HX3.out.2.1, q8⟩
  have HOF : Hid (R < P /\ P < LO4 /\ B0 < R /\ Wk4.heap.size = LO4) := ⟨HBP.out.2.1, by rw [<- hLO]; exact (Array.getElem?_eq_some_iff.1 HE.out.1).1, HBP.out.1, hLO⟩
  clear g8 q8 x8 hn hc4 ha4 hLO cN
  go_upto_block 8 with fail
  go_cut [] from 117 to 135 (fun wx => ∃ (nv : Value) (xs : List (Bk)), xs.length <= n4 /\ Cx (fun j => j = R \/ j = P) Wk4 wx /\ Pb wx P (.slice ra1 rm1 rc1) (.slice ra2 rm2 rc2) (.slice ra3 rm3 rc3) (nv) /\ RowI HdB 74 3 LO4 wx nv xs /\ Qs B0 wx R b (st a4) /\ ∀ y q, a4 = .ok (y, q) -> xs = y)
  case first => as_aux_lemma =>
    go_wp2_with fail
    go_loopw [16] (fun i wr => ∃ (q1 : Nat) (nv : Value) (xs : List (Bk)) (s' : Except Nat Nat), i = .int .i64 q1 /\ q1 <= n4 /\ xs.length = q1 /\ Hid (Cx (fun j => j = R \/ j = P) Wk4 wr /\ Pb wr P (.slice ra1 rm1 rc1) (.slice ra2 rm2 rc2) (.slice ra3 rm3 rc3) (nv) /\ RowI HdB 74 3 LO4 wr nv xs /\ Qs B0 wr R b s') /\ Hid (LI (rblk b) n4 q1 xs s' a4)) (fun i _ => n4 - (intOf i).toNat)
    case atStart => exact ⟨0, _, [], c4, rfl, by omega, rfl, ⟨Cx.refl, HE.out.1, RowI.nil _ _ _ _ _, HE.out.2⟩, by rw [<- HA.out]; exact li_0⟩
    case round =>
      obtain ⟨q1, nv, xs, s', rfl, hq, hxl, HGR, HS⟩ := hrel
      obtain ⟨Wr, hWr⟩ : ∃ W, W = wr := ⟨_, rfl⟩
      subst hWr
      obtain ⟨va, vm, vc, rfl⟩ := RowI.slice HGR.out.2.2.1
      obtain ⟨ja, jn, jc, jp, jl, hx, -, -⟩ := HGR.out.2.2.2.cells
      obtain ⟨BB, hBB⟩ : ∃ B, bad s' = B := ⟨_, rfl⟩
      rw [hBB] at hx
      have zf := cell_of hx 2 _ rfl
      clear hx
      by_cases hgo : q1 < n4 /\ BB = false
      · obtain ⟨hlt, rfl⟩ := hgo
        obtain ⟨p', rfl⟩ : ∃ p, s' = .ok p := by cases s' with | ok p => exact ⟨p, rfl⟩ | error z => cases hBB
        have HXR : Hid (P < Wr.heap.size /\ R < Wr.heap.size /\ LO4 <= Wr.heap.size) := ⟨(Array.getElem?_eq_some_iff.1 HGR.out.2.1).1, HGR.out.2.2.2.lt, by rw [<- HOF.out.2.2.2]; exact HGR.out.1.size⟩
        have cx := block_c (Qs.drew HGR.out.2.2.2)
        have zl := cell_of HGR.out.2.1 3 _ rfl
        have hn4 : n4 <= 8192 := HN.out
        clear hBB
        go_wp2_with fail
        refine wp_region_held_drew (S := fun _ => True) (by kernel_rfl) trivial (fun hHeld => ?_)
        refine tkH 0 rfl ?_; try simp only [ptH]
        refine tkH 2 rfl ?_; try simp only [ptH]
        refine rdH [1, 3] ?_
        refine AllReadyH.cons rfl (fun K0 hK => ?_) (AllReadyH.cons rfl (fun K0 hK => ?_) (AllReadyH.nil))
        · skip
          go_simp
          refine hK.out _ _ trivial (fun hHeld => ?_)
          clear hK K0
          try simp only [ptH]
          refine rdH [3] ?_
          refine alH rfl fun K0 hK => ?_
          go_simp
          refine cx.mono ?_
          rintro e w2 ⟨g2, ve, x, rfl, ⟨cc, rfl, hhd⟩, q2, x2⟩
          obtain ⟨xa1, xa2, xa3, xb1, xb2, xb3, rfl⟩ := hdB_parts hhd
          obtain ⟨xd, hxd⟩ : ∃ d : Int, (x.d : Int) = d := ⟨_, rfl⟩
          have HC2 : Hid (Cx (fun j => j = R) Wr w2) := Cx.of (Gx.trans (Gx.of (Below.refl Wr.heap.size Wr).drew : Gx R Wr Wr.drew) g2) rfl
          have HQ2' : Hid (Qs B0 w2 R b (st (rblk b p'))) := q2
          have HHD : Hid (HdB (fun g => Wr.heap.size <= g /\ g < w2.heap.size) w2 [.int .i64 x.d, .slice xa1 xa2 xa3, .slice xb1 xb2 xb3] x) := hhd
          rw [hxd] at HHD
          try rw [hxd]
          have HX2 : Hid (∀ y q, rblk b p' = .ok (y, q) -> x = y) := x2
          clear g2 q2 x2 hhd hxd
          obtain ⟨W3, hW3⟩ : ∃ W, w2.alloc (.cells #[.int .i64 xd, .slice xa1 xa2 xa3, .slice xb1 xb2 xb3] 74) = W := ⟨_, rfl⟩
          have b3 : Below w2.heap.size w2 W3 := by rw [<- hW3]; exact (Below.refl _ w2).alloc (Nat.le_refl _) _
          have n3 : W3.heap[w2.heap.size]? = some (.cells #[.int .i64 xd, .slice xa1 xa2 xa3, .slice xb1 xb2 xb3] 74 (0, 0)) := by rw [<- hW3]; exact heap_alloc_new w2 _
          obtain ⟨css, k1, k2, k3, k4, k5⟩ := rowi_push sB HGR.out.2.2.1 HC2.out.size (fun k h1 h2 => HC2.out.block k h2 (by have := HOF.out; rintro rfl; omega)) (c := [.int .i64 xd, .slice xa1 xa2 xa3, .slice xb1 xb2 xb3]) (x := x) (S := fun g => Wr.heap.size <= g /\ g < w2.heap.size) HHD.out (fun b hb => ⟨by have := HXR.out; have := hb.1; omega, hb.1, hb.2⟩) b3
          have HK1 := Hid.mk' k1
          have HK2 : Hid (_ /\ _ /\ _ /\ _) := And.intro k2 (And.intro k3 (And.intro k4 k5))
          have HN3 : Hid (W3.heap[w2.heap.size]? = some (.cells #[.int .i64 xd, .slice xa1 xa2 xa3, .slice xb1 xb2 xb3] 74 (0, 0))) := n3
          have HC3 : Hid (Cx (fun j => j = R) Wr W3 /\ LO4 <= W3.heap.size) := ⟨HC2.out.trans (Cx.bel b3), by have := HC2.out.size; have := b3.size; have := HXR.out.2.2; omega⟩
          have HQ3' : Hid (Qs B0 W3 R b (st (rblk b p'))) := HQ2'.out.below b3
          have hb2 := (HC2.out.block P HXR.out.1 (by have := HOF.out; rintro rfl; omega)).trans HGR.out.2.1
          have HB3 : Hid (Pb W3 P (.slice ra1 rm1 rc1) (.slice ra2 rm2 rc2) (.slice ra3 rm3 rc3) (Value.slice va vm vc)) := (HC3.out.1.block P HXR.out.1 (by have := HOF.out; rintro rfl; omega)).trans HGR.out.2.1
          have y0 := cell_of hb2 3 _ rfl
          have y1 := cell_of HB3.out 3 _ rfl
          clear b3 n3 k1 k2 k3 k4 k5 hb2
          refine hK.out _ _ trivial (fun hHeld => ?_)
          clear hK K0
          try simp only [ptH]
          refine rdH [4] ?_
          refine alH rfl fun K0 hK => ?_
          go_simp
          try rw [hW3]
          refine hK.out _ _ trivial (fun hHeld => ?_)
          clear hK K0
          try simp only [ptH]
          refine rdH [5] ?_
          refine alH rfl fun K0 hK => ?_
          refine ZQd.step_any rfl _ _ 27 rfl LO4 74 k0 (.agg #[.int .i64 0, .slice none 0 0, .slice none 0 0]) 3 56 underlying27 hk' hk0 hk1 hk2 rfl (by decide) _ _ _ rfl HK1.out _ _ [.int .i64 xd, .slice xa1 xa2 xa3, .slice xb1 xb2 xb3] rfl rfl (ZQd.src_cells HN3.out) (by intro u hu; simp only [List.mem_cons, List.not_mem_nil, or_false] at hu; rcases hu with rfl | rfl | rfl <;> rfl) (by unfold maxLen; omega) (by omega) HC3.out.2 ?_
          intro v' W4 hown hgrow hnb
          have HF : Hid (W3.grownBy W4 (Value.slice va vm vc).ownBlock /\ RowI HdB 74 3 LO4 W4 v' (xs ++ [x])) := ⟨hgrow, RowI.snoc sB HK1.out HK2.out.1 HK2.out.2.1 HK2.out.2.2.1 HK2.out.2.2.2 rfl hgrow hown hnb⟩
          obtain ⟨va2, vm2, vc2, rfl⟩ := RowI.slice HF.out.2
          have HB4 : Hid (Pb W4 P (.slice ra1 rm1 rc1) (.slice ra2 rm2 rc2) (.slice ra3 rm3 rc3) (Value.slice va vm vc)) := (hgrow.block P (by have := HC3.out.2; have := HOF.out; omega) (fun e => by have := (World.ownsRow.lt HK1.out _ e.symm).1; have := HOF.out; omega)).trans HB3.out
          have y2 := cell_of HB4.out 3 _ rfl
          have r2 := frozen_box HB4.out 3
          clear hown hgrow hnb
          refine hK.out _ _ trivial (fun hHeld => ?_)
          clear hK K0
          try simp only [ptH]
          refine tkH 6 rfl ?_; try simp only [ptH]
          refine rdH [7] ?_
          refine alH rfl fun K0 hK => ?_
          go_simp
          refine hK.out _ _ trivial (fun hHeld => ?_)
          clear hK K0 hHeld
          try simp only [ptH]
          refine dnH ?_
          go_wp2_with fail
          go_roundw
          case rel =>
            have h1 := HOF.out
            have gs := gb_set W4 P 3 (.slice va2 vm2 vc2)
            have hlo := fun r hr => (World.ownsRow.lt HK1.out r hr).1
            have hl0 := HXR.out
            have c4 : Cx (fun j => j = R \/ j = P) Wk4 W4 := (HGR.out.1.trans (HC3.out.1.wide (fun k _ h => .inl h))).row HF.out.1 (fun r hr => by have := hlo r hr; omega)
            exact ⟨q1 + 1, _, xs ++ [x], st (rblk b p'), by go_num, by omega, by simp [hxl], ⟨c4.trans (Cx.of (R := P) gs (.inr rfl)), Pb.set3 HB4.out _, rowi_own sB HF.out.2 (by omega) gs, (HQ3'.out.row (lo := LO4) HF.out.1 (by omega) hlo).row (lo := P) gs (by omega) (fun r hr => by cases hr; exact Nat.le_refl _)⟩, li_step hlt HS.out HX2.out⟩
          case measure => simp only [intOf]; omega
        · skip
          go_simp
          refine cx.mono ?_
          rintro e w2 ⟨g2, ve, x, rfl, ⟨cc, rfl, hhd⟩, q2, x2⟩
          obtain ⟨xa1, xa2, xa3, xb1, xb2, xb3, rfl⟩ := hdB_parts hhd
          obtain ⟨xd, hxd⟩ : ∃ d : Int, (x.d : Int) = d := ⟨_, rfl⟩
          have HC2 : Hid (Cx (fun j => j = R) Wr w2) := Cx.of (Gx.trans (Gx.of (Below.refl Wr.heap.size Wr).drew : Gx R Wr Wr.drew) g2) rfl
          have HQ2' : Hid (Qs B0 w2 R b (st (rblk b p'))) := q2
          have HHD : Hid (HdB (fun g => Wr.heap.size <= g /\ g < w2.heap.size) w2 [.int .i64 x.d, .slice xa1 xa2 xa3, .slice xb1 xb2 xb3] x) := hhd
          rw [hxd] at HHD
          try rw [hxd]
          have HX2 : Hid (∀ y q, rblk b p' = .ok (y, q) -> x = y) := x2
          clear g2 q2 x2 hhd hxd
          obtain ⟨W3, hW3⟩ : ∃ W, w2.alloc (.cells #[.int .i64 xd, .slice xa1 xa2 xa3, .slice xb1 xb2 xb3] 74) = W := ⟨_, rfl⟩
          have b3 : Below w2.heap.size w2 W3 := by rw [<- hW3]; exact (Below.refl _ w2).alloc (Nat.le_refl _) _
          have n3 : W3.heap[w2.heap.size]? = some (.cells #[.int .i64 xd, .slice xa1 xa2 xa3, .slice xb1 xb2 xb3] 74 (0, 0)) := by rw [<- hW3]; exact heap_alloc_new w2 _
          obtain ⟨css, k1, k2, k3, k4, k5⟩ := rowi_push sB HGR.out.2.2.1 HC2.out.size (fun k h1 h2 => HC2.out.block k h2 (by have := HOF.out; rintro rfl; omega)) (c := [.int .i64 xd, .slice xa1 xa2 xa3, .slice xb1 xb2 xb3]) (x := x) (S := fun g => Wr.heap.size <= g /\ g < w2.heap.size) HHD.out (fun b hb => ⟨by have := HXR.out; have := hb.1; omega, hb.1, hb.2⟩) b3
          have HK1 := Hid.mk' k1
          have HK2 : Hid (_ /\ _ /\ _ /\ _) := And.intro k2 (And.intro k3 (And.intro k4 k5))
          have HN3 : Hid (W3.heap[w2.heap.size]? = some (.cells #[.int .i64 xd, .slice xa1 xa2 xa3, .slice xb1 xb2 xb3] 74 (0, 0))) := n3
          have HC3 : Hid (Cx (fun j => j = R) Wr W3 /\ LO4 <= W3.heap.size) := ⟨HC2.out.trans (Cx.bel b3), by have := HC2.out.size; have := b3.size; have := HXR.out.2.2; omega⟩
          have HQ3' : Hid (Qs B0 W3 R b (st (rblk b p'))) := HQ2'.out.below b3
          have hb2 := (HC2.out.block P HXR.out.1 (by have := HOF.out; rintro rfl; omega)).trans HGR.out.2.1
          have HB3 : Hid (Pb W3 P (.slice ra1 rm1 rc1) (.slice ra2 rm2 rc2) (.slice ra3 rm3 rc3) (Value.slice va vm vc)) := (HC3.out.1.block P HXR.out.1 (by have := HOF.out; rintro rfl; omega)).trans HGR.out.2.1
          have y0 := cell_of hb2 3 _ rfl
          have y1 := cell_of HB3.out 3 _ rfl
          clear b3 n3 k1 k2 k3 k4 k5 hb2
          refine hK.out _ _ trivial (fun hHeld => ?_)
          clear hK K0
          try simp only [ptH]
          refine rdH [1, 4] ?_
          refine AllReadyH.cons rfl (fun K0 hK => ?_) (AllReadyH.cons rfl (fun K0 hK => ?_) (AllReadyH.nil))
          · skip
            go_simp
            refine hK.out _ _ trivial (fun hHeld => ?_)
            clear hK K0
            try simp only [ptH]
            refine rdH [4] ?_
            refine alH rfl fun K0 hK => ?_
            go_simp
            try rw [hW3]
            refine hK.out _ _ trivial (fun hHeld => ?_)
            clear hK K0
            try simp only [ptH]
            refine rdH [5] ?_
            refine alH rfl fun K0 hK => ?_
            refine ZQd.step_any rfl _ _ 27 rfl LO4 74 k0 (.agg #[.int .i64 0, .slice none 0 0, .slice none 0 0]) 3 56 underlying27 hk' hk0 hk1 hk2 rfl (by decide) _ _ _ rfl HK1.out _ _ [.int .i64 xd, .slice xa1 xa2 xa3, .slice xb1 xb2 xb3] rfl rfl (ZQd.src_cells HN3.out) (by intro u hu; simp only [List.mem_cons, List.not_mem_nil, or_false] at hu; rcases hu with rfl | rfl | rfl <;> rfl) (by unfold maxLen; omega) (by omega) HC3.out.2 ?_
            intro v' W4 hown hgrow hnb
            have HF : Hid (W3.grownBy W4 (Value.slice va vm vc).ownBlock /\ RowI HdB 74 3 LO4 W4 v' (xs ++ [x])) := ⟨hgrow, RowI.snoc sB HK1.out HK2.out.1 HK2.out.2.1 HK2.out.2.2.1 HK2.out.2.2.2 rfl hgrow hown hnb⟩
            obtain ⟨va2, vm2, vc2, rfl⟩ := RowI.slice HF.out.2
            have HB4 : Hid (Pb W4 P (.slice ra1 rm1 rc1) (.slice ra2 rm2 rc2) (.slice ra3 rm3 rc3) (Value.slice va vm vc)) := (hgrow.block P (by have := HC3.out.2; have := HOF.out; omega) (fun e => by have := (World.ownsRow.lt HK1.out _ e.symm).1; have := HOF.out; omega)).trans HB3.out
            have y2 := cell_of HB4.out 3 _ rfl
            have r2 := frozen_box HB4.out 3
            clear hown hgrow hnb
            refine hK.out _ _ trivial (fun hHeld => ?_)
            clear hK K0
            try simp only [ptH]
            refine tkH 6 rfl ?_; try simp only [ptH]
            refine rdH [7] ?_
            refine alH rfl fun K0 hK => ?_
            go_simp
            refine hK.out _ _ trivial (fun hHeld => ?_)
            clear hK K0 hHeld
            try simp only [ptH]
            refine dnH ?_
            go_wp2_with fail
            go_roundw
            case rel =>
              have h1 := HOF.out
              have gs := gb_set W4 P 3 (.slice va2 vm2 vc2)
              have hlo := fun r hr => (World.ownsRow.lt HK1.out r hr).1
              have hl0 := HXR.out
              have c4 : Cx (fun j => j = R \/ j = P) Wk4 W4 := (HGR.out.1.trans (HC3.out.1.wide (fun k _ h => .inl h))).row HF.out.1 (fun r hr => by have := hlo r hr; omega)
              exact ⟨q1 + 1, _, xs ++ [x], st (rblk b p'), by go_num, by omega, by simp [hxl], ⟨c4.trans (Cx.of (R := P) gs (.inr rfl)), Pb.set3 HB4.out _, rowi_own sB HF.out.2 (by omega) gs, (HQ3'.out.row (lo := LO4) HF.out.1 (by omega) hlo).row (lo := P) gs (by omega) (fun r hr => by cases hr; exact Nat.le_refl _)⟩, li_step hlt HS.out HX2.out⟩
            case measure => simp only [intOf]; omega
          · skip
            go_simp
            try rw [hW3]
            refine hK.out _ _ trivial (fun hHeld => ?_)
            clear hK K0
            try simp only [ptH]
            refine rdH [1] ?_
            refine alH rfl fun K0 hK => ?_
            go_simp
            refine hK.out _ _ trivial (fun hHeld => ?_)
            clear hK K0
            try simp only [ptH]
            refine rdH [5] ?_
            refine alH rfl fun K0 hK => ?_
            refine ZQd.step_any rfl _ _ 27 rfl LO4 74 k0 (.agg #[.int .i64 0, .slice none 0 0, .slice none 0 0]) 3 56 underlying27 hk' hk0 hk1 hk2 rfl (by decide) _ _ _ rfl HK1.out _ _ [.int .i64 xd, .slice xa1 xa2 xa3, .slice xb1 xb2 xb3] rfl rfl (ZQd.src_cells HN3.out) (by intro u hu; simp only [List.mem_cons, List.not_mem_nil, or_false] at hu; rcases hu with rfl | rfl | rfl <;> rfl) (by unfold maxLen; omega) (by omega) HC3.out.2 ?_
            intro v' W4 hown hgrow hnb
            have HF : Hid (W3.grownBy W4 (Value.slice va vm vc).ownBlock /\ RowI HdB 74 3 LO4 W4 v' (xs ++ [x])) := ⟨hgrow, RowI.snoc sB HK1.out HK2.out.1 HK2.out.2.1 HK2.out.2.2.1 HK2.out.2.2.2 rfl hgrow hown hnb⟩
            obtain ⟨va2, vm2, vc2, rfl⟩ := RowI.slice HF.out.2
            have HB4 : Hid (Pb W4 P (.slice ra1 rm1 rc1) (.slice ra2 rm2 rc2) (.slice ra3 rm3 rc3) (Value.slice va vm vc)) := (hgrow.block P (by have := HC3.out.2; have := HOF.out; omega) (fun e => by have := (World.ownsRow.lt HK1.out _ e.symm).1; have := HOF.out; omega)).trans HB3.out
            have y2 := cell_of HB4.out 3 _ rfl
            have r2 := frozen_box HB4.out 3
            clear hown hgrow hnb
            refine hK.out _ _ trivial (fun hHeld => ?_)
            clear hK K0
            try simp only [ptH]
            refine tkH 6 rfl ?_; try simp only [ptH]
            refine rdH [7] ?_
            refine alH rfl fun K0 hK => ?_
            go_simp
            refine hK.out _ _ trivial (fun hHeld => ?_)
            clear hK K0 hHeld
            try simp only [ptH]
            refine dnH ?_
            go_wp2_with fail
            go_roundw
            case rel =>
              have h1 := HOF.out
              have gs := gb_set W4 P 3 (.slice va2 vm2 vc2)
              have hlo := fun r hr => (World.ownsRow.lt HK1.out r hr).1
              have hl0 := HXR.out
              have c4 : Cx (fun j => j = R \/ j = P) Wk4 W4 := (HGR.out.1.trans (HC3.out.1.wide (fun k _ h => .inl h))).row HF.out.1 (fun r hr => by have := hlo r hr; omega)
              exact ⟨q1 + 1, _, xs ++ [x], st (rblk b p'), by go_num, by omega, by simp [hxl], ⟨c4.trans (Cx.of (R := P) gs (.inr rfl)), Pb.set3 HB4.out _, rowi_own sB HF.out.2 (by omega) gs, (HQ3'.out.row (lo := LO4) HF.out.1 (by omega) hlo).row (lo := P) gs (by omega) (fun r hr => by cases hr; exact Nat.le_refl _)⟩, li_step hlt HS.out HX2.out⟩
            case measure => simp only [intOf]; omega
      · have HEND := li_end HS.out (fun h => by cases BB with | true => exact hBB | false => exact (hgo ⟨h, rfl⟩).elim) hq
        have HEN : Hid _ := HEND
        clear HEND hBB
        by_cases hlt : q1 < n4
        · obtain rfl : BB = true := by cases BB with | true => rfl | false => exact (hgo ⟨hlt, rfl⟩).elim
          clear hgo
          go_wp2_with fail
          go_meet
          exact ⟨_, xs, by omega, HGR.out.1, HGR.out.2.1, HGR.out.2.2.1, by rw [HEN.out.1]; exact HGR.out.2.2.2, HEN.out.2⟩
        · have d0 : decide ((q1 : Int) < (n4 : Int)) = false := by simp; omega
          clear hgo
          go_wp2_with fail
          go_meet
          exact ⟨_, xs, by omega, HGR.out.1, HGR.out.2.1, HGR.out.2.2.1, by rw [HEN.out.1]; exact HGR.out.2.2.2, HEN.out.2⟩
  case rest =>
  obtain ⟨nv, xs4, hxl, hcx, hpb, hrow, hqs, hxe⟩ := hcut
  obtain ⟨X4, hX4⟩ : ∃ X, X = wc := ⟨_, rfl⟩
  subst hX4
  obtain ⟨ra4, rm4, rc4, rfl⟩ := RowI.slice hrow
  have HR4 : Hid (xs4.length <= 8192 /\ RowI HdB 74 3 LO4 X4 (.slice ra4 rm4 rc4) xs4 /\ (∀ y q, a4 = .ok (y, q) -> xs4 = y) /\ Cx (fun j => j = R \/ j = P) Wk4 X4) := ⟨by have := HN.out; omega, hrow, hxe, hcx⟩
  have HX4 : Hid (Cx (fun j => j = R \/ j = P) X4 X4 /\ Pb X4 P (.slice ra1 rm1 rc1) (.slice ra2 rm2 rc2) (.slice ra3 rm3 rc3) ((.slice ra4 rm4 rc4)) /\ Qs B0 X4 R b (st a4)) := ⟨Cx.refl, hpb, hqs⟩
  have HOF4 := HOF
  clear hxl hcx hpb hrow hqs hxe HOF HN HE HA
  have HDP : Hid (∀ k, k = R \/ k = P -> B0 < k) := fun k h => by have := HBP.out; rcases h with rfl | rfl <;> omega
  obtain ⟨s9, hs9⟩ : ∃ s, sE b (st a4) = s := ⟨_, rfl⟩
  have HS9 : Hid (sE b (st a4) = s9) := hs9
  have HPR : Hid (Pr b ⟨xs1, xs2, xs3, xs4⟩ s9) := by
    have hM := HM64.out
    subst hM
    rw [<- hs9]
    exact prg_end (v := x0) (s1 := t1) (s2 := st a1) (s3 := st a2) (s4 := stT a3) (s5 := st a4) HT1.out.1 HT1.out.2 (by rw [HS0.out, HAL1.out]) (by rw [HS0.out, HAL1.out]; exact HR1.out.2.2.1) (by rw [HAL2.out]) (by rw [HAL2.out]; exact HR2.out.2.2.1) (by rw [HAL3.out]) (by rw [HAL3.out]; exact fun y q j e => (HR3.out.2.2.1 y q j e).1) (by rw [HAL4.out]) (by rw [HAL4.out]; exact HR4.out.2.2.1)
  obtain ⟨ja, jn, jc, jp, jl, hx, -, -⟩ := HX4.out.2.2.cells
  have hp0 : ∀ q, st a4 = .ok q -> jp = q := fun q e => by
    have h0 := HX4.out.2.2
    rw [e] at h0
    obtain ⟨-, -, -, ia', n', cap', -, -, -, hx'⟩ := h0
    rw [hx] at hx'
    simp at hx'
    omega
  obtain ⟨BE, hBE⟩ : ∃ B, bad (st a4) = B := ⟨_, rfl⟩
  obtain ⟨U, hU⟩ : ∃ U, (!BE && decide ((jp : Int) < (n : Int))) = U := ⟨_, rfl⟩
  have HSE : Hid ((if U = true then fl (st a4) jp else st a4) = s9) := by rw [<- hs9]; exact sE_eq hp0 HNB.out.1 (by rw [hBE]; exact hU)
  rw [hBE] at hx
  have zf := cell_of hx 2 _ rfl
  have zp := cell_of hx 1 _ rfl
  clear hp0 hx hs9 hBE
  go_upto_region 35 with fail
  go_cut [149] from 136 to 149 (fun t wx => t = .bool U /\ wx = X4)
  case first =>
    cases BE with
    | true =>
      have ET : Hid (U = false) := hU.symm
      clear hU
      go_wp2_with fail
      go_meet
      exact ⟨by rw [ET.out], rfl⟩
    | false =>
      have ET : Hid (U = decide ((jp : Int) < (n : Int))) := hU.symm
      clear hU
      go_wp2_with fail
      go_meet
      exact ⟨by rw [ET.out]; simp, rfl⟩
  case rest =>
  obtain ⟨rfl, hwx⟩ := hcut
  obtain rfl := hwx.symm
  clear hU
  go_upto_if 149 with fail
  go_cut [] from 150 to 156 (fun wx => Cx (fun j => j = R \/ j = P) X4 wx /\ Pb wx P (.slice ra1 rm1 rc1) (.slice ra2 rm2 rc2) (.slice ra3 rm3 rc3) (.slice ra4 rm4 rc4) /\ Qs B0 wx R b s9)
  case first =>
    cases U with
    | false =>
      obtain rfl : st a4 = s9 := HSE.out
      go_wp2_with fail
      go_meet
      exact HX4.out
    | true =>
      obtain rfl : fl (st a4) jp = s9 := HSE.out
      have cF := fail_c HX4.out.2.2 jp
      go_wp2_with fail
      refine cF.mono ?_
      rintro e w5 ⟨⟨r, rfl⟩, g5, q5⟩
      have H5 : Hid (Cx (fun j => j = R \/ j = P) X4 w5 /\ Pb w5 P (.slice ra1 rm1 rc1) (.slice ra2 rm2 rc2) (.slice ra3 rm3 rc3) (.slice ra4 rm4 rc4) /\ Qs B0 w5 R b (fl (st a4) jp)) := ⟨Cx.of g5 (.inl rfl), (g5.block P (Array.getElem?_eq_some_iff.1 HX4.out.2.1).1 (fun e => by have := HBP.out; cases e; omega)).trans HX4.out.2.1, q5⟩
      clear g5 q5 cF
      go_wp2_with fail
      go_meet
      exact H5.out
  case rest =>
  obtain ⟨X9, hX9⟩ : ∃ X, X = wc := ⟨_, rfl⟩
  subst hX9
  have HX9 : Hid _ := hcut
  have c43 := HX9.out.1
  have c3 : Cx (fun j => j = R \/ j = P) X3 X9 := (HP4.out.trans HR4.out.2.2.2).trans c43
  have c2 : Cx (fun j => j = R \/ j = P) X2 X9 := (HP3.out.trans HR3.out.2.2.2).trans c3
  have c1 : Cx (fun j => j = R \/ j = P) X1 X9 := (HP2.out.trans HR2.out.2.2.2).trans c2
  have c0' : Cx (fun j => j = R \/ j = P) V2 X9 := HX0.out.1.trans ((HP1.out.trans HR1.out.2.2.2).trans c1)
  have HCV : Hid (Cx (fun j => j = R \/ j = P) V2 X9) := c0'
  have hlow : ∀ L, P < L -> ∀ k, k = R \/ k = P -> k < L := fun L h k e => by have := HBP.out; rcases e with rfl | rfl <;> omega
  have HW : Hid (∀ W9, X9.grownBy W9 (some B0) -> Below w.heap.size w W9 /\ YRp.HvP (fun b => w.heap.size <= b /\ b < W9.heap.size) W9 (.agg #[.slice ra1 rm1 rc1, .slice ra2 rm2 rc2, .slice ra3 rm3 rc3, .slice ra4 rm4 rc4]) ⟨xs1, xs2, xs3, xs4⟩) := by
    intro W9 hg
    have hM := HM64.out
    subst hM
    have hb := HBP.out
    have hz := HE0.out.2.2.2.1.size
    refine ⟨HE0.out.2.2.2.1.trans ⟨hg.os.trans c0'.os, hg.tape.trans c0'.tape, hg.output.trans c0'.output, Nat.le_trans c0'.size hg.size, fun k hk => (hg.block k (by have := c0'.size; omega) (fun e => by cases e; omega)).trans (c0'.block k (by omega) (fun e => by have := HDP.out k e; omega))⟩, ?_⟩
    have q1 := HOF1.out; have q2 := HOF2.out; have q3 := HOF3.out; have q4 := HOF4.out
    exact pg_rows (rowi_own sS (rowi_cx (D := (fun j => j = R \/ j = P)) sS HR1.out.2.1 (hlow _ q1.2.1) c1) (by omega) hg) HR1.out.1 (rowi_own sC (rowi_cx (D := (fun j => j = R \/ j = P)) sC HR2.out.2.1 (hlow _ q2.2.1) c2) (by omega) hg) HR2.out.1 (rowi_own sT (rowi_cx (D := (fun j => j = R \/ j = P)) sT HR3.out.2.1 (hlow _ q3.2.1) c3) (by omega) hg) HR3.out.1 (rowi_own sB (rowi_cx (D := (fun j => j = R \/ j = P)) sB HR4.out.2.1 (hlow _ q4.2.1) c43) (by omega) hg) HR4.out.1 (by omega) (by omega) (by omega) (by omega)
  have hB0b : Pb X9 B0 (.slice none 0 0) (.slice none 0 0) (.slice none 0 0) (.slice none 0 0) := (c0'.block B0 (Array.getElem?_eq_some_iff.1 HE0.out.2.2.1).1 (fun e => by have := HDP.out _ e; omega)).trans HE0.out.2.2.1
  have u0 := cell_of hB0b 0 _ rfl
  have u1 := cell_of hB0b 1 _ rfl
  have u2 := cell_of hB0b 2 _ rfl
  have u3 := cell_of hB0b 3 _ rfl
  have v0 := frozen_box hB0b 0
  have v1 := frozen_box hB0b 1
  have v2 := frozen_box hB0b 2
  have v3 := frozen_box hB0b 3
  have HPR' : Hid (∀ y, s9 = y -> Pr b ⟨xs1, xs2, xs3, xs4⟩ y) := fun y e => by rw [<- e]; exact HPR.out
  have HQ9 : Hid (Qs B0 X9 R b s9 /\ Pb X9 P (.slice ra1 rm1 rc1) (.slice ra2 rm2 rc2) (.slice ra3 rm3 rc3) (.slice ra4 rm4 rc4) /\ Pb X9 B0 (.slice none 0 0) (.slice none 0 0) (.slice none 0 0) (.slice none 0 0)) := ⟨HX9.out.2.2, HX9.out.2.1, hB0b⟩
  clear hcut c43 c3 c2 c1 c0' hlow hB0b zf zp
  cases s9 with
  | error z =>
    obtain ⟨-, -, -, ia', n', cap', -, -, p', -, hx⟩ := HQ9.out.1
    have zf := cell_of hx 2 _ rfl
    have zp := cell_of hx 3 _ rfl
    obtain ⟨W9, hW9⟩ : ∃ W, (((X9.setCell ⟨B0, 0, none⟩ (.slice none 0 0)).setCell ⟨B0, 1, none⟩ (.slice none 0 0)).setCell ⟨B0, 2, none⟩ (.slice none 0 0)).setCell ⟨B0, 3, none⟩ (.slice none 0 0) = W := ⟨_, rfl⟩
    obtain ⟨m9, g9⟩ := YRg.set4 _ _ _ _ HQ9.out.2.2 hW9
    have y0 := cell_of m9 0 _ rfl
    have y1 := cell_of m9 1 _ rfl
    have y2 := cell_of m9 2 _ rfl
    have y3 := cell_of m9 3 _ rfl
    have HF : Hid (DR (dec b) w (.returned (.tuple #[p0, .int .i64 (z : Nat), .int .i64 2100])) W9.drew) := by
      have h := HPR.out
      have hd : dec b = .error (z, 2100) := by unfold dec; rw [if_neg HNB.out.2]; unfold Pr at h; simp only at h; rw [h]
      rw [hd]
      exact ⟨(HW.out W9 g9).1.drew, rfl⟩
    have hxg := (g9.block R (Array.getElem?_eq_some_iff.1 hx).1 (fun e => by have := HBP.out; cases e; omega)).trans hx
    have zp9 := cell_of hxg 3 _ rfl
    clear m9 g9 hx hxg
    go_upto_region 38 with fail
    go_region
    all_goals go_wp2_with fail
    all_goals try rw [hW9]
    refine bodyPost_ret (v := .tuple #[ZQj.p0, .int .i64 (z : Nat), .int .i64 2100]) (by simp [results, results7, go_sem, y0, y1, y2, y3]) rfl ?_
    exact HF.out
  | ok q =>
    obtain ⟨-, -, -, ia', n', cap', -, -, -, hx⟩ := HQ9.out.1
    have zf := cell_of hx 2 _ rfl
    have t0 := cell_of HQ9.out.2.1 0 _ rfl
    have t1 := cell_of HQ9.out.2.1 1 _ rfl
    have t2 := cell_of HQ9.out.2.1 2 _ rfl
    have t3 := cell_of HQ9.out.2.1 3 _ rfl
    obtain ⟨W9, hW9⟩ : ∃ W, (((X9.setCell ⟨B0, 0, none⟩ (.slice ra1 rm1 rc1)).setCell ⟨B0, 1, none⟩ (.slice ra2 rm2 rc2)).setCell ⟨B0, 2, none⟩ (.slice ra3 rm3 rc3)).setCell ⟨B0, 3, none⟩ (.slice ra4 rm4 rc4) = W := ⟨_, rfl⟩
    obtain ⟨m9, g9⟩ := YRg.set4 _ _ _ _ HQ9.out.2.2 hW9
    have y0 := cell_of m9 0 _ rfl
    have y1 := cell_of m9 1 _ rfl
    have y2 := cell_of m9 2 _ rfl
    have y3 := cell_of m9 3 _ rfl
    have HF : Hid (DR (dec b) w (.returned (.tuple #[.agg #[.slice ra1 rm1 rc1, .slice ra2 rm2 rc2, .slice ra3 rm3 rc3, .slice ra4 rm4 rc4], .int .i64 0, .int .i64 0])) W9) := by
      have h := HPR.out
      have hd : dec b = .ok ⟨xs1, xs2, xs3, xs4⟩ := by unfold dec; rw [if_neg HNB.out.2]; unfold Pr at h; simp only at h; rw [h]
      rw [hd]
      exact ⟨(HW.out W9 g9).1, _, rfl, (HW.out W9 g9).2⟩
    clear m9 g9 hx
    go_wp2_with fail
    try rw [hW9]
    refine bodyPost_ret (v := .tuple #[.agg #[.slice ra1 rm1 rc1, .slice ra2 rm2 rc2, .slice ra3 rm3 rc3, .slice ra4 rm4 rc4], .int .i64 0, .int .i64 0]) (by simp [results, results7, go_sem, y0, y1, y2, y3]) rfl ?_
    exact HF.out
end Go.Proofs.YtaiackmmmlhgbaaGreat.ZQj

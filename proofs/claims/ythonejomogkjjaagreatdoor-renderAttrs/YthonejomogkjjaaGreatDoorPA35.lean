import Derived.Laws.OwnMore
import Derived.Maps.AppendAt
import Derived.Test.YthonejomogkjjaaGreatDoorPA12
import Derived.Test.YthonejomogkjjaaGreatDoorPA32
import Derived.Test.YthonejomogkjjaaGreatDoorPA34
set_option linter.unusedVariables false
set_option maxRecDepth 20000
namespace Go.Proofs.YthonejomogkjjaaGreatDoor.GSz
open Go.RowKit Base KBase KVp GZp
open IBase (Oi)
theorem seven_b {w : World} {B : Nat} {v0 v1 v2 v3 v4 v5 v6 : Value} {t : TypeId} (h : w.heap[B]? = some (.cells #[v0, v1, v2, v3, v4, v5, v6] t (0, 0))) :
  w.cell? ⟨B, 0, none⟩ = some v0 ∧ w.cell? ⟨B, 1, none⟩ = some v1 ∧ w.cell? ⟨B, 2, none⟩ = some v2 ∧ w.cell? ⟨B, 3, none⟩ = some v3 ∧ w.cell? ⟨B, 4, none⟩ = some v4 ∧ w.cell? ⟨B, 5, none⟩ = some v5 ∧ w.cell? ⟨B, 6, none⟩ = some v6 := by
 refine ⟨?_, ?_, ?_, ?_, ?_, ?_, ?_⟩ <;> simp [World.cell?, h]
section
variable {ops : Array Oper} {o : Oper} {y : Act} {K : Act → World → Prop} {Q : Exit → Act → World → Prop} {E : Prop} {w : World} {base n m c : Nat} {v : Value} {xs news : List Value} {ad : Addr}
theorem wp_int (x z : Operand) (ho : o.op = .call { callee := .builtin .append, args := #[x, z], argTypes := #[136, 136] }) (hown : w.ownsRow base 3 1 v n xs) (hl : news.length = m * 1) (hnews : ∀ j u, news[j]? = some u → w.cell? (ad.add j) = some u) (h1 : ∀ u ∈ news, u.oneCell' = true) (hb : n + m ≤ 100000) (hbase : base ≤ w.heap.size)
  (hx : y.eval x = v) (hz : y.eval z = .slice (some ad) m c) (hk : ∀ v' W, W.ownsRow base 3 1 v' (n + m) (xs ++ news) → w.grownBy W v.ownBlock → (v'.ownBlock = v.ownBlock ∨ v'.ownBlock = some w.heap.size) → K (y.put o.dst v') W) : o.wp Tryz.prog y w K Q := by
 obtain ⟨ij, hij, hj0, hj1, hj2⟩ := XLend.info_parts IBase.infoI
 obtain ⟨v', W, hrun, h3, h4, -, h5⟩ := run_append_own_at (P := Tryz.prog) w base 136 o.type 3 ij _ 1 8 Tryz.underlying136 hij hj0 hj1 hj2 rfl (by decide) v n xs hown ad m c news hl hnews h1 (by unfold maxLen; omega) (by omega) hbase
 unfold Oper.wp execOp
 simp only [ho, resolve, invoke, builtin, Sem.run_bind, Sem.run_pure, Result.andThen_ok, List.map_toArray, List.map_cons, List.map_nil, hx, hz, hrun]
 exact hk v' W h3 h4 h5
theorem step_int (hgd : o.guard = none) (x z : Operand) (ho : o.op = .call { callee := .builtin .append, args := #[x, z], argTypes := #[136, 136] }) (hown : w.ownsRow base 3 1 v n xs) (hl : news.length = m * 1) (hnews : ∀ j u, news[j]? = some u → w.cell? (ad.add j) = some u) (h1 : ∀ u ∈ news, u.oneCell' = true) (hb : n + m ≤ 100000) (hbase : base ≤ w.heap.size)
  (hx : y.eval x = v) (hz : y.eval z = .slice (some ad) m c) (hk : ∀ v' W, W.ownsRow base 3 1 v' (n + m) (xs ++ news) → w.grownBy W v.ownBlock → (v'.ownBlock = v.ownBlock ∨ v'.ownBlock = some w.heap.size) → K (y.put o.dst v') W) : if Region.wanted o (yielded ops y.tmps) = true then Oper.wp Tryz.prog o y w K Q else E := by
 have hw : Region.wanted o (yielded ops y.tmps) = true := by simp [Region.wanted, hgd]
 rw [if_pos hw]
 exact wp_int x z ho hown hl hnews h1 hb hbase hx hz hk
end
structure Ko (lo : Nat) (o : Option Nat) (w w' : World) : Prop where
 below : Below lo w w'
 size : w.heap.size ≤ w'.heap.size
 other : ∀ k, some k ≠ o → k < w.heap.size → w'.heap[k]? = w.heap[k]?
def Fresh (w : World) (v u : Value) : Prop := u.ownBlock = v.ownBlock ∨ ∃ b, u.ownBlock = some b ∧ w.heap.size ≤ b
theorem Ko.trans {lo : Nat} {w w1 w2 : World} {v u : Value} (h : Ko lo v.ownBlock w w1) (hf : Fresh w v u) (k : Ko lo u.ownBlock w1 w2) : Ko lo v.ownBlock w w2 :=
 ⟨h.below.trans k.below, Nat.le_trans h.size k.size, fun b hne hl => (k.other b (fun e => by
  rcases hf with hf | ⟨x, hf, hx⟩
  ·exact hne (e.trans hf)
  ·rw [hf] at e
   have := Option.some.inj e
   omega) (Nat.lt_of_lt_of_le hl h.size)).trans (h.other b hne hl)⟩
theorem Fresh.trans {w w1 : World} {v u x : Value} (h : Fresh w v u) (hs : w.heap.size ≤ w1.heap.size) (h2 : Fresh w1 u x) : Fresh w v x := by
 rcases h2 with h2 | ⟨b, h2, hb⟩
 ·rcases h with h | ⟨b, h, hb⟩
  ·exact .inl (h2.trans h)
  ·exact .inr ⟨b, h2.trans h, hb⟩
 ·exact .inr ⟨b, h2, by omega⟩
def SZ (m : Nat) : Prop := ∀ (w : World) (v av : Value) (cs : List Co) (A : List Int) (K lo : Nat), K ≤ lo → lo ≤ w.heap.size → InL false (fun b => b < K) w m v cs → Oi w lo av A → A.length + szL cs ≤ 60000 →
  Calls Tryz.prog 86 #[av, v] w fun e w' => ∃ av', e = .returned av' ∧ Oi w' lo av' (A ++ zs cs) ∧ Ko lo av.ownBlock w w' ∧ Fresh w av av'
theorem oi_cap {w : World} {B : Nat} {v : Value} {L : List Int} (h : Oi w B v L) : ∃ a cap, v = .slice a L.length cap ∧ L.length ≤ cap ∧ cap ≤ 9223372036854775807 := by
 rcases h.2 with ⟨rfl, e⟩ | ⟨g, cap, cur, rfl, -, -, h3, h4, -⟩
 ·exact ⟨none, 0, by rw [e], by omega, by omega⟩
 ·exact ⟨_, _, rfl, h3, by unfold maxLen at h4; omega⟩
theorem oi_lt {w : World} {B : Nat} {v : Value} {L : List Int} (h : Oi w B v L) {g : Nat} (hg : v.ownBlock = some g) : B ≤ g ∧ g < w.heap.size := World.ownsRow.lt h g hg
theorem oi_same {w w' : World} {B : Nat} {v : Value} {L : List Int} (h : Oi w B v L) (hs : ∀ g, v.ownBlock = some g → w'.heap[g]? = w.heap[g]?) : Oi w' B v L := by
 refine ⟨h.1, ?_⟩
 rcases h.2 with h2 | ⟨g, cap, cur, h1, h2, h3, h4⟩
 ·exact .inl h2
 ·exact .inr ⟨g, cap, cur, h1, h2, (hs g (by rw [h1]; rfl)).trans h3, h4⟩
set_option maxHeartbeats 6400000 in
theorem sizes_of {m : Nat} (ih : ∀ m', m = m' + 1 → SZ m') : SZ m := by
 intro w v av cs A K lo hKl hlo hin hO hn
 have Hih : Hid (∀ m', m = m' + 1 → SZ m') := ih
 have HO : Hid (Oi w lo av A) := hO
 have HF : Hid (InL false (fun b => b < K) w m v cs) := hin
 obtain ⟨ca, ccap, rfl, hlc, hcm, hlen, -, -⟩ := hin
 obtain ⟨a0, cap0, rfl, hc1, hc2⟩ := oi_cap hO
 clear ih hO
 go_enter Tryz.func86, Tryz.ntmps86
 go_wp2_with fail
 go_loopw [0, 10] (fun ah i wr => ∃ (q : Nat) (av' : Value), i = .int .i64 q ∧ ah = av' ∧ q ≤ cs.length ∧ Oi wr lo av' (A ++ zs (cs.take q)) ∧ Ko lo (Value.slice a0 A.length cap0).ownBlock w wr ∧ Fresh w (Value.slice a0 A.length cap0) av') (fun _ i _ => cs.length - (intOf i).toNat)
 case atStart => exact ⟨0, _, rfl, rfl, by omega, by rw [List.take_zero, zs_nil, List.append_nil]; exact HO.out, ⟨Below.refl _ _, Nat.le_refl _, fun _ _ _ => rfl⟩, .inl rfl⟩
 case round =>
  obtain ⟨q, av', rfl, rfl, hq, hOr, hKr, hFr⟩ := hrel
  obtain ⟨P, hP⟩ : ∃ P, A ++ zs (cs.take q) = P := ⟨_, rfl⟩
  rw [hP] at hOr
  have HP : Hid (A ++ zs (cs.take q) = P) := hP
  have hlq : P.length = A.length + szL (cs.take q) := by rw [← hP, List.length_append, zs_len]
  have HLQ : Hid _ := hlq
  have hlb : P.length ≤ 60000 := by have := sz_take_le cs q; omega
  have HOr : Hid _ := hOr
  clear hP
  have HKr : Hid _ := hKr
  have HFr : Hid _ := hFr
  have hsr := hKr.size
  obtain ⟨a, cap, rfl, hd1, hd2⟩ := oi_cap hOr
  by_cases hlt : q < cs.length
  ·have d0 : decide ((q : Int) < (cs.length : Int)) = true := by simp; omega
   have i0 : (0 : Int) ≤ (q : Int) := by omega
   have i1 : (q : Int) < (cs.length : Int) := by omega
   obtain ⟨aa, cc, hsl, -, -, -, -, hLA⟩ := HF.out
   cases hsl
   obtain ⟨g, o, u, rfl, hgK, hu, hi⟩ := hLA.elem hlt
   obtain ⟨mc', fv, pv, xv, lv, uv, hmc, rfl, -, -, hF1, hP1, hX1, hL1, hU1⟩ := hi.shape
   have HLk : Hid _ := hL1
   have HUk : Hid _ := hU1
   obtain ⟨fa, fcp, rfl, -⟩ := hF1
   obtain ⟨pa, pcp, rfl, -⟩ := hP1
   obtain ⟨mx, xa, xcp, rfl, -⟩ := hX1
   obtain ⟨la, lcp, rfl, -⟩ := hL1
   obtain ⟨ua, ucp, rfl, -⟩ := hU1
   obtain ⟨v0, v1, v2, v3, v4, v5, v6, he, c0, c1, c2, c3, c4, c5, c6⟩ := hu
   simp only [Value.agg.injEq, Array.mk.injEq, List.cons.injEq, and_true] at he
   obtain ⟨rfl, rfl, rfl, rfl, rfl, rfl, rfl⟩ := he
   have bK : Below K w wr := hKr.below.mono hKl
   have c0 := (World.cell?_of_block (w := w) (bK.block g hgK)).trans c0
   have c1 := (World.cell?_of_block (w := w) (bK.block g hgK)).trans c1
   have c2 := (World.cell?_of_block (w := w) (bK.block g hgK)).trans c2
   have c3 := (World.cell?_of_block (w := w) (bK.block g hgK)).trans c3
   have c4 := (World.cell?_of_block (w := w) (bK.block g hgK)).trans c4
   have c5 := (World.cell?_of_block (w := w) (bK.block g hgK)).trans c5
   have c6 := (World.cell?_of_block (w := w) (bK.block g hgK)).trans c6
   obtain ⟨W1, hW1⟩ : ∃ W1, wr.alloc (.cells #[.int .i64 cs[q].k, .string cs[q].t, .slice fa cs[q].f.length fcp, .slice pa cs[q].p.length pcp, .slice xa cs[q].x.length xcp, .slice la cs[q].l.length lcp, .slice ua cs[q].u.length ucp] 66) = W1 := ⟨_, rfl⟩
   have b1 : Below wr.heap.size wr W1 := by rw [← hW1]; exact (Below.refl _ wr).alloc (Nat.le_refl _) _
   have hs1 : W1.heap.size = wr.heap.size + 1 := by rw [← hW1]; simp
   have hx1 : W1.heap[wr.heap.size]? = some (.cells #[.int .i64 cs[q].k, .string cs[q].t, .slice fa cs[q].f.length fcp, .slice pa cs[q].p.length pcp, .slice xa cs[q].x.length xcp, .slice la cs[q].l.length lcp, .slice ua cs[q].u.length ucp] 66 (0, 0)) := by rw [← hW1]; exact heap_alloc_new wr _
   obtain ⟨-, -, -, -, -, z5, z6⟩ := seven_b hx1
   obtain ⟨W2, hW2⟩ : ∃ W2, W1.drew.alloc (.cells #[.int .i64 0] 3) = W2 := ⟨_, rfl⟩
   have b2 : Below W1.heap.size W1 W2 := by rw [← hW2]; exact ((Below.refl _ W1).drew).alloc (by simp) _
   have hs2 : W2.heap.size = wr.heap.size + 2 := by rw [← hW2]; simp; omega
   have HX2 : Hid _ := (b2.block wr.heap.size (by omega)).trans hx1
   obtain ⟨-, -, -, -, -, y5, y6⟩ := seven_b HX2.out
   have HB2 : Hid (Below wr.heap.size wr W2) := b1.trans (b2.mono (by omega))
   have HO2 : Hid (W2.ownsRow lo 3 1 (.slice a P.length cap) P.length (P.map (Value.int .i64))) := Oi.below hOr HB2.out
   have HN2 : Hid (∀ j u, ([.int .i64 0] : List Value)[j]? = some u → W2.cell? ((⟨wr.heap.size + 1, 0, none⟩ : Addr).add j) = some u) := by
    rw [← hW2]
    have := IBase.new_cells W1.drew [.int .i64 0] 3
    simp only [World.size_drew, hs1] at this
    exact this
   have hz2 : ∀ u ∈ ([.int .i64 0] : List Value), u.oneCell' = true := by simp [Value.oneCell']
   have HZ2 : Hid (∀ u ∈ ([.int .i64 0] : List Value), u.oneCell' = true) := hz2
   have hszq := sz_take hlt
   have hszl := sz_take_le cs (q + 1)
   unfold n1 at hszq
   have HW1 : Hid (wr.alloc (.cells #[.int .i64 cs[q].k, .string cs[q].t, .slice fa cs[q].f.length fcp, .slice pa cs[q].p.length pcp, .slice xa cs[q].x.length xcp, .slice la cs[q].l.length lcp, .slice ua cs[q].u.length ucp] 66) = W1) := hW1
   clear hLA hi hOr hKr hFr bK b1 hx1 b2 hW1 hz2 hlq
   go_wp2_with fail
   try rw [HW1.out]
   refine wp_region_held_drew (S := fun w' => w'.cell? ⟨wr.heap.size, 5, none⟩ = some (.slice la cs[q].l.length lcp) ∧ w'.cell? ⟨wr.heap.size, 6, none⟩ = some (.slice ua cs[q].u.length ucp)) (by kernel_rfl) (by exact ⟨z5, z6⟩) (fun hHeld => ?_)
   refine wpAnyH_take (i := 0) (v := ?_) rfl (by kernel_rfl) (by kernel_rfl) (by kernel_rfl) (fun _ _ _ h => h) (Or.inl ⟨by rfl, ?_⟩) (by assumption) ?_
   rotate_left 1
   ·intro w hSw; (try dsimp only at hSw); go_simp; first | done | with_reducible rfl | (rw [if_neg (by omega)])
   try simp only [Act.put, zA, zB, zD, zE, zF]
   refine wpAnyH_take (i := 3) (v := ?_) rfl (by kernel_rfl) (by kernel_rfl) (by kernel_rfl) (fun _ _ _ h => h) (Or.inl ⟨by rfl, ?_⟩) (by assumption) ?_
   rotate_left 1
   ·intro w hSw; (try dsimp only at hSw); go_simp; first | done | with_reducible rfl | (rw [if_neg (by omega)])
   try simp only [Act.put, zA, zB, zC, zD, zE, zF]
   refine wpAnyH_take (i := 4) (v := ?_) rfl (by kernel_rfl) (by kernel_rfl) (by kernel_rfl) (fun _ _ _ h => h) (Or.inl ⟨by rfl, ?_⟩) (by assumption) ?_
   rotate_left 1
   ·intro w hSw; (try dsimp only at hSw); go_simp; first | done | with_reducible rfl | (rw [if_neg (by omega)])
   try simp only [Act.put, zA, zB, zC, zD, zE, zF]
   refine wpAnyH_take (i := 6) (v := ?_) rfl (by kernel_rfl) (by kernel_rfl) (by kernel_rfl) (fun _ _ _ h => h) (Or.inl ⟨by rfl, ?_⟩) (by assumption) ?_
   rotate_left 1
   ·intro w hSw; (try dsimp only at hSw); go_simp; first | done | with_reducible rfl | (rw [if_neg (by omega)])
   try simp only [Act.put, zA, zB, zC, zD, zE, zF]
   refine wpAnyH_take (i := 7) (v := ?_) rfl (by kernel_rfl) (by kernel_rfl) (by kernel_rfl) (fun _ _ _ h => h) (Or.inl ⟨by rfl, ?_⟩) (by assumption) ?_
   rotate_left 1
   ·intro w hSw; (try dsimp only at hSw); go_simp; first | done | with_reducible rfl | (rw [if_neg (by omega)])
   try simp only [Act.put, zA, zB, zC, zD, zE, zF]
   refine wpAnyH_ready (rs := [1]) (by kernel_rfl) (by simp) ?_
   refine AllReadyH.cons rfl (fun K0 hK => ?_) (AllReadyH.nil)
   go_simp
   try rw [hW2]
   refine hK.out _ _ (by exact ⟨y5, y6⟩) (fun hHeld => ?_)
   clear hK K0
   try simp only [Act.put, zA, zB, zC, zD, zE, zF]
   refine wpAnyH_ready (rs := [2]) (by kernel_rfl) (by simp) ?_
   refine AllReadyH.cons rfl (fun K0 hK => ?_) (AllReadyH.nil)
   refine step_int (base := lo) (news := [.int .i64 0]) (m := 1) (n := P.length) rfl _ _ rfl HO2.out rfl HN2.out HZ2.out (by omega) (by omega) rfl rfl (fun v3 W3 h3 h4 h5 => ?_)
   have o3 : Oi W3 lo v3 (P ++ [0]) := by
    unfold IBase.Oi
    rw [List.length_append, List.map_append]
    exact h3
   have hs3 := h4.size
   have oth3 : ∀ b, b < W2.heap.size → some b ≠ (Value.slice a P.length cap).ownBlock → W3.heap[b]? = W2.heap[b]? := fun b hb hn => h4.block b hb hn
   have K3 : Ko lo (Value.slice a P.length cap).ownBlock wr W3 := ⟨((HB2.out).mono (by omega)).grown h4 (by omega) (fun k hk => (oi_lt HOr.out hk).1), by omega, fun b hn hb => (oth3 b (by omega) hn).trans (HB2.out.block b hb)⟩
   have F3 : Fresh wr (Value.slice a P.length cap) v3 := by
    rcases h5 with h5 | h5
    ·exact .inl h5
    ·exact .inr ⟨_, h5, by omega⟩
   have hne3 : some wr.heap.size ≠ (Value.slice a P.length cap).ownBlock := fun e => by have := (oi_lt HOr.out e.symm).2; omega
   have X3 := (oth3 wr.heap.size (by omega) hne3).trans HX2.out
   obtain ⟨-, -, -, -, -, u5, u6⟩ := seven_b X3
   have HF3 : Hid _ := F3
   have HK3 : Hid _ := K3
   have HO3 : Hid _ := o3
   have HX3 : Hid _ := X3
   have hv3 : v3.ownBlock ≠ some wr.heap.size := by
    rcases h5 with h5 | h5
    ·rw [h5]; exact fun e => hne3 e.symm
    ·rw [h5]; intro e; have := Option.some.inj e; omega
   clear h3 h4 h5 o3 oth3 K3 F3 X3
   refine hK.out _ _ (by exact ⟨u5, u6⟩) (fun hHeld => ?_)
   clear hK K0
   try simp only [Act.put, zA, zB, zC, zD, zE, zF]
   refine wpAnyH_ready (rs := [5]) (by kernel_rfl) (by simp) ?_
   refine AllReadyH.cons rfl (fun K0 hK => ?_) (AllReadyH.nil)
   go_simp
   refine (Hih.out _ hmc W3 (.slice la cs[q].l.length lcp) v3 cs[q].l (P ++ [0]) K lo hKl (by omega) (InL.keep (fun b hb _ => (HKr.out.below.trans HK3.out.below).block b (by omega)) HLk.out) HO3.out (by simp only [List.length_append, List.length_singleton]; have := HLQ.out; omega)).mono ?_
   rintro ee W4 ⟨v4, rfl, o4, k4, f4⟩
   have hs4 := k4.size
   have X4 := (k4.other wr.heap.size (fun e => hv3 e.symm) (by omega)).trans HX3.out
   obtain ⟨-, -, -, -, -, t5, t6⟩ := seven_b X4
   have HX4 : Hid _ := X4
   have hv4 : v4.ownBlock ≠ some wr.heap.size := by
    rcases f4 with f4 | ⟨b, f4, hb⟩
    ·rw [f4]; exact hv3
    ·rw [f4]; intro e; have := Option.some.inj e; omega
   have HO4 : Hid _ := o4
   have HK4 : Hid (Ko lo (Value.slice a P.length cap).ownBlock wr W4) := HK3.out.trans HF3.out k4
   have HF4 : Hid (Fresh wr (Value.slice a P.length cap) v4) := Fresh.trans HF3.out (by omega) f4
   clear o4 k4 f4 X4
   refine hK.out _ _ (by exact ⟨t5, t6⟩) (fun hHeld => ?_)
   clear hK K0
   try simp only [Act.put, zA, zB, zC, zD, zE, zF]
   refine wpAnyH_ready (rs := [8]) (by kernel_rfl) (by simp) ?_
   refine AllReadyH.cons rfl (fun K0 hK => ?_) (AllReadyH.nil)
   go_simp
   refine (Hih.out _ hmc W4 (.slice ua cs[q].u.length ucp) v4 cs[q].u (P ++ [0] ++ zs cs[q].l) K lo hKl (by omega) (InL.keep (fun b hb _ => (HKr.out.below.trans HK4.out.below).block b (by omega)) HUk.out) HO4.out (by simp only [List.length_append, List.length_singleton, zs_len]; have := HLQ.out; omega)).mono ?_
   rintro ee W5 ⟨v5, rfl, o5, k5, f5⟩
   have hs5 := k5.size
   have HK5 : Hid (Ko lo (Value.slice a P.length cap).ownBlock wr W5) := HK4.out.trans HF4.out k5
   have HF5 : Hid (Fresh wr (Value.slice a P.length cap) v5) := Fresh.trans HF4.out (by omega) f5
   have X5 := (k5.other wr.heap.size (fun e => hv4 e.symm) (by omega)).trans HX4.out
   obtain ⟨-, -, -, -, -, r5, r6⟩ := seven_b X5
   obtain ⟨Q5, hQ5⟩ : ∃ Q5, P ++ [0] ++ zs cs[q].l ++ zs cs[q].u = Q5 := ⟨_, rfl⟩
   rw [hQ5] at o5
   have hq5 : Q5.length = P.length + n1 cs[q] := by
    rw [← hQ5]
    simp only [List.length_append, List.length_singleton, zs_len]
    unfold n1
    omega
   have HQ5 : Hid (P ++ [0] ++ zs cs[q].l ++ zs cs[q].u = Q5) := hQ5
   have hn1 : 1 ≤ n1 cs[q] ∧ n1 cs[q] ≤ 60000 := by unfold n1; omega
   obtain ⟨g5, cap5, rfl, hc51, hc52⟩ := Oi.pos o5 (by omega)
   have a5 := Oi.at o5 (k := P.length) (by omega)
   simp only [Nat.zero_add] at a5
   obtain ⟨a50', a51⟩ := a5
   obtain ⟨z50, a50⟩ : ∃ z, W5.cell? ⟨g5, P.length, none⟩ = some (.int .i64 z) := ⟨_, a50'⟩
   clear a50'
   have HO5 : Hid _ := o5
   have hwp : IntKind.i64.wrap ((Q5.length : Int) - (P.length : Int)) = (n1 cs[q] : Int) := by rw [IntKind.wrap_i64]; omega
   have j0 : (0 : Int) ≤ (P.length : Int) := by omega
   have j1 : (P.length : Int) < (Q5.length : Int) := by omega
   have HQL : Hid _ := hq5
   obtain ⟨W6, hW6⟩ : ∃ W6, W5.setCell ⟨g5, P.length, none⟩ (.int .i64 (n1 cs[q] : Int)) = W6 := ⟨_, rfl⟩
   have HW6 : Hid (W5.setCell ⟨g5, P.length, none⟩ (.int .i64 (n1 cs[q] : Int)) = W6) := hW6
   have HE : Hid (Oi W6 lo (.slice (some ⟨g5, 0, none⟩) Q5.length cap5) (A ++ zs (cs.take (q + 1))) ∧ Ko lo (Value.slice a0 A.length cap0).ownBlock w W6 ∧ Fresh w (Value.slice a0 A.length cap0) (.slice (some ⟨g5, 0, none⟩) Q5.length cap5)) := by
    obtain ⟨r1, r2⟩ := Oi.set HO5.out P.length (n1 cs[q] : Int)
    rw [HW6.out] at r1 r2
    have e1 : Q5.set P.length (n1 cs[q] : Int) = A ++ zs (cs.take (q + 1)) := by
     rw [← HQ5.out, zs_take hlt, ← List.append_assoc, HP.out]
     simp []
    rw [e1] at r1
    have hg5 := oi_lt HO5.out (g := g5) rfl
    have kk : Ko lo (Value.slice (some ⟨g5, 0, none⟩) Q5.length cap5).ownBlock W5 W6 := ⟨by rw [← HW6.out]; exact (Below.refl _ _).setCell (by simpa using hg5.1) _, by rw [← HW6.out, World.size_setCell]; exact Nat.le_refl _, fun b hb _ => by rw [← HW6.out, Below.heap_setCell _ _ _ _ (fun e => hb (by rw [e]; rfl))]⟩
    exact ⟨r1, Ko.trans HKr.out HFr.out (Ko.trans HK5.out HF5.out kk), Fresh.trans HFr.out (by omega) HF5.out⟩
   clear k5 f5 o5 hQ5 hq5 X5 hW6
   refine hK.out _ _ (by exact ⟨r5, r6⟩) (fun hHeld => ?_)
   clear hK K0
   try simp only [Act.put, zA, zB, zC, zD, zE, zF]
   refine wpAnyH_take (i := 9) (v := ?_) rfl (by kernel_rfl) (by kernel_rfl) (by kernel_rfl) (fun _ _ _ h => h) (Or.inl ⟨by rfl, ?_⟩) (by assumption) ?_
   rotate_left 1
   ·intro w hSw; (try dsimp only at hSw); go_simp; first | done | with_reducible rfl | (rw [if_neg (by omega)])
   try simp only [Act.put, zA, zB, zC, zD, zE]
   refine wpAnyH_done (by kernel_rfl) ?_ _
   go_wp2_with fail
   try go_region
   try go_wp2_with fail
   try rw [HW6.out]
   go_roundw
   case rel =>
    obtain ⟨e1, e2, e3⟩ := HE.out
    exact ⟨q + 1, _, by go_num, rfl, by omega, e1, e2, e3⟩
   case measure => simp only [intOf]; omega
  ·obtain rfl : q = cs.length := by omega
   have hnlt : decide ((cs.length : Int) < (cs.length : Int)) = false := by simp
   have HE : Hid (A ++ zs cs = P) := by have := HP.out; rw [List.take_length] at this; exact this
   clear hOr hKr hFr
   go_wp2_with fail
   go_ret
   exact ⟨_, rfl, by rw [HE.out]; exact HOr.out, HKr.out, HFr.out⟩
theorem sizes_c : ∀ m, SZ m
 | 0 => sizes_of fun m' h => absurd h (by omega)
 | m + 1 => sizes_of fun m' h => by
  obtain rfl : m = m' := by omega
  exact sizes_c m
end Go.Proofs.YthonejomogkjjaaGreatDoor.GSz

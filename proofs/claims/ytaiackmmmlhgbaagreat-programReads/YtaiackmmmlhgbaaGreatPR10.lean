import Derived.Test.YtaiackmmmlhgbaaGreatPR09
open Go.Proofs.Tryz
set_option linter.unusedVariables false
set_option maxRecDepth 20000
set_option maxHeartbeats 3200000
namespace Go.Proofs.YtaiackmmmlhgbaaGreat.YRl
open Go.RowKit Leb YPl YRd YRr YRs YRb
open TBase (T Keep)
def VA {α : Type} (Hd : Hdt α) : (Nat -> Prop) -> World -> Value -> α -> Prop := fun S w v x => ∃ c : List Value, v = .agg c.toArray /\ Hd S w c x
def VC : (Nat -> Prop) -> World -> Value -> List Ins -> Prop := fun S w v x => RrS 2 LyN S w v x
theorem bnd_id {α : Type} (a : Rs (List α)) : bnd a (fun l r => .ok ([] ++ l, r)) = a := by
  unfold bnd; cases a with
  | error q => rfl
  | ok t => obtain ⟨x, p⟩ := t; rfl
theorem many_step {α : Type} {f : Nat -> Rs α} {n q p p2 q0 : Nat} {xs : List α} {x : α} (hq : q < n) (h : bnd (rmany f (n - q) p) (fun l r => .ok (xs ++ l, r)) = rmany f n q0) (hf : f p = .ok (x, p2)) : bnd (rmany f (n - (q + 1)) p2) (fun l r => .ok ((xs ++ [x]) ++ l, r)) = rmany f n q0 := by
  obtain ⟨m, hm⟩ : ∃ m, n - q = m + 1 := ⟨n - q - 1, by omega⟩
  rw [show n - (q + 1) = m by omega]
  rw [hm, rmany, hf] at h
  rw [<- h]
  simp only [bnd]
  cases rmany f m p2 with
  | error z => rfl
  | ok t => obtain ⟨l, r⟩ := t; simp
theorem many_stop {α : Type} {f : Nat -> Rs α} {n q p q0 z : Nat} {xs : List α} (hq : q < n) (h : bnd (rmany f (n - q) p) (fun l r => .ok (xs ++ l, r)) = rmany f n q0) (hf : f p = .error z) : rmany f n q0 = .error z := by
  obtain ⟨m, hm⟩ : ∃ m, n - q = m + 1 := ⟨n - q - 1, by omega⟩
  rw [hm, rmany, hf] at h
  exact h.symm
theorem many_end {α : Type} {f : Nat -> Rs α} {n p q0 : Nat} {xs : List α} (h : bnd (rmany f (n - n) p) (fun l r => .ok (xs ++ l, r)) = rmany f n q0) : rmany f n q0 = .ok (xs, p) := by
  rw [Nat.sub_self, rmany] at h
  rw [<- h]
  simp [bnd]
theorem RowI.push {α : Type} {Hd : Hdt α} (hs : Stays Hd) {ty : TypeId} {n lo R : Nat} {w w2 w3 : World} {v : Value} {l : List α} {c : List Value} {x : α} (h : RowI Hd ty n lo w v l) (hR : R < lo) (hlo : lo <= w.heap.size) (hg : Gx R w w2)
    (hx : Hd (fun g => w.heap.size <= g /\ g < w2.heap.size) w2 c x) (hb : Below w2.heap.size w2 w3) :
    ∃ css : List (List Value), w3.ownsRow lo ty n v l.length css.flatten /\ css.length = l.length /\ (∀ c ∈ css, c.length = n) /\ (∀ j (h1 : j < css.length) (h2 : j < l.length), Hd (Sx lo w3 v) w3 css[j] l[j]) /\ Hd (Sx lo w3 v) w3 c x := by
  obtain ⟨css, h1, h2, h3, h4⟩ := (h.other hs hR hg).other hs hR (Gx.of (R := R) hb)
  refine ⟨css, h1, h2, h3, h4, hs.out (S := fun g => w.heap.size <= g /\ g < w2.heap.size) (fun b hb' hl => hb.block b hl) (fun b hb' => ⟨by omega, by have := hb.size; omega, fun e => ?_⟩) hx⟩
  obtain ⟨css', h1', -⟩ := h
  have := (World.ownsRow.lt h1' b e).2
  omega
theorem RowI.slice {α : Type} {Hd : Hdt α} {ty : TypeId} {n lo : Nat} {w : World} {v : Value} {l : List α} (h : RowI Hd ty n lo w v l) : ∃ a m c, v = .slice a m c := by
  obtain ⟨css, h1, -⟩ := h
  rcases h1.2 with ⟨rfl, -⟩ | ⟨g, cap, cur, rfl, -⟩ <;> exact ⟨_, _, _, rfl⟩
theorem src_of {W : World} {B : Nat} {c : List Value} {t : TypeId} (h : W.heap[B]? = some (.cells c.toArray t (0, 0))) : ((some (⟨B, 0, none⟩ : Addr)) = none /\ 1 = 0 /\ 1 = 0) \/ ∃ ad : Addr, some (⟨B, 0, none⟩ : Addr) = some ad /\ ∀ j u, c[j]? = some u -> W.cell? (ad.add j) = some u :=
  .inr ⟨_, rfl, fun j u hu => by rw [Leb.add_none, Nat.zero_add]; exact cell_of h j u (by simpa using hu)⟩
theorem gx_row {R : Nat} {w W3 W4 : World} {row : Option Nat} (h : Gx R w W3) (hg : W3.grownBy W4 row) (hr : ∀ r, row = some r -> w.heap.size <= r) : Gx R w W4 :=
  ⟨hg.os.trans h.os, hg.tape.trans h.tape, hg.output.trans h.output, Nat.le_trans h.size hg.size, fun k hk hne => (hg.block k (by have := h.size; omega) (fun e => by have := hr k e.symm; omega)).trans (h.block k hk hne)⟩
end Go.Proofs.YtaiackmmmlhgbaaGreat.YRl
namespace Go.Proofs.YtaiackmmmlhgbaaGreat.YRa
open Go.RowKit YPl YRd YWr YRr YRs YRb YRl
theorem info_s : (prog.info? 9).map (fun i => (i.zero, i.size, i.bytes)) = some (some (.string ⟨#[]⟩), 1, 16) := by kernel_rfl
theorem ly_s {S : Nat -> Prop} {lo : Nat} {w : World} {v : Value} (hSS : ∀ b, Sx lo w v b -> S b) (g o : Nat) (c : List Value) (x : ByteArray) (hg : S g) (hc : ∀ i u, c[i]? = some u -> w.cell? ⟨g, o + i, none⟩ = some u) (hl : c.length = 1) (h : HdS (Sx lo w v) w c x) : LyS w g o x := by
  obtain ⟨rfl, h0⟩ := h; exact ⟨hc 0 _ rfl, h0⟩
theorem rl_s {K R p k : Nat} {w : World} {b : By} (lim : Nat) (hlim : lim <= 16384) (f : Nat -> Rs ByteArray) (h : Rb K w R b p k)
    (hone : Hid (∀ (W : World) (q : Nat), Rb K W R b q k -> Gx R w W -> Calls prog 59 #[ptw R] W fun e w' => RA K R b k VS (f q) W e w')) :
    Calls prog 58 #[ptw R, .int .i64 lim, .func (.func 59) #[ptw R] #[]] w fun e w' => RA K R b k (fun S w v l => RrS 1 LyS S w v l) (rlst lim f b p) w e w' := by
  have hRlt := h.lt
  have c1 := YRb.count_c lim hlim h
  obtain ⟨i0, hi, hz0, hz1, hz2⟩ := info_parts info_s
  have hE0 : rlst lim f b p = bnd (rcnt lim b p) fun n q => rmany f n q := rfl
  clear h
  cases hE : rcnt lim b p with
  | error q =>
    rw [hE] at c1 hE0
    have HE : Hid (rlst lim f b p = .error q) := hE0
    clear hE0 hE
    go_enter func58, ntmps58
    go_wp2_with fail
    refine c1.mono ?_
    rintro e w1 ⟨g1, rfl⟩
    exact ⟨rfl, by rw [HE.out]; exact ⟨g1, rfl⟩⟩
  | ok t =>
  obtain ⟨n, q0⟩ := t
  rw [hE] at c1 hE0
  have HE : Hid (rlst lim f b p = rmany f n q0) := hE0
  clear hE0 hE
  go_enter func58, ntmps58
  go_wp2_with fail
  refine c1.mono ?_
  rintro e w1 ⟨g1, v, rfl, ⟨rfl, hn⟩, hR1⟩
  have HG1 : Hid (Gx R w w1 /\ Rb K w1 R b q0 k) := ⟨g1, hR1⟩
  clear c1 g1 hR1
  go_wp2_with fail
  go_loopw [7, 11] (fun v i wr => ∃ (q p' : Nat) (xs : List ByteArray), i = .int .i64 q /\ q <= n /\ xs.length = q /\ Hid (Gx R w wr /\ RowI HdS 9 1 w.heap.size wr v xs /\ Rb K wr R b p' k) /\ Hid (bnd (rmany f (n - q) p') (fun l r => .ok (xs ++ l, r)) = rmany f n q0)) (fun _ i _ => n - (intOf i).toNat)
  case atStart => exact ⟨0, q0, [], rfl, by omega, rfl, ⟨HG1.out.1, RowI.nil _ _ _ _ _, HG1.out.2⟩, by show _ = _; rw [Nat.sub_zero]; exact bnd_id _⟩
  case round =>
    obtain ⟨q, p', xs, rfl, hq, hxl, HG, HS⟩ := hrel
    by_cases hlt : q < n
    · have cx := hone.out wr p' HG.out.2.2 HG.out.1
      go_wp2_with fail
      refine cx.mono ?_
      rintro e w2 ⟨g2, hA⟩
      cases hfx : f p' with
      | error z =>
        rw [hfx] at hA
        obtain rfl := hA
        exact ⟨rfl, by rw [HE.out, many_stop hlt HS.out hfx]; exact ⟨Gx.trans HG.out.1 g2, rfl⟩⟩
      | ok t =>
        obtain ⟨x, p2⟩ := t
        rw [hfx] at hA
        obtain ⟨ve, rfl, hve, hR2⟩ := hA
        obtain ⟨rfl, hsz⟩ := hve
        obtain ⟨W3, hW3⟩ : ∃ W, w2.alloc (.cells #[.string x] 9) = W := ⟨_, rfl⟩
        have b3 : Below w2.heap.size w2 W3 := by rw [<- hW3]; exact (Below.refl _ w2).alloc (Nat.le_refl _) _
        have n3 : W3.heap[w2.heap.size]? = some (.cells #[.string x] 9 (0, 0)) := by rw [<- hW3]; exact heap_alloc_new w2 _
        obtain ⟨css, k1, k2, k3, k4, k5⟩ := RowI.push sS HG.out.2.1 hRlt HG.out.1.size g2 (c := [.string x]) (x := x) ⟨rfl, by omega⟩ b3
        have HS2 : Hid _ := many_step hlt HS.out hfx
        have HP : Hid (_ /\ _ /\ _ /\ _) := And.intro k2 (And.intro k3 (And.intro k4 k5))
        have HG2 : Hid (Gx R w W3 /\ Rb K W3 R b p2 k) := ⟨Gx.trans (Gx.trans HG.out.1 g2) (Gx.of b3), Rb.below hR2 b3⟩
        have hsz := HG2.out.1.size
        have hcl := src_of n3
        have hl3 := k1.1
        clear hR2 b3 n3 k2 k3 k4 k5 g2 cx HG HS
        go_wp2_with (first
          | (at_builtin; (try rw [hW3]); refine YAp.app_seen rfl _ _ 24 rfl w.heap.size 9 i0 (.string ⟨#[]⟩) 1 16 underlying24 hi hz0 hz1 hz2 rfl (by decide) _ _ _ rfl k1 _ 1 _ [.string x] rfl hcl rfl (by intro u hu; simp only [List.mem_cons, List.not_mem_nil, or_false] at hu; rcases hu with rfl; rfl) (by unfold maxLen; omega) (by omega) hsz ?_))
        intro v' W4 hown hgrow hnb
        have HF : Hid (Gx R w W4 /\ RowI HdS 9 1 w.heap.size W4 v' (xs ++ [x]) /\ Rb K W4 R b p2 k) := ⟨gx_row HG2.out.1 hgrow (fun r hr => (World.ownsRow.lt k1 r hr).1), RowI.snoc sS k1 HP.out.1 HP.out.2.1 HP.out.2.2.1 HP.out.2.2.2 rfl hgrow (by rw [hxl]; exact hown) hnb, Rb.row HG2.out.2 hgrow hRlt (fun r hr => (World.ownsRow.lt k1 r hr).1)⟩
        clear hown hgrow hnb HG2 HP k1 hcl
        go_wp2_with fail
        go_roundw
        case rel => exact ⟨q + 1, p2, xs ++ [x], by go_num, by omega, by simp [hxl], HF, HS2⟩
        case measure => simp only [intOf]; omega
    · obtain rfl : q = n := by omega
      obtain ⟨va, vm, vc, rfl⟩ := RowI.slice HG.out.2.1
      go_wp2_with fail
      go_ret
      rw [HE.out, many_end HS.out]
      exact ⟨HG.out.1, _, rfl, RowI.rr HG.out.2.1 (by omega) (fun b h1 h2 => ⟨h1, h2⟩) (ly_s (fun b hb => ⟨hb.1, hb.2.1⟩)), HG.out.2.2⟩
end Go.Proofs.YtaiackmmmlhgbaaGreat.YRa
namespace Go.Proofs.YtaiackmmmlhgbaaGreat.YRe
open Go.RowKit YPl YRd YWr YRr YRs YRb YRl
theorem info_i : (prog.info? 3).map (fun i => (i.zero, i.size, i.bytes)) = some (some (.int .i64 0), 1, 8) := by kernel_rfl
theorem ly_i {S : Nat -> Prop} {lo : Nat} {w : World} {v : Value} (hSS : ∀ b, Sx lo w v b -> S b) (g o : Nat) (c : List Value) (x : Int) (hg : S g) (hc : ∀ i u, c[i]? = some u -> w.cell? ⟨g, o + i, none⟩ = some u) (hl : c.length = 1) (h : HdI (Sx lo w v) w c x) : LyI w g o x := by
  obtain ⟨rfl, h0⟩ := h; exact ⟨hc 0 _ rfl, h0⟩
theorem rl_i {K R p k : Nat} {w : World} {b : By} (lim : Nat) (hlim : lim <= 16384) (f : Nat -> Rs Int) (h : Rb K w R b p k)
    (hone : Hid (∀ (W : World) (q : Nat), Rb K W R b q k -> Gx R w W -> Calls prog 114 #[ptw R] W fun e w' => RA K R b k VI (f q) W e w')) :
    Calls prog 113 #[ptw R, .int .i64 lim, .func (.func 114) #[ptw R] #[]] w fun e w' => RA K R b k (fun S w v l => RrS 1 LyI S w v l) (rlst lim f b p) w e w' := by
  have hRlt := h.lt
  have c1 := YRb.count_c lim hlim h
  obtain ⟨i0, hi, hz0, hz1, hz2⟩ := info_parts info_i
  have hE0 : rlst lim f b p = bnd (rcnt lim b p) fun n q => rmany f n q := rfl
  clear h
  cases hE : rcnt lim b p with
  | error q =>
    rw [hE] at c1 hE0
    have HE : Hid (rlst lim f b p = .error q) := hE0
    clear hE0 hE
    go_enter func113, ntmps113
    go_wp2_with fail
    refine c1.mono ?_
    rintro e w1 ⟨g1, rfl⟩
    exact ⟨rfl, by rw [HE.out]; exact ⟨g1, rfl⟩⟩
  | ok t =>
  obtain ⟨n, q0⟩ := t
  rw [hE] at c1 hE0
  have HE : Hid (rlst lim f b p = rmany f n q0) := hE0
  clear hE0 hE
  go_enter func113, ntmps113
  go_wp2_with fail
  refine c1.mono ?_
  rintro e w1 ⟨g1, v, rfl, ⟨rfl, hn⟩, hR1⟩
  have HG1 : Hid (Gx R w w1 /\ Rb K w1 R b q0 k) := ⟨g1, hR1⟩
  clear c1 g1 hR1
  go_wp2_with fail
  go_loopw [7, 11] (fun v i wr => ∃ (q p' : Nat) (xs : List Int), i = .int .i64 q /\ q <= n /\ xs.length = q /\ Hid (Gx R w wr /\ RowI HdI 3 1 w.heap.size wr v xs /\ Rb K wr R b p' k) /\ Hid (bnd (rmany f (n - q) p') (fun l r => .ok (xs ++ l, r)) = rmany f n q0)) (fun _ i _ => n - (intOf i).toNat)
  case atStart => exact ⟨0, q0, [], rfl, by omega, rfl, ⟨HG1.out.1, RowI.nil _ _ _ _ _, HG1.out.2⟩, by show _ = _; rw [Nat.sub_zero]; exact bnd_id _⟩
  case round =>
    obtain ⟨q, p', xs, rfl, hq, hxl, HG, HS⟩ := hrel
    by_cases hlt : q < n
    · have cx := hone.out wr p' HG.out.2.2 HG.out.1
      go_wp2_with fail
      refine cx.mono ?_
      rintro e w2 ⟨g2, hA⟩
      cases hfx : f p' with
      | error z =>
        rw [hfx] at hA
        obtain rfl := hA
        exact ⟨rfl, by rw [HE.out, many_stop hlt HS.out hfx]; exact ⟨Gx.trans HG.out.1 g2, rfl⟩⟩
      | ok t =>
        obtain ⟨x, p2⟩ := t
        rw [hfx] at hA
        obtain ⟨ve, rfl, hve, hR2⟩ := hA
        obtain ⟨rfl, hb0⟩ := hve
        obtain ⟨W3, hW3⟩ : ∃ W, w2.alloc (.cells #[.int .i64 x] 3) = W := ⟨_, rfl⟩
        have b3 : Below w2.heap.size w2 W3 := by rw [<- hW3]; exact (Below.refl _ w2).alloc (Nat.le_refl _) _
        have n3 : W3.heap[w2.heap.size]? = some (.cells #[.int .i64 x] 3 (0, 0)) := by rw [<- hW3]; exact heap_alloc_new w2 _
        obtain ⟨css, k1, k2, k3, k4, k5⟩ := RowI.push sI HG.out.2.1 hRlt HG.out.1.size g2 (c := [.int .i64 x]) (x := x) ⟨rfl, hb0⟩ b3
        have HS2 : Hid _ := many_step hlt HS.out hfx
        have HP : Hid (_ /\ _ /\ _ /\ _) := And.intro k2 (And.intro k3 (And.intro k4 k5))
        have HG2 : Hid (Gx R w W3 /\ Rb K W3 R b p2 k) := ⟨Gx.trans (Gx.trans HG.out.1 g2) (Gx.of b3), Rb.below hR2 b3⟩
        have hsz := HG2.out.1.size
        have hcl := src_of n3
        have hl3 := k1.1
        clear hR2 b3 n3 k2 k3 k4 k5 g2 cx HG HS
        go_wp2_with (first
          | (at_builtin; (try rw [hW3]); refine YAp.app_seen rfl _ _ 72 rfl w.heap.size 3 i0 (.int .i64 0) 1 8 underlying72 hi hz0 hz1 hz2 rfl (by decide) _ _ _ rfl k1 _ 1 _ [.int .i64 x] rfl hcl rfl (by intro u hu; simp only [List.mem_cons, List.not_mem_nil, or_false] at hu; rcases hu with rfl; rfl) (by unfold maxLen; omega) (by omega) hsz ?_))
        intro v' W4 hown hgrow hnb
        have HF : Hid (Gx R w W4 /\ RowI HdI 3 1 w.heap.size W4 v' (xs ++ [x]) /\ Rb K W4 R b p2 k) := ⟨gx_row HG2.out.1 hgrow (fun r hr => (World.ownsRow.lt k1 r hr).1), RowI.snoc sI k1 HP.out.1 HP.out.2.1 HP.out.2.2.1 HP.out.2.2.2 rfl hgrow (by rw [hxl]; exact hown) hnb, Rb.row HG2.out.2 hgrow hRlt (fun r hr => (World.ownsRow.lt k1 r hr).1)⟩
        clear hown hgrow hnb HG2 HP k1 hcl
        go_wp2_with fail
        go_roundw
        case rel => exact ⟨q + 1, p2, xs ++ [x], by go_num, by omega, by simp [hxl], HF, HS2⟩
        case measure => simp only [intOf]; omega
    · obtain rfl : q = n := by omega
      obtain ⟨va, vm, vc, rfl⟩ := RowI.slice HG.out.2.1
      go_wp2_with fail
      go_ret
      rw [HE.out, many_end HS.out]
      exact ⟨HG.out.1, _, rfl, RowI.rr HG.out.2.1 (by omega) (fun b h1 h2 => ⟨h1, h2⟩) (ly_i (fun b hb => ⟨hb.1, hb.2.1⟩)), HG.out.2.2⟩
theorem info_n : (prog.info? 65).map (fun i => (i.zero, i.size, i.bytes)) = some (some (.agg #[.int .i64 0, .int .i64 0]), 2, 16) := by kernel_rfl
theorem ly_n {S : Nat -> Prop} {lo : Nat} {w : World} {v : Value} (hSS : ∀ b, Sx lo w v b -> S b) (g o : Nat) (c : List Value) (x : Ins) (hg : S g) (hc : ∀ i u, c[i]? = some u -> w.cell? ⟨g, o + i, none⟩ = some u) (hl : c.length = 2) (h : HdN (Sx lo w v) w c x) : LyN w g o x := by
  obtain ⟨rfl, h0⟩ := h; exact ⟨hc 0 _ rfl, hc 1 _ rfl, h0⟩
theorem rl_n {K R p k : Nat} {w : World} {b : By} (lim : Nat) (hlim : lim <= 16384) (f : Nat -> Rs Ins) (h : Rb K w R b p k)
    (hone : Hid (∀ (W : World) (q : Nat), Rb K W R b q k -> Gx R w W -> Calls prog 109 #[ptw R] W fun e w' => RA K R b k (VA HdN) (f q) W e w')) :
    Calls prog 108 #[ptw R, .int .i64 lim, .func (.func 109) #[ptw R] #[]] w fun e w' => RA K R b k (fun S w v l => RrS 2 LyN S w v l) (rlst lim f b p) w e w' := by
  have hRlt := h.lt
  have c1 := YRb.count_c lim hlim h
  obtain ⟨i0, hi, hz0, hz1, hz2⟩ := info_parts info_n
  have hE0 : rlst lim f b p = bnd (rcnt lim b p) fun n q => rmany f n q := rfl
  clear h
  cases hE : rcnt lim b p with
  | error q =>
    rw [hE] at c1 hE0
    have HE : Hid (rlst lim f b p = .error q) := hE0
    clear hE0 hE
    go_enter func108, ntmps108
    go_wp2_with fail
    refine c1.mono ?_
    rintro e w1 ⟨g1, rfl⟩
    exact ⟨rfl, by rw [HE.out]; exact ⟨g1, rfl⟩⟩
  | ok t =>
  obtain ⟨n, q0⟩ := t
  rw [hE] at c1 hE0
  have HE : Hid (rlst lim f b p = rmany f n q0) := hE0
  clear hE0 hE
  go_enter func108, ntmps108
  go_wp2_with fail
  refine c1.mono ?_
  rintro e w1 ⟨g1, v, rfl, ⟨rfl, hn⟩, hR1⟩
  have HG1 : Hid (Gx R w w1 /\ Rb K w1 R b q0 k) := ⟨g1, hR1⟩
  clear c1 g1 hR1
  go_wp2_with fail
  go_loopw [7, 11] (fun v i wr => ∃ (q p' : Nat) (xs : List Ins), i = .int .i64 q /\ q <= n /\ xs.length = q /\ Hid (Gx R w wr /\ RowI HdN 65 2 w.heap.size wr v xs /\ Rb K wr R b p' k) /\ Hid (bnd (rmany f (n - q) p') (fun l r => .ok (xs ++ l, r)) = rmany f n q0)) (fun _ i _ => n - (intOf i).toNat)
  case atStart => exact ⟨0, q0, [], rfl, by omega, rfl, ⟨HG1.out.1, RowI.nil _ _ _ _ _, HG1.out.2⟩, by show _ = _; rw [Nat.sub_zero]; exact bnd_id _⟩
  case round =>
    obtain ⟨q, p', xs, rfl, hq, hxl, HG, HS⟩ := hrel
    by_cases hlt : q < n
    · have cx := hone.out wr p' HG.out.2.2 HG.out.1
      go_wp2_with fail
      refine cx.mono ?_
      rintro e w2 ⟨g2, hA⟩
      cases hfx : f p' with
      | error z =>
        rw [hfx] at hA
        obtain rfl := hA
        exact ⟨rfl, by rw [HE.out, many_stop hlt HS.out hfx]; exact ⟨Gx.trans HG.out.1 g2, rfl⟩⟩
      | ok t =>
        obtain ⟨x, p2⟩ := t
        rw [hfx] at hA
        obtain ⟨ve, rfl, hve, hR2⟩ := hA
        obtain ⟨c, rfl, rfl, hb0⟩ := hve
        obtain ⟨W3, hW3⟩ : ∃ W, w2.alloc (.cells #[.int .i64 x.1, .int .i64 x.2] 65) = W := ⟨_, rfl⟩
        have b3 : Below w2.heap.size w2 W3 := by rw [<- hW3]; exact (Below.refl _ w2).alloc (Nat.le_refl _) _
        have n3 : W3.heap[w2.heap.size]? = some (.cells #[.int .i64 x.1, .int .i64 x.2] 65 (0, 0)) := by rw [<- hW3]; exact heap_alloc_new w2 _
        obtain ⟨css, k1, k2, k3, k4, k5⟩ := RowI.push sN HG.out.2.1 hRlt HG.out.1.size g2 (c := [.int .i64 x.1, .int .i64 x.2]) (x := x) ⟨rfl, hb0⟩ b3
        have HS2 : Hid _ := many_step hlt HS.out hfx
        have HP : Hid (_ /\ _ /\ _ /\ _) := And.intro k2 (And.intro k3 (And.intro k4 k5))
        have HG2 : Hid (Gx R w W3 /\ Rb K W3 R b p2 k) := ⟨Gx.trans (Gx.trans HG.out.1 g2) (Gx.of b3), Rb.below hR2 b3⟩
        have hsz := HG2.out.1.size
        have hcl := src_of n3
        have hl3 := k1.1
        clear hR2 b3 n3 k2 k3 k4 k5 g2 cx HG HS
        go_wp2_with (first
          | (at_builtin; (try rw [hW3]); refine YAp.app_seen rfl _ _ 63 rfl w.heap.size 65 i0 (.agg #[.int .i64 0, .int .i64 0]) 2 16 underlying63 hi hz0 hz1 hz2 rfl (by decide) _ _ _ rfl k1 _ 1 _ [.int .i64 x.1, .int .i64 x.2] rfl hcl rfl (by intro u hu; simp only [List.mem_cons, List.not_mem_nil, or_false] at hu; rcases hu with rfl | rfl <;> rfl) (by unfold maxLen; omega) (by omega) hsz ?_))
        intro v' W4 hown hgrow hnb
        have HF : Hid (Gx R w W4 /\ RowI HdN 65 2 w.heap.size W4 v' (xs ++ [x]) /\ Rb K W4 R b p2 k) := ⟨gx_row HG2.out.1 hgrow (fun r hr => (World.ownsRow.lt k1 r hr).1), RowI.snoc sN k1 HP.out.1 HP.out.2.1 HP.out.2.2.1 HP.out.2.2.2 rfl hgrow (by rw [hxl]; exact hown) hnb, Rb.row HG2.out.2 hgrow hRlt (fun r hr => (World.ownsRow.lt k1 r hr).1)⟩
        clear hown hgrow hnb HG2 HP k1 hcl
        go_wp2_with fail
        go_roundw
        case rel => exact ⟨q + 1, p2, xs ++ [x], by go_num, by omega, by simp [hxl], HF, HS2⟩
        case measure => simp only [intOf]; omega
    · obtain rfl : q = n := by omega
      obtain ⟨va, vm, vc, rfl⟩ := RowI.slice HG.out.2.1
      go_wp2_with fail
      go_ret
      rw [HE.out, many_end HS.out]
      exact ⟨HG.out.1, _, rfl, RowI.rr HG.out.2.1 (by omega) (fun b h1 h2 => ⟨h1, h2⟩) (ly_n (fun b hb => ⟨hb.1, hb.2.1⟩)), HG.out.2.2⟩
theorem info_a : (prog.info? 124).map (fun i => (i.zero, i.size, i.bytes)) = some (some (.agg #[.string ⟨#[]⟩, .string ⟨#[]⟩]), 2, 32) := by kernel_rfl
theorem ly_a {S : Nat -> Prop} {lo : Nat} {w : World} {v : Value} (hSS : ∀ b, Sx lo w v b -> S b) (g o : Nat) (c : List Value) (x : (ByteArray × ByteArray)) (hg : S g) (hc : ∀ i u, c[i]? = some u -> w.cell? ⟨g, o + i, none⟩ = some u) (hl : c.length = 2) (h : HdA (Sx lo w v) w c x) : LyA w g o x := by
  obtain ⟨rfl, h0⟩ := h; exact ⟨hc 0 _ rfl, hc 1 _ rfl, h0⟩
theorem rl_a {K R p k : Nat} {w : World} {b : By} (lim : Nat) (hlim : lim <= 16384) (f : Nat -> Rs (ByteArray × ByteArray)) (h : Rb K w R b p k)
    (hone : Hid (∀ (W : World) (q : Nat), Rb K W R b q k -> Gx R w W -> Calls prog 163 #[ptw R] W fun e w' => RA K R b k (VA HdA) (f q) W e w')) :
    Calls prog 162 #[ptw R, .int .i64 lim, .func (.func 163) #[ptw R] #[]] w fun e w' => RA K R b k (fun S w v l => RrS 2 LyA S w v l) (rlst lim f b p) w e w' := by
  have hRlt := h.lt
  have c1 := YRb.count_c lim hlim h
  obtain ⟨i0, hi, hz0, hz1, hz2⟩ := info_parts info_a
  have hE0 : rlst lim f b p = bnd (rcnt lim b p) fun n q => rmany f n q := rfl
  clear h
  cases hE : rcnt lim b p with
  | error q =>
    rw [hE] at c1 hE0
    have HE : Hid (rlst lim f b p = .error q) := hE0
    clear hE0 hE
    go_enter func162, ntmps162
    go_wp2_with fail
    refine c1.mono ?_
    rintro e w1 ⟨g1, rfl⟩
    exact ⟨rfl, by rw [HE.out]; exact ⟨g1, rfl⟩⟩
  | ok t =>
  obtain ⟨n, q0⟩ := t
  rw [hE] at c1 hE0
  have HE : Hid (rlst lim f b p = rmany f n q0) := hE0
  clear hE0 hE
  go_enter func162, ntmps162
  go_wp2_with fail
  refine c1.mono ?_
  rintro e w1 ⟨g1, v, rfl, ⟨rfl, hn⟩, hR1⟩
  have HG1 : Hid (Gx R w w1 /\ Rb K w1 R b q0 k) := ⟨g1, hR1⟩
  clear c1 g1 hR1
  go_wp2_with fail
  go_loopw [7, 11] (fun v i wr => ∃ (q p' : Nat) (xs : List (ByteArray × ByteArray)), i = .int .i64 q /\ q <= n /\ xs.length = q /\ Hid (Gx R w wr /\ RowI HdA 124 2 w.heap.size wr v xs /\ Rb K wr R b p' k) /\ Hid (bnd (rmany f (n - q) p') (fun l r => .ok (xs ++ l, r)) = rmany f n q0)) (fun _ i _ => n - (intOf i).toNat)
  case atStart => exact ⟨0, q0, [], rfl, by omega, rfl, ⟨HG1.out.1, RowI.nil _ _ _ _ _, HG1.out.2⟩, by show _ = _; rw [Nat.sub_zero]; exact bnd_id _⟩
  case round =>
    obtain ⟨q, p', xs, rfl, hq, hxl, HG, HS⟩ := hrel
    by_cases hlt : q < n
    · have cx := hone.out wr p' HG.out.2.2 HG.out.1
      go_wp2_with fail
      refine cx.mono ?_
      rintro e w2 ⟨g2, hA⟩
      cases hfx : f p' with
      | error z =>
        rw [hfx] at hA
        obtain rfl := hA
        exact ⟨rfl, by rw [HE.out, many_stop hlt HS.out hfx]; exact ⟨Gx.trans HG.out.1 g2, rfl⟩⟩
      | ok t =>
        obtain ⟨x, p2⟩ := t
        rw [hfx] at hA
        obtain ⟨ve, rfl, hve, hR2⟩ := hA
        obtain ⟨c, rfl, rfl, hb0⟩ := hve
        obtain ⟨W3, hW3⟩ : ∃ W, w2.alloc (.cells #[.string x.1, .string x.2] 124) = W := ⟨_, rfl⟩
        have b3 : Below w2.heap.size w2 W3 := by rw [<- hW3]; exact (Below.refl _ w2).alloc (Nat.le_refl _) _
        have n3 : W3.heap[w2.heap.size]? = some (.cells #[.string x.1, .string x.2] 124 (0, 0)) := by rw [<- hW3]; exact heap_alloc_new w2 _
        obtain ⟨css, k1, k2, k3, k4, k5⟩ := RowI.push sA HG.out.2.1 hRlt HG.out.1.size g2 (c := [.string x.1, .string x.2]) (x := x) ⟨rfl, hb0⟩ b3
        have HS2 : Hid _ := many_step hlt HS.out hfx
        have HP : Hid (_ /\ _ /\ _ /\ _) := And.intro k2 (And.intro k3 (And.intro k4 k5))
        have HG2 : Hid (Gx R w W3 /\ Rb K W3 R b p2 k) := ⟨Gx.trans (Gx.trans HG.out.1 g2) (Gx.of b3), Rb.below hR2 b3⟩
        have hsz := HG2.out.1.size
        have hcl := src_of n3
        have hl3 := k1.1
        clear hR2 b3 n3 k2 k3 k4 k5 g2 cx HG HS
        go_wp2_with (first
          | (at_builtin; (try rw [hW3]); refine YAp.app_seen rfl _ _ 66 rfl w.heap.size 124 i0 (.agg #[.string ⟨#[]⟩, .string ⟨#[]⟩]) 2 32 underlying66 hi hz0 hz1 hz2 rfl (by decide) _ _ _ rfl k1 _ 1 _ [.string x.1, .string x.2] rfl hcl rfl (by intro u hu; simp only [List.mem_cons, List.not_mem_nil, or_false] at hu; rcases hu with rfl | rfl <;> rfl) (by unfold maxLen; omega) (by omega) hsz ?_))
        intro v' W4 hown hgrow hnb
        have HF : Hid (Gx R w W4 /\ RowI HdA 124 2 w.heap.size W4 v' (xs ++ [x]) /\ Rb K W4 R b p2 k) := ⟨gx_row HG2.out.1 hgrow (fun r hr => (World.ownsRow.lt k1 r hr).1), RowI.snoc sA k1 HP.out.1 HP.out.2.1 HP.out.2.2.1 HP.out.2.2.2 rfl hgrow (by rw [hxl]; exact hown) hnb, Rb.row HG2.out.2 hgrow hRlt (fun r hr => (World.ownsRow.lt k1 r hr).1)⟩
        clear hown hgrow hnb HG2 HP k1 hcl
        go_wp2_with fail
        go_roundw
        case rel => exact ⟨q + 1, p2, xs ++ [x], by go_num, by omega, by simp [hxl], HF, HS2⟩
        case measure => simp only [intOf]; omega
    · obtain rfl : q = n := by omega
      obtain ⟨va, vm, vc, rfl⟩ := RowI.slice HG.out.2.1
      go_wp2_with fail
      go_ret
      rw [HE.out, many_end HS.out]
      exact ⟨HG.out.1, _, rfl, RowI.rr HG.out.2.1 (by omega) (fun b h1 h2 => ⟨h1, h2⟩) (ly_a (fun b hb => ⟨hb.1, hb.2.1⟩)), HG.out.2.2⟩
end Go.Proofs.YtaiackmmmlhgbaaGreat.YRe
namespace Go.Proofs.YtaiackmmmlhgbaaGreat.YRf
open Go.RowKit YPl YRd YWr YRr YRs YRb YRl
theorem info_c : (prog.info? 63).map (fun i => (i.zero, i.size, i.bytes)) = some (some (.slice none 0 0), 1, 24) := by kernel_rfl
theorem ly_c {S : Nat -> Prop} {lo : Nat} {w : World} {v : Value} (hSS : ∀ b, Sx lo w v b -> S b) (g o : Nat) (c : List Value) (x : (List Ins)) (hg : S g) (hc : ∀ i u, c[i]? = some u -> w.cell? ⟨g, o + i, none⟩ = some u) (hl : c.length = 1) (h : HdC (Sx lo w v) w c x) : (LyCs S) w g o x := by
  obtain ⟨v0, rfl, h0⟩ := h; exact ⟨v0, hc 0 _ rfl, h0.keep hSS fun g o x _ hg h => h⟩
theorem rl_c {K R p k : Nat} {w : World} {b : By} (lim : Nat) (hlim : lim <= 16384) (f : Nat -> Rs (List Ins)) (h : Rb K w R b p k)
    (hone : Hid (∀ (W : World) (q : Nat), Rb K W R b q k -> Gx R w W -> Calls prog 61 #[ptw R] W fun e w' => RA K R b k VC (f q) W e w')) :
    Calls prog 60 #[ptw R, .int .i64 lim, .func (.func 61) #[ptw R] #[]] w fun e w' => RA K R b k (fun S w v l => RrS 1 (LyCs S) S w v l) (rlst lim f b p) w e w' := by
  have hRlt := h.lt
  have c1 := YRb.count_c lim hlim h
  obtain ⟨i0, hi, hz0, hz1, hz2⟩ := info_parts info_c
  have hE0 : rlst lim f b p = bnd (rcnt lim b p) fun n q => rmany f n q := rfl
  clear h
  cases hE : rcnt lim b p with
  | error q =>
    rw [hE] at c1 hE0
    have HE : Hid (rlst lim f b p = .error q) := hE0
    clear hE0 hE
    go_enter func60, ntmps60
    go_wp2_with fail
    refine c1.mono ?_
    rintro e w1 ⟨g1, rfl⟩
    exact ⟨rfl, by rw [HE.out]; exact ⟨g1, rfl⟩⟩
  | ok t =>
  obtain ⟨n, q0⟩ := t
  rw [hE] at c1 hE0
  have HE : Hid (rlst lim f b p = rmany f n q0) := hE0
  clear hE0 hE
  go_enter func60, ntmps60
  go_wp2_with fail
  refine c1.mono ?_
  rintro e w1 ⟨g1, v, rfl, ⟨rfl, hn⟩, hR1⟩
  have HG1 : Hid (Gx R w w1 /\ Rb K w1 R b q0 k) := ⟨g1, hR1⟩
  clear c1 g1 hR1
  go_wp2_with fail
  go_loopw [7, 11] (fun v i wr => ∃ (q p' : Nat) (xs : List (List Ins)), i = .int .i64 q /\ q <= n /\ xs.length = q /\ Hid (Gx R w wr /\ RowI HdC 63 1 w.heap.size wr v xs /\ Rb K wr R b p' k) /\ Hid (bnd (rmany f (n - q) p') (fun l r => .ok (xs ++ l, r)) = rmany f n q0)) (fun _ i _ => n - (intOf i).toNat)
  case atStart => exact ⟨0, q0, [], rfl, by omega, rfl, ⟨HG1.out.1, RowI.nil _ _ _ _ _, HG1.out.2⟩, by show _ = _; rw [Nat.sub_zero]; exact bnd_id _⟩
  case round =>
    obtain ⟨q, p', xs, rfl, hq, hxl, HG, HS⟩ := hrel
    by_cases hlt : q < n
    · have cx := hone.out wr p' HG.out.2.2 HG.out.1
      go_wp2_with fail
      refine cx.mono ?_
      rintro e w2 ⟨g2, hA⟩
      cases hfx : f p' with
      | error z =>
        rw [hfx] at hA
        obtain rfl := hA
        exact ⟨rfl, by rw [HE.out, many_stop hlt HS.out hfx]; exact ⟨Gx.trans HG.out.1 g2, rfl⟩⟩
      | ok t =>
        obtain ⟨x, p2⟩ := t
        rw [hfx] at hA
        obtain ⟨ve, rfl, hve, hR2⟩ := hA
        have hb0 := hve; unfold VC at hb0; clear hve
        obtain ⟨xa, xn, xc, rfl⟩ := RrS.slice hb0
        obtain ⟨W3, hW3⟩ : ∃ W, w2.alloc (.cells #[.slice xa xn xc] 63) = W := ⟨_, rfl⟩
        have b3 : Below w2.heap.size w2 W3 := by rw [<- hW3]; exact (Below.refl _ w2).alloc (Nat.le_refl _) _
        have n3 : W3.heap[w2.heap.size]? = some (.cells #[.slice xa xn xc] 63 (0, 0)) := by rw [<- hW3]; exact heap_alloc_new w2 _
        obtain ⟨css, k1, k2, k3, k4, k5⟩ := RowI.push sC HG.out.2.1 hRlt HG.out.1.size g2 (c := [.slice xa xn xc]) (x := x) ⟨_, rfl, hb0⟩ b3
        have HS2 : Hid _ := many_step hlt HS.out hfx
        have HP : Hid (_ /\ _ /\ _ /\ _) := And.intro k2 (And.intro k3 (And.intro k4 k5))
        have HG2 : Hid (Gx R w W3 /\ Rb K W3 R b p2 k) := ⟨Gx.trans (Gx.trans HG.out.1 g2) (Gx.of b3), Rb.below hR2 b3⟩
        have hsz := HG2.out.1.size
        have hcl := src_of n3
        have hl3 := k1.1
        clear hR2 b3 n3 k2 k3 k4 k5 g2 cx HG HS
        go_wp2_with (first
          | (at_builtin; (try rw [hW3]); refine YAp.app_seen rfl _ _ 25 rfl w.heap.size 63 i0 (.slice none 0 0) 1 24 underlying25 hi hz0 hz1 hz2 rfl (by decide) _ _ _ rfl k1 _ 1 _ [.slice xa xn xc] rfl hcl rfl (by intro u hu; simp only [List.mem_cons, List.not_mem_nil, or_false] at hu; rcases hu with rfl; rfl) (by unfold maxLen; omega) (by omega) hsz ?_))
        intro v' W4 hown hgrow hnb
        have HF : Hid (Gx R w W4 /\ RowI HdC 63 1 w.heap.size W4 v' (xs ++ [x]) /\ Rb K W4 R b p2 k) := ⟨gx_row HG2.out.1 hgrow (fun r hr => (World.ownsRow.lt k1 r hr).1), RowI.snoc sC k1 HP.out.1 HP.out.2.1 HP.out.2.2.1 HP.out.2.2.2 rfl hgrow (by rw [hxl]; exact hown) hnb, Rb.row HG2.out.2 hgrow hRlt (fun r hr => (World.ownsRow.lt k1 r hr).1)⟩
        clear hown hgrow hnb HG2 HP k1 hcl
        go_wp2_with fail
        go_roundw
        case rel => exact ⟨q + 1, p2, xs ++ [x], by go_num, by omega, by simp [hxl], HF, HS2⟩
        case measure => simp only [intOf]; omega
    · obtain rfl : q = n := by omega
      obtain ⟨va, vm, vc, rfl⟩ := RowI.slice HG.out.2.1
      go_wp2_with fail
      go_ret
      rw [HE.out, many_end HS.out]
      exact ⟨HG.out.1, _, rfl, RowI.rr HG.out.2.1 (by omega) (fun b h1 h2 => ⟨h1, h2⟩) (ly_c (fun b hb => ⟨hb.1, hb.2.1⟩)), HG.out.2.2⟩
theorem info_o : (prog.info? 127).map (fun i => (i.zero, i.size, i.bytes)) = some (some (.agg #[.int .i64 0, .int .i64 0, .int .i64 0, .int .i64 0, .slice none 0 0]), 5, 56) := by kernel_rfl
theorem ly_o {S : Nat -> Prop} {lo : Nat} {w : World} {v : Value} (hSS : ∀ b, Sx lo w v b -> S b) (g o : Nat) (c : List Value) (x : Oq) (hg : S g) (hc : ∀ i u, c[i]? = some u -> w.cell? ⟨g, o + i, none⟩ = some u) (hl : c.length = 5) (h : HdO (Sx lo w v) w c x) : (LyOs S) w g o x := by
  obtain ⟨v0, rfl, h0, h1⟩ := h; exact ⟨v0, hc 0 _ rfl, hc 1 _ rfl, hc 2 _ rfl, hc 3 _ rfl, hc 4 _ rfl, h0, h1.keep hSS fun g o x _ hg h => h⟩
theorem rl_o {K R p k : Nat} {w : World} {b : By} (lim : Nat) (hlim : lim <= 16384) (f : Nat -> Rs Oq) (h : Rb K w R b p k)
    (hone : Hid (∀ (W : World) (q : Nat), Rb K W R b q k -> Gx R w W -> Calls prog 112 #[ptw R] W fun e w' => RA K R b k (VA HdO) (f q) W e w')) :
    Calls prog 111 #[ptw R, .int .i64 lim, .func (.func 112) #[ptw R] #[]] w fun e w' => RA K R b k (fun S w v l => RrS 5 (LyOs S) S w v l) (rlst lim f b p) w e w' := by
  have hRlt := h.lt
  have c1 := YRb.count_c lim hlim h
  obtain ⟨i0, hi, hz0, hz1, hz2⟩ := info_parts info_o
  have hE0 : rlst lim f b p = bnd (rcnt lim b p) fun n q => rmany f n q := rfl
  clear h
  cases hE : rcnt lim b p with
  | error q =>
    rw [hE] at c1 hE0
    have HE : Hid (rlst lim f b p = .error q) := hE0
    clear hE0 hE
    go_enter func111, ntmps111
    go_wp2_with fail
    refine c1.mono ?_
    rintro e w1 ⟨g1, rfl⟩
    exact ⟨rfl, by rw [HE.out]; exact ⟨g1, rfl⟩⟩
  | ok t =>
  obtain ⟨n, q0⟩ := t
  rw [hE] at c1 hE0
  have HE : Hid (rlst lim f b p = rmany f n q0) := hE0
  clear hE0 hE
  go_enter func111, ntmps111
  go_wp2_with fail
  refine c1.mono ?_
  rintro e w1 ⟨g1, v, rfl, ⟨rfl, hn⟩, hR1⟩
  have HG1 : Hid (Gx R w w1 /\ Rb K w1 R b q0 k) := ⟨g1, hR1⟩
  clear c1 g1 hR1
  go_wp2_with fail
  go_loopw [7, 11] (fun v i wr => ∃ (q p' : Nat) (xs : List Oq), i = .int .i64 q /\ q <= n /\ xs.length = q /\ Hid (Gx R w wr /\ RowI HdO 127 5 w.heap.size wr v xs /\ Rb K wr R b p' k) /\ Hid (bnd (rmany f (n - q) p') (fun l r => .ok (xs ++ l, r)) = rmany f n q0)) (fun _ i _ => n - (intOf i).toNat)
  case atStart => exact ⟨0, q0, [], rfl, by omega, rfl, ⟨HG1.out.1, RowI.nil _ _ _ _ _, HG1.out.2⟩, by show _ = _; rw [Nat.sub_zero]; exact bnd_id _⟩
  case round =>
    obtain ⟨q, p', xs, rfl, hq, hxl, HG, HS⟩ := hrel
    by_cases hlt : q < n
    · have cx := hone.out wr p' HG.out.2.2 HG.out.1
      go_wp2_with fail
      refine cx.mono ?_
      rintro e w2 ⟨g2, hA⟩
      cases hfx : f p' with
      | error z =>
        rw [hfx] at hA
        obtain rfl := hA
        exact ⟨rfl, by rw [HE.out, many_stop hlt HS.out hfx]; exact ⟨Gx.trans HG.out.1 g2, rfl⟩⟩
      | ok t =>
        obtain ⟨x, p2⟩ := t
        rw [hfx] at hA
        obtain ⟨ve, rfl, hve, hR2⟩ := hA
        obtain ⟨c, rfl, v0, rfl, hb0, hb1⟩ := hve
        obtain ⟨xa, xn, xc, rfl⟩ := RrS.slice hb1
        obtain ⟨W3, hW3⟩ : ∃ W, w2.alloc (.cells #[.int .i64 x.k, .int .i64 x.a, .int .i64 x.b, .int .i64 x.c, .slice xa xn xc] 127) = W := ⟨_, rfl⟩
        have b3 : Below w2.heap.size w2 W3 := by rw [<- hW3]; exact (Below.refl _ w2).alloc (Nat.le_refl _) _
        have n3 : W3.heap[w2.heap.size]? = some (.cells #[.int .i64 x.k, .int .i64 x.a, .int .i64 x.b, .int .i64 x.c, .slice xa xn xc] 127 (0, 0)) := by rw [<- hW3]; exact heap_alloc_new w2 _
        obtain ⟨css, k1, k2, k3, k4, k5⟩ := RowI.push sO HG.out.2.1 hRlt HG.out.1.size g2 (c := [.int .i64 x.k, .int .i64 x.a, .int .i64 x.b, .int .i64 x.c, .slice xa xn xc]) (x := x) ⟨_, rfl, hb0, hb1⟩ b3
        have HS2 : Hid _ := many_step hlt HS.out hfx
        have HP : Hid (_ /\ _ /\ _ /\ _) := And.intro k2 (And.intro k3 (And.intro k4 k5))
        have HG2 : Hid (Gx R w W3 /\ Rb K W3 R b p2 k) := ⟨Gx.trans (Gx.trans HG.out.1 g2) (Gx.of b3), Rb.below hR2 b3⟩
        have hsz := HG2.out.1.size
        have hcl := src_of n3
        have hl3 := k1.1
        clear hR2 b3 n3 k2 k3 k4 k5 g2 cx HG HS
        go_wp2_with (first
          | (at_builtin; (try rw [hW3]); refine YAp.app_seen rfl _ _ 71 rfl w.heap.size 127 i0 (.agg #[.int .i64 0, .int .i64 0, .int .i64 0, .int .i64 0, .slice none 0 0]) 5 56 underlying71 hi hz0 hz1 hz2 rfl (by decide) _ _ _ rfl k1 _ 1 _ [.int .i64 x.k, .int .i64 x.a, .int .i64 x.b, .int .i64 x.c, .slice xa xn xc] rfl hcl rfl (by intro u hu; simp only [List.mem_cons, List.not_mem_nil, or_false] at hu; rcases hu with rfl | rfl | rfl | rfl | rfl <;> rfl) (by unfold maxLen; omega) (by omega) hsz ?_))
        intro v' W4 hown hgrow hnb
        have HF : Hid (Gx R w W4 /\ RowI HdO 127 5 w.heap.size W4 v' (xs ++ [x]) /\ Rb K W4 R b p2 k) := ⟨gx_row HG2.out.1 hgrow (fun r hr => (World.ownsRow.lt k1 r hr).1), RowI.snoc sO k1 HP.out.1 HP.out.2.1 HP.out.2.2.1 HP.out.2.2.2 rfl hgrow (by rw [hxl]; exact hown) hnb, Rb.row HG2.out.2 hgrow hRlt (fun r hr => (World.ownsRow.lt k1 r hr).1)⟩
        clear hown hgrow hnb HG2 HP k1 hcl
        go_wp2_with fail
        go_roundw
        case rel => exact ⟨q + 1, p2, xs ++ [x], by go_num, by omega, by simp [hxl], HF, HS2⟩
        case measure => simp only [intOf]; omega
    · obtain rfl : q = n := by omega
      obtain ⟨va, vm, vc, rfl⟩ := RowI.slice HG.out.2.1
      go_wp2_with fail
      go_ret
      rw [HE.out, many_end HS.out]
      exact ⟨HG.out.1, _, rfl, RowI.rr HG.out.2.1 (by omega) (fun b h1 h2 => ⟨h1, h2⟩) (ly_o (fun b hb => ⟨hb.1, hb.2.1⟩)), HG.out.2.2⟩
theorem info_b : (prog.info? 74).map (fun i => (i.zero, i.size, i.bytes)) = some (some (.agg #[.int .i64 0, .slice none 0 0, .slice none 0 0]), 3, 56) := by kernel_rfl
theorem ly_b {S : Nat -> Prop} {lo : Nat} {w : World} {v : Value} (hSS : ∀ b, Sx lo w v b -> S b) (g o : Nat) (c : List Value) (x : Bk) (hg : S g) (hc : ∀ i u, c[i]? = some u -> w.cell? ⟨g, o + i, none⟩ = some u) (hl : c.length = 3) (h : HdB (Sx lo w v) w c x) : (LyBs S) w g o x := by
  obtain ⟨v0, u0, rfl, h0, h1, h2⟩ := h; exact ⟨v0, u0, hc 0 _ rfl, hc 1 _ rfl, hc 2 _ rfl, h0, h1.keep hSS fun g o x _ hg h => kO (S := Sx lo w v) (fun _ _ _ => rfl) hSS hg h, h2.keep hSS fun g o x _ hg h => h⟩
theorem rl_b {K R p k : Nat} {w : World} {b : By} (lim : Nat) (hlim : lim <= 16384) (f : Nat -> Rs Bk) (h : Rb K w R b p k)
    (hone : Hid (∀ (W : World) (q : Nat), Rb K W R b q k -> Gx R w W -> Calls prog 65 #[ptw R] W fun e w' => RA K R b k (VA HdB) (f q) W e w')) :
    Calls prog 64 #[ptw R, .int .i64 lim, .func (.func 65) #[ptw R] #[]] w fun e w' => RA K R b k (fun S w v l => RrS 3 (LyBs S) S w v l) (rlst lim f b p) w e w' := by
  have hRlt := h.lt
  have c1 := YRb.count_c lim hlim h
  obtain ⟨i0, hi, hz0, hz1, hz2⟩ := info_parts info_b
  have hE0 : rlst lim f b p = bnd (rcnt lim b p) fun n q => rmany f n q := rfl
  clear h
  cases hE : rcnt lim b p with
  | error q =>
    rw [hE] at c1 hE0
    have HE : Hid (rlst lim f b p = .error q) := hE0
    clear hE0 hE
    go_enter func64, ntmps64
    go_wp2_with fail
    refine c1.mono ?_
    rintro e w1 ⟨g1, rfl⟩
    exact ⟨rfl, by rw [HE.out]; exact ⟨g1, rfl⟩⟩
  | ok t =>
  obtain ⟨n, q0⟩ := t
  rw [hE] at c1 hE0
  have HE : Hid (rlst lim f b p = rmany f n q0) := hE0
  clear hE0 hE
  go_enter func64, ntmps64
  go_wp2_with fail
  refine c1.mono ?_
  rintro e w1 ⟨g1, v, rfl, ⟨rfl, hn⟩, hR1⟩
  have HG1 : Hid (Gx R w w1 /\ Rb K w1 R b q0 k) := ⟨g1, hR1⟩
  clear c1 g1 hR1
  go_wp2_with fail
  go_loopw [7, 11] (fun v i wr => ∃ (q p' : Nat) (xs : List Bk), i = .int .i64 q /\ q <= n /\ xs.length = q /\ Hid (Gx R w wr /\ RowI HdB 74 3 w.heap.size wr v xs /\ Rb K wr R b p' k) /\ Hid (bnd (rmany f (n - q) p') (fun l r => .ok (xs ++ l, r)) = rmany f n q0)) (fun _ i _ => n - (intOf i).toNat)
  case atStart => exact ⟨0, q0, [], rfl, by omega, rfl, ⟨HG1.out.1, RowI.nil _ _ _ _ _, HG1.out.2⟩, by show _ = _; rw [Nat.sub_zero]; exact bnd_id _⟩
  case round =>
    obtain ⟨q, p', xs, rfl, hq, hxl, HG, HS⟩ := hrel
    by_cases hlt : q < n
    · have cx := hone.out wr p' HG.out.2.2 HG.out.1
      go_wp2_with fail
      refine cx.mono ?_
      rintro e w2 ⟨g2, hA⟩
      cases hfx : f p' with
      | error z =>
        rw [hfx] at hA
        obtain rfl := hA
        exact ⟨rfl, by rw [HE.out, many_stop hlt HS.out hfx]; exact ⟨Gx.trans HG.out.1 g2, rfl⟩⟩
      | ok t =>
        obtain ⟨x, p2⟩ := t
        rw [hfx] at hA
        obtain ⟨ve, rfl, hve, hR2⟩ := hA
        obtain ⟨c, rfl, v0, u0, rfl, hb0, hb1, hb2⟩ := hve
        obtain ⟨xa, xn, xc, rfl⟩ := RrS.slice hb1
        obtain ⟨ya, yn, yc, rfl⟩ := RrS.slice hb2
        obtain ⟨W3, hW3⟩ : ∃ W, w2.alloc (.cells #[.int .i64 x.d, .slice xa xn xc, .slice ya yn yc] 74) = W := ⟨_, rfl⟩
        have b3 : Below w2.heap.size w2 W3 := by rw [<- hW3]; exact (Below.refl _ w2).alloc (Nat.le_refl _) _
        have n3 : W3.heap[w2.heap.size]? = some (.cells #[.int .i64 x.d, .slice xa xn xc, .slice ya yn yc] 74 (0, 0)) := by rw [<- hW3]; exact heap_alloc_new w2 _
        obtain ⟨css, k1, k2, k3, k4, k5⟩ := RowI.push sB HG.out.2.1 hRlt HG.out.1.size g2 (c := [.int .i64 x.d, .slice xa xn xc, .slice ya yn yc]) (x := x) ⟨_, _, rfl, hb0, hb1, hb2⟩ b3
        have HS2 : Hid _ := many_step hlt HS.out hfx
        have HP : Hid (_ /\ _ /\ _ /\ _) := And.intro k2 (And.intro k3 (And.intro k4 k5))
        have HG2 : Hid (Gx R w W3 /\ Rb K W3 R b p2 k) := ⟨Gx.trans (Gx.trans HG.out.1 g2) (Gx.of b3), Rb.below hR2 b3⟩
        have hsz := HG2.out.1.size
        have hcl := src_of n3
        have hl3 := k1.1
        clear hR2 b3 n3 k2 k3 k4 k5 g2 cx HG HS
        go_wp2_with (first
          | (at_builtin; (try rw [hW3]); refine YAp.app_seen rfl _ _ 27 rfl w.heap.size 74 i0 (.agg #[.int .i64 0, .slice none 0 0, .slice none 0 0]) 3 56 underlying27 hi hz0 hz1 hz2 rfl (by decide) _ _ _ rfl k1 _ 1 _ [.int .i64 x.d, .slice xa xn xc, .slice ya yn yc] rfl hcl rfl (by intro u hu; simp only [List.mem_cons, List.not_mem_nil, or_false] at hu; rcases hu with rfl | rfl | rfl <;> rfl) (by unfold maxLen; omega) (by omega) hsz ?_))
        intro v' W4 hown hgrow hnb
        have HF : Hid (Gx R w W4 /\ RowI HdB 74 3 w.heap.size W4 v' (xs ++ [x]) /\ Rb K W4 R b p2 k) := ⟨gx_row HG2.out.1 hgrow (fun r hr => (World.ownsRow.lt k1 r hr).1), RowI.snoc sB k1 HP.out.1 HP.out.2.1 HP.out.2.2.1 HP.out.2.2.2 rfl hgrow (by rw [hxl]; exact hown) hnb, Rb.row HG2.out.2 hgrow hRlt (fun r hr => (World.ownsRow.lt k1 r hr).1)⟩
        clear hown hgrow hnb HG2 HP k1 hcl
        go_wp2_with fail
        go_roundw
        case rel => exact ⟨q + 1, p2, xs ++ [x], by go_num, by omega, by simp [hxl], HF, HS2⟩
        case measure => simp only [intOf]; omega
    · obtain rfl : q = n := by omega
      obtain ⟨va, vm, vc, rfl⟩ := RowI.slice HG.out.2.1
      go_wp2_with fail
      go_ret
      rw [HE.out, many_end HS.out]
      exact ⟨HG.out.1, _, rfl, RowI.rr HG.out.2.1 (by omega) (fun b h1 h2 => ⟨h1, h2⟩) (ly_b (fun b hb => ⟨hb.1, hb.2.1⟩)), HG.out.2.2⟩
end Go.Proofs.YtaiackmmmlhgbaaGreat.YRf

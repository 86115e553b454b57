/- Lists read: what they lean on. -/
import Derived.Test.YthclndiekjaalaaYRb
namespace Go.Proofs.Ythclndiekjaalaa.YRx
open Go.RowKit Go.Proofs.Ythclndiekjaalaa.Leb Go.Proofs.Ythclndiekjaalaa.YPl Go.Proofs.Ythclndiekjaalaa.YRd Go.Proofs.Ythclndiekjaalaa.YWr Go.Proofs.Ythclndiekjaalaa.YRr Go.Proofs.Ythclndiekjaalaa.YRs Go.Proofs.Ythclndiekjaalaa.YRb
set_option linter.unusedVariables false

theorem conv_sub {w : World} {g o cap q n : Nat} {b : By} (h : Seen w (.slice (some ⟨g, o, none⟩) b.length cap) b) (hq : q + n ≤ b.length) (c : Nat) (x : Nat) (hx : x = o + q ∨ n = 0) : (convert 30 9 (.slice (some ⟨g, x, none⟩) n c)).run Try.prog w = .ok (.string (sub b q n)) w := by
  have hl : ((b.drop q).take n).length = n := by rw [List.length_take, List.length_drop]; omega
  have := run_convert_bytes_back (P := Try.prog) w 30 9 5 ⟨g, x, none⟩ c ((b.drop q).take n) Try.underlying30 Try.underlying5 Try.underlying9 (fun j hj => by
    obtain ⟨a, cp, e, h1, h2, h3, h4⟩ := h
    cases e
    have hjn : j < n := by omega
    have hx' : x = o + q := by rcases hx with h | h; · exact h
                               · omega
    rw [Leb.add_none, hx', Nat.add_assoc, (h4 g o none rfl (q + j) (by omega)).2]
    rw [List.getElem_take, List.getElem_drop])
  rw [hl] at this
  exact this
set_option maxRecDepth 20000 in
set_option maxHeartbeats 3200000 in
theorem text_c {K R p k : Nat} {w : World} {b : By} (h : Rb K w R b p k) :
    Calls Try.prog 43 #[ptw R] w fun e w' => RA K R b k VS (rtxt b p) w e w' := by
  have c1 := YRb.count_c 4096 (by omega) h
  obtain ⟨-, -, -, -, -, ja, jn, jc, j6, -, -⟩ := h
  have y1 := cell_of j6 1 _ rfl
  clear j6
  have hb : rtxt b p = bnd (rcnt 4096 b p) fun n q => if b.length < q + n then .error p else if UBase.verr (sub b q n) = 0 then .ok (sub b q n, q + n) else .error p := rfl
  cases hE : rcnt 4096 b p with
  | error q =>
    rw [hE] at c1 hb
    have HE : Hid (rtxt b p = .error q) := hb
    clear hb hE
    go_enter Try.func43, Try.ntmps43
    go_wp2_with fail
    refine c1.mono ?_
    rintro e w1 ⟨g1, rfl⟩
    exact ⟨rfl, by rw [HE.out]; exact ⟨g1, rfl⟩⟩
  | ok t =>
  obtain ⟨n, q⟩ := t
  have hpos : 0 < b.length := by
    unfold rcnt at hE
    simp only at hE
    split at hE
    · rename_i h0
      obtain ⟨m, -, h2, h3, -⟩ := tk_back h0.1
      omega
    · cases hE
  rw [hE] at c1 hb
  have HB : Hid (rtxt b p = if b.length < q + n then .error p else if UBase.verr (sub b q n) = 0 then .ok (sub b q n, q + n) else .error p) := hb
  clear hb hE
  go_enter Try.func43, Try.ntmps43
  go_wp2_with fail
  refine c1.mono ?_
  rintro e w1 ⟨g1, v, rfl, ⟨rfl, hn⟩, hR1⟩
  have HR : Hid (Rb K w1 R b q k) := hR1
  have HG : Hid _ := g1
  obtain ⟨h1, h2, h3, h4, h5, ia, l, cap, h6, h7, h8⟩ := hR1
  obtain rfl : l = b.length := by obtain ⟨a, c, e, -⟩ := h7; cases e; rfl
  have hcp : b.length ≤ cap ∧ cap ≤ 9223372036854775807 := by obtain ⟨a, c, e, h, h', -⟩ := h7; cases e; unfold maxLen at h'; exact ⟨h, by omega⟩
  obtain ⟨g, o, rfl, -⟩ := seen_at h7 hpos
  have z0 := cell_of h6 0 _ rfl
  have z1 := cell_of h6 1 _ rfl
  have f1 := TBase.frozen_box h6 1
  have HS : Hid (∀ m, Seen (w1.drewN m) (.slice (some ⟨g, o, none⟩) b.length cap) b) := fun m => seen_low h7 h8 (TAttrs.drewN_below (Below.refl _ _) m)
  clear h6 h7 h8 c1 g1
  by_cases hl : b.length < q + n
  · have HE : Hid (rtxt b p = .error p) := by show _ = _; rw [HB.out, if_pos hl]
    have hl' : (b.length : Int) - q < (n : Int) := by omega
    go_wp2_with fail
    go_quiet (fail)
    go_wp2_with fail
    refine (refuse_c _ _).mono ?_
    rintro e w2 ⟨rfl, rfl⟩
    exact ⟨rfl, by rw [HE.out]; exact ⟨Gx.drewN HG.out _, rfl⟩⟩
  · have hl' : ¬ (b.length : Int) - q < (n : Int) := by omega
    have HB2 : Hid (rtxt b p = if UBase.verr (sub b q n) = 0 then .ok (sub b q n, q + n) else .error p) := by show _ = _; rw [HB.out, if_neg hl]
    have hcv : ∀ m x c, x = o + q ∨ n = 0 → (convert 30 9 (.slice (some ⟨g, x, none⟩) n c)).run Try.prog (w1.drewN m) = .ok (.string (sub b q n)) (w1.drewN m) := fun m x c hx => conv_sub (HS.out m) (by omega) c x hx
    have hsz : (sub b q n).size ≤ 4096 := by show ((b.drop q).take n).toArray.size ≤ _; simp; omega
    have cV := fun W => UOwn.valid_c (sub b q n) (by omega) W
    generalize sub b q n = s at *
    by_cases hc : cap = q
    · obtain rfl : n = 0 := by omega
      have hcv1 := fun m c => hcv m o c (.inr rfl)
      have hcv2 := fun m c => hcv m (o + q) c (.inl rfl)
      clear hcv
      go_wp2_with fail
      go_quiet (fail)
      go_wp2_with fail
      go_quiet (fail)
      go_wp2_with fail
      refine (cV _).mono ?_
      rintro e W2 ⟨rfl, pp, hW2⟩
      have hR2 : Rb K W2 R b q k := by rw [hW2]; exact Rb.below (Rb.drewN HR.out _) ((Below.refl _ _).alloc (Nat.le_refl _) _)
      have hG2 : Gx R w W2 := by rw [hW2]; exact Gx.trans (Gx.drewN HG.out _) (Gx.of ((Below.refl _ _).alloc (Nat.le_refl _) _))
      have HR2 : Hid (Rb K W2 R b q k) := hR2
      have HG2 : Hid (Gx R w W2) := hG2
      obtain ⟨-, -, -, -, -, i2, n2, c2, k6, -, -⟩ := hR2
      have y2 := cell_of k6 1 _ rfl
      have fy := TBase.frozen_box k6 1
      clear hW2 hG2 k6 z0 z1 f1 cV
      by_cases hv : UBase.verr s = 0
      · have HF : Hid (RA K R b k VS (rtxt b p) w (.returned (.string s)) (W2.setCell ⟨R, 1, none⟩ (.int .i64 (q : Int)))) := by
          have z := Rb.set' (q := q + 0) (z := (q : Int)) HR2.out (by omega) (by omega)
          show RA _ _ _ _ _ _ _ _ _
          rw [HB2.out, if_pos hv]
          exact ⟨Gx.trans HG2.out z.2, _, rfl, ⟨rfl, hsz⟩, z.1⟩
        rw [hv]
        go_wp2_with fail
        go_ret
        exact HF.out
      · have HE : Hid (rtxt b p = .error p) := by show _ = _; rw [HB2.out, if_neg hv]
        have hv1 : (((UBase.verr s : Nat) : Int) != 0) = true := by simp [hv]
        go_wp2_with fail
        refine (refuse_c _ _).mono ?_
        rintro e w3 ⟨rfl, rfl⟩
        exact ⟨rfl, by rw [HE.out]; exact ⟨HG2.out, rfl⟩⟩
    · have hcv1 := fun m c => hcv m (o + q) c (.inl rfl)
      clear hcv
      go_wp2_with fail
      go_quiet (fail)
      go_wp2_with fail
      go_quiet (fail)
      go_wp2_with fail
      refine (cV _).mono ?_
      rintro e W2 ⟨rfl, pp, hW2⟩
      have hR2 : Rb K W2 R b q k := by rw [hW2]; exact Rb.below (Rb.drewN HR.out _) ((Below.refl _ _).alloc (Nat.le_refl _) _)
      have hG2 : Gx R w W2 := by rw [hW2]; exact Gx.trans (Gx.drewN HG.out _) (Gx.of ((Below.refl _ _).alloc (Nat.le_refl _) _))
      have HR2 : Hid (Rb K W2 R b q k) := hR2
      have HG2 : Hid (Gx R w W2) := hG2
      obtain ⟨-, -, -, -, -, i2, n2, c2, k6, -, -⟩ := hR2
      have y2 := cell_of k6 1 _ rfl
      have fy := TBase.frozen_box k6 1
      clear hW2 hG2 k6 z0 z1 f1 cV
      by_cases hv : UBase.verr s = 0
      · have HF : Hid (RA K R b k VS (rtxt b p) w (.returned (.string s)) (W2.setCell ⟨R, 1, none⟩ (.int .i64 ((q : Int) + n)))) := by
          have z := Rb.set' (q := q + n) (z := (q : Int) + n) HR2.out (by omega) (by omega)
          show RA _ _ _ _ _ _ _ _ _
          rw [HB2.out, if_pos hv]
          exact ⟨Gx.trans HG2.out z.2, _, rfl, ⟨rfl, hsz⟩, z.1⟩
        rw [hv]
        go_wp2_with fail
        go_ret
        exact HF.out
      · have HE : Hid (rtxt b p = .error p) := by show _ = _; rw [HB2.out, if_neg hv]
        have hv1 : (((UBase.verr s : Nat) : Int) != 0) = true := by simp [hv]
        go_wp2_with fail
        refine (refuse_c _ _).mono ?_
        rintro e w3 ⟨rfl, rfl⟩
        exact ⟨rfl, by rw [HE.out]; exact ⟨HG2.out, rfl⟩⟩
end Go.Proofs.Ythclndiekjaalaa.YRx

namespace Go.Proofs.Ythclndiekjaalaa.YRl
open Go.RowKit Go.Proofs.Ythclndiekjaalaa.Leb Go.Proofs.Ythclndiekjaalaa.YPl Go.Proofs.Ythclndiekjaalaa.YRd Go.Proofs.Ythclndiekjaalaa.YWr Go.Proofs.Ythclndiekjaalaa.YRr Go.Proofs.Ythclndiekjaalaa.YRs Go.Proofs.Ythclndiekjaalaa.YRb
open Go.Proofs.Ythclndiekjaalaa.TBase (T Keep)
set_option linter.unusedVariables false

/-- A struct's value. -/
def VA {α : Type} (Hd : Hdt α) : (Nat → Prop) → World → Value → α → Prop := fun S w v x => ∃ c : List Value, v = .agg c.toArray ∧ Hd S w c x
def VC : (Nat → Prop) → World → Value → List Ins → Prop := fun S w v x => RrS 2 LyN S w v x
theorem bnd_id {α : Type} (a : Rs (List α)) : bnd a (fun l r => .ok ([] ++ l, r)) = a := by
  unfold bnd; cases a with
  | error q => rfl
  | ok t => obtain ⟨x, p⟩ := t; rfl
theorem many_step {α : Type} {f : Nat → Rs α} {n q p p2 q0 : Nat} {xs : List α} {x : α} (hq : q < n) (h : bnd (rmany f (n - q) p) (fun l r => .ok (xs ++ l, r)) = rmany f n q0) (hf : f p = .ok (x, p2)) : bnd (rmany f (n - (q + 1)) p2) (fun l r => .ok ((xs ++ [x]) ++ l, r)) = rmany f n q0 := by
  obtain ⟨m, hm⟩ : ∃ m, n - q = m + 1 := ⟨n - q - 1, by omega⟩
  rw [show n - (q + 1) = m by omega]
  rw [hm, rmany, hf] at h
  rw [← h]
  simp only [bnd]
  cases rmany f m p2 with
  | error z => rfl
  | ok t => obtain ⟨l, r⟩ := t; simp
theorem many_stop {α : Type} {f : Nat → Rs α} {n q p q0 z : Nat} {xs : List α} (hq : q < n) (h : bnd (rmany f (n - q) p) (fun l r => .ok (xs ++ l, r)) = rmany f n q0) (hf : f p = .error z) : rmany f n q0 = .error z := by
  obtain ⟨m, hm⟩ : ∃ m, n - q = m + 1 := ⟨n - q - 1, by omega⟩
  rw [hm, rmany, hf] at h
  exact h.symm
theorem many_end {α : Type} {f : Nat → Rs α} {n p q0 : Nat} {xs : List α} (h : bnd (rmany f (n - n) p) (fun l r => .ok (xs ++ l, r)) = rmany f n q0) : rmany f n q0 = .ok (xs, p) := by
  rw [Nat.sub_self, rmany] at h
  rw [← h]
  simp [bnd]
theorem RowI.push {α : Type} {Hd : Hdt α} (hs : Stays Hd) {ty : TypeId} {n lo R : Nat} {w w2 w3 : World} {v : Value} {l : List α} {c : List Value} {x : α} (h : RowI Hd ty n lo w v l) (hR : R < lo) (hlo : lo ≤ w.heap.size) (hg : Gx R w w2)
    (hx : Hd (fun g => w.heap.size ≤ g ∧ g < w2.heap.size) w2 c x) (hb : Below w2.heap.size w2 w3) :
    ∃ css : List (List Value), w3.ownsRow lo ty n v l.length css.flatten ∧ css.length = l.length ∧ (∀ c ∈ css, c.length = n) ∧ (∀ j (h1 : j < css.length) (h2 : j < l.length), Hd (Sx lo w3 v) w3 css[j] l[j]) ∧ Hd (Sx lo w3 v) w3 c x := by
  obtain ⟨css, h1, h2, h3, h4⟩ := (h.other hs hR hg).other hs hR (Gx.of (R := R) hb)
  refine ⟨css, h1, h2, h3, h4, hs.out (S := fun g => w.heap.size ≤ g ∧ g < w2.heap.size) (fun b hb' hl => hb.block b hl) (fun b hb' => ⟨by omega, by have := hb.size; omega, fun e => ?_⟩) hx⟩
  obtain ⟨css', h1', -⟩ := h
  have := (World.ownsRow.lt h1' b e).2
  omega
theorem RowI.slice {α : Type} {Hd : Hdt α} {ty : TypeId} {n lo : Nat} {w : World} {v : Value} {l : List α} (h : RowI Hd ty n lo w v l) : ∃ a m c, v = .slice a m c := by
  obtain ⟨css, h1, -⟩ := h
  rcases h1.2 with ⟨rfl, -⟩ | ⟨g, cap, cur, rfl, -⟩ <;> exact ⟨_, _, _, rfl⟩
theorem src_of {W : World} {B : Nat} {c : List Value} {t : TypeId} (h : W.heap[B]? = some (.cells c.toArray t (0, 0))) : ((some (⟨B, 0, none⟩ : Addr)) = none ∧ 1 = 0 ∧ 1 = 0) ∨ ∃ ad : Addr, some (⟨B, 0, none⟩ : Addr) = some ad ∧ ∀ j u, c[j]? = some u → W.cell? (ad.add j) = some u :=
  .inr ⟨_, rfl, fun j u hu => by rw [Leb.add_none, Nat.zero_add]; exact cell_of h j u (by simpa using hu)⟩
theorem gx_row {R : Nat} {w W3 W4 : World} {row : Option Nat} (h : Gx R w W3) (hg : W3.grownBy W4 row) (hr : ∀ r, row = some r → w.heap.size ≤ r) : Gx R w W4 :=
  ⟨hg.os.trans h.os, hg.tape.trans h.tape, hg.output.trans h.output, Nat.le_trans h.size hg.size, fun k hk hne => (hg.block k (by have := h.size; omega) (fun e => by have := hr k e.symm; omega)).trans (h.block k hk hne)⟩
end Go.Proofs.Ythclndiekjaalaa.YRl

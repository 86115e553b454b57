/- The reader: its box, refuse, octet, whole, count. -/
import Derived.Test.YthclndiekjaalaaYRs
namespace Go.Proofs.Ythclndiekjaalaa.YRb
open Go.RowKit Go.Proofs.Ythclndiekjaalaa.Leb Go.Proofs.Ythclndiekjaalaa.YPl Go.Proofs.Ythclndiekjaalaa.YRd Go.Proofs.Ythclndiekjaalaa.YWr Go.Proofs.Ythclndiekjaalaa.YRr Go.Proofs.Ythclndiekjaalaa.YRs
set_option linter.unusedVariables false

/-- The reader's box R, from K on, over the bytes b, which lie below K: at the place p, with k nodes. -/
def Rb (K : Nat) (w : World) (R : Nat) (b : By) (p k : Nat) : Prop := K ≤ R ∧ K ≤ w.heap.size ∧ p ≤ b.length ∧ b.length ≤ 1048576 ∧ k ≤ 4097 ∧ ∃ ia n cap, w.heap[R]? = some (.cells #[.slice ia n cap, .int .i64 p, .int .i64 k] 65 (0, 0)) ∧ Seen w (.slice ia n cap) b ∧ ∀ g, ia = some g → g.block < K
theorem Rb.lt {K R p k : Nat} {w : World} {b : By} (h : Rb K w R b p k) : R < w.heap.size := by
  obtain ⟨_, _, _, _, _, ia, n, cap, h1, _⟩ := h
  exact (Array.getElem?_eq_some_iff.1 h1).1
theorem seen_low {K n cap : Nat} {w w' : World} {ia : Option Addr} {b : By} (h : Seen w (.slice ia n cap) b) (hl : ∀ g, ia = some g → g.block < K) (hb : Below K w w') : Seen w' (.slice ia n cap) b := by
  obtain ⟨a, c, e, h1, h2, h3, h4⟩ := h
  cases e
  refine ⟨ia, cap, rfl, h1, h2, h3, fun g o s e j hj => ?_⟩
  obtain ⟨hs, hc⟩ := h4 g o s e j hj
  exact ⟨hs, (World.cell?_of_block (w := w) (hb.block g (hl _ e))).trans hc⟩
/-- Another step, that leaves the box alone. -/
theorem Rb.below {K R p k : Nat} {w w' : World} {b : By} (h : Rb K w R b p k) (hb : Below w.heap.size w w') : Rb K w' R b p k := by
  have hlt := h.lt
  obtain ⟨h1, h2, h3, h4, h5, ia, n, cap, h6, h7, h8⟩ := h
  exact ⟨h1, Nat.le_trans h2 hb.size, h3, h4, h5, ia, n, cap, (hb.block R hlt).trans h6, seen_low h7 h8 (hb.mono h2), h8⟩
theorem Rb.row {K R p k lo : Nat} {w w' : World} {b : By} {row : Option Nat} (h : Rb K w R b p k) (hg : w.grownBy w' row) (hlo : R < lo) (hr : ∀ r, row = some r → lo ≤ r) : Rb K w' R b p k := by
  have hlt := h.lt
  obtain ⟨h1, h2, h3, h4, h5, ia, n, cap, h6, h7, h8⟩ := h
  refine ⟨h1, Nat.le_trans h2 hg.size, h3, h4, h5, ia, n, cap, (hg.block R hlt (fun e => by have := hr R e.symm; omega)).trans h6, seen_low h7 h8 ⟨hg.os, hg.tape, hg.output, hg.size, fun q hq => hg.block q (by omega) (fun e => by have := hr q e.symm; omega)⟩, h8⟩
/-- The box set to another place. -/
theorem Rb.set {K R p k q : Nat} {w : World} {b : By} (h : Rb K w R b p k) (hq : q ≤ b.length) : Rb K (w.setCell ⟨R, 1, none⟩ (.int .i64 q)) R b q k ∧ Gx R w (w.setCell ⟨R, 1, none⟩ (.int .i64 q)) := by
  obtain ⟨h1, h2, h3, h4, h5, ia, n, cap, h6, h7, h8⟩ := h
  have hg : Gx R w (w.setCell ⟨R, 1, none⟩ (.int .i64 q)) := ⟨rfl, rfl, rfl, by simp, fun k hk hne => Below.heap_setCell _ _ _ _ (fun e => hne (by rw [e]))⟩
  refine ⟨⟨h1, by simpa using h2, hq, h4, h5, ia, n, cap, ?_, seen_low h7 h8 (hg.below h1 h2), h8⟩, hg⟩
  simp [World.setCell, Array.getElem?_modify, h6]
theorem Rb.drewN {K R p k : Nat} {w : World} {b : By} (h : Rb K w R b p k) (n : Nat) : Rb K (w.drewN n) R b p k := h.below (TAttrs.drewN_below (Below.refl _ _) n)
theorem Gx.drewN {R : Nat} {w w' : World} (h : Gx R w w') (n : Nat) : Gx R w (w'.drewN n) := Gx.trans h (Gx.of (TAttrs.drewN_below (Below.refl _ _) n))
theorem Rb.set' {K R p k q : Nat} {z : Int} {w : World} {b : By} (h : Rb K w R b p k) (hz : (q : Int) = z) (hq : q ≤ b.length) : Rb K (w.setCell ⟨R, 1, none⟩ (.int .i64 z)) R b q k ∧ Gx R w (w.setCell ⟨R, 1, none⟩ (.int .i64 z)) := by
  subst hz
  exact h.set hq
/-- What a reader's part answers; hd: what the answer holds, in blocks that are new. -/
def RA {α : Type} (K R : Nat) (b : By) (k : Nat) (Hv : (Nat → Prop) → World → Value → α → Prop) (a : Rs α) (w : World) (e : Ending) (w' : World) : Prop := Gx R w w' ∧ match a with
  | .ok (x, q) => ∃ v, e = .returned v ∧ Hv (fun g => w.heap.size ≤ g ∧ g < w'.heap.size) w' v x ∧ Rb K w' R b q k
  | .error q => e = .panicked (pkF 2100 q)
theorem refuse_c (p : Int) (w : World) : Calls Try.prog 41 #[.int .i64 p] w fun e w' => w' = w ∧ e = .panicked (pkF 2100 p) := by
  go_enter Try.func41, Try.ntmps41
  go_wp2_with fail
  exact ⟨rfl, rfl, rfl⟩
def VI : (Nat → Prop) → World → Value → Int → Prop := fun _ _ v x => v = .int .i64 x ∧ i64 x
def VN (lim : Nat) : (Nat → Prop) → World → Value → Nat → Prop := fun _ _ v x => v = .int .i64 (x : Int) ∧ x ≤ lim
def VS : (Nat → Prop) → World → Value → ByteArray → Prop := fun _ _ v x => v = .string x ∧ x.size ≤ 4096
theorem seen_at {w : World} {ia : Option Addr} {n cap : Nat} {b : By} (h : Seen w (.slice ia n cap) b) {p : Nat} (hp : p < b.length) : ∃ g o, ia = some ⟨g, o, none⟩ ∧ w.cell? ⟨g, o + p, none⟩ = some (.int .u8 (b[p].toNat : Int)) := by
  obtain ⟨a, c, e, h1, h2, h3, h4⟩ := h
  cases e
  cases ia with
  | none => have := h3 rfl; omega
  | some x =>
    obtain ⟨g, o, s⟩ := x
    obtain ⟨rfl, hc⟩ := h4 g o s rfl p hp
    exact ⟨g, o, rfl, hc⟩
set_option maxRecDepth 20000 in
set_option maxHeartbeats 1600000 in
theorem octet_c {K R p k : Nat} {w : World} {b : By} (h : Rb K w R b p k) :
    Calls Try.prog 40 #[ptw R] w fun e w' => RA K R b k VI (roct b p) w e w' := by
  have HR : Hid (Rb K w R b p k) := h
  obtain ⟨h1, h2, h3, h4, h5, ia, n, cap, h6, h7, h8⟩ := h
  have z0 := cell_of h6 0 _ rfl
  have z1 := cell_of h6 1 _ rfl
  have f1 := TBase.frozen_box h6 1
  obtain rfl : n = b.length := by obtain ⟨a, c, e, -⟩ := h7; cases e; rfl
  have hc0 : b.length ≤ cap := by obtain ⟨a, c, e, h, -⟩ := h7; cases e; exact h
  by_cases hp : p < b.length
  · obtain ⟨g, o, rfl, hc⟩ := seen_at h7 hp
    have hne : ((p : Int) == (b.length : Int)) = false := by simp; omega
    have hcl : b[p].toNat < 256 := b[p].toNat_lt
    obtain ⟨c, hcc⟩ : ∃ c, b[p].toNat = c := ⟨_, rfl⟩
    have HE : Hid (roct b p = .ok ((c : Int), p + 1)) := by show _ = _; unfold roct; rw [dif_pos hp, hcc]
    rw [hcc] at hc hcl
    have HS : Hid (∀ n1 : Nat, RA K R b k VI (roct b p) w (.returned (.int .i64 (c : Int))) ((w.drewN n1).setCell ⟨R, 1, none⟩ (.int .i64 ((p : Int) + 1)))) := fun n1 => by
      have q := Rb.set' (q := p + 1) (z := (p : Int) + 1) (Rb.drewN HR.out n1) (by omega) (by omega)
      rw [HE.out]
      exact ⟨Gx.trans (Gx.drewN (Gx.refl R w) n1) q.2, _, rfl, ⟨rfl, by constructor <;> omega⟩, q.1⟩
    clear h6 h7 h8 HR
    go_enter Try.func40, Try.ntmps40
    go_wp2_with fail
    go_quiet (fail)
    go_wp2_with fail
    go_quiet (fail)
    go_wp2_with fail
    go_ret
    exact HS.out _
  · obtain rfl : p = b.length := by omega
    have HE : Hid (roct b b.length = .error b.length) := by show _ = _; unfold roct; rw [dif_neg hp]
    clear h6 h7 h8 HR
    go_enter Try.func40, Try.ntmps40
    go_wp2_with fail
    go_quiet (fail)
    go_wp2_with fail
    refine (refuse_c _ _).mono ?_
    rintro e w1 ⟨rfl, rfl⟩
    exact ⟨rfl, by rw [HE.out]; exact ⟨Gx.drewN (Gx.refl _ _) _, rfl⟩⟩
theorem take_int {v : Value} {L : By} {s : Int} {w : World} (hS : Seen w v L) : Calls Try.prog 125 #[v, .int .i64 s] w fun e w' => e = .returned (.tuple #[.int .i64 (unz (tk L s).1), .int .i64 ((tk L s).2.1 : Int), .int .i64 ((tk L s).2.2 : Int)]) ∧ w' = w := by
  have c1 := take_c v L s w hS
  have c2 := unfold_c (tk L s).1 (tk_lt L s) w
  obtain ⟨a, cap, rfl, -⟩ := hS
  unfold tkV at c1
  generalize tk L s = t at *
  go_enter Try.func125, Try.ntmps125
  go_wp2_with fail
  refine c1.mono ?_
  rintro e w1 ⟨rfl, rfl⟩
  go_wp2_with fail
  refine c2.mono ?_
  rintro e w1 ⟨rfl, rfl⟩
  go_wp2_with fail
  go_ret3
  exact ⟨rfl, rfl⟩
theorem tk_le {L : By} {p : Nat} (h : (tk L p).2.2 = 0) : (tk L p).2.1 ≤ L.length := by
  obtain ⟨n, h1, h2, h3, h4, -⟩ := tk_back h
  rw [h4]
  exact h3
set_option maxRecDepth 20000 in
set_option maxHeartbeats 1600000 in
theorem whole_c {K R p k : Nat} {w : World} {b : By} (h : Rb K w R b p k) :
    Calls Try.prog 86 #[ptw R] w fun e w' => RA K R b k VI (rwhl b p) w e w' := by
  have HR : Hid (Rb K w R b p k) := h
  obtain ⟨h1, h2, h3, h4, h5, ia, n, cap, h6, h7, h8⟩ := h
  have z0 := cell_of h6 0 _ rfl
  have z1 := cell_of h6 1 _ rfl
  have f1 := TBase.frozen_box h6 1
  have hS : ∀ m, Seen (w.drewN m) (.slice ia n cap) b := fun m => seen_low h7 h8 (TAttrs.drewN_below (Below.refl _ _) m)
  have cT := fun m => take_int (s := (p : Int)) (hS m)
  have hub := unz_bounds (tk_lt b p)
  have hE : rwhl b p = if (tk b p).2.2 = 0 then .ok (unz (tk b p).1, (tk b p).2.1) else .error p := rfl
  have hle := tk_le (L := b) (p := p)
  generalize tk b p = t at *
  obtain ⟨t0, t1, t2⟩ := t
  simp only at hE hub hle cT
  clear h6 h7 h8
  by_cases ht : t2 = 0
  · subst ht
    rw [if_pos rfl] at hE
    have HS : Hid (∀ n1 : Nat, RA K R b k VI (rwhl b p) w (.returned (.int .i64 (unz t0))) ((w.drewN n1).setCell ⟨R, 1, none⟩ (.int .i64 (t1 : Int)))) := fun n1 => by
      have q := Rb.set' (q := t1) (z := (t1 : Int)) (Rb.drewN HR.out n1) rfl (hle rfl)
      rw [hE]
      exact ⟨Gx.trans (Gx.drewN (Gx.refl R w) n1) q.2, _, rfl, ⟨rfl, hub⟩, q.1⟩
    clear HR hS
    go_enter Try.func86, Try.ntmps86
    go_wp2_with fail
    go_quiet (first | (go_at_call 125; exact Calls.quiet_of_same (cT _)))
    go_wp2_with fail
    go_ret
    exact HS.out _
  · rw [if_neg ht] at hE
    have HE : Hid _ := hE
    have ht1 : (((t2 : Nat) : Int) != 0) = true := by simp [ht]
    clear HR hS hE
    go_enter Try.func86, Try.ntmps86
    go_wp2_with fail
    go_quiet (first | (go_at_call 125; exact Calls.quiet_of_same (cT _)))
    go_wp2_with fail
    refine (refuse_c _ _).mono ?_
    rintro e w1 ⟨rfl, rfl⟩
    exact ⟨rfl, by rw [HE.out]; exact ⟨Gx.drewN (Gx.refl _ _) _, rfl⟩⟩
set_option maxRecDepth 20000 in
set_option maxHeartbeats 1600000 in
theorem count_c {K R p k : Nat} {w : World} {b : By} (lim : Nat) (hlim : lim ≤ 16384) (h : Rb K w R b p k) :
    Calls Try.prog 78 #[ptw R, .int .i64 lim] w fun e w' => RA K R b k (VN lim) (rcnt lim b p) w e w' := by
  have HR : Hid (Rb K w R b p k) := h
  obtain ⟨h1, h2, h3, h4, h5, ia, n, cap, h6, h7, h8⟩ := h
  have z0 := cell_of h6 0 _ rfl
  have z1 := cell_of h6 1 _ rfl
  have f1 := TBase.frozen_box h6 1
  have hS : ∀ m, Seen (w.drewN m) (.slice ia n cap) b := fun m => seen_low h7 h8 (TAttrs.drewN_below (Below.refl _ _) m)
  have cT := fun m => take_c _ b (p : Int) _ (hS m)
  unfold tkV at cT
  have hE : rcnt lim b p = if (tk b p).2.2 = 0 ∧ (tk b p).1 ≤ lim then .ok ((tk b p).1, (tk b p).2.1) else .error p := rfl
  have hle := tk_le (L := b) (p := p)
  have hlt := tk_lt b p
  generalize tk b p = t at *
  obtain ⟨t0, t1, t2⟩ := t
  simp only at hE hle cT hlt
  clear h6 h7 h8
  by_cases ht : t2 = 0
  · subst ht
    by_cases hl : t0 ≤ lim
    · rw [if_pos ⟨rfl, hl⟩] at hE
      have HS : Hid (∀ n1 : Nat, RA K R b k (VN lim) (rcnt lim b p) w (.returned (.int .i64 (t0 : Int))) ((w.drewN n1).setCell ⟨R, 1, none⟩ (.int .i64 (t1 : Int)))) := fun n1 => by
        have q := Rb.set' (q := t1) (z := (t1 : Int)) (Rb.drewN HR.out n1) rfl (hle rfl)
        rw [hE]
        exact ⟨Gx.trans (Gx.drewN (Gx.refl R w) n1) q.2, _, rfl, ⟨rfl, hl⟩, q.1⟩
      have hl' : ¬ (lim : Int) < (t0 : Int) := by omega
      clear HR hS hE
      go_enter Try.func78, Try.ntmps78
      go_wp2_with fail
      go_quiet (first | (go_at_call 120; exact Calls.quiet_of_same (cT _)))
      go_wp2_with fail
      go_ret
      exact HS.out _
    · rw [if_neg (fun h => hl h.2)] at hE
      have HE : Hid _ := hE
      have hl' : (lim : Int) < (t0 : Int) := by omega
      clear HR hS hE
      go_enter Try.func78, Try.ntmps78
      go_wp2_with fail
      go_quiet (first | (go_at_call 120; exact Calls.quiet_of_same (cT _)))
      go_wp2_with fail
      refine (refuse_c _ _).mono ?_
      rintro e w1 ⟨rfl, rfl⟩
      exact ⟨rfl, by rw [HE.out]; exact ⟨Gx.drewN (Gx.refl _ _) _, rfl⟩⟩
  · rw [if_neg (fun h => ht h.1)] at hE
    have HE : Hid _ := hE
    have ht1 : (((t2 : Nat) : Int) != 0) = true := by simp [ht]
    clear HR hS hE
    go_enter Try.func78, Try.ntmps78
    go_wp2_with fail
    go_quiet (first | (go_at_call 120; exact Calls.quiet_of_same (cT _)))
    go_wp2_with fail
    refine (refuse_c _ _).mono ?_
    rintro e w1 ⟨rfl, rfl⟩
    exact ⟨rfl, by rw [HE.out]; exact ⟨Gx.drewN (Gx.refl _ _) _, rfl⟩⟩
end Go.Proofs.Ythclndiekjaalaa.YRb

import Derived.BigQuiet
import Derived.Deep.CutBlock
import Derived.Deep.CutRange
import Derived.Test.YtaiackmmmlhgbaaGreatPR04
import Derived.Test.YtaiackmmmlhgbaaGreatPR10
import Derived.Test.YtaiackmmmlhgbaaGreatPR11
open Go.Proofs.Tryz
set_option linter.unusedVariables false
set_option maxRecDepth 20000
set_option maxHeartbeats 3200000
namespace Go.Proofs.YtaiackmmmlhgbaaGreat.ZQa
open Go.RowKit Leb YPl YRd YWr YRr YRs YRb
def Qs (K : Nat) (w : World) (R : Nat) (b : By) (s : Except Nat Nat) : Prop := K <= R /\ K <= w.heap.size /\ b.length <= 1048576 /\ ∃ ia n cap, Seen w (.slice ia n cap) b /\ (∀ g, ia = some g -> g.block < K) /\ match s with
  | .ok p => p <= b.length /\ w.heap[R]? = some (.cells #[.slice ia n cap, .int .i64 p, .bool false, .int .i64 0] 58 (0, 0))
  | .error z => ∃ p : Nat, p <= b.length /\ w.heap[R]? = some (.cells #[.slice ia n cap, .int .i64 p, .bool true, .int .i64 z] 58 (0, 0))
def lf {α : Type} (f : Nat -> Rs α) (s : Except Nat Nat) : Rs α := match s with
  | .ok p => f p
  | .error z => .error z
def fl (s : Except Nat Nat) (z : Nat) : Except Nat Nat := match s with
  | .ok _ => .error z
  | .error y => .error y
def RQ {α : Type} (K R : Nat) (b : By) (Hv : (Nat -> Prop) -> World -> Value -> α -> Prop) (a : Rs α) (w : World) (e : Ending) (w' : World) : Prop := Gx R w w' /\ ∃ v x, e = .returned v /\ Hv (fun g => w.heap.size <= g /\ g < w'.heap.size) w' v x /\ match a with
  | .ok (y, q) => x = y /\ Qs K w' R b (.ok q)
  | .error z => Qs K w' R b (.error z)
section
variable {K R : Nat} {w w' : World} {b : By} {s : Except Nat Nat}
theorem Qs.lt (h : Qs K w R b s) : R < w.heap.size := by
  obtain ⟨_, _, _, ia, n, cap, _, _, h⟩ := h
  cases s with
  | ok p => exact (Array.getElem?_eq_some_iff.1 h.2).1
  | error z => obtain ⟨p, _, h⟩ := h; exact (Array.getElem?_eq_some_iff.1 h).1
theorem Qs.keep (h : Qs K w R b s) (hb : Below K w w') (hR : w'.heap[R]? = w.heap[R]?) : Qs K w' R b s := by
  obtain ⟨h1, h2, h3, ia, n, cap, h4, h5, h⟩ := h
  refine ⟨h1, Nat.le_trans h2 hb.size, h3, ia, n, cap, seen_low h4 h5 hb, h5, ?_⟩
  cases s with
  | ok p => exact ⟨h.1, hR.trans h.2⟩
  | error z => obtain ⟨p, hp, h⟩ := h; exact ⟨p, hp, hR.trans h⟩
theorem Qs.below (h : Qs K w R b s) (hb : Below w.heap.size w w') : Qs K w' R b s := h.keep (hb.mono h.2.1) (hb.block R h.lt)
theorem Qs.drewN (h : Qs K w R b s) (n : Nat) : Qs K (w.drewN n) R b s := h.below (TAttrs.drewN_below (Below.refl _ _) n)
theorem Qs.row {lo : Nat} {row : Option Nat} (h : Qs K w R b s) (hg : w.grownBy w' row) (hlo : R < lo) (hr : ∀ r, row = some r -> lo <= r) : Qs K w' R b s :=
  h.keep ⟨hg.os, hg.tape, hg.output, hg.size, fun q hq => hg.block q (by have := h.2.1; omega) (fun e => by have := hr q e.symm; have := h.1; omega)⟩ (hg.block R h.lt (fun e => by have := hr R e.symm; omega))
theorem Qs.go {p q : Nat} (h : Qs K w R b (.ok p)) (hq : q <= b.length) {z : Int} (hz : (q : Int) = z) : Qs K (w.setCell ⟨R, 1, none⟩ (.int .i64 z)) R b (.ok q) /\ Gx R w (w.setCell ⟨R, 1, none⟩ (.int .i64 z)) := by
  subst hz
  obtain ⟨h1, h2, h3, ia, n, cap, h4, h5, h6, h7⟩ := h
  have hg : Gx R w (w.setCell ⟨R, 1, none⟩ (.int .i64 q)) := ⟨rfl, rfl, rfl, by simp, fun k hk hne => Below.heap_setCell _ _ _ _ (fun e => hne (by rw [e]))⟩
  refine ⟨⟨h1, by simpa using h2, h3, ia, n, cap, seen_low h4 h5 (hg.below h1 h2), h5, hq, ?_⟩, hg⟩
  simp [World.setCell, Array.getElem?_modify, h7]
theorem Qs.flt {p z : Nat} (h : Qs K w R b (.ok p)) : Qs K ((w.setCell ⟨R, 2, none⟩ (.bool true)).setCell ⟨R, 3, none⟩ (.int .i64 z)) R b (.error z) /\ Gx R w ((w.setCell ⟨R, 2, none⟩ (.bool true)).setCell ⟨R, 3, none⟩ (.int .i64 z)) := by
  obtain ⟨h1, h2, h3, ia, n, cap, h4, h5, h6, h7⟩ := h
  have hg : Gx R w ((w.setCell ⟨R, 2, none⟩ (.bool true)).setCell ⟨R, 3, none⟩ (.int .i64 z)) := ⟨rfl, rfl, rfl, by simp, fun k hk hne => by rw [Below.heap_setCell _ _ _ _ (fun e => hne (by rw [e])), Below.heap_setCell _ _ _ _ (fun e => hne (by rw [e]))]⟩
  refine ⟨⟨h1, by simpa using h2, h3, ia, n, cap, seen_low h4 h5 (hg.below h1 h2), h5, p, h6, ?_⟩, hg⟩
  simp [World.setCell, Array.getElem?_modify, h7]
def bad (s : Except Nat Nat) : Bool := match s with
  | .ok _ => false
  | .error _ => true
theorem Qs.cells (h : Qs K w R b s) : ∃ ia n cap, ∃ p : Nat, ∃ pl : Int, w.heap[R]? = some (.cells #[.slice ia n cap, .int .i64 p, .bool (bad s), .int .i64 pl] 58 (0, 0)) /\ Seen w (.slice ia n cap) b /\ p <= b.length := by
  obtain ⟨h1, h2, h3, ia, n, cap, h4, h5, h⟩ := h
  cases s with
  | ok p => exact ⟨ia, n, cap, p, 0, h.2, h4, h.1⟩
  | error z => obtain ⟨p, hp, h⟩ := h; exact ⟨ia, n, cap, p, _, h, h4, hp⟩
end
theorem fail_c {K R : Nat} {w : World} {b : By} {s : Except Nat Nat} (h : Qs K w R b s) (z : Nat) :
    Calls prog 23 #[ptw R, .int .i64 z] w fun e w' => (∃ r, e = .returned r) /\ Gx R w w' /\ Qs K w' R b (fl s z) := by
  have HR : Hid (Qs K w R b s) := h
  obtain ⟨ia, n, cap, p, pl, hx, -, -⟩ := h.cells
  have z2 := cell_of hx 2 _ rfl
  have z3 := cell_of hx 3 _ rfl
  have f2 := TBase.frozen_box hx 2
  have f3 := TBase.frozen_box hx 3
  clear h hx
  cases s with
  | ok q =>
    have HS : Hid _ := HR.out.flt (z := z)
    clear HR
    go_enter func23, ntmps23
    go_wp2_with fail
    go_end0
    exact ⟨⟨_, rfl⟩, HS.out.2, HS.out.1⟩
  | error y =>
    go_enter func23, ntmps23
    go_wp2_with fail
    go_end0
    exact ⟨⟨_, rfl⟩, Gx.refl _ _, HR.out⟩
theorem byte_c {K R : Nat} {w : World} {b : By} {s : Except Nat Nat} (h : Qs K w R b s) :
    Calls prog 22 #[ptw R] w fun e w' => RQ K R b VI (lf (roct b) s) w e w' := by
  have HR : Hid (Qs K w R b s) := h
  cases s with
  | error z =>
    obtain ⟨ia, n, cap, p, pl, hx, -, -⟩ := h.cells
    have z1 := cell_of hx 1 _ rfl
    have z2 : w.cell? ⟨R, 2, none⟩ = some (.bool true) := cell_of hx 2 _ rfl
    clear h hx
    go_enter func22, ntmps22
    go_wp2_with fail
    go_quiet (fail)
    go_wp2_with fail
    refine (fail_c (HR.out.drewN _) p).mono ?_
    rintro e w1 ⟨⟨r, rfl⟩, g1, q1⟩
    have H1 : Hid (Gx R w w1 /\ Qs K w1 R b (.error z)) := ⟨Gx.trans (Gx.drewN (Gx.refl R w) _) g1, q1⟩
    clear g1 q1
    go_wp2_with fail
    go_ret
    exact ⟨H1.out.1, _, 0, rfl, ⟨rfl, by constructor <;> omega⟩, H1.out.2⟩
  | ok p =>
    obtain ⟨h1, h2, h3, ia, n, cap, h7, h8, hp0, h6⟩ := h
    have z0 := cell_of h6 0 _ rfl
    have z1 := cell_of h6 1 _ rfl
    have z2 := cell_of h6 2 _ rfl
    have f1 := TBase.frozen_box h6 1
    obtain rfl : n = b.length := by obtain ⟨a, c, e, -⟩ := h7; cases e; rfl
    by_cases hp : p < b.length
    · obtain ⟨g, o, rfl, hc⟩ := seen_at h7 hp
      have hgK := h8 _ rfl
      have hne : decide ((b.length : Int) <= (p : Int)) = false := by simp; omega
      have hne2 : decide (b.length <= p) = false := by simp; omega
      have hcl : b[p].toNat < 256 := b[p].toNat_lt
      obtain ⟨c, hcc⟩ : ∃ c, b[p].toNat = c := ⟨_, rfl⟩
      have HE : Hid (lf (roct b) (.ok p) = .ok ((c : Int), p + 1)) := by show roct b p = _; unfold roct; rw [dif_pos hp, hcc]
      rw [hcc] at hc hcl
      have HC : Hid (∀ W : World, Gx R w W -> W.cell? ⟨g, o + p, none⟩ = some (.int .u8 (c : Int))) := fun W hg => (World.cell?_of_block (w := w) (hg.block g (by have : g < K := hgK; omega) (fun e => by cases e; have : R < K := hgK; omega))).trans hc
      have HX : Hid (w.heap[R]? = some (.cells #[.slice (some ⟨g, o, none⟩) b.length cap, .int .i64 p, .bool false, .int .i64 0] 58 (0, 0))) := h6
      obtain ⟨P1, hP1⟩ : ∃ P1 : Int, (p : Int) + 1 = P1 := ⟨_, rfl⟩
      have HP1 : Hid ((p : Int) + 1 = P1) := hP1
      have j1 : P1 - 1 = (p : Int) := by omega
      have j2 : IntKind.i64.wrap (P1 - 1) = (p : Int) := by rw [IntKind.wrap_i64]; omega
      have i0 : (0 : Int) <= (p : Int) := by omega
      have i1 : (p : Int) < (b.length : Int) := by omega
      clear h6 h7 h8 hc
      go_enter func22, ntmps22
      go_upto_region 1 with fail
      go_cut [18] from 3 to 18 (fun t wx => t = .bool false /\ ∃ m, wx = w.drewN m)
      case first =>
        go_wp2_with fail
        go_quiet (fail)
        go_wp2_with fail
        go_meet
        exact ⟨rfl, _, rfl⟩
      case rest =>
      obtain ⟨rfl, m, rfl⟩ := hcut
      have q := Qs.go (q := p + 1) (z := P1) (HR.out.drewN m) (by omega) (by have := HP1.out; omega)
      obtain ⟨W2, hW2⟩ : ∃ W, (w.drewN m).setCell ⟨R, 1, none⟩ (.int .i64 P1) = W := ⟨_, rfl⟩
      rw [hW2] at q
      have G2 := Gx.trans (Gx.drewN (Gx.refl R w) m) q.2
      have HQ2 : Hid (Gx R w W2 /\ Qs K W2 R b (.ok (p + 1))) := ⟨G2, q.1⟩
      have hx2 : W2.heap[R]? = some (.cells #[.slice (some ⟨g, o, none⟩) b.length cap, .int .i64 P1, .bool false, .int .i64 0] 58 (0, 0)) := by
        rw [<- hW2]
        have hd : (w.drewN m).heap[R]? = some (.cells #[.slice (some ⟨g, o, none⟩) b.length cap, .int .i64 p, .bool false, .int .i64 0] 58 (0, 0)) := HX.out
        rw [YCb.block_set hd]
        rfl
      have y0 := cell_of hx2 0 _ rfl
      have y1 := cell_of hx2 1 _ rfl
      have yc := HC.out W2 G2
      clear q G2 hx2 hne hne2 z0 z2
      go_upto_region 5 with fail
      try rw [hW2]
      go_quiet (fail)
      go_wp2_with fail
      go_ret
      rw [HE.out]
      exact ⟨Gx.drewN HQ2.out.1 _, _, _, rfl, ⟨rfl, by constructor <;> omega⟩, rfl, HQ2.out.2.drewN _⟩
    · obtain rfl : p = b.length := by omega
      have hne : decide ((b.length : Int) <= (b.length : Int)) = true := by simp
      have HE : Hid (lf (roct b) (.ok b.length) = .error b.length) := by show roct b b.length = _; unfold roct; rw [dif_neg hp]
      clear h6 h7 h8
      go_enter func22, ntmps22
      go_wp2_with fail
      go_quiet (fail)
      go_wp2_with fail
      refine (fail_c (HR.out.drewN _) b.length).mono ?_
      rintro e w1 ⟨⟨r, rfl⟩, g1, q1⟩
      have H1 : Hid (Gx R w w1 /\ Qs K w1 R b (.error b.length)) := ⟨Gx.trans (Gx.drewN (Gx.refl R w) _) g1, q1⟩
      clear g1 q1
      go_wp2_with fail
      go_ret
      rw [HE.out]
      exact ⟨H1.out.1, _, 0, rfl, ⟨rfl, by constructor <;> omega⟩, H1.out.2⟩
end Go.Proofs.YtaiackmmmlhgbaaGreat.ZQa
namespace Go.Proofs.YtaiackmmmlhgbaaGreat.ZQb
open Go.RowKit Leb YPl YRd YWr YRr YRs YRb ZQa
theorem whole_c {K R : Nat} {w : World} {b : By} {s : Except Nat Nat} (h : Qs K w R b s) :
    Calls prog 26 #[ptw R] w fun e w' => RQ K R b VI (lf (rwhl b) s) w e w' := by
  have HR : Hid (Qs K w R b s) := h
  cases s with
  | error z =>
    obtain ⟨ia, n, cap, p, pl, hx, -, -⟩ := h.cells
    have z2 : w.cell? ⟨R, 2, none⟩ = some (.bool true) := cell_of hx 2 _ rfl
    clear h hx
    go_enter func26, ntmps26
    go_wp2_with fail
    go_ret
    exact ⟨Gx.refl R w, _, 0, rfl, ⟨rfl, by constructor <;> omega⟩, HR.out⟩
  | ok p =>
    obtain ⟨h1, h2, h3, ia, n, cap, h7, h8, hp0, h6⟩ := h
    have z0 := cell_of h6 0 _ rfl
    have z1 := cell_of h6 1 _ rfl
    have z2 := cell_of h6 2 _ rfl
    have f1 := TBase.frozen_box h6 1
    have hS : ∀ m, Seen (w.drewN m) (.slice ia n cap) b := fun m => seen_low h7 h8 (TAttrs.drewN_below (Below.refl _ _) m)
    have cT := fun m => rtakei_c _ b (p : Int) _ (hS m)
    unfold tkI at cT
    have hub := unz_bounds (tk_lt b p)
    have hE : lf (rwhl b) (.ok p) = if (tk b p).2.2 = 0 then .ok (unz (tk b p).1, (tk b p).2.1) else .error p := rfl
    have hle := tk_le (L := b) (p := p)
    generalize tk b p = t at *
    obtain ⟨t0, t1, t2⟩ := t
    simp only at hE hub hle cT
    clear h6 h7 h8
    by_cases ht : t2 = 0
    · subst ht
      rw [if_pos rfl] at hE
      have HS : Hid (∀ n1 : Nat, RQ K R b VI (lf (rwhl b) (.ok p)) w (.returned (.int .i64 (unz t0))) ((w.drewN n1).setCell ⟨R, 1, none⟩ (.int .i64 (t1 : Int)))) := fun n1 => by
        have q := Qs.go (q := t1) (z := (t1 : Int)) (HR.out.drewN n1) (hle rfl) rfl
        rw [hE]
        exact ⟨Gx.trans (Gx.drewN (Gx.refl R w) n1) q.2, _, _, rfl, ⟨rfl, hub⟩, rfl, q.1⟩
      clear HR hS hE
      go_enter func26, ntmps26
      go_wp2_with fail
      go_quiet (first | (go_at_call 68; exact Calls.quiet_of_same (cT _)))
      go_wp2_with fail
      go_ret
      exact HS.out _
    · rw [if_neg ht] at hE
      have HE : Hid _ := hE
      have ht1 : (((t2 : Nat) : Int) != 0) = true := by simp [ht]
      clear hS hE
      go_enter func26, ntmps26
      go_wp2_with fail
      go_quiet (first | (go_at_call 68; exact Calls.quiet_of_same (cT _)))
      go_wp2_with fail
      refine (fail_c (HR.out.drewN _) p).mono ?_
      rintro e w1 ⟨⟨r, rfl⟩, g1, q1⟩
      have H1 : Hid (Gx R w w1 /\ Qs K w1 R b (.error p)) := ⟨Gx.trans (Gx.drewN (Gx.refl R w) _) g1, q1⟩
      clear g1 q1
      go_wp2_with fail
      go_ret
      rw [HE.out]
      exact ⟨H1.out.1, _, 0, rfl, ⟨rfl, by constructor <;> omega⟩, H1.out.2⟩
theorem count_c {K R : Nat} {w : World} {b : By} {s : Except Nat Nat} (lim : Nat) (hlim : lim <= 16384) (h : Qs K w R b s) :
    Calls prog 24 #[ptw R, .int .i64 lim] w fun e w' => RQ K R b (VN lim) (lf (rcnt lim b) s) w e w' := by
  have HR : Hid (Qs K w R b s) := h
  cases s with
  | error z =>
    obtain ⟨ia, n, cap, p, pl, hx, -, -⟩ := h.cells
    have z2 : w.cell? ⟨R, 2, none⟩ = some (.bool true) := cell_of hx 2 _ rfl
    clear h hx
    go_enter func24, ntmps24
    go_wp2_with fail
    go_ret
    exact ⟨Gx.refl R w, _, 0, rfl, ⟨rfl, Nat.zero_le _⟩, HR.out⟩
  | ok p =>
    obtain ⟨h1, h2, h3, ia, n, cap, h7, h8, hp0, h6⟩ := h
    have z0 := cell_of h6 0 _ rfl
    have z1 := cell_of h6 1 _ rfl
    have z2 := cell_of h6 2 _ rfl
    have f1 := TBase.frozen_box h6 1
    have hS : ∀ m, Seen (w.drewN m) (.slice ia n cap) b := fun m => seen_low h7 h8 (TAttrs.drewN_below (Below.refl _ _) m)
    have cT := fun m => rtake_c _ b (p : Int) _ (hS m)
    unfold tkV at cT
    have hE : lf (rcnt lim b) (.ok p) = if (tk b p).2.2 = 0 /\ (tk b p).1 <= lim then .ok ((tk b p).1, (tk b p).2.1) else .error p := rfl
    have hle := tk_le (L := b) (p := p)
    have hlt := tk_lt b p
    generalize tk b p = t at *
    obtain ⟨t0, t1, t2⟩ := t
    simp only at hE hle cT hlt
    clear h6 h7 h8
    by_cases ht : t2 = 0
    · subst ht
      by_cases hl : t0 <= lim
      · rw [if_pos ⟨rfl, hl⟩] at hE
        have HS : Hid (∀ n1 : Nat, RQ K R b (VN lim) (lf (rcnt lim b) (.ok p)) w (.returned (.int .i64 (t0 : Int))) ((w.drewN n1).setCell ⟨R, 1, none⟩ (.int .i64 (t1 : Int)))) := fun n1 => by
          have q := Qs.go (q := t1) (z := (t1 : Int)) (HR.out.drewN n1) (hle rfl) rfl
          rw [hE]
          exact ⟨Gx.trans (Gx.drewN (Gx.refl R w) n1) q.2, _, _, rfl, ⟨rfl, hl⟩, rfl, q.1⟩
        have hl' : ¬ (lim : Int) < (t0 : Int) := by omega
        clear HR hS hE
        go_enter func24, ntmps24
        go_wp2_with fail
        go_quiet (first | (go_at_call 66; exact Calls.quiet_of_same (cT _)))
        go_wp2_with fail
        go_ret
        exact HS.out _
      · rw [if_neg (fun h => hl h.2)] at hE
        have HE : Hid _ := hE
        have hl' : (lim : Int) < (t0 : Int) := by omega
        clear hS hE
        go_enter func24, ntmps24
        go_wp2_with fail
        go_quiet (first | (go_at_call 66; exact Calls.quiet_of_same (cT _)))
        go_wp2_with fail
        refine (fail_c (HR.out.drewN _) p).mono ?_
        rintro e w1 ⟨⟨r, rfl⟩, g1, q1⟩
        have H1 : Hid (Gx R w w1 /\ Qs K w1 R b (.error p)) := ⟨Gx.trans (Gx.drewN (Gx.refl R w) _) g1, q1⟩
        clear g1 q1
        go_wp2_with fail
        go_ret
        rw [HE.out]
        exact ⟨H1.out.1, _, 0, rfl, ⟨rfl, Nat.zero_le _⟩, H1.out.2⟩
    · rw [if_neg (fun h => ht h.1)] at hE
      have HE : Hid _ := hE
      have ht1 : (((t2 : Nat) : Int) != 0) = true := by simp [ht]
      clear hS hE
      go_enter func24, ntmps24
      go_wp2_with fail
      go_quiet (first | (go_at_call 66; exact Calls.quiet_of_same (cT _)))
      go_wp2_with fail
      refine (fail_c (HR.out.drewN _) p).mono ?_
      rintro e w1 ⟨⟨r, rfl⟩, g1, q1⟩
      have H1 : Hid (Gx R w w1 /\ Qs K w1 R b (.error p)) := ⟨Gx.trans (Gx.drewN (Gx.refl R w) _) g1, q1⟩
      clear g1 q1
      go_wp2_with fail
      go_ret
      rw [HE.out]
      exact ⟨H1.out.1, _, 0, rfl, ⟨rfl, Nat.zero_le _⟩, H1.out.2⟩
end Go.Proofs.YtaiackmmmlhgbaaGreat.ZQb
namespace Go.Proofs.YtaiackmmmlhgbaaGreat.ZQc
open Go.RowKit Leb YPl YRd YWr YRr YRs YRb YRx ZQa ZQb
theorem text_c {K R : Nat} {w : World} {b : By} {s : Except Nat Nat} (h : Qs K w R b s) :
    Calls prog 25 #[ptw R] w fun e w' => RQ K R b VS (lf (rtxt b) s) w e w' := by
  have c1 := ZQb.count_c 4096 (by omega) h
  cases s with
  | error z =>
    obtain ⟨ja, jn, jc, p0, pl, hx, -, -⟩ := h.cells
    have y1 := cell_of hx 1 _ rfl
    clear h hx
    go_enter func25, ntmps25
    go_wp2_with fail
    refine c1.mono ?_
    rintro e w1 ⟨g1, v, x, rfl, ⟨rfl, hx⟩, q1⟩
    have HQ1 : Hid (Gx R w w1 /\ Qs K w1 R b (.error z)) := ⟨g1, q1⟩
    obtain ⟨ia, n, cap, p, pl', hx2, -, -⟩ := q1.cells
    have z2 : w1.cell? ⟨R, 2, none⟩ = some (.bool true) := cell_of hx2 2 _ rfl
    clear c1 g1 q1 hx2
    go_wp2_with fail
    go_ret
    exact ⟨HQ1.out.1, _, ⟨#[]⟩, rfl, ⟨rfl, by decide⟩, HQ1.out.2⟩
  | ok p =>
  obtain ⟨-, -, -, ja, jn, jc, -, -, -, j6⟩ := h
  have y1 := cell_of j6 1 _ rfl
  clear j6
  have hb : lf (rtxt b) (.ok p) = bnd (rcnt 4096 b p) fun n q => if b.length < q + n then .error p else if UBase.verr (sub b q n) = 0 then .ok (sub b q n, q + n) else .error p := rfl
  change Calls _ _ _ _ fun e w' => RQ K R b (VN 4096) (rcnt 4096 b p) w e w' at c1
  cases hE : rcnt 4096 b p with
  | error q =>
    rw [hE] at c1 hb
    have HE : Hid (lf (rtxt b) (.ok p) = .error q) := hb
    clear hb hE
    go_enter func25, ntmps25
    go_wp2_with fail
    refine c1.mono ?_
    rintro e w1 ⟨g1, v, x, rfl, ⟨rfl, hx⟩, q1⟩
    have HQ1 : Hid (Gx R w w1 /\ Qs K w1 R b (.error q)) := ⟨g1, q1⟩
    obtain ⟨ia, n, cap, p', pl', hx2, -, -⟩ := Qs.cells (s := .error q) q1
    have z2 : w1.cell? ⟨R, 2, none⟩ = some (.bool true) := cell_of hx2 2 _ rfl
    clear c1 g1 q1 hx2
    go_wp2_with fail
    go_ret
    rw [HE.out]
    exact ⟨HQ1.out.1, _, ⟨#[]⟩, rfl, ⟨rfl, by decide⟩, HQ1.out.2⟩
  | ok t =>
  obtain ⟨n, q⟩ := t
  have hpos : 0 < b.length := by
    unfold rcnt at hE
    simp only at hE
    split at hE
    · rename_i h0
      obtain ⟨m, -, h2, h3, -⟩ := tk_back h0.1
      omega
    · cases hE
  rw [hE] at c1 hb
  have HB : Hid (lf (rtxt b) (.ok p) = if b.length < q + n then .error p else if UBase.verr (sub b q n) = 0 then .ok (sub b q n, q + n) else .error p) := hb
  clear hb hE
  go_enter func25, ntmps25
  go_wp2_with fail
  refine c1.mono ?_
  rintro e w1 ⟨g1, v, x, rfl, ⟨rfl, hn⟩, rfl, hR1⟩
  have HR : Hid (Qs K w1 R b (.ok q)) := hR1
  have HG : Hid _ := g1
  obtain ⟨h1, h2, h3, ia, l, cap, h7, h8, hq0, h6⟩ := hR1
  obtain rfl : l = b.length := by obtain ⟨a, c, e, -⟩ := h7; cases e; rfl
  have hcp : b.length <= cap /\ cap <= 9223372036854775807 := by obtain ⟨a, c, e, h, h', -⟩ := h7; cases e; unfold maxLen at h'; exact ⟨h, by omega⟩
  obtain ⟨g, o, rfl, -⟩ := seen_at h7 hpos
  have z0 := cell_of h6 0 _ rfl
  have z1 := cell_of h6 1 _ rfl
  have z2 := cell_of h6 2 _ rfl
  have f1 := TBase.frozen_box h6 1
  have HS : Hid (∀ m, Seen (w1.drewN m) (.slice (some ⟨g, o, none⟩) b.length cap) b) := fun m => seen_low h7 h8 (TAttrs.drewN_below (Below.refl _ _) m)
  clear h6 h7 h8 c1 g1 y1
  by_cases hl : b.length < q + x
  · have HE : Hid (lf (rtxt b) (.ok p) = .error p) := by show _ = _; rw [HB.out, if_pos hl]
    have hl' : (b.length : Int) - q < (x : Int) := by omega
    go_wp2_with fail
    go_quiet (fail)
    go_wp2_with fail
    refine (fail_c (HR.out.drewN _) p).mono ?_
    rintro e w2 ⟨⟨r, rfl⟩, g2, q2⟩
    have H2 : Hid (Gx R w w2 /\ Qs K w2 R b (.error p)) := ⟨Gx.trans (Gx.drewN HG.out _) g2, q2⟩
    clear g2 q2
    go_wp2_with fail
    go_ret
    rw [HE.out]
    exact ⟨H2.out.1, _, ⟨#[]⟩, rfl, ⟨rfl, by decide⟩, H2.out.2⟩
  · have hl' : ¬ (b.length : Int) - q < (x : Int) := by omega
    have HB2 : Hid (lf (rtxt b) (.ok p) = if UBase.verr (sub b q x) = 0 then .ok (sub b q x, q + x) else .error p) := by show _ = _; rw [HB.out, if_neg hl]
    have hcv : ∀ m y c, y = o + q \/ x = 0 -> (convert 22 9 (.slice (some ⟨g, y, none⟩) x c)).run prog (w1.drewN m) = .ok (.string (sub b q x)) (w1.drewN m) := fun m y c hy => conv_sub (HS.out m) (by omega) c y hy
    have hsz : (sub b q x).size <= 4096 := by show ((b.drop q).take x).toArray.size <= _; simp; omega
    generalize sub b q x = s at *
    obtain ⟨V, hV⟩ : ∃ V, TPure.tg s = V := ⟨_, rfl⟩
    have HV : Hid ((V = true -> UBase.verr s = 0) /\ (UBase.verr s = 0 -> V = true)) := by
      show _ /\ _
      rw [<- hV]
      unfold TPure.tg
      rw [decide_eq_true hsz, Bool.true_and]
      simp
    have cG : ∀ W, Calls prog 67 #[.string s] W fun e w' => e = .returned (.bool V) /\ w' = W := fun W => by rw [<- hV]; exact TPure.good_c s (by omega) W
    clear hV
    by_cases hc : cap = q
    · obtain rfl : x = 0 := by omega
      have hcv1 := fun m c => hcv m o c (.inr rfl)
      have hcv2 := fun m c => hcv m (o + q) c (.inl rfl)
      clear hcv
      go_wp2_with fail
      go_quiet (fail)
      go_wp2_with fail
      go_quiet (fail)
      go_wp2_with fail
      refine (cG _).mono ?_
      rintro e W2 ⟨rfl, hW2⟩
      have HQ2 : Hid (Gx R w W2 /\ Qs K W2 R b (.ok q)) := by rw [hW2]; exact ⟨Gx.drewN HG.out _, HR.out.drewN _⟩
      obtain ⟨-, -, -, i2, n2, c2, -, -, -, k6⟩ := HQ2.out.2
      have y1 := cell_of k6 1 _ rfl
      have fy := TBase.frozen_box k6 1
      clear hW2 k6 z0 z1 f1 cG
      cases V with
      | true =>
        have HF : Hid (RQ K R b VS (lf (rtxt b) (.ok p)) w (.returned (.string s)) (W2.setCell ⟨R, 1, none⟩ (.int .i64 (q : Int)))) := by
          have z := Qs.go (q := q + 0) (z := (q : Int)) HQ2.out.2 (by omega) (by omega)
          show RQ _ _ _ _ _ _ _ _
          rw [HB2.out, if_pos (HV.out.1 rfl)]
          exact ⟨Gx.trans HQ2.out.1 z.2, _, _, rfl, ⟨rfl, hsz⟩, rfl, z.1⟩
        go_wp2_with fail
        go_ret
        exact HF.out
      | false =>
        have HE : Hid (lf (rtxt b) (.ok p) = .error p) := by show _ = _; rw [HB2.out, if_neg (fun h => by have := HV.out.2 h; cases this)]
        go_wp2_with fail
        refine (fail_c HQ2.out.2 p).mono ?_
        rintro e w3 ⟨⟨r, rfl⟩, g3, q3⟩
        have H3 : Hid (Gx R w w3 /\ Qs K w3 R b (.error p)) := ⟨Gx.trans HQ2.out.1 g3, q3⟩
        clear g3 q3
        go_wp2_with fail
        go_ret
        rw [HE.out]
        exact ⟨H3.out.1, _, ⟨#[]⟩, rfl, ⟨rfl, by decide⟩, H3.out.2⟩
    · have hcv1 := fun m c => hcv m (o + q) c (.inl rfl)
      clear hcv
      go_wp2_with fail
      go_quiet (fail)
      go_wp2_with fail
      go_quiet (fail)
      go_wp2_with fail
      refine (cG _).mono ?_
      rintro e W2 ⟨rfl, hW2⟩
      have HQ2 : Hid (Gx R w W2 /\ Qs K W2 R b (.ok q)) := by rw [hW2]; exact ⟨Gx.drewN HG.out _, HR.out.drewN _⟩
      obtain ⟨-, -, -, i2, n2, c2, -, -, -, k6⟩ := HQ2.out.2
      have y1 := cell_of k6 1 _ rfl
      have fy := TBase.frozen_box k6 1
      clear hW2 k6 z0 z1 f1 cG
      cases V with
      | true =>
        have HF : Hid (RQ K R b VS (lf (rtxt b) (.ok p)) w (.returned (.string s)) (W2.setCell ⟨R, 1, none⟩ (.int .i64 ((q : Int) + x)))) := by
          have z := Qs.go (q := q + x) (z := ((q : Int) + x)) HQ2.out.2 (by omega) (by omega)
          show RQ _ _ _ _ _ _ _ _
          rw [HB2.out, if_pos (HV.out.1 rfl)]
          exact ⟨Gx.trans HQ2.out.1 z.2, _, _, rfl, ⟨rfl, hsz⟩, rfl, z.1⟩
        go_wp2_with fail
        go_ret
        exact HF.out
      | false =>
        have HE : Hid (lf (rtxt b) (.ok p) = .error p) := by show _ = _; rw [HB2.out, if_neg (fun h => by have := HV.out.2 h; cases this)]
        go_wp2_with fail
        refine (fail_c HQ2.out.2 p).mono ?_
        rintro e w3 ⟨⟨r, rfl⟩, g3, q3⟩
        have H3 : Hid (Gx R w w3 /\ Qs K w3 R b (.error p)) := ⟨Gx.trans HQ2.out.1 g3, q3⟩
        clear g3 q3
        go_wp2_with fail
        go_ret
        rw [HE.out]
        exact ⟨H3.out.1, _, ⟨#[]⟩, rfl, ⟨rfl, by decide⟩, H3.out.2⟩
end Go.Proofs.YtaiackmmmlhgbaaGreat.ZQc

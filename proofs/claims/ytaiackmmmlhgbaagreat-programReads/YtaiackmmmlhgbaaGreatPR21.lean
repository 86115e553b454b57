import Derived.Test.YtaiackmmmlhgbaaGreatPR07
import Derived.Test.YtaiackmmmlhgbaaGreatPR20
open Go.Proofs.Tryz
set_option linter.unusedVariables false
set_option maxRecDepth 20000
set_option maxHeartbeats 3200000
namespace Go.Proofs.YtaiackmmmlhgbaaGreat.YRbf
open Go.RowKit Leb YPl YRd YWr YRr YRsf
def Rb (K : Nat) (w : World) (R : Nat) (b : By) (p k : Nat) : Prop := K <= R /\ K <= w.heap.size /\ p <= b.length /\ b.length <= 1048576 /\ k <= 4097 /\ ∃ ia n cap, w.heap[R]? = some (.cells #[.slice ia n cap, .int .i64 p, .int .i64 k] 50 (0, 0)) /\ Seen w (.slice ia n cap) b /\ ∀ g, ia = some g -> g.block < K
theorem Rb.lt {K R p k : Nat} {w : World} {b : By} (h : Rb K w R b p k) : R < w.heap.size := by
  obtain ⟨_, _, _, _, _, ia, n, cap, h1, _⟩ := h
  exact (Array.getElem?_eq_some_iff.1 h1).1
theorem seen_low {K n cap : Nat} {w w' : World} {ia : Option Addr} {b : By} (h : Seen w (.slice ia n cap) b) (hl : ∀ g, ia = some g -> g.block < K) (hb : Below K w w') : Seen w' (.slice ia n cap) b := by
  obtain ⟨a, c, e, h1, h2, h3, h4⟩ := h
  cases e
  refine ⟨ia, cap, rfl, h1, h2, h3, fun g o s e j hj => ?_⟩
  obtain ⟨hs, hc⟩ := h4 g o s e j hj
  exact ⟨hs, (World.cell?_of_block (w := w) (hb.block g (hl _ e))).trans hc⟩
theorem Rb.below {K R p k : Nat} {w w' : World} {b : By} (h : Rb K w R b p k) (hb : Below w.heap.size w w') : Rb K w' R b p k := by
  have hlt := h.lt
  obtain ⟨h1, h2, h3, h4, h5, ia, n, cap, h6, h7, h8⟩ := h
  exact ⟨h1, Nat.le_trans h2 hb.size, h3, h4, h5, ia, n, cap, (hb.block R hlt).trans h6, seen_low h7 h8 (hb.mono h2), h8⟩
theorem Rb.row {K R p k lo : Nat} {w w' : World} {b : By} {row : Option Nat} (h : Rb K w R b p k) (hg : w.grownBy w' row) (hlo : R < lo) (hr : ∀ r, row = some r -> lo <= r) : Rb K w' R b p k := by
  have hlt := h.lt
  obtain ⟨h1, h2, h3, h4, h5, ia, n, cap, h6, h7, h8⟩ := h
  refine ⟨h1, Nat.le_trans h2 hg.size, h3, h4, h5, ia, n, cap, (hg.block R hlt (fun e => by have := hr R e.symm; omega)).trans h6, seen_low h7 h8 ⟨hg.os, hg.tape, hg.output, hg.size, fun q hq => hg.block q (by omega) (fun e => by have := hr q e.symm; omega)⟩, h8⟩
theorem Rb.set {K R p k q : Nat} {w : World} {b : By} (h : Rb K w R b p k) (hq : q <= b.length) : Rb K (w.setCell ⟨R, 1, none⟩ (.int .i64 q)) R b q k /\ Gx R w (w.setCell ⟨R, 1, none⟩ (.int .i64 q)) := by
  obtain ⟨h1, h2, h3, h4, h5, ia, n, cap, h6, h7, h8⟩ := h
  have hg : Gx R w (w.setCell ⟨R, 1, none⟩ (.int .i64 q)) := ⟨rfl, rfl, rfl, by simp, fun k hk hne => Below.heap_setCell _ _ _ _ (fun e => hne (by rw [e]))⟩
  refine ⟨⟨h1, by simpa using h2, hq, h4, h5, ia, n, cap, ?_, seen_low h7 h8 (hg.below h1 h2), h8⟩, hg⟩
  simp [World.setCell, Array.getElem?_modify, h6]
theorem Rb.drewN {K R p k : Nat} {w : World} {b : By} (h : Rb K w R b p k) (n : Nat) : Rb K (w.drewN n) R b p k := h.below (TAttrs.drewN_below (Below.refl _ _) n)
theorem Gx.drewN {R : Nat} {w w' : World} (h : Gx R w w') (n : Nat) : Gx R w (w'.drewN n) := Gx.trans h (Gx.of (TAttrs.drewN_below (Below.refl _ _) n))
theorem Rb.set' {K R p k q : Nat} {z : Int} {w : World} {b : By} (h : Rb K w R b p k) (hz : (q : Int) = z) (hq : q <= b.length) : Rb K (w.setCell ⟨R, 1, none⟩ (.int .i64 z)) R b q k /\ Gx R w (w.setCell ⟨R, 1, none⟩ (.int .i64 z)) := by
  subst hz
  exact h.set hq
def RA {α : Type} (K R : Nat) (b : By) (k : Nat) (Hv : (Nat -> Prop) -> World -> Value -> α -> Prop) (a : Rs α) (w : World) (e : Ending) (w' : World) : Prop := Gx R w w' /\ match a with
  | .ok (x, q) => ∃ v, e = .returned v /\ Hv (Bz w' w.heap.size) w' v x /\ Rb K w' R b q k
  | .error q => e = .panicked (pkF 2100 q)
theorem refuse_c (p : Int) (w : World) : Calls prog 57 #[.int .i64 p] w fun e w' => w' = w /\ e = .panicked (pkF 2100 p) := by
  go_enter func57, ntmps57
  go_wp2_with fail
  exact ⟨rfl, rfl, rfl⟩
def VI : (Nat -> Prop) -> World -> Value -> Int -> Prop := fun _ _ v x => v = .int .i64 x /\ i64 x
def VN (lim : Nat) : (Nat -> Prop) -> World -> Value -> Nat -> Prop := fun _ _ v x => v = .int .i64 (x : Int) /\ x <= lim
def VS : (Nat -> Prop) -> World -> Value -> ByteArray -> Prop := fun _ _ v x => v = .string x /\ x.size <= 4096
theorem seen_at {w : World} {ia : Option Addr} {n cap : Nat} {b : By} (h : Seen w (.slice ia n cap) b) {p : Nat} (hp : p < b.length) : ∃ g o, ia = some ⟨g, o, none⟩ /\ w.cell? ⟨g, o + p, none⟩ = some (.int .u8 (b[p].toNat : Int)) := by
  obtain ⟨a, c, e, h1, h2, h3, h4⟩ := h
  cases e
  cases ia with
  | none => have := h3 rfl; omega
  | some x =>
    obtain ⟨g, o, s⟩ := x
    obtain ⟨rfl, hc⟩ := h4 g o s rfl p hp
    exact ⟨g, o, rfl, hc⟩
theorem octet_c {K R p k : Nat} {w : World} {b : By} (h : Rb K w R b p k) :
    Calls prog 56 #[ptw R] w fun e w' => RA K R b k VI (roct b p) w e w' := by
  have HR : Hid (Rb K w R b p k) := h
  obtain ⟨h1, h2, h3, h4, h5, ia, n, cap, h6, h7, h8⟩ := h
  have z0 := cell_of h6 0 _ rfl
  have z1 := cell_of h6 1 _ rfl
  have f1 := TBase.frozen_box h6 1
  obtain rfl : n = b.length := by obtain ⟨a, c, e, -⟩ := h7; cases e; rfl
  have hc0 : b.length <= cap := by obtain ⟨a, c, e, h, -⟩ := h7; cases e; exact h
  by_cases hp : p < b.length
  · obtain ⟨g, o, rfl, hc⟩ := seen_at h7 hp
    have hne : ((p : Int) == (b.length : Int)) = false := by simp; omega
    have hcl : b[p].toNat < 256 := b[p].toNat_lt
    obtain ⟨c, hcc⟩ : ∃ c, b[p].toNat = c := ⟨_, rfl⟩
    have HE : Hid (roct b p = .ok ((c : Int), p + 1)) := by show _ = _; unfold roct; rw [dif_pos hp, hcc]
    rw [hcc] at hc hcl
    have HS : Hid (∀ n1 : Nat, RA K R b k VI (roct b p) w (.returned (.int .i64 (c : Int))) ((w.drewN n1).setCell ⟨R, 1, none⟩ (.int .i64 ((p : Int) + 1)))) := fun n1 => by
      have q := Rb.set' (q := p + 1) (z := (p : Int) + 1) (Rb.drewN HR.out n1) (by omega) (by omega)
      rw [HE.out]
      exact ⟨Gx.trans (Gx.drewN (Gx.refl R w) n1) q.2, _, rfl, ⟨rfl, by constructor <;> omega⟩, q.1⟩
    clear h6 h7 h8 HR
    go_enter func56, ntmps56
    go_wp2_with fail
    go_quiet (fail)
    go_wp2_with fail
    go_quiet (fail)
    go_wp2_with fail
    go_ret
    exact HS.out _
  · obtain rfl : p = b.length := by omega
    have HE : Hid (roct b b.length = .error b.length) := by show _ = _; unfold roct; rw [dif_neg hp]
    clear h6 h7 h8 HR
    go_enter func56, ntmps56
    go_wp2_with fail
    go_quiet (fail)
    go_wp2_with fail
    refine (refuse_c _ _).mono ?_
    rintro e w1 ⟨rfl, rfl⟩
    exact ⟨rfl, by rw [HE.out]; exact ⟨Gx.drewN (Gx.refl _ _) _, rfl⟩⟩
theorem take_int {v : Value} {L : By} {s : Int} {w : World} (hS : Seen w v L) : Calls prog 165 #[v, .int .i64 s] w fun e w' => e = .returned (.tuple #[.int .i64 (unz (tk L s).1), .int .i64 ((tk L s).2.1 : Int), .int .i64 ((tk L s).2.2 : Int)]) /\ w' = w := by
  have c1 := take_c v L s w hS
  have c2 := unfold_c (tk L s).1 (tk_lt L s) w
  obtain ⟨a, cap, rfl, -⟩ := hS
  unfold tkV at c1
  generalize tk L s = t at *
  go_enter func165, ntmps165
  go_wp2_with fail
  refine c1.mono ?_
  rintro e w1 ⟨rfl, rfl⟩
  go_wp2_with fail
  refine c2.mono ?_
  rintro e w1 ⟨rfl, rfl⟩
  go_wp2_with fail
  go_ret3
  exact ⟨rfl, rfl⟩
theorem tk_le {L : By} {p : Nat} (h : (tk L p).2.2 = 0) : (tk L p).2.1 <= L.length := by
  obtain ⟨n, h1, h2, h3, h4, -⟩ := tk_back h
  rw [h4]
  exact h3
theorem whole_c {K R p k : Nat} {w : World} {b : By} (h : Rb K w R b p k) :
    Calls prog 114 #[ptw R] w fun e w' => RA K R b k VI (rwhl b p) w e w' := by
  have HR : Hid (Rb K w R b p k) := h
  obtain ⟨h1, h2, h3, h4, h5, ia, n, cap, h6, h7, h8⟩ := h
  have z0 := cell_of h6 0 _ rfl
  have z1 := cell_of h6 1 _ rfl
  have f1 := TBase.frozen_box h6 1
  have hS : ∀ m, Seen (w.drewN m) (.slice ia n cap) b := fun m => seen_low h7 h8 (TAttrs.drewN_below (Below.refl _ _) m)
  have cT := fun m => take_int (s := (p : Int)) (hS m)
  have hub := unz_bounds (tk_lt b p)
  have hE : rwhl b p = if (tk b p).2.2 = 0 then .ok (unz (tk b p).1, (tk b p).2.1) else .error p := rfl
  have hle := tk_le (L := b) (p := p)
  generalize tk b p = t at *
  obtain ⟨t0, t1, t2⟩ := t
  simp only at hE hub hle cT
  clear h6 h7 h8
  by_cases ht : t2 = 0
  · subst ht
    rw [if_pos rfl] at hE
    have HS : Hid (∀ n1 : Nat, RA K R b k VI (rwhl b p) w (.returned (.int .i64 (unz t0))) ((w.drewN n1).setCell ⟨R, 1, none⟩ (.int .i64 (t1 : Int)))) := fun n1 => by
      have q := Rb.set' (q := t1) (z := (t1 : Int)) (Rb.drewN HR.out n1) rfl (hle rfl)
      rw [hE]
      exact ⟨Gx.trans (Gx.drewN (Gx.refl R w) n1) q.2, _, rfl, ⟨rfl, hub⟩, q.1⟩
    clear HR hS
    go_enter func114, ntmps114
    go_wp2_with fail
    go_quiet (first | (go_at_call 165; exact Calls.quiet_of_same (cT _)))
    go_wp2_with fail
    go_ret
    exact HS.out _
  · rw [if_neg ht] at hE
    have HE : Hid _ := hE
    have ht1 : (((t2 : Nat) : Int) != 0) = true := by simp [ht]
    clear HR hS hE
    go_enter func114, ntmps114
    go_wp2_with fail
    go_quiet (first | (go_at_call 165; exact Calls.quiet_of_same (cT _)))
    go_wp2_with fail
    refine (refuse_c _ _).mono ?_
    rintro e w1 ⟨rfl, rfl⟩
    exact ⟨rfl, by rw [HE.out]; exact ⟨Gx.drewN (Gx.refl _ _) _, rfl⟩⟩
theorem count_c {K R p k : Nat} {w : World} {b : By} (lim : Nat) (hlim : lim <= 16384) (h : Rb K w R b p k) :
    Calls prog 106 #[ptw R, .int .i64 lim] w fun e w' => RA K R b k (VN lim) (rcnt lim b p) w e w' := by
  have HR : Hid (Rb K w R b p k) := h
  obtain ⟨h1, h2, h3, h4, h5, ia, n, cap, h6, h7, h8⟩ := h
  have z0 := cell_of h6 0 _ rfl
  have z1 := cell_of h6 1 _ rfl
  have f1 := TBase.frozen_box h6 1
  have hS : ∀ m, Seen (w.drewN m) (.slice ia n cap) b := fun m => seen_low h7 h8 (TAttrs.drewN_below (Below.refl _ _) m)
  have cT := fun m => take_c _ b (p : Int) _ (hS m)
  unfold tkV at cT
  have hE : rcnt lim b p = if (tk b p).2.2 = 0 /\ (tk b p).1 <= lim then .ok ((tk b p).1, (tk b p).2.1) else .error p := rfl
  have hle := tk_le (L := b) (p := p)
  have hlt := tk_lt b p
  generalize tk b p = t at *
  obtain ⟨t0, t1, t2⟩ := t
  simp only at hE hle cT hlt
  clear h6 h7 h8
  by_cases ht : t2 = 0
  · subst ht
    by_cases hl : t0 <= lim
    · rw [if_pos ⟨rfl, hl⟩] at hE
      have HS : Hid (∀ n1 : Nat, RA K R b k (VN lim) (rcnt lim b p) w (.returned (.int .i64 (t0 : Int))) ((w.drewN n1).setCell ⟨R, 1, none⟩ (.int .i64 (t1 : Int)))) := fun n1 => by
        have q := Rb.set' (q := t1) (z := (t1 : Int)) (Rb.drewN HR.out n1) rfl (hle rfl)
        rw [hE]
        exact ⟨Gx.trans (Gx.drewN (Gx.refl R w) n1) q.2, _, rfl, ⟨rfl, hl⟩, q.1⟩
      have hl' : ¬ (lim : Int) < (t0 : Int) := by omega
      clear HR hS hE
      go_enter func106, ntmps106
      go_wp2_with fail
      go_quiet (first | (go_at_call 160; exact Calls.quiet_of_same (cT _)))
      go_wp2_with fail
      go_ret
      exact HS.out _
    · rw [if_neg (fun h => hl h.2)] at hE
      have HE : Hid _ := hE
      have hl' : (lim : Int) < (t0 : Int) := by omega
      clear HR hS hE
      go_enter func106, ntmps106
      go_wp2_with fail
      go_quiet (first | (go_at_call 160; exact Calls.quiet_of_same (cT _)))
      go_wp2_with fail
      refine (refuse_c _ _).mono ?_
      rintro e w1 ⟨rfl, rfl⟩
      exact ⟨rfl, by rw [HE.out]; exact ⟨Gx.drewN (Gx.refl _ _) _, rfl⟩⟩
  · rw [if_neg (fun h => ht h.1)] at hE
    have HE : Hid _ := hE
    have ht1 : (((t2 : Nat) : Int) != 0) = true := by simp [ht]
    clear HR hS hE
    go_enter func106, ntmps106
    go_wp2_with fail
    go_quiet (first | (go_at_call 160; exact Calls.quiet_of_same (cT _)))
    go_wp2_with fail
    refine (refuse_c _ _).mono ?_
    rintro e w1 ⟨rfl, rfl⟩
    exact ⟨rfl, by rw [HE.out]; exact ⟨Gx.drewN (Gx.refl _ _) _, rfl⟩⟩
end Go.Proofs.YtaiackmmmlhgbaaGreat.YRbf
namespace Go.Proofs.YtaiackmmmlhgbaaGreat.YRxf
open Go.RowKit Leb YPl YRd YWr YRr YRsf YRbf
theorem conv_sub {w : World} {g o cap q n : Nat} {b : By} (h : Seen w (.slice (some ⟨g, o, none⟩) b.length cap) b) (hq : q + n <= b.length) (c : Nat) (x : Nat) (hx : x = o + q \/ n = 0) : (convert 22 9 (.slice (some ⟨g, x, none⟩) n c)).run prog w = .ok (.string (sub b q n)) w := by
  have hl : ((b.drop q).take n).length = n := by rw [List.length_take, List.length_drop]; omega
  have := run_convert_bytes_back (P := prog) w 22 9 5 ⟨g, x, none⟩ c ((b.drop q).take n) underlying22 underlying5 underlying9 (fun j hj => by
    obtain ⟨a, cp, e, h1, h2, h3, h4⟩ := h
    cases e
    have hjn : j < n := by omega
    have hx' : x = o + q := by rcases hx with h | h; · exact h
                               · omega
    rw [Leb.add_none, hx', Nat.add_assoc, (h4 g o none rfl (q + j) (by omega)).2]
    rw [List.getElem_take, List.getElem_drop])
  rw [hl] at this
  exact this
theorem text_c {K R p k : Nat} {w : World} {b : By} (h : Rb K w R b p k) :
    Calls prog 59 #[ptw R] w fun e w' => RA K R b k VS (rtxt b p) w e w' := by
  have c1 := YRbf.count_c 4096 (by omega) h
  obtain ⟨-, -, -, -, -, ja, jn, jc, j6, -, -⟩ := h
  have y1 := cell_of j6 1 _ rfl
  clear j6
  have hb : rtxt b p = bnd (rcnt 4096 b p) fun n q => if b.length < q + n then .error p else if UBase.verr (sub b q n) = 0 then .ok (sub b q n, q + n) else .error p := rfl
  cases hE : rcnt 4096 b p with
  | error q =>
    rw [hE] at c1 hb
    have HE : Hid (rtxt b p = .error q) := hb
    clear hb hE
    go_enter func59, ntmps59
    go_wp2_with fail
    refine c1.mono ?_
    rintro e w1 ⟨g1, rfl⟩
    exact ⟨rfl, by rw [HE.out]; exact ⟨g1, rfl⟩⟩
  | ok t =>
  obtain ⟨n, q⟩ := t
  have hpos : 0 < b.length := by
    unfold rcnt at hE
    simp only at hE
    split at hE
    · rename_i h0
      obtain ⟨m, -, h2, h3, -⟩ := tk_back h0.1
      omega
    · cases hE
  rw [hE] at c1 hb
  have HB : Hid (rtxt b p = if b.length < q + n then .error p else if UBase.verr (sub b q n) = 0 then .ok (sub b q n, q + n) else .error p) := hb
  clear hb hE
  go_enter func59, ntmps59
  go_wp2_with fail
  refine c1.mono ?_
  rintro e w1 ⟨g1, v, rfl, ⟨rfl, hn⟩, hR1⟩
  have HR : Hid (Rb K w1 R b q k) := hR1
  have HG : Hid _ := g1
  obtain ⟨h1, h2, h3, h4, h5, ia, l, cap, h6, h7, h8⟩ := hR1
  obtain rfl : l = b.length := by obtain ⟨a, c, e, -⟩ := h7; cases e; rfl
  have hcp : b.length <= cap /\ cap <= 9223372036854775807 := by obtain ⟨a, c, e, h, h', -⟩ := h7; cases e; unfold maxLen at h'; exact ⟨h, by omega⟩
  obtain ⟨g, o, rfl, -⟩ := seen_at h7 hpos
  have z0 := cell_of h6 0 _ rfl
  have z1 := cell_of h6 1 _ rfl
  have f1 := TBase.frozen_box h6 1
  have HS : Hid (∀ m, Seen (w1.drewN m) (.slice (some ⟨g, o, none⟩) b.length cap) b) := fun m => seen_low h7 h8 (TAttrs.drewN_below (Below.refl _ _) m)
  clear h6 h7 h8 c1 g1
  by_cases hl : b.length < q + n
  · have HE : Hid (rtxt b p = .error p) := by show _ = _; rw [HB.out, if_pos hl]
    have hl' : (b.length : Int) - q < (n : Int) := by omega
    go_wp2_with fail
    go_quiet (fail)
    go_wp2_with fail
    refine (refuse_c _ _).mono ?_
    rintro e w2 ⟨rfl, rfl⟩
    exact ⟨rfl, by rw [HE.out]; exact ⟨Gx.drewN HG.out _, rfl⟩⟩
  · have hl' : ¬ (b.length : Int) - q < (n : Int) := by omega
    have HB2 : Hid (rtxt b p = if UBase.verr (sub b q n) = 0 then .ok (sub b q n, q + n) else .error p) := by show _ = _; rw [HB.out, if_neg hl]
    have hcv : ∀ m x c, x = o + q \/ n = 0 -> (convert 22 9 (.slice (some ⟨g, x, none⟩) n c)).run prog (w1.drewN m) = .ok (.string (sub b q n)) (w1.drewN m) := fun m x c hx => conv_sub (HS.out m) (by omega) c x hx
    have hsz : (sub b q n).size <= 4096 := by show ((b.drop q).take n).toArray.size <= _; simp; omega
    have cV := fun W => UOwn.valid_c (sub b q n) (by omega) W
    generalize sub b q n = s at *
    by_cases hc : cap = q
    · obtain rfl : n = 0 := by omega
      have hcv1 := fun m c => hcv m o c (.inr rfl)
      have hcv2 := fun m c => hcv m (o + q) c (.inl rfl)
      clear hcv
      go_wp2_with fail
      go_quiet (fail)
      go_wp2_with fail
      go_quiet (fail)
      go_wp2_with fail
      refine (cV _).mono ?_
      rintro e W2 ⟨rfl, pp, hW2⟩
      have hR2 : Rb K W2 R b q k := by rw [hW2]; exact Rb.below (Rb.drewN HR.out _) ((Below.refl _ _).alloc (Nat.le_refl _) _)
      have hG2 : Gx R w W2 := by rw [hW2]; exact Gx.trans (Gx.drewN HG.out _) (Gx.of ((Below.refl _ _).alloc (Nat.le_refl _) _))
      have HR2 : Hid (Rb K W2 R b q k) := hR2
      have HG2 : Hid (Gx R w W2) := hG2
      obtain ⟨-, -, -, -, -, i2, n2, c2, k6, -, -⟩ := hR2
      have y2 := cell_of k6 1 _ rfl
      have fy := TBase.frozen_box k6 1
      clear hW2 hG2 k6 z0 z1 f1 cV
      by_cases hv : UBase.verr s = 0
      · have HF : Hid (RA K R b k VS (rtxt b p) w (.returned (.string s)) (W2.setCell ⟨R, 1, none⟩ (.int .i64 (q : Int)))) := by
          have z := Rb.set' (q := q + 0) (z := (q : Int)) HR2.out (by omega) (by omega)
          show RA _ _ _ _ _ _ _ _ _
          rw [HB2.out, if_pos hv]
          exact ⟨Gx.trans HG2.out z.2, _, rfl, ⟨rfl, hsz⟩, z.1⟩
        rw [hv]
        go_wp2_with fail
        go_ret
        exact HF.out
      · have HE : Hid (rtxt b p = .error p) := by show _ = _; rw [HB2.out, if_neg hv]
        have hv1 : (((UBase.verr s : Nat) : Int) != 0) = true := by simp [hv]
        go_wp2_with fail
        refine (refuse_c _ _).mono ?_
        rintro e w3 ⟨rfl, rfl⟩
        exact ⟨rfl, by rw [HE.out]; exact ⟨HG2.out, rfl⟩⟩
    · have hcv1 := fun m c => hcv m (o + q) c (.inl rfl)
      clear hcv
      go_wp2_with fail
      go_quiet (fail)
      go_wp2_with fail
      go_quiet (fail)
      go_wp2_with fail
      refine (cV _).mono ?_
      rintro e W2 ⟨rfl, pp, hW2⟩
      have hR2 : Rb K W2 R b q k := by rw [hW2]; exact Rb.below (Rb.drewN HR.out _) ((Below.refl _ _).alloc (Nat.le_refl _) _)
      have hG2 : Gx R w W2 := by rw [hW2]; exact Gx.trans (Gx.drewN HG.out _) (Gx.of ((Below.refl _ _).alloc (Nat.le_refl _) _))
      have HR2 : Hid (Rb K W2 R b q k) := hR2
      have HG2 : Hid (Gx R w W2) := hG2
      obtain ⟨-, -, -, -, -, i2, n2, c2, k6, -, -⟩ := hR2
      have y2 := cell_of k6 1 _ rfl
      have fy := TBase.frozen_box k6 1
      clear hW2 hG2 k6 z0 z1 f1 cV
      by_cases hv : UBase.verr s = 0
      · have HF : Hid (RA K R b k VS (rtxt b p) w (.returned (.string s)) (W2.setCell ⟨R, 1, none⟩ (.int .i64 ((q : Int) + n)))) := by
          have z := Rb.set' (q := q + n) (z := (q : Int) + n) HR2.out (by omega) (by omega)
          show RA _ _ _ _ _ _ _ _ _
          rw [HB2.out, if_pos hv]
          exact ⟨Gx.trans HG2.out z.2, _, rfl, ⟨rfl, hsz⟩, z.1⟩
        rw [hv]
        go_wp2_with fail
        go_ret
        exact HF.out
      · have HE : Hid (rtxt b p = .error p) := by show _ = _; rw [HB2.out, if_neg hv]
        have hv1 : (((UBase.verr s : Nat) : Int) != 0) = true := by simp [hv]
        go_wp2_with fail
        refine (refuse_c _ _).mono ?_
        rintro e w3 ⟨rfl, rfl⟩
        exact ⟨rfl, by rw [HE.out]; exact ⟨HG2.out, rfl⟩⟩
end Go.Proofs.YtaiackmmmlhgbaaGreat.YRxf
namespace Go.Proofs.YtaiackmmmlhgbaaGreat.YRlf
open Go.RowKit Leb YPl YRd YRr YRsf YRbf
open TBase (T Keep)
def VA {α : Type} (Hd : Hdt α) : (Nat -> Prop) -> World -> Value -> α -> Prop := fun S w v x => ∃ c : List Value, v = .agg c.toArray /\ Hd S w c x
def VC : (Nat -> Prop) -> World -> Value -> List Ins -> Prop := fun S w v x => RrS 2 LyN S w v x
theorem bnd_id {α : Type} (a : Rs (List α)) : bnd a (fun l r => .ok ([] ++ l, r)) = a := by
  unfold bnd; cases a with
  | error q => rfl
  | ok t => obtain ⟨x, p⟩ := t; rfl
theorem many_step {α : Type} {f : Nat -> Rs α} {n q p p2 q0 : Nat} {xs : List α} {x : α} (hq : q < n) (h : bnd (rmany f (n - q) p) (fun l r => .ok (xs ++ l, r)) = rmany f n q0) (hf : f p = .ok (x, p2)) : bnd (rmany f (n - (q + 1)) p2) (fun l r => .ok ((xs ++ [x]) ++ l, r)) = rmany f n q0 := by
  obtain ⟨m, hm⟩ : ∃ m, n - q = m + 1 := ⟨n - q - 1, by omega⟩
  rw [show n - (q + 1) = m by omega]
  rw [hm, rmany, hf] at h
  rw [<- h]
  simp only [bnd]
  cases rmany f m p2 with
  | error z => rfl
  | ok t => obtain ⟨l, r⟩ := t; simp
theorem many_stop {α : Type} {f : Nat -> Rs α} {n q p q0 z : Nat} {xs : List α} (hq : q < n) (h : bnd (rmany f (n - q) p) (fun l r => .ok (xs ++ l, r)) = rmany f n q0) (hf : f p = .error z) : rmany f n q0 = .error z := by
  obtain ⟨m, hm⟩ : ∃ m, n - q = m + 1 := ⟨n - q - 1, by omega⟩
  rw [hm, rmany, hf] at h
  exact h.symm
theorem many_end {α : Type} {f : Nat -> Rs α} {n p q0 : Nat} {xs : List α} (h : bnd (rmany f (n - n) p) (fun l r => .ok (xs ++ l, r)) = rmany f n q0) : rmany f n q0 = .ok (xs, p) := by
  rw [Nat.sub_self, rmany] at h
  rw [<- h]
  simp [bnd]
theorem RowI.push {α : Type} {Hd : Hdt α} (hs : Stays Hd) {ty : TypeId} {n lo R : Nat} {w w2 w3 : World} {v : Value} {l : List α} {c : List Value} {x : α} (h : RowI Hd ty n lo w v l) (hR : R < lo) (hlo : lo <= w.heap.size) (hg : Gx R w w2)
    (hx : Hd (Bz w2 w.heap.size) w2 c x) (hb : Below w2.heap.size w2 w3) :
    ∃ css : List (List Value), w3.ownsRow lo ty n v l.length css.flatten /\ css.length = l.length /\ (∀ c ∈ css, c.length = n) /\ (∀ j (h1 : j < css.length) (h2 : j < l.length), Hd (Sx lo w3 v) w3 css[j] l[j]) /\ Hd (Sx lo w3 v) w3 c x := by
  obtain ⟨css, h1, h2, h3, h4⟩ := (h.other hs hR hg).other hs hR (Gx.of (R := R) hb)
  refine ⟨css, h1, h2, h3, h4, hs.out (S := Bz w2 w.heap.size) (fun b hb' hl => hb.block b hl) (fun b hb' => ⟨by have := hb'.at'; omega, by have := hb'.at'; have := hb.size; omega, fun e => ?_, hb'.nf.keep (hb.block b hb'.at'.2)⟩) hx⟩
  obtain ⟨css', h1', -⟩ := h
  have := (World.ownsRow.lt h1' b e).2
  have := hb'.at'
  omega
theorem RowI.slice {α : Type} {Hd : Hdt α} {ty : TypeId} {n lo : Nat} {w : World} {v : Value} {l : List α} (h : RowI Hd ty n lo w v l) : ∃ a m c, v = .slice a m c := by
  obtain ⟨css, h1, -⟩ := h
  rcases h1.2 with ⟨rfl, -⟩ | ⟨g, cap, cur, rfl, -⟩ <;> exact ⟨_, _, _, rfl⟩
theorem src_of {W : World} {B : Nat} {c : List Value} {t : TypeId} (h : W.heap[B]? = some (.cells c.toArray t (0, 0))) : ((some (⟨B, 0, none⟩ : Addr)) = none /\ 1 = 0 /\ 1 = 0) \/ ∃ ad : Addr, some (⟨B, 0, none⟩ : Addr) = some ad /\ ∀ j u, c[j]? = some u -> W.cell? (ad.add j) = some u :=
  .inr ⟨_, rfl, fun j u hu => by rw [Leb.add_none, Nat.zero_add]; exact cell_of h j u (by simpa using hu)⟩
theorem gx_row {R : Nat} {w W3 W4 : World} {row : Option Nat} (h : Gx R w W3) (hg : W3.grownBy W4 row) (hr : ∀ r, row = some r -> w.heap.size <= r) : Gx R w W4 :=
  ⟨hg.os.trans h.os, hg.tape.trans h.tape, hg.output.trans h.output, Nat.le_trans h.size hg.size, fun k hk hne => (hg.block k (by have := h.size; omega) (fun e => by have := hr k e.symm; omega)).trans (h.block k hk hne)⟩
end Go.Proofs.YtaiackmmmlhgbaaGreat.YRlf
namespace Go.Proofs.YtaiackmmmlhgbaaGreat.YRaf
open Go.RowKit YPl YRd YWr YRr YRsf YRbf YRlf
theorem info_s : (prog.info? 9).map (fun i => (i.zero, i.size, i.bytes)) = some (some (.string ⟨#[]⟩), 1, 16) := by kernel_rfl
theorem ly_s {S : Nat -> Prop} {lo : Nat} {w : World} {v : Value} (hSS : ∀ b, Sx lo w v b -> S b) (g o : Nat) (c : List Value) (x : ByteArray) (hg : S g) (hc : ∀ i u, c[i]? = some u -> w.cell? ⟨g, o + i, none⟩ = some u) (hl : c.length = 1) (h : HdS (Sx lo w v) w c x) : LyS w g o x := by
  obtain ⟨rfl, h0⟩ := h; exact ⟨hc 0 _ rfl, h0⟩
theorem rl_s {K R p k : Nat} {w : World} {b : By} (lim : Nat) (hlim : lim <= 16384) (f : Nat -> Rs ByteArray) (h : Rb K w R b p k)
    (hone : Hid (∀ (W : World) (q : Nat), Rb K W R b q k -> Gx R w W -> Calls prog 59 #[ptw R] W fun e w' => RA K R b k VS (f q) W e w')) :
    Calls prog 58 #[ptw R, .int .i64 lim, .func (.func 59) #[ptw R] #[]] w fun e w' => RA K R b k (fun S w v l => RrS 1 LyS S w v l) (rlst lim f b p) w e w' := by
  have hRlt := h.lt
  have c1 := YRbf.count_c lim hlim h
  obtain ⟨i0, hi, hz0, hz1, hz2⟩ := info_parts info_s
  have hE0 : rlst lim f b p = bnd (rcnt lim b p) fun n q => rmany f n q := rfl
  clear h
  cases hE : rcnt lim b p with
  | error q =>
    rw [hE] at c1 hE0
    have HE : Hid (rlst lim f b p = .error q) := hE0
    clear hE0 hE
    go_enter func58, ntmps58
    go_wp2_with fail
    refine c1.mono ?_
    rintro e w1 ⟨g1, rfl⟩
    exact ⟨rfl, by rw [HE.out]; exact ⟨g1, rfl⟩⟩
  | ok t =>
  obtain ⟨n, q0⟩ := t
  rw [hE] at c1 hE0
  have HE : Hid (rlst lim f b p = rmany f n q0) := hE0
  clear hE0 hE
  go_enter func58, ntmps58
  go_wp2_with fail
  refine c1.mono ?_
  rintro e w1 ⟨g1, v, rfl, ⟨rfl, hn⟩, hR1⟩
  have HG1 : Hid (Gx R w w1 /\ Rb K w1 R b q0 k) := ⟨g1, hR1⟩
  clear c1 g1 hR1
  go_wp2_with fail
  go_loopw [7, 11] (fun v i wr => ∃ (q p' : Nat) (xs : List ByteArray), i = .int .i64 q /\ q <= n /\ xs.length = q /\ Hid (Gx R w wr /\ RowI HdS 9 1 w.heap.size wr v xs /\ Rb K wr R b p' k) /\ Hid (bnd (rmany f (n - q) p') (fun l r => .ok (xs ++ l, r)) = rmany f n q0)) (fun _ i _ => n - (intOf i).toNat)
  case atStart => exact ⟨0, q0, [], rfl, by omega, rfl, ⟨HG1.out.1, RowI.nil _ _ _ _ _, HG1.out.2⟩, by show _ = _; rw [Nat.sub_zero]; exact bnd_id _⟩
  case round =>
    obtain ⟨q, p', xs, rfl, hq, hxl, HG, HS⟩ := hrel
    by_cases hlt : q < n
    · have cx := hone.out wr p' HG.out.2.2 HG.out.1
      go_wp2_with fail
      refine cx.mono ?_
      rintro e w2 ⟨g2, hA⟩
      cases hfx : f p' with
      | error z =>
        rw [hfx] at hA
        obtain rfl := hA
        exact ⟨rfl, by rw [HE.out, many_stop hlt HS.out hfx]; exact ⟨Gx.trans HG.out.1 g2, rfl⟩⟩
      | ok t =>
        obtain ⟨x, p2⟩ := t
        rw [hfx] at hA
        obtain ⟨ve, rfl, hve, hR2⟩ := hA
        obtain ⟨rfl, hsz⟩ := hve
        obtain ⟨W3, hW3⟩ : ∃ W, w2.alloc (.cells #[.string x] 9) = W := ⟨_, rfl⟩
        have b3 : Below w2.heap.size w2 W3 := by rw [<- hW3]; exact (Below.refl _ w2).alloc (Nat.le_refl _) _
        have n3 : W3.heap[w2.heap.size]? = some (.cells #[.string x] 9 (0, 0)) := by rw [<- hW3]; exact heap_alloc_new w2 _
        obtain ⟨css, k1, k2, k3, k4, k5⟩ := RowI.push sS HG.out.2.1 hRlt HG.out.1.size g2 (c := [.string x]) (x := x) ⟨rfl, by omega⟩ b3
        have HS2 : Hid _ := many_step hlt HS.out hfx
        have HP : Hid (_ /\ _ /\ _ /\ _) := And.intro k2 (And.intro k3 (And.intro k4 k5))
        have HG2 : Hid (Gx R w W3 /\ Rb K W3 R b p2 k) := ⟨Gx.trans (Gx.trans HG.out.1 g2) (Gx.of b3), Rb.below hR2 b3⟩
        have hsz := HG2.out.1.size
        have hcl := src_of n3
        have hl3 := k1.1
        clear hR2 b3 n3 k2 k3 k4 k5 g2 cx HG HS
        go_wp2_with (first
          | (at_builtin; (try rw [hW3]); refine YAp.app_seen rfl _ _ 24 rfl w.heap.size 9 i0 (.string ⟨#[]⟩) 1 16 underlying24 hi hz0 hz1 hz2 rfl (by decide) _ _ _ rfl k1 _ 1 _ [.string x] rfl hcl rfl (by intro u hu; simp only [List.mem_cons, List.not_mem_nil, or_false] at hu; rcases hu with rfl; rfl) (by unfold maxLen; omega) (by omega) hsz ?_))
        intro v' W4 hown hgrow hnb
        have HF : Hid (Gx R w W4 /\ RowI HdS 9 1 w.heap.size W4 v' (xs ++ [x]) /\ Rb K W4 R b p2 k) := ⟨gx_row HG2.out.1 hgrow (fun r hr => (World.ownsRow.lt k1 r hr).1), RowI.snoc sS k1 HP.out.1 HP.out.2.1 HP.out.2.2.1 HP.out.2.2.2 rfl hgrow (by rw [hxl]; exact hown) hnb, Rb.row HG2.out.2 hgrow hRlt (fun r hr => (World.ownsRow.lt k1 r hr).1)⟩
        clear hown hgrow hnb HG2 HP k1 hcl
        go_wp2_with fail
        go_roundw
        case rel => exact ⟨q + 1, p2, xs ++ [x], by go_num, by omega, by simp [hxl], HF, HS2⟩
        case measure => simp only [intOf]; omega
    · obtain rfl : q = n := by omega
      obtain ⟨va, vm, vc, rfl⟩ := RowI.slice HG.out.2.1
      go_wp2_with fail
      go_ret
      rw [HE.out, many_end HS.out]
      exact ⟨HG.out.1, _, rfl, RowI.rr HG.out.2.1 (by omega) (fun b h1 h2 h3 => ⟨⟨h1, h2⟩, h3⟩) (ly_s (fun b hb => ⟨⟨hb.1, hb.2.1⟩, hb.2.2.2⟩)), HG.out.2.2⟩
end Go.Proofs.YtaiackmmmlhgbaaGreat.YRaf
namespace Go.Proofs.YtaiackmmmlhgbaaGreat.YSm
open Go.RowKit YPl YRr
theorem same_s {K : Nat} {w : World} {u v : Value} {l : List ByteArray} (hu : Rr 1 LyS K w u l) (hv : Rr 1 LyS K w v l) (hK : K <= w.heap.size) :
    Calls prog 29 #[u, v] w fun e w' => e = .returned (.bool true) /\ ∃ k, w' = w.drewN k := by
  obtain ⟨a, cap, rfl, hlc, hcm, hlb, hnil, hrow⟩ := hu
  obtain ⟨a', cap', rfl, hlc', hcm', -, hnil', hrow'⟩ := hv
  have HR : Hid _ := hrow
  have HR' : Hid _ := hrow'
  clear hrow hrow'
  go_enter func29, ntmps29
  go_wp2_with fail
  go_loopw [5] (fun i wr => ∃ q : Nat, i = .int .i64 q /\ q <= l.length /\ ∃ k, wr = w.drewN k) (fun i _ => l.length - (intOf i).toNat)
  case atStart => exact ⟨0, rfl, by omega, 0, rfl⟩
  case round =>
    obtain ⟨q, rfl, hq, kk, rfl⟩ := hrel
    by_cases hlt : q < l.length
    · rcases HR.out with h0 | ⟨g, o, rfl, hg, hc⟩
      · rw [h0] at hlt; simp at hlt
      rcases HR'.out with h0 | ⟨g', o', rfl, hg', hc'⟩
      · rw [h0] at hlt; simp at hlt
      have he := hc q hlt
      have hf := hc' q hlt
      rw [Nat.mul_one] at he hf
      obtain ⟨x, hx⟩ : ∃ x, l[q] = x := ⟨_, rfl⟩
      rw [hx] at he hf
      obtain ⟨e0, -⟩ := he
      obtain ⟨g0, -⟩ := hf
      clear hc hc'
      go_wp2_with fail
      go_quiet (fail)
      go_wp2_with fail
      go_roundw
      case rel => exact ⟨q + 1, by go_num, by omega, _, rfl⟩
      case measure => simp only [intOf]; omega
    · obtain rfl : q = l.length := by omega
      go_wp2_with fail
      go_ret
      exact ⟨rfl, _, rfl⟩
theorem same_i {K : Nat} {w : World} {u v : Value} {l : List Int} (hu : Rr 1 LyI K w u l) (hv : Rr 1 LyI K w v l) (hK : K <= w.heap.size) :
    Calls prog 119 #[u, v] w fun e w' => e = .returned (.bool true) /\ ∃ k, w' = w.drewN k := by
  obtain ⟨a, cap, rfl, hlc, hcm, hlb, hnil, hrow⟩ := hu
  obtain ⟨a', cap', rfl, hlc', hcm', -, hnil', hrow'⟩ := hv
  have HR : Hid _ := hrow
  have HR' : Hid _ := hrow'
  clear hrow hrow'
  go_enter func119, ntmps119
  go_wp2_with fail
  go_loopw [5] (fun i wr => ∃ q : Nat, i = .int .i64 q /\ q <= l.length /\ ∃ k, wr = w.drewN k) (fun i _ => l.length - (intOf i).toNat)
  case atStart => exact ⟨0, rfl, by omega, 0, rfl⟩
  case round =>
    obtain ⟨q, rfl, hq, kk, rfl⟩ := hrel
    by_cases hlt : q < l.length
    · rcases HR.out with h0 | ⟨g, o, rfl, hg, hc⟩
      · rw [h0] at hlt; simp at hlt
      rcases HR'.out with h0 | ⟨g', o', rfl, hg', hc'⟩
      · rw [h0] at hlt; simp at hlt
      have he := hc q hlt
      have hf := hc' q hlt
      rw [Nat.mul_one] at he hf
      obtain ⟨x, hx⟩ : ∃ x, l[q] = x := ⟨_, rfl⟩
      rw [hx] at he hf
      obtain ⟨e0, -⟩ := he
      obtain ⟨g0, -⟩ := hf
      clear hc hc'
      go_wp2_with fail
      go_quiet (fail)
      go_wp2_with fail
      go_roundw
      case rel => exact ⟨q + 1, by go_num, by omega, _, rfl⟩
      case measure => simp only [intOf]; omega
    · obtain rfl : q = l.length := by omega
      go_wp2_with fail
      go_ret
      exact ⟨rfl, _, rfl⟩
theorem same_n {K : Nat} {w : World} {u v : Value} {l : List Ins} (hu : Rr 2 LyN K w u l) (hv : Rr 2 LyN K w v l) (hK : K <= w.heap.size) :
    Calls prog 70 #[u, v] w fun e w' => e = .returned (.bool true) /\ ∃ k, w' = w.drewN k := by
  obtain ⟨a, cap, rfl, hlc, hcm, hlb, hnil, hrow⟩ := hu
  obtain ⟨a', cap', rfl, hlc', hcm', -, hnil', hrow'⟩ := hv
  have HR : Hid _ := hrow
  have HR' : Hid _ := hrow'
  clear hrow hrow'
  go_enter func70, ntmps70
  go_wp2_with fail
  go_loopw [5] (fun i wr => ∃ q : Nat, i = .int .i64 q /\ q <= l.length /\ ∃ k, wr = w.drewN k) (fun i _ => l.length - (intOf i).toNat)
  case atStart => exact ⟨0, rfl, by omega, 0, rfl⟩
  case round =>
    obtain ⟨q, rfl, hq, kk, rfl⟩ := hrel
    by_cases hlt : q < l.length
    · rcases HR.out with h0 | ⟨g, o, rfl, hg, hc⟩
      · rw [h0] at hlt; simp at hlt
      rcases HR'.out with h0 | ⟨g', o', rfl, hg', hc'⟩
      · rw [h0] at hlt; simp at hlt
      have he := hc q hlt
      have hf := hc' q hlt
      obtain ⟨x, hx⟩ : ∃ x, l[q] = x := ⟨_, rfl⟩
      rw [hx] at he hf
      obtain ⟨e0, e1, -⟩ := he
      obtain ⟨g0, g1, -⟩ := hf
      clear hc hc'
      go_wp2_with fail
      go_quiet (fail)
      go_wp2_with fail
      go_roundw
      case rel => exact ⟨q + 1, by go_num, by omega, _, rfl⟩
      case measure => simp only [intOf]; omega
    · obtain rfl : q = l.length := by omega
      go_wp2_with fail
      go_ret
      exact ⟨rfl, _, rfl⟩
theorem rr_drew {α : Type} {n K : Nat} {Ly : World -> Nat -> Nat -> α -> Prop} {w : World} {v : Value} {l : List α} (h : Rr n Ly K w v l) (hl : ∀ g o x, Ly w g o x -> ∀ k, Ly (w.drewN k) g o x) (k : Nat) : Rr n Ly K (w.drewN k) v l := h.keep (Nat.le_refl _) fun g o x _ _ h => hl g o x h k
theorem lyn_drew {w : World} {g o : Nat} {x : Ins} (h : LyN w g o x) (k : Nat) : LyN (w.drewN k) g o x := ⟨h.1, h.2.1, h.2.2⟩
theorem same_c {K : Nat} {w : World} {u v : Value} {l : List (List Ins)} (hu : Rr 1 (LyC K) K w u l) (hv : Rr 1 (LyC K) K w v l) (hK : K <= w.heap.size) :
    Calls prog 30 #[u, v] w fun e w' => e = .returned (.bool true) /\ ∃ k, w' = w.drewN k := by
  obtain ⟨a, cap, rfl, hlc, hcm, hlb, hnil, hrow⟩ := hu
  obtain ⟨a', cap', rfl, hlc', hcm', -, hnil', hrow'⟩ := hv
  have HR : Hid _ := hrow
  have HR' : Hid _ := hrow'
  clear hrow hrow'
  go_enter func30, ntmps30
  go_wp2_with fail
  go_loopw [5] (fun i wr => ∃ q : Nat, i = .int .i64 q /\ q <= l.length /\ ∃ k, wr = w.drewN k) (fun i _ => l.length - (intOf i).toNat)
  case atStart => exact ⟨0, rfl, by omega, 0, rfl⟩
  case round =>
    obtain ⟨q, rfl, hq, kk, hkk⟩ := hrel
    have HK : Hid (wr = w.drewN kk) := hkk
    clear hkk
    by_cases hlt : q < l.length
    · rcases HR.out with h0 | ⟨g, o, rfl, hg, hc⟩
      · rw [h0] at hlt; simp at hlt
      rcases HR'.out with h0 | ⟨g', o', rfl, hg', hc'⟩
      · rw [h0] at hlt; simp at hlt
      have he := hc q hlt
      have hf := hc' q hlt
      rw [Nat.mul_one] at he hf
      obtain ⟨x, hx⟩ : ∃ x, l[q] = x := ⟨_, rfl⟩
      rw [hx] at he hf
      obtain ⟨v0, e0, r0⟩ := he
      obtain ⟨v1, e1, r1⟩ := hf
      have e0 : wr.cell? ⟨g, o + q, none⟩ = some v0 := by rw [HK.out]; exact e0
      have e1 : wr.cell? ⟨g', o' + q, none⟩ = some v1 := by rw [HK.out]; exact e1
      have cS := fun k => same_n (w := (w.drewN kk).drewN k) (rr_drew (rr_drew r0 (fun _ _ _ h => lyn_drew h) kk) (fun _ _ _ h => lyn_drew h) k) (rr_drew (rr_drew r1 (fun _ _ _ h => lyn_drew h) kk) (fun _ _ _ h => lyn_drew h) k) hK
      rw [<- HK.out] at cS
      obtain ⟨xa, xc, rfl⟩ : ∃ a c, v0 = .slice a x.length c := by obtain ⟨a, c, h, -⟩ := r0; exact ⟨a, c, h⟩
      obtain ⟨ya, yc, rfl⟩ : ∃ a c, v1 = .slice a x.length c := by obtain ⟨a, c, h, -⟩ := r1; exact ⟨a, c, h⟩
      clear hc hc' r0 r1
      go_wp2_with fail
      go_quiet (first | (go_at_call 70; exact Calls.quiet_of (cS _)))
      go_wp2_with fail
      go_roundw
      case rel => exact ⟨q + 1, by go_num, by omega, _, by rw [HK.out, World.drewN_drewN]⟩
      case measure => simp only [intOf]; omega
    · obtain rfl : q = l.length := by omega
      go_wp2_with fail
      go_ret
      exact ⟨rfl, _, HK.out⟩
end Go.Proofs.YtaiackmmmlhgbaaGreat.YSm

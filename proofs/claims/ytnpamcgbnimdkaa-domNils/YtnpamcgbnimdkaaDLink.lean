/- A node made a kid, and let go: contracts of link and unlink. -/
import Derived.Test.YtnpamcgbnimdkaaDJoin
namespace Go.Proofs.Ytnpamcgbnimdkaa.DLink
open Go.RowKit Go.Proofs.Ytnpamcgbnimdkaa.TBase Go.Proofs.Ytnpamcgbnimdkaa.DBase Go.Proofs.Ytnpamcgbnimdkaa.DJoin
set_option linter.unusedVariables false

/-- The one ahead of the place. -/
def lkA (c : Nat → Nd) (p : Nat) (b : Option Nat) : Option Nat := match b with
  | none => (c p).la
  | some k => (c k).pr
/-- What link makes of the cells. -/
def lk (c : Nat → Nd) (p x : Nat) (b : Option Nat) : Nat → Nd := jn (jn (up c x { c x with pa := some p }) p (lkA c p b) (some x)) p (some x) b
/-- What unlink makes of them. -/
def ul (c : Nat → Nd) (x : Nat) : Nat → Nd := match (c x).pa with
  | none => c
  | some p => jn c p (c x).pr (c x).ne
theorem grown_trans {w w1 w2 : World} {g : Nat} (h : w.grownBy w1 (some g)) (h2 : w1.grownBy w2 (some g)) : w.grownBy w2 (some g) :=
  ⟨h2.os.trans h.os, h2.tape.trans h.tape, h2.output.trans h.output, Nat.le_trans h.size h2.size, fun k hk hne => (h2.block k (Nat.lt_of_lt_of_le hk h.size) hne).trans (h.block k hk hne)⟩
theorem Bx.grown {w w' : World} {p gc n : Nat} {fv : Value} {q : Nat → Int} (h : Bx w p gc n fv q) (hne : p ≠ gc) (hg : w.grownBy w' (some gc)) : Bx w' p gc n fv q := h.keep (hg.block p h.lt (fun e => hne (Option.some.inj e)))

set_option maxRecDepth 20000 in
theorem link_c {w : World} {p gc n : Nat} {fv : Value} {q : Nat → Int} {c : Nat → Nd} (hb : Bx w p gc n fv q) (hc : Cr w gc n c) (y x : Nat) (b : Option Nat) (hy : y < n) (hx : x < n) (hbb : Ok n b) (ha : Ok n (lkA c y b)) (hn : n ≤ 8192) :
    Calls Try.prog 52 #[.pointer (some ⟨p, 0, none⟩), .int .i64 y, .int .i64 x, .int .i64 (en b)] w fun e w' => (∃ r, e = .returned r) ∧ Cr w' gc n (lk c y x b) ∧ w.grownBy w' (some gc) := by
  have hne := ne_of hb hc
  have k0 := hb.at0
  obtain ⟨W1, hW1⟩ : ∃ W1, w.setCell ⟨gc, x * 9 + 4, none⟩ (.int .i64 (y : Int)) = W1 := ⟨_, rfl⟩
  have h1 : Cr W1 gc n (up c x { c x with pa := some y }) := by rw [← hW1]; exact hc.spa hx (some y)
  have G1 : w.grownBy W1 (some gc) := by rw [← hW1]; exact grown_set (World.grownBy.refl _ _) _ _
  have B1 := Bx.grown hb hne G1
  have g4 := hc.at hx (k := 4) (by omega)
  have f4 := hc.frozen (x * 9 + 4)
  have HW : Hid (w.setCell ⟨gc, x * 9 + 4, none⟩ (.int .i64 (y : Int)) = W1) := hW1
  have HJ2 : Hid (∀ w2, Cr w2 gc n (jn (up c x { c x with pa := some y }) y (lkA c y b) (some x)) → w.grownBy w2 (some gc) → Calls Try.prog 74 #[.pointer (some ⟨p, 0, none⟩), .int .i64 y, .int .i64 x, .int .i64 (en b)] w2 fun e w' => (∃ r, e = .returned r) ∧ Cr w' gc n (lk c y x b) ∧ w2.grownBy w' (some gc)) :=
    fun w2 h2 g2 => join_c (Bx.grown hb hne g2) h2 y (some x) b hy (fun k e => by cases e; exact hx) hbb hn
  cases b with
  | none =>
    have g6 := hc.at hy (k := 6) (by omega)
    have cj : Calls Try.prog 74 #[.pointer (some ⟨p, 0, none⟩), .int .i64 y, .int .i64 (en (c y).la), .int .i64 x] W1 fun e w' => (∃ r, e = .returned r) ∧ Cr w' gc n (jn (up c x { c x with pa := some y }) y (lkA c y none) (some x)) ∧ W1.grownBy w' (some gc) :=
      join_c B1 h1 y (lkA c y none) (some x) hy ha (fun k e => by cases e; exact hx) hn
    rw [show (c y).put 6 = .int .i64 (en (c y).la) from rfl] at g6
    have HG : Hid (w.grownBy W1 (some gc)) := G1
    clear hW1 h1 hb hc ha hbb B1 G1
    generalize (c y).la = L at *
    simp only [en_none] at *
    go_enter Try.func52, Try.ntmps52
    go_wp2_with (first | (rw [HW.out]; refine cj.mono ?_; rintro e w2 ⟨⟨r2, rfl⟩, h2, g2⟩; have cj2 := HJ2.out w2 h2 (grown_trans HG.out g2); have HG2 : Hid (w.grownBy w2 (some gc)) := grown_trans HG.out g2; clear h2 g2 cj) | (refine cj2.mono ?_; rintro e w3 ⟨⟨r3, rfl⟩, h3, g3⟩))
    go_end0
    exact ⟨⟨_, rfl⟩, h3, grown_trans HG2.out g3⟩
  | some kb =>
    have rb := hbb kb rfl
    have g6 := hc.at hy (k := 6) (by omega)
    have g7 := hc.at rb (k := 7) (by omega)
    have cj : Calls Try.prog 74 #[.pointer (some ⟨p, 0, none⟩), .int .i64 y, .int .i64 (en (c kb).pr), .int .i64 x] W1 fun e w' => (∃ r, e = .returned r) ∧ Cr w' gc n (jn (up c x { c x with pa := some y }) y (lkA c y (some kb)) (some x)) ∧ W1.grownBy w' (some gc) :=
      join_c B1 h1 y (lkA c y (some kb)) (some x) hy ha (fun k e => by cases e; exact hx) hn
    rw [show (c y).put 6 = .int .i64 (en (c y).la) from rfl] at g6
    rw [show (c kb).put 7 = .int .i64 (en (c kb).pr) from rfl] at g7
    have eb : ((kb : Int) == -1) = false := by simp
    have HG : Hid (w.grownBy W1 (some gc)) := G1
    clear hW1 h1 hb hc ha hbb B1 G1
    generalize (c y).la = L at *
    generalize (c kb).pr = L' at *
    simp only [en_some] at *
    go_enter Try.func52, Try.ntmps52
    go_wp2_with (first | (rw [HW.out]; refine cj.mono ?_; rintro e w2 ⟨⟨r2, rfl⟩, h2, g2⟩; have cj2 := HJ2.out w2 h2 (grown_trans HG.out g2); have HG2 : Hid (w.grownBy w2 (some gc)) := grown_trans HG.out g2; clear h2 g2 cj) | (refine cj2.mono ?_; rintro e w3 ⟨⟨r3, rfl⟩, h3, g3⟩))
    go_end0
    exact ⟨⟨_, rfl⟩, h3, grown_trans HG2.out g3⟩
theorem nine_put (d : Nd) : #[d.put 0, d.put 1, d.put 2, d.put 3, d.put 4, d.put 5, d.put 6, d.put 7, d.put 8] = #[.bool d.lv, .string d.gt, .string d.xt, d.av, .int .i64 (en d.pa), .int .i64 (en d.fi), .int .i64 (en d.la), .int .i64 (en d.pr), .int .i64 (en d.ne)] := rfl
set_option maxRecDepth 20000 in
theorem unlink_c {w : World} {p gc n : Nat} {fv : Value} {q : Nat → Int} {c : Nat → Nd} (hb : Bx w p gc n fv q) (hc : Cr w gc n c) (x : Nat) (hx : x < n) (hp : Ok n (c x).pa) (hr : Ok n (c x).pr) (hz : Ok n (c x).ne) (hs : ∃ a k cap, (c x).av = .slice a k cap) (hn : n ≤ 8192) :
    Calls Try.prog 53 #[.pointer (some ⟨p, 0, none⟩), .int .i64 x] w fun e w' => (∃ r, e = .returned r) ∧ Cr w' gc n (ul c x) ∧ w.grownBy w' (some gc) := by
  have hne := ne_of hb hc
  have k0 := hb.at0
  have q0 := hc.at hx (k := 0) (by omega)
  have q1 := hc.at hx (k := 1) (by omega)
  have q2 := hc.at hx (k := 2) (by omega)
  have q3 := hc.at hx (k := 3) (by omega)
  have q4 := hc.at hx (k := 4) (by omega)
  have q5 := hc.at hx (k := 5) (by omega)
  have q6 := hc.at hx (k := 6) (by omega)
  have q7 := hc.at hx (k := 7) (by omega)
  have q8 := hc.at hx (k := 8) (by omega)
  have HJ : Hid (∀ W1 z, w.grownBy W1 (some gc) → W1.heap[gc]? = w.heap[gc]? → (c x).pa = some z → Calls Try.prog 74 #[.pointer (some ⟨p, 0, none⟩), .int .i64 z, .int .i64 (en (c x).pr), .int .i64 (en (c x).ne)] W1 fun e w' => (∃ r, e = .returned r) ∧ Cr w' gc n (ul c x) ∧ W1.grownBy w' (some gc)) := by
    intro W1 z g1 hk e
    have : ul c x = jn c z (c x).pr (c x).ne := by unfold ul; rw [e]
    rw [this]
    exact join_c (Bx.grown hb hne g1) (hc.keep hk) z _ _ (hp z e) hr hz hn
  have HL : Hid (gc < w.heap.size) := hc.lt
  have HC : Hid (Cr w gc n c) := hc
  generalize hd : c x = d at *
  obtain ⟨lv, gt, xt, av, pa, fi, la, pr, ne⟩ := d
  obtain ⟨sa, sk, sc, rfl⟩ : ∃ a k cap, av = .slice a k cap := hs
  rw [show (Nd.mk lv gt xt (.slice sa sk sc) pa fi la pr ne).put 0 = .bool lv from rfl] at q0
  rw [show (Nd.mk lv gt xt (.slice sa sk sc) pa fi la pr ne).put 1 = .string gt from rfl] at q1
  rw [show (Nd.mk lv gt xt (.slice sa sk sc) pa fi la pr ne).put 2 = .string xt from rfl] at q2
  rw [show (Nd.mk lv gt xt (.slice sa sk sc) pa fi la pr ne).put 3 = .slice sa sk sc from rfl] at q3
  rw [show (Nd.mk lv gt xt (.slice sa sk sc) pa fi la pr ne).put 4 = .int .i64 (en pa) from rfl] at q4
  rw [show (Nd.mk lv gt xt (.slice sa sk sc) pa fi la pr ne).put 5 = .int .i64 (en fi) from rfl] at q5
  rw [show (Nd.mk lv gt xt (.slice sa sk sc) pa fi la pr ne).put 6 = .int .i64 (en la) from rfl] at q6
  rw [show (Nd.mk lv gt xt (.slice sa sk sc) pa fi la pr ne).put 7 = .int .i64 (en pr) from rfl] at q7
  rw [show (Nd.mk lv gt xt (.slice sa sk sc) pa fi la pr ne).put 8 = .int .i64 (en ne) from rfl] at q8
  rw [Nat.add_zero] at q0
  clear hb hc hp hr hz
  have HA : Hid (∀ o, w.grownBy (w.alloc o) (some gc) ∧ (w.alloc o).heap[gc]? = w.heap[gc]?) := fun o => ⟨⟨rfl, rfl, rfl, by simp, fun k hk _ => Below.heap_alloc _ _ _ hk⟩, Below.heap_alloc _ _ _ HL.out⟩
  cases pa with
  | none =>
    have e : ul c x = c := by unfold ul; rw [hd]
    rw [e]
    simp only [en_none] at *
    go_enter Try.func53, Try.ntmps53
    go_wp2_with fail
    go_end0
    exact ⟨⟨_, rfl⟩, HC.out.keep (HA.out _).2, (HA.out _).1⟩
  | some z =>
    have cj := HJ.out (w.alloc (.cells #[.bool lv, .string gt, .string xt, .slice sa sk sc, .int .i64 (z : Int), .int .i64 (en fi), .int .i64 (en la), .int .i64 (en pr), .int .i64 (en ne)] 71)) z (HA.out _).1 (HA.out _).2 rfl
    have ez : ((z : Int) == -1) = false := by simp
    simp only [en_some] at *
    go_enter Try.func53, Try.ntmps53
    go_wp2_with (first | (refine cj.mono ?_; rintro e w3 ⟨⟨r3, rfl⟩, h3, g3⟩))
    go_end0
    exact ⟨⟨_, rfl⟩, h3, grown_trans (HA.out _).1 g3⟩
end Go.Proofs.Ytnpamcgbnimdkaa.DLink

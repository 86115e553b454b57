/- awake, plainly. -/
import Derived.Test.YthclndiekjaalaaYEx
import Derived.Test.YthclndiekjaalaaZTk
import Derived.Laws.BytesArg
import Derived.ProofKit
namespace Go.Proofs.Ythclndiekjaalaa.YFm
open Go.Proofs.Ythclndiekjaalaa.Leb Go.Proofs.Ythclndiekjaalaa.YPl Go.Proofs.Ythclndiekjaalaa.YRd Go.Proofs.Ythclndiekjaalaa.YBk Go.Proofs.Ythclndiekjaalaa.YBt Go.Proofs.Ythclndiekjaalaa.YEx
open Go.Proofs.Ythclndiekjaalaa.TBase (T)
set_option linter.unusedVariables false

theorem er_manyT {b : By} {f : Nat → Nat → Rt T} (h : ∀ p k z, p ≤ b.length → f p k = .error z → z ≤ b.length) (hk : ∀ p k x q k', f p k = .ok (x, q, k') → q ≤ b.length) : ∀ n p k z, p ≤ b.length → rmanyT f n p k = .error z → z ≤ b.length := by
  intro n
  induction n with
  | zero => intro p k z hp e; rw [rmanyT] at e; cases e
  | succ n ih =>
    intro p k z hp e
    rw [rmanyT] at e
    cases e1 : f p k with
    | error y => rw [e1] at e; cases e; exact h p k _ hp e1
    | ok t =>
      obtain ⟨x, q, k2⟩ := t
      rw [e1] at e
      simp only at e
      cases e2 : rmanyT f n q k2 with
      | error y => rw [e2] at e; cases e; exact ih q k2 _ (hk p k x q k2 e1) e2
      | ok t => obtain ⟨l, r, k3⟩ := t; rw [e2] at e; cases e
theorem er_nd (b : By) : ∀ m, m ≤ 64 → ∀ p k z, p ≤ b.length → rnd b m p k = .error z → z ≤ b.length := by
  intro m
  induction m with
  | zero => intro _ p k z hp h; rw [rnd] at h; cases h; exact hp
  | succ m ih =>
    intro hm p k z hp h
    rw [rnd] at h
    split at h
    · cases h; exact hp
    cases e1 : rtxt b p with
    | error y => rw [e1] at h; cases h; exact (er_txt b p hp).1 _ e1
    | ok t =>
    obtain ⟨g, q⟩ := t
    have hq := (er_txt b p hp).2 g q e1
    rw [e1] at h
    simp only at h
    split at h
    · cases e2 : rtxt b q with
      | error y => rw [e2] at h; cases h; exact (er_txt b q hq).1 _ e2
      | ok t => obtain ⟨s, r⟩ := t; rw [e2] at h; cases h
    · cases e2 : rlst 4096 (ratt b) b q with
      | error y => rw [e2] at h; cases h; exact (er_lst 4096 (bk_att b) (er_att b) q hq).1 _ e2
      | ok t =>
      obtain ⟨n, r⟩ := t
      have hr := (er_lst 4096 (bk_att b) (er_att b) q hq).2 n r e2
      rw [e2] at h
      simp only at h
      split at h
      · cases e3 : rcnt 4096 b r with
        | error y => rw [e3] at h; cases h; exact (er_cnt 4096 b r hr).1 _ e3
        | ok t =>
        obtain ⟨c, r2⟩ := t
        have hr2 := (er_cnt 4096 b r hr).2 c r2 e3
        rw [e3] at h
        simp only at h
        cases e4 : rmanyT (rnd b m) c r2 (k + 1) with
        | error y => rw [e4] at h; cases h; exact er_manyT (ih (by omega)) (fun p k x q k' e => (nd_back b m (by omega) p k x q k' e).2.1) c r2 (k + 1) _ hr2 e4
        | ok t => obtain ⟨l, r3, k3⟩ := t; rw [e4] at h; cases h
      · cases h; exact hp
theorem er_prg {b : By} {z : Nat} (h : rprg b = .error z) : z ≤ b.length := by
  unfold rprg at h
  refine er_bnd (er_oct b) (fun v q hq z h => ?_) 0 z (Nat.zero_le _) h
  split at h
  · refine er_bnd (er_lst 16384 (bk_txt b) (er_txt b)) (fun t q hq z h => ?_) q z hq h
    refine er_bnd (er_lst 8192 (bk_lst 8192 (bk_ins b)) (er_lst 8192 (bk_ins b) (er_ins b))) (fun c q hq z h => ?_) q z hq h
    cases e4 : rlstT 4096 (fun p _ => rnd b 64 p 0) b q 0 with
    | error y =>
      rw [e4] at h
      cases h
      unfold rlstT at e4
      cases e6 : rcnt 4096 b q with
      | error y => rw [e6] at e4; cases e4; exact (er_cnt 4096 b q hq).1 _ e6
      | ok t =>
        obtain ⟨c, r⟩ := t
        rw [e6] at e4
        exact er_manyT (fun p k z hp e => er_nd b 64 (by omega) p 0 z hp e) (fun p k x q k' e => (nd_back b 64 (by omega) p 0 x q k' e).2.1) c r 0 _ ((er_cnt 4096 b q hq).2 c r e6) e4
    | ok t =>
      obtain ⟨s, r, k⟩ := t
      have hr : r ≤ b.length := by
        unfold rlstT at e4
        cases e6 : rcnt 4096 b q with
        | error y => rw [e6] at e4; cases e4
        | ok t =>
          obtain ⟨c, r1⟩ := t
          rw [e6] at e4
          exact (bk_manyT (f := fun p _ => rnd b 64 p 0) (g := stt) (fun p k x q k' h => stt_back b (k := k) h) c r1 0 s r k ((er_cnt 4096 b q hq).2 c r1 e6) e4).2.1
      rw [e4] at h
      simp only at h
      refine er_bnd (er_lst 8192 (bk_blk b) (er_blk b)) (fun u q hq z h => ?_) r z hr h
      split at h
      · cases h; exact hq
      · exact no_err h
  · cases h; exact Nat.zero_le _
/-- Which errors Decode tells, and where. -/
theorem dec_err {b : By} {z c : Nat} (h : dec b = .error (z, c)) : z ≤ b.length ∧ (c = 2100 ∨ c = 2101) := by
  unfold dec at h
  split at h
  · cases h; exact ⟨Nat.zero_le _, .inr rfl⟩
  · cases e : rprg b with
    | error y => rw [e] at h; cases h; exact ⟨er_prg e, .inl rfl⟩
    | ok t => obtain ⟨x, q⟩ := t; rw [e] at h; cases h
theorem dec_ok {b : By} {x : Pg} (h : dec b = .ok x) : b.length ≤ 1048576 ∧ ∃ q, rprg b = .ok (x, q) ∧ q = b.length := by
  unfold dec at h
  split at h
  · cases h
  · rename_i hl
    cases e : rprg b with
    | error y => rw [e] at h; cases h
    | ok t =>
      obtain ⟨y, q⟩ := t
      rw [e] at h
      cases h
      exact ⟨by omega, q, rfl, (prg_back e).1⟩
/-- A program that is cut is refused, at a place in it. -/
theorem dec_cut {b : By} {x : Pg} (h : dec b = .ok x) {k : Nat} (hk : k < b.length) : ∃ z, z ≤ k ∧ dec (b.take k) = .error (z, 2100) := by
  obtain ⟨h1, q, h2, h3⟩ := dec_ok h
  have hl : (b.take k).length = k := by rw [List.length_take]; omega
  cases e : rprg (b.take k) with
  | error z =>
    refine ⟨z, by have := er_prg e; omega, ?_⟩
    unfold dec
    rw [if_neg (by omega), e]
  | ok t =>
    obtain ⟨y, r⟩ := t
    have := prg_more (R := b.drop k) e (by intro h0; have := congrArg List.length h0; rw [List.length_drop] at this; simp at this; omega)
    rw [List.take_append_drop, h2] at this
    cases this
/-- With a byte behind it is refused there, or is too long. -/
theorem dec_more {b : By} {x : Pg} (h : dec b = .ok x) (c : UInt8) : dec (b ++ [c]) = if b.length = 1048576 then .error (0, 2101) else .error (b.length, 2100) := by
  obtain ⟨h1, q, h2, h3⟩ := dec_ok h
  unfold dec
  by_cases hl : b.length = 1048576
  · rw [if_pos (by simp; omega), if_pos hl]
  · rw [if_neg (by simp; omega), prg_more h2 (by simp), if_neg hl, h3]
theorem dec_pos {b : By} {x : Pg} (h : dec b = .ok x) : 0 < b.length := by
  obtain ⟨h1, q, h2, h3⟩ := dec_ok h
  cases b with
  | nil =>
    have e : rprg [] = .error 0 := by simp [rprg, roct, bnd]
    rw [e] at h2
    cases h2
  | cons c r => simp
end Go.Proofs.Ythclndiekjaalaa.YFm

namespace Go.Proofs.Ythclndiekjaalaa.Leb
set_option linter.unusedVariables false
open Go.ChangeShapes Go.WideShapes Go.ChangeAt Go.RowKit

theorem seen_conv {w : World} {v : Value} {L : List UInt8} (h : Seen w v L) : (convert 30 9 v).run Try.prog w = .ok (.string ⟨L.toArray⟩) w := by
  obtain ⟨a, cap, rfl, hlc, hm, hnil, hcell⟩ := h
  cases a with
  | none =>
    have := hnil rfl
    obtain rfl : L = [] := List.eq_nil_of_length_eq_zero (by omega)
    exact run_convert_bytes_nil (P := Try.prog) w 30 5 Try.underlying30 Try.underlying5 _ _ 9 Try.underlying9
  | some x =>
    obtain ⟨g, o, sp⟩ := x
    refine run_convert_bytes_back (P := Try.prog) w 30 9 5 ⟨g, o, sp⟩ cap L Try.underlying30 Try.underlying5 Try.underlying9 fun j hj => ?_
    obtain ⟨rfl, hc⟩ := hcell g o sp rfl j hj
    rw [add_none]
    exact hc
theorem same_c (v u : Value) (L : List UInt8) (w : World) (h1 : Seen w v L) (h2 : Seen w u L) :
    Calls Try.prog 17 #[v, u] w fun e w' => e = .returned (.bool true) ∧ w' = w := by
  have c1 := seen_conv h1
  have c2 := seen_conv h2
  go_enter Try.func17, Try.ntmps17
  go_wp2
  go_ret
  exact ⟨rfl, rfl⟩
theorem num_c (k : Int) (w : World) : Calls Try.prog 10 #[.int .i64 k] w fun e w' => e = .returned (.int .i64 k) ∧ w' = w := by
  go_enter Try.func10, Try.ntmps10
  go_wp2
  go_ret
  exact ⟨rfl, rfl⟩
theorem cellsL_seen {w : World} {g o : Nat} {L : List UInt8} (h : ∀ j (hj : j < L.length), w.cell? ⟨g, o + j, none⟩ = some (.int .u8 (L[j].toNat : Int))) (j : Nat) (u : Value) (hj : (cellsL L)[j]? = some u) : w.cell? ((⟨g, o, none⟩ : Addr).add j) = some u := by
  have hl : j < L.length := by
    have := (List.getElem?_eq_some_iff.1 hj).1
    rwa [cellsL_length] at this
  rw [add_none, h j hl]
  simp [cellsL, List.getElem?_eq_getElem hl] at hj
  rw [hj]
end Go.Proofs.Ythclndiekjaalaa.Leb

namespace Go.Proofs.Ythclndiekjaalaa.YAk
open Go.RowKit Go.Proofs.Ythclndiekjaalaa.Leb Go.Proofs.Ythclndiekjaalaa.YPl Go.Proofs.Ythclndiekjaalaa.YRd
set_option linter.unusedVariables false

theorem enc_0 : enc ⟨[], [], [], []⟩ = .ok [1, 0, 0, 0, 0] := by
  have h0 : putL 0 = [0] := putL_small (by omega)
  simp [enc, prg, oct, lst, lis, cnt, cat, h0, pts, pt]
set_option maxRecDepth 20000 in
theorem dec_4 : dec [1, 0, 0, 0] = .error (4, 2100) := by rfl
set_option maxRecDepth 20000 in
theorem ver_a : UBase.verr (sub [1, 1, 1, 97, 0, 0, 0] 3 1) = 0 := by decide +kernel
abbrev ba : By := [1, 1, 1, 97, 0, 0, 0]
theorem txt_a : rtxt ba 2 = .ok (⟨#[97]⟩, 4) := by
  unfold rtxt
  rw [show rcnt 4096 ba 2 = .ok (1, 3) from rfl]
  simp only [bnd]
  rw [if_neg (by decide), if_pos ver_a]
  rfl
theorem lst_a : rlst 16384 (rtxt ba) ba 1 = .ok ([⟨#[97]⟩], 4) := by
  unfold rlst
  rw [show rcnt 16384 ba 1 = .ok (1, 2) from rfl]
  simp only [bnd, rmany, txt_a]
set_option maxRecDepth 20000 in
theorem prg_a : rprg ba = .ok (⟨[⟨#[97]⟩], [], [], []⟩, 7) := by
  unfold rprg
  rw [show roct ba 0 = .ok (1, 1) from rfl]
  simp only [bnd]
  rw [if_pos trivial, lst_a]
  simp only
  rw [show rlst 8192 (rlst 8192 (rins ba) ba) ba 4 = .ok ([], 5) from rfl]
  simp only
  rw [show rlstT 4096 (fun p _ => rnd ba 64 p 0) ba 5 0 = .ok ([], 6, 0) from rfl]
  simp only
  rw [show rlst 8192 (rblk ba) ba 6 = .ok ([], 7) from rfl]
  simp only
  rw [if_neg (by decide)]
theorem dec_a : dec ba = .ok ⟨[⟨#[97]⟩], [], [], []⟩ := by
  unfold dec
  rw [if_neg (by decide), prg_a]
end Go.Proofs.Ythclndiekjaalaa.YAk

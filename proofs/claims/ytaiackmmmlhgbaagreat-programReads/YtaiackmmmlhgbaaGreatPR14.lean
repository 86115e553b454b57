import Derived.Test.YtaiackmmmlhgbaaGreatPR12
import Derived.Test.YtaiackmmmlhgbaaGreatPR13
open Go.Proofs.Tryz
set_option linter.unusedVariables false
namespace Go.Proofs.YtaiackmmmlhgbaaGreat.ZQe
open Go.RowKit YPl YRd YWr YRr YRs YRb YRl ZQa
def st {α : Type} (a : Rs α) : Except Nat Nat := match a with
  | .ok (_, q) => .ok q
  | .error z => .error z
def RS {α : Type} (K R : Nat) (b : By) (Hv : (Nat -> Prop) -> World -> Value -> α -> Prop) (a : Rs α) (w : World) (e : Ending) (w' : World) : Prop := Gx R w w' /\ ∃ v x, e = .returned v /\ Hv (fun g => w.heap.size <= g /\ g < w'.heap.size) w' v x /\ Qs K w' R b (st a) /\ ∀ y q, a = .ok (y, q) -> x = y
theorem RQ.rs {α : Type} {K R : Nat} {b : By} {Hv : (Nat -> Prop) -> World -> Value -> α -> Prop} {a : Rs α} {w w' : World} {e : Ending} (h : RQ K R b Hv a w e w') : RS K R b Hv a w e w' := by
  obtain ⟨g, v, x, he, hv, h⟩ := h
  cases a with
  | error z => exact ⟨g, v, x, he, hv, h, fun y q e => by cases e⟩
  | ok t =>
    obtain ⟨y, q⟩ := t
    exact ⟨g, v, x, he, hv, h.2, fun y' q' e => by cases e; exact h.1⟩
theorem Qs.drew {K R : Nat} {w : World} {b : By} {s : Except Nat Nat} (h : Qs K w R b s) : Qs K w.drew R b s := h.below (Below.refl _ w).drew
theorem byte_s {K R : Nat} {w : World} {b : By} {s : Except Nat Nat} (h : Qs K w R b s) : Calls prog 22 #[ptw R] w fun e w' => RS K R b VI (lf (roct b) s) w e w' := (byte_c h).mono fun _ _ h => RQ.rs h
theorem whole_s {K R : Nat} {w : World} {b : By} {s : Except Nat Nat} (h : Qs K w R b s) : Calls prog 26 #[ptw R] w fun e w' => RS K R b VI (lf (rwhl b) s) w e w' := (ZQb.whole_c h).mono fun _ _ h => RQ.rs h
theorem count_s {K R : Nat} {w : World} {b : By} {s : Except Nat Nat} (lim : Nat) (hlim : lim <= 16384) (h : Qs K w R b s) : Calls prog 24 #[ptw R, .int .i64 lim] w fun e w' => RS K R b (VN lim) (lf (rcnt lim b) s) w e w' := (ZQb.count_c lim hlim h).mono fun _ _ h => RQ.rs h
theorem text_s {K R : Nat} {w : World} {b : By} {s : Except Nat Nat} (h : Qs K w R b s) : Calls prog 25 #[ptw R] w fun e w' => RS K R b VS (lf (rtxt b) s) w e w' := (ZQc.text_c h).mono fun _ _ h => RQ.rs h
def LI {α : Type} (f : Nat -> Rs α) (n q : Nat) (xs : List α) (s : Except Nat Nat) (a : Rs (List α)) : Prop := match s with
  | .ok p => bnd (rmany f (n - q) p) (fun l r => .ok (xs ++ l, r)) = a
  | .error z => a = .error z
theorem li_0 {α : Type} {f : Nat -> Rs α} {n : Nat} {s : Except Nat Nat} : LI f n 0 [] s (lf (rmany f n) s) := by
  cases s with
  | ok p => exact bnd_id _
  | error z => rfl
theorem li_step {α : Type} {f : Nat -> Rs α} {n q p : Nat} {xs : List α} {x : α} {a : Rs (List α)} (hq : q < n) (h : LI f n q xs (.ok p) a) (hx : ∀ y r, f p = .ok (y, r) -> x = y) : LI f n (q + 1) (xs ++ [x]) (st (f p)) a := by
  obtain ⟨m, hm⟩ : ∃ m, n - q = m + 1 := ⟨n - q - 1, by omega⟩
  have hm2 : n - (q + 1) = m := by omega
  unfold LI at h
  simp only at h
  rw [hm, rmany] at h
  cases hf : f p with
  | error z =>
    rw [hf] at h
    exact h.symm
  | ok t =>
    obtain ⟨y, r⟩ := t
    obtain rfl := hx y r hf
    rw [hf] at h
    show bnd (rmany f (n - (q + 1)) r) _ = a
    rw [hm2, <- h]
    simp only [bnd]
    cases rmany f m r with
    | error z => rfl
    | ok t => obtain ⟨l, r'⟩ := t; simp
theorem li_end {α : Type} {f : Nat -> Rs α} {n q : Nat} {xs : List α} {s : Except Nat Nat} {a : Rs (List α)} (h : LI f n q xs s a) (hq : q < n -> bad s = true) (hqn : q <= n) : st a = s /\ ∀ y r, a = .ok (y, r) -> xs = y := by
  cases s with
  | error z =>
    obtain rfl := h
    exact ⟨rfl, fun y r e => by cases e⟩
  | ok p =>
    have : q = n := by
      by_cases hlt : q < n
      · have := hq hlt; cases this
      · omega
    subst this
    unfold LI at h
    simp only at h
    rw [Nat.sub_self, rmany] at h
    simp only [bnd, List.append_nil] at h
    subst h
    exact ⟨rfl, fun y r e => by cases e; rfl⟩
theorem lst_eq {α : Type} {f : Nat -> Rs α} {lim : Nat} {b : By} {s : Except Nat Nat} {n : Nat} (h : ∀ y q, lf (rcnt lim b) s = .ok (y, q) -> n = y) : lf (rlst lim f b) s = lf (rmany f n) (st (lf (rcnt lim b) s)) := by
  cases s with
  | error z => rfl
  | ok p =>
    show bnd (rcnt lim b p) _ = _
    have h : ∀ y q, rcnt lim b p = .ok (y, q) -> n = y := h
    show _ = lf (rmany f n) (st (rcnt lim b p))
    cases hc : rcnt lim b p with
    | error z => rfl
    | ok t =>
      obtain ⟨y, q⟩ := t
      obtain rfl := h y q hc
      rfl
theorem op_end {b : By} {s : Except Nat Nat} {k x y z : Int} {l : List Int} {s1 s2 s3 s4 s5 : Except Nat Nat}
    (e1 : s1 = st (lf (roct b) s)) (h1 : ∀ v q, lf (roct b) s = .ok (v, q) -> k = v) (e2 : s2 = st (lf (rwhl b) s1)) (h2 : ∀ v q, lf (rwhl b) s1 = .ok (v, q) -> x = v) (e3 : s3 = st (lf (rwhl b) s2)) (h3 : ∀ v q, lf (rwhl b) s2 = .ok (v, q) -> y = v) (e4 : s4 = st (lf (rwhl b) s3)) (h4 : ∀ v q, lf (rwhl b) s3 = .ok (v, q) -> z = v) (e5 : s5 = st (lf (rlst 64 (rwhl b) b) s4)) (h5 : ∀ v q, lf (rlst 64 (rwhl b) b) s4 = .ok (v, q) -> l = v) :
    s5 = st (lf (ropc b) s) /\ ∀ v q, lf (ropc b) s = .ok (v, q) -> (⟨k, x, y, z, l⟩ : Oq) = v := by
  cases s with
  | error c => subst e1 e2 e3 e4 e5; exact ⟨rfl, fun v q e => by cases e⟩
  | ok p =>
    simp only [lf] at e1 h1 ⊢
    unfold ropc
    cases hc : roct b p with
    | error c => rw [hc] at e1; subst e1 e2 e3 e4 e5; exact ⟨rfl, fun v q e => by cases e⟩
    | ok t =>
    obtain ⟨v1, p1⟩ := t
    obtain rfl := h1 _ _ hc
    rw [hc] at e1
    subst e1
    simp only [st, lf] at e2 h2
    simp only [bnd]
    cases hc2 : rwhl b p1 with
    | error c => rw [hc2] at e2; subst e2 e3 e4 e5; exact ⟨rfl, fun v q e => by cases e⟩
    | ok t =>
    obtain ⟨v2, p2⟩ := t
    obtain rfl := h2 _ _ hc2
    rw [hc2] at e2
    subst e2
    try simp only []
    simp only [lf] at e3 h3
    cases hc3 : rwhl b p2 with
    | error c => rw [hc3] at e3; subst e3 e4 e5; exact ⟨rfl, fun v q e => by cases e⟩
    | ok t =>
    obtain ⟨v3, p3⟩ := t
    obtain rfl := h3 _ _ hc3
    rw [hc3] at e3
    subst e3
    try simp only []
    simp only [st, lf] at e4 h4
    cases hc4 : rwhl b p3 with
    | error c => rw [hc4] at e4; subst e4 e5; exact ⟨rfl, fun v q e => by cases e⟩
    | ok t =>
    obtain ⟨v4, p4⟩ := t
    obtain rfl := h4 _ _ hc4
    rw [hc4] at e4
    subst e4
    try simp only []
    simp only [st, lf] at e5 h5
    cases hc5 : rlst 64 (rwhl b) b p4 with
    | error c => rw [hc5] at e5; subst e5; exact ⟨rfl, fun v q e => by cases e⟩
    | ok t =>
    obtain ⟨v5, p5⟩ := t
    obtain rfl := h5 _ _ hc5
    rw [hc5] at e5
    subst e5
    exact ⟨rfl, fun v q e => by cases e; rfl⟩
theorem blk_end {b : By} {s : Except Nat Nat} {d : Nat} {o : List Oq} {u : List Int} {s1 s2 s3 : Except Nat Nat}
    (e1 : s1 = st (lf (rcnt 64 b) s)) (h1 : ∀ v q, lf (rcnt 64 b) s = .ok (v, q) -> d = v) (e2 : s2 = st (lf (rlst 8192 (ropc b) b) s1)) (h2 : ∀ v q, lf (rlst 8192 (ropc b) b) s1 = .ok (v, q) -> o = v) (e3 : s3 = st (lf (rlst 8192 (rwhl b) b) s2)) (h3 : ∀ v q, lf (rlst 8192 (rwhl b) b) s2 = .ok (v, q) -> u = v) :
    s3 = st (lf (rblk b) s) /\ ∀ v q, lf (rblk b) s = .ok (v, q) -> (⟨d, o, u⟩ : Bk) = v := by
  cases s with
  | error c => subst e1 e2 e3; exact ⟨rfl, fun v q e => by cases e⟩
  | ok p =>
    simp only [lf] at e1 h1 ⊢
    unfold rblk
    cases hc : rcnt 64 b p with
    | error c => rw [hc] at e1; subst e1 e2 e3; exact ⟨rfl, fun v q e => by cases e⟩
    | ok t =>
    obtain ⟨v1, p1⟩ := t
    obtain rfl := h1 _ _ hc
    rw [hc] at e1
    subst e1
    simp only [st, lf] at e2 h2
    simp only [bnd]
    cases hc2 : rlst 8192 (ropc b) b p1 with
    | error c => rw [hc2] at e2; subst e2 e3; exact ⟨rfl, fun v q e => by cases e⟩
    | ok t =>
    obtain ⟨v2, p2⟩ := t
    obtain rfl := h2 _ _ hc2
    rw [hc2] at e2
    subst e2
    try simp only []
    simp only [lf] at e3 h3
    cases hc3 : rlst 8192 (rwhl b) b p2 with
    | error c => rw [hc3] at e3; subst e3; exact ⟨rfl, fun v q e => by cases e⟩
    | ok t =>
    obtain ⟨v3, p3⟩ := t
    obtain rfl := h3 _ _ hc3
    rw [hc3] at e3
    subst e3
    exact ⟨rfl, fun v q e => by cases e; rfl⟩
end Go.Proofs.YtaiackmmmlhgbaaGreat.ZQe

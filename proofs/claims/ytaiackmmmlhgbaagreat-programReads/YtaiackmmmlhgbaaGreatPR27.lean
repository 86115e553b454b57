import Derived.Test.YtaiackmmmlhgbaaGreatPR11
import Derived.Test.YtaiackmmmlhgbaaGreatPR15
import Derived.Test.YtaiackmmmlhgbaaGreatPR17
import Derived.Test.YtaiackmmmlhgbaaGreatPR18
import Derived.Test.YtaiackmmmlhgbaaGreatPR19
import Derived.Test.YtaiackmmmlhgbaaGreatPR26
set_option linter.unusedVariables false
namespace Go.Proofs.YtaiackmmmlhgbaaGreat.ZQg
open Go.RowKit YPl YRd YRr YRs YRb YRl ZQa ZQe
open TBase (T Keep heap_alloc_new frozen_box)
structure Cx (D : Nat -> Prop) (w w' : World) : Prop where
  os : w'.os = w.os
  tape : w'.tape = w.tape
  output : w'.output = w.output
  size : w.heap.size <= w'.heap.size
  block : ∀ k, k < w.heap.size -> ¬ D k -> w'.heap[k]? = w.heap[k]?
section
variable {D : Nat -> Prop} {a b c : World}
theorem Cx.refl : Cx D a a := ⟨rfl, rfl, rfl, Nat.le_refl _, fun _ _ _ => rfl⟩
theorem Cx.trans (h : Cx D a b) (g : Cx D b c) : Cx D a c := ⟨g.os.trans h.os, g.tape.trans h.tape, g.output.trans h.output, Nat.le_trans h.size g.size, fun k hk hd => (g.block k (Nat.lt_of_lt_of_le hk h.size) hd).trans (h.block k hk hd)⟩
theorem Cx.of {R : Nat} (h : Gx R a b) (hR : D R) : Cx D a b := ⟨h.os, h.tape, h.output, h.size, fun k hk hd => h.block k hk (fun e => hd (by cases e; exact hR))⟩
theorem Cx.bel (h : Below a.heap.size a b) : Cx D a b := ⟨h.os, h.tape, h.output, h.size, fun k hk _ => h.block k hk⟩
theorem Cx.row {row : Option Nat} (h : Cx D a b) (hg : b.grownBy c row) (hr : ∀ r, row = some r -> a.heap.size <= r) : Cx D a c :=
  ⟨hg.os.trans h.os, hg.tape.trans h.tape, hg.output.trans h.output, Nat.le_trans h.size hg.size, fun k hk hd => (hg.block k (Nat.lt_of_lt_of_le hk h.size) (fun e => by have := hr k e.symm; omega)).trans (h.block k hk hd)⟩
theorem Cx.wide {D' : Nat -> Prop} (h : Cx D a b) (hd : ∀ k, k < a.heap.size -> D k -> D' k) : Cx D' a b := ⟨h.os, h.tape, h.output, h.size, fun k hk hn => h.block k hk (fun e => hn (hd k hk e))⟩
theorem own_kpn {w w' : World} {ty : TypeId} {lo n k : Nat} {v : Value} {xs : List Value} (h : w.ownsRow lo ty k v n xs) (hk : ∀ g, v.ownBlock = some g -> w'.heap[g]? = w.heap[g]?) : w'.ownsRow lo ty k v n xs := by
  refine ⟨h.1, ?_⟩
  rcases h.2 with h | ⟨g, cap, cur, h1, h2, h3, h4⟩
  · exact .inl h
  · exact .inr ⟨g, cap, cur, h1, h2, (hk g (by rw [h1]; rfl)).trans h3, h4⟩
theorem rowi_keep {α : Type} {Hd : Hdt α} (hs : Stays Hd) {ty : TypeId} {n lo : Nat} {v : Value} {l : List α} (h : RowI Hd ty n lo a v l) (hsz : a.heap.size <= b.heap.size) (hk : ∀ k, lo <= k -> k < a.heap.size -> b.heap[k]? = a.heap[k]?) : RowI Hd ty n lo b v l := by
  obtain ⟨css, h1, h2, h3, h4⟩ := h
  exact ⟨css, own_kpn h1 fun g e => hk g (World.ownsRow.lt h1 g e).1 (World.ownsRow.lt h1 g e).2, h2, h3, fun j x y => hs.out (S := Sx lo a v) (fun b hb hl => hk b hb.1 hl) (fun b hb => ⟨hb.1, by have := hb.2.1; omega, hb.2.2⟩) (h4 j x y)⟩
theorem rowi_cx {α : Type} {Hd : Hdt α} (hs : Stays Hd) {ty : TypeId} {n lo : Nat} {v : Value} {l : List α} (h : RowI Hd ty n lo a v l) (hD : ∀ k, D k -> k < lo) (hg : Cx D a b) : RowI Hd ty n lo b v l :=
  rowi_keep hs h hg.size fun k h1 h2 => hg.block k h2 (fun e => by have := hD k e; omega)
theorem rowi_push {α : Type} {Hd : Hdt α} (hs : Stays Hd) {ty : TypeId} {n lo : Nat} {w w2 w3 : World} {v : Value} {l : List α} {c : List Value} {x : α} {S : Nat -> Prop} (h : RowI Hd ty n lo w v l) (hsz : w.heap.size <= w2.heap.size) (hk : ∀ k, lo <= k -> k < w.heap.size -> w2.heap[k]? = w.heap[k]?)
    (hx : Hd S w2 c x) (hS : ∀ b, S b -> lo <= b /\ w.heap.size <= b /\ b < w2.heap.size) (hb : Below w2.heap.size w2 w3) :
    ∃ css : List (List Value), w3.ownsRow lo ty n v l.length css.flatten /\ css.length = l.length /\ (∀ c ∈ css, c.length = n) /\ (∀ j (h1 : j < css.length) (h2 : j < l.length), Hd (Sx lo w3 v) w3 css[j] l[j]) /\ Hd (Sx lo w3 v) w3 c x := by
  have h' := h
  have h2 : RowI Hd ty n lo w3 v l := rowi_keep hs (rowi_keep hs h hsz hk) hb.size fun k _ hl => hb.block k hl
  obtain ⟨css, h1, h2, h3, h4⟩ := h2
  refine ⟨css, h1, h2, h3, h4, hs.out (S := S) (fun b hb' hl => hb.block b hl) (fun b hb' => ⟨(hS b hb').1, by have := (hS b hb').2.2; have := hb.size; omega, fun e => ?_⟩) hx⟩
  obtain ⟨css', h1', -⟩ := h'
  have := (World.ownsRow.lt h1' b e).2
  have := (hS b hb').2.1
  omega
end
def lfT {α : Type} (f : Nat -> Nat -> Rt α) (s : Except Nat Nat) (k : Nat) : Rt α := match s with
  | .ok p => f p k
  | .error z => .error z
def stT {α : Type} (a : Rt α) : Except Nat Nat := match a with
  | .ok (_, q, _) => .ok q
  | .error z => .error z
def Gn (w : World) (G : Nat) (s : Except Nat Nat) (k : Nat) : Prop := match s with
  | .ok _ => w.heap[G]? = some (.cells #[.int .i64 k] 3 (0, 0))
  | .error _ => ∃ i : Int, w.heap[G]? = some (.cells #[.int .i64 i] 3 (0, 0))
theorem Gn.int {w : World} {G : Nat} {s : Except Nat Nat} {k : Nat} (h : Gn w G s k) : ∃ i : Int, w.heap[G]? = some (.cells #[.int .i64 i] 3 (0, 0)) /\ (bad s = false -> i = k) := by
  cases s with
  | ok p => exact ⟨k, h, fun _ => rfl⟩
  | error z => obtain ⟨i, h⟩ := h; exact ⟨i, h, fun e => by cases e⟩
theorem Gn.of {w : World} {G : Nat} {s : Except Nat Nat} {k : Nat} {i : Int} (h : w.heap[G]? = some (.cells #[.int .i64 i] 3 (0, 0))) (hi : bad s = false -> i = k) : Gn w G s k := by
  cases s with
  | ok p => rw [hi rfl] at h; exact h
  | error z => exact ⟨i, h⟩
def LT (f : Nat -> Nat -> Rt T) (n q : Nat) (xs : List T) (s : Except Nat Nat) (k : Nat) (a : Rt (List T)) : Prop := match s with
  | .ok p => YRt.adT xs (rmanyT f (n - q) p k) = a
  | .error z => a = .error z
theorem lt_0 {f : Nat -> Nat -> Rt T} {n : Nat} {s : Except Nat Nat} {k : Nat} : LT f n 0 [] s k (lfT (rmanyT f n) s k) := by
  cases s with
  | ok p => exact YRt.adT_nil _
  | error z => rfl
theorem lt_step {f : Nat -> Nat -> Rt T} {n q p k k2 : Nat} {xs : List T} {x : T} {a : Rt (List T)} (hq : q < n) (h : LT f n q xs (.ok p) k a) (hx : ∀ y r j, f p k = .ok (y, r, j) -> x = y /\ k2 = j) : LT f n (q + 1) (xs ++ [x]) (stT (f p k)) k2 a := by
  obtain ⟨m, hm⟩ : ∃ m, n - q = m + 1 := ⟨n - q - 1, by omega⟩
  have hm2 : n - (q + 1) = m := by omega
  unfold LT at h
  simp only at h
  rw [hm, rmanyT] at h
  cases hf : f p k with
  | error z =>
    rw [hf] at h
    exact h.symm
  | ok t =>
    obtain ⟨y, r, j⟩ := t
    obtain ⟨rfl, rfl⟩ := hx y r j hf
    rw [hf] at h
    show YRt.adT (xs ++ [x]) (rmanyT f (n - (q + 1)) r k2) = a
    rw [hm2, <- h]
    simp only
    cases rmanyT f m r k2 with
    | error z => rfl
    | ok t => obtain ⟨l, r', s'⟩ := t; simp [YRt.adT]
theorem lt_end {f : Nat -> Nat -> Rt T} {n q k : Nat} {xs : List T} {s : Except Nat Nat} {a : Rt (List T)} (h : LT f n q xs s k a) (hq : q < n -> bad s = true) (hqn : q <= n) : stT a = s /\ ∀ y r j, a = .ok (y, r, j) -> xs = y /\ k = j := by
  cases s with
  | error z =>
    obtain rfl := h
    exact ⟨rfl, fun y r j e => by cases e⟩
  | ok p =>
    have : q = n := by
      by_cases hlt : q < n
      · have := hq hlt; cases this
      · omega
    subst this
    unfold LT at h
    simp only at h
    rw [Nat.sub_self, rmanyT] at h
    simp only [YRt.adT, List.append_nil] at h
    subst h
    exact ⟨rfl, fun y r j e => by cases e; exact ⟨rfl, rfl⟩⟩
theorem att_end {b : By} {s s1 s2 : Except Nat Nat} {x y : ByteArray} (e1 : s1 = st (lf (rtxt b) s)) (h1 : ∀ v q, lf (rtxt b) s = .ok (v, q) -> x = v) (e2 : s2 = st (lf (rtxt b) s1)) (h2 : ∀ v q, lf (rtxt b) s1 = .ok (v, q) -> y = v) :
    s2 = st (lf (ratt b) s) /\ ∀ v q, lf (ratt b) s = .ok (v, q) -> (x, y) = v := by
  cases s with
  | error c => subst e1 e2; exact ⟨rfl, fun v q e => by cases e⟩
  | ok p =>
    simp only [lf] at e1 h1 ⊢
    unfold ratt
    cases hc : rtxt b p with
    | error c => rw [hc] at e1; subst e1 e2; exact ⟨rfl, fun v q e => by cases e⟩
    | ok t =>
    obtain ⟨v1, p1⟩ := t
    obtain rfl := h1 _ _ hc
    rw [hc] at e1
    subst e1
    simp only [st, lf] at e2 h2
    simp only [bnd]
    cases hc2 : rtxt b p1 with
    | error c => rw [hc2] at e2; subst e2; exact ⟨rfl, fun v q e => by cases e⟩
    | ok t =>
    obtain ⟨v2, p2⟩ := t
    obtain rfl := h2 _ _ hc2
    rw [hc2] at e2
    subst e2
    exact ⟨rfl, fun v q e => by cases e; rfl⟩
end Go.Proofs.YtaiackmmmlhgbaaGreat.ZQg
namespace Go.Proofs.YtaiackmmmlhgbaaGreat.ZQh
open Go.RowKit YPl YRd ZQa ZQe ZQg
open TBase (T)
theorem ck_alone (g : ByteArray) (n : List (ByteArray × ByteArray)) : TMeas.ck [.mk g ⟨#[]⟩ n []] = 0 ↔ TPure.alone (.mk g ⟨#[]⟩ n []) = true := by
  constructor
  · intro h
    have := (TJk.ck_inv h).1
    rw [TJk.ak, TJk.ak, Bool.and_true, Bool.and_true] at this
    exact this
  · intro h
    refine (TJk.ck_yes ?_ ?_ ?_).1
    · rw [TJk.ak, TJk.ak, Bool.and_true, Bool.and_true]
      exact h
    · rw [TJk.cn_cons]
      show 1 + TJk.cn [] + TJk.cn [] <= 4096
      rw [TJk.cn_nil]
      omega
    · rw [TShallow.depL_cons]
      show max (TShallow.depL [] + 1) (TShallow.depL []) <= 64
      simp [TShallow.depL]
theorem rnd_no {b : By} {m p k : Nat} (h : m = 0 \/ 4096 <= k) : rnd b m p k = .error p := by
  cases m with
  | zero => rfl
  | succ m =>
    rw [rnd, if_pos (by omega)]
def rkd (b : By) (m k : Nat) (g : ByteArray) (n : List (ByteArray × ByteArray)) (r : Nat) : Rt T := match rcnt 4096 b r with
  | .error z => .error z
  | .ok (c, z) => match rmanyT (rnd b m) c z (k + 1) with
    | .error z => .error z
    | .ok (l, z, k) => .ok (.mk g ⟨#[]⟩ n l, z, k)
theorem rnd_txt {b : By} {m p k z : Nat} (hk : k < 4096) (h : rtxt b p = .error z) : rnd b (m + 1) p k = .error z := by
  rw [rnd, if_neg (by omega), h]
theorem rnd_leaf {b : By} {m p k q : Nat} {g : ByteArray} (hk : k < 4096) (h : rtxt b p = .ok (g, q)) (hg : g.size = 0) : rnd b (m + 1) p k = match rtxt b q with
    | .error r => .error r
    | .ok (s, r) => .ok (.mk ⟨#[]⟩ s [] [], r, k + 1) := by
  rw [rnd, if_neg (by omega), h]
  simp only
  rw [if_pos hg]
  rfl
theorem rnd_elem {b : By} {m p k q : Nat} {g : ByteArray} (hk : k < 4096) (h : rtxt b p = .ok (g, q)) (hg : g.size ≠ 0) : rnd b (m + 1) p k = match rlst 4096 (ratt b) b q with
    | .error r => .error r
    | .ok (n, r) => if TPure.alone (.mk g ⟨#[]⟩ n []) = true then rkd b m k g n r else .error p := by
  rw [rnd, if_neg (by omega), h]
  simp only
  rw [if_neg hg]
  cases rlst 4096 (ratt b) b q with
  | error r => rfl
  | ok t =>
    obtain ⟨n, r⟩ := t
    simp only
    by_cases hc : TPure.alone (.mk g ⟨#[]⟩ n []) = true
    · rw [if_pos ((ck_alone g n).2 hc), if_pos hc]
      rfl
    · rw [if_neg (fun e => hc ((ck_alone g n).1 e)), if_neg hc]
def Kx (b : By) (m k : Nat) (g : ByteArray) (n : List (ByteArray × ByteArray)) (a : Rt T) (s4 : Except Nat Nat) : Prop := match s4 with
  | .ok r => a = rkd b m k g n r
  | .error z => a = .error z
theorem kid_end {b : By} {m k c kz : Nat} {g : ByteArray} {n : List (ByteArray × ByteArray)} {l : List T} {a : Rt T} {s4 s5 : Except Nat Nat} {aK : Rt (List T)}
    (h4 : Kx b m k g n a s4)
    (e5 : s5 = st (lf (rcnt 4096 b) s4)) (hc : ∀ y q, lf (rcnt 4096 b) s4 = .ok (y, q) -> c = y) (hK : lfT (rmanyT (rnd b m) c) s5 (k + 1) = aK) (hl : ∀ y r j, aK = .ok (y, r, j) -> l = y /\ kz = j) :
    stT a = stT aK /\ ∀ y r j, a = .ok (y, r, j) -> (T.mk g ⟨#[]⟩ n l) = y /\ kz = j := by
  unfold Kx at h4
  cases s4 with
  | error z =>
    subst e5
    simp only at h4
    subst h4
    simp only [lf, st, lfT] at hK
    subst hK
    exact ⟨rfl, fun y r j e => by cases e⟩
  | ok r =>
    simp only at h4
    subst h4
    simp only [lf] at e5 hc
    unfold rkd
    cases hr : rcnt 4096 b r with
    | error z =>
      rw [hr] at e5
      subst e5
      simp only [st, lfT] at hK
      subst hK
      exact ⟨rfl, fun y r j e => by cases e⟩
    | ok t =>
      obtain ⟨y, q⟩ := t
      obtain rfl := hc _ _ hr
      rw [hr] at e5
      subst e5
      simp only [st, lfT] at hK
      simp only
      rw [hK]
      cases aK with
      | error z => exact ⟨rfl, fun y r j e => by cases e⟩
      | ok t =>
        obtain ⟨y, q', j⟩ := t
        obtain ⟨rfl, rfl⟩ := hl _ _ _ rfl
        exact ⟨rfl, fun y r j e => by cases e; exact ⟨rfl, rfl⟩⟩
end Go.Proofs.YtaiackmmmlhgbaaGreat.ZQh
namespace Go.Proofs.YtaiackmmmlhgbaaGreat.ZNt
open Go.RowKit YPl YRd ZQh ZSo
open TBase (T)
theorem rmanyT_nt {f : Nat -> Nat -> Rt T} (hf : ∀ p k x q j, f p k = .ok (x, q, j) -> x.n.length + nTL x.l + 1 + 4097 * k <= 4097 * j /\ j <= 4096) : ∀ (n p k : Nat) {l : List T} {q j : Nat}, k <= 4096 -> rmanyT f n p k = .ok (l, q, j) -> nTL l + 4097 * k <= 4097 * j /\ j <= 4096
  | 0, p, k, l, q, j, hk, h => by
    rw [rmanyT] at h
    cases h
    exact ⟨by simp [nTL], hk⟩
  | n + 1, p, k, l, q, j, hk, h => by
    rw [rmanyT] at h
    cases hx : f p k with
    | error z => rw [hx] at h; cases h
    | ok t =>
      obtain ⟨x, p2, k2⟩ := t
      rw [hx] at h
      try simp only at h
      obtain ⟨h1, h2⟩ := hf _ _ _ _ _ hx
      cases hr : rmanyT f n p2 k2 with
      | error z => rw [hr] at h; cases h
      | ok t =>
        obtain ⟨l2, p3, k3⟩ := t
        rw [hr] at h
        try simp only at h
        cases h
        obtain ⟨h3, h4⟩ := rmanyT_nt hf n p2 k2 h2 hr
        exact ⟨by rw [nTL_cons]; omega, h4⟩
theorem rnd_nt {b : By} : ∀ (m p k : Nat) {x : T} {q j : Nat}, rnd b m p k = .ok (x, q, j) -> x.n.length + nTL x.l + 1 + 4097 * k <= 4097 * j /\ j <= 4096
  | 0, p, k, x, q, j, h => by rw [rnd_no (.inl rfl)] at h; cases h
  | m + 1, p, k, x, q, j, h => by
    by_cases hk : 4096 <= k
    · rw [rnd_no (.inr hk)] at h; cases h
    cases ht : rtxt b p with
    | error z => rw [rnd_txt (by omega) ht] at h; cases h
    | ok t =>
    obtain ⟨g, p2⟩ := t
    by_cases hg : g.size = 0
    · rw [rnd_leaf (by omega) ht hg] at h
      cases h2 : rtxt b p2 with
      | error z => rw [h2] at h; cases h
      | ok t =>
        obtain ⟨s, r⟩ := t
        rw [h2] at h
        try simp only at h
        cases h
        exact ⟨by show 0 + nTL [] + 1 + _ <= _; rw [nTL]; omega, by omega⟩
    · rw [rnd_elem (by omega) ht hg] at h
      cases h2 : rlst 4096 (ratt b) b p2 with
      | error z => rw [h2] at h; cases h
      | ok t =>
      obtain ⟨n, r⟩ := t
      have hn := YRn.rlst_len h2
      rw [h2] at h
      try simp only at h
      split at h
      · unfold rkd at h
        cases h3 : rcnt 4096 b r with
        | error z => rw [h3] at h; cases h
        | ok t =>
        obtain ⟨c, z⟩ := t
        rw [h3] at h
        try simp only at h
        cases h4 : rmanyT (rnd b m) c z (k + 1) with
        | error z => rw [h4] at h; cases h
        | ok t =>
        obtain ⟨l, z2, k2⟩ := t
        rw [h4] at h
        try simp only at h
        cases h
        obtain ⟨h5, h6⟩ := rmanyT_nt (fun p k x q j => rnd_nt m p k) c z (k + 1) (by omega) h4
        exact ⟨by show n.length + nTL l + 1 + _ <= _; omega, h6⟩
      · cases h
theorem many_nt {f : Nat -> Nat -> Rt T} (hf : ∀ p k x q j, f p k = .ok (x, q, j) -> x.n.length + nTL x.l + 1 <= 16781312) : ∀ (n p k : Nat) {l : List T} {q j : Nat}, rmanyT f n p k = .ok (l, q, j) -> nTL l <= 16781312 * n
  | 0, p, k, l, q, j, h => by
    rw [rmanyT] at h
    cases h
    simp [nTL]
  | n + 1, p, k, l, q, j, h => by
    rw [rmanyT] at h
    cases hx : f p k with
    | error z => rw [hx] at h; cases h
    | ok t =>
      obtain ⟨x, p2, k2⟩ := t
      rw [hx] at h
      try simp only at h
      have h1 := hf _ _ _ _ _ hx
      cases hr : rmanyT f n p2 k2 with
      | error z => rw [hr] at h; cases h
      | ok t =>
        obtain ⟨l2, p3, k3⟩ := t
        rw [hr] at h
        try simp only at h
        cases h
        have h3 := many_nt hf n p2 k2 hr
        rw [nTL_cons]; omega
theorem cnt_le {lim p n q : Nat} {b : By} (h : rcnt lim b p = .ok (n, q)) : n <= lim := by
  unfold rcnt at h
  simp only at h
  split at h
  · cases h; next hh => exact hh.2
  · cases h
theorem dec_nt {b : By} {x : Pg} (h : dec b = .ok x) : x.t.length + nTL x.s <= 100000000000 := by
  unfold dec at h
  split at h
  · cases h
  cases hr : rprg b with
  | error z => rw [hr] at h; cases h
  | ok t =>
  obtain ⟨y, q⟩ := t
  rw [hr] at h
  simp only at h
  cases h
  unfold rprg at hr
  cases h0 : roct b 0 with
  | error z => rw [h0] at hr; cases hr
  | ok t =>
  obtain ⟨v, p1⟩ := t
  rw [h0] at hr
  simp only [bnd] at hr
  split at hr
  · cases h1 : rlst 16384 (rtxt b) b p1 with
    | error z => rw [h1] at hr; cases hr
    | ok t =>
    obtain ⟨x1, p2⟩ := t
    have l1 := YRn.rlst_len h1
    rw [h1] at hr
    try simp only at hr
    cases h2 : rlst 8192 (rlst 8192 (rins b) b) b p2 with
    | error z => rw [h2] at hr; cases hr
    | ok t =>
    obtain ⟨x2, p3⟩ := t
    rw [h2] at hr
    try simp only at hr
    cases h3 : rlstT 4096 (fun p _ => rnd b 64 p 0) b p3 0 with
    | error z => rw [h3] at hr; cases hr
    | ok t =>
    obtain ⟨x3, p4, j⟩ := t
    rw [h3] at hr
    try simp only at hr
    have l3 : nTL x3 <= 16781312 * 4096 := by
      unfold rlstT at h3
      cases hc : rcnt 4096 b p3 with
      | error z => rw [hc] at h3; cases h3
      | ok t =>
      obtain ⟨n, q3⟩ := t
      rw [hc] at h3
      simp only at h3
      have := cnt_le hc
      have := many_nt (fun p k x q j h => by have := rnd_nt 64 p 0 h; omega) n q3 0 h3
      omega
    cases h4 : rlst 8192 (rblk b) b p4 with
    | error z => rw [h4] at hr; cases hr
    | ok t =>
    obtain ⟨x4, p5⟩ := t
    rw [h4] at hr
    try simp only at hr
    split at hr
    · cases hr
    · cases hr
      show x1.length + nTL x3 <= _
      omega
  · cases hr
end Go.Proofs.YtaiackmmmlhgbaaGreat.ZNt

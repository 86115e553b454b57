import Derived.LoopN
import Derived.LoopTactic
import Derived.Test.YthjbknncbhkinaaGreatDoorPS00
open Go.Proofs.Tryz
set_option linter.unusedVariables false
set_option maxRecDepth 20000
set_option maxHeartbeats 3200000
namespace Go.Proofs.YthjbknncbhkinaaGreatDoor.Fresh
open Go.RowKit Base
def Fr (w : World) : Nat -> Nat -> Nat -> Value -> C -> Prop
 | 0, _, _, _, _ => False
 | m + 1, lo, hi, v, .mk k b i s n l => ∃ nv lv a1 a2 us, ∃ cut : Nat -> Nat, lo <= a1 /\ a1 <= a2 /\ v = .agg #[.int .i64 k, .bool b, .int .i64 i, .string s, nv, lv] /\
   (-9223372036854775808 <= k /\ k <= 9223372036854775807) /\ (-9223372036854775808 <= i /\ i <= 9223372036854775807) /\ s.size <= 140737488351232 /\ n.length * 16 <= 140737488351232 /\ (∀ t ∈ n, t.size <= 140737488351232) /\ l.length * 88 <= 140737488351232 /\
   OwnT w lo nv n /\ (∀ g, nv.ownBlock = some g -> g < a1) /\ OwnV w a1 lv us /\ (∀ g, lv.ownBlock = some g -> g < a2) /\ us.length = l.length /\ cut 0 = a2 /\ cut l.length <= hi /\ (∀ j, j < l.length -> cut j <= cut (j + 1)) /\
   ∀ j (h : j < us.length) (h' : j < l.length), Fr w m (cut j) (cut (j + 1)) us[j] l[j]
theorem cut_le {cut : Nat -> Nat} {n : Nat} (h : ∀ j, j < n -> cut j <= cut (j + 1)) : ∀ i j, i <= j -> j <= n -> cut i <= cut j := by
 intro i j hij
 induction hij with
 | refl => intro _; exact Nat.le_refl _
 | step hij ih => intro hn; exact Nat.le_trans (ih (by omega)) (h _ (by omega))
theorem ownT_tx {w : World} {lo hi : Nat} {v : Value} {n : List ByteArray} (h : OwnT w lo v n) (hb : ∀ g, v.ownBlock = some g -> g < hi) (h1 : n.length * 16 <= 140737488351232) (h2 : ∀ t ∈ n, t.size <= 140737488351232) : Tx false (Rg lo hi) w v n := by
 rcases h.2 with ⟨rfl, h0⟩ | ⟨g, cap, cur, rfl, hlo, hg, hn, hm, _⟩
 ·have : n = [] := List.eq_nil_of_length_eq_zero h0
  subst this
  exact ⟨none, 0, rfl, by simp, by simp, by simp, by simp, fun _ => rfl, .inl ⟨rfl, rfl⟩⟩
 ·exact ⟨_, cap, rfl, hn, hm, h1, h2, (fun h => by cases h), .inr ⟨g, 0, rfl, ⟨hlo, hb g rfl⟩, ownT_cell h, fun h => by cases h⟩⟩
theorem Fr.in {w : World} : ∀ {m lo hi : Nat} {v : Value} {c : C}, Fr w m lo hi v c -> In false (Rg lo hi) w m v c := by
 intro m
 induction m with
 | zero => intro lo hi v c h; rw [Fr] at h; exact h.elim
 | succ m ih =>
  intro lo hi v c h
  obtain ⟨k, b, i, s, n, l⟩ := c
  rw [Fr] at h
  obtain ⟨nv, lv, a1, a2, us, cut, h1, h2, rfl, hk, hi', hs, hn1, hn2, hl1, hT, hTb, hV, hVb, hus, hc0, hcl, hcm, hel⟩ := h
  have hcc := cut_le hcm
  have ha2 : a2 <= hi := by have := hcc 0 l.length (by omega) (by omega); omega
  rw [in_iff]
  refine ⟨nv, lv, rfl, hk, hi', hs, (ownT_tx hT hTb hn1 hn2).weak (fun g hg => ⟨hg.1, by have := hg.2; omega⟩) false id, ?_⟩
  rcases hV.1.2 with ⟨rfl, h0⟩ | ⟨g, cap, cur, rfl, hlo, hg, hn, hm, _⟩
  ·have : l = [] := List.eq_nil_of_length_eq_zero (by omega)
   subst this
   exact ⟨none, 0, rfl, by simp, by simp, by simp, fun _ => rfl, .inl ⟨rfl, rfl⟩⟩
  ·refine ⟨some ⟨g, 0, none⟩, cap, by rw [hus], by omega, hm, hl1, (fun h => by cases h), .inr ⟨g, 0, rfl, ⟨by omega, by have := hVb g rfl; omega⟩, fun j hj => ?_, fun h => by cases h⟩⟩
   refine ⟨us[j]'(by omega), ownV_six hV j (by omega), (ih (hel j (by omega) hj)).weak (fun x hx => ⟨?_, ?_⟩) false id m (Nat.le_refl _)⟩
   ·have := hcc 0 j (by omega) (by omega)
    have := hx.1
    omega
   ·have := hcc (j + 1) l.length (by omega) (by omega)
    have := hx.2
    omega
theorem own_keep {w w' : World} {B : Nat} {e : TypeId} {s n : Nat} {v : Value} {xs : List Value} (h : w.ownsRow B e s v n xs) (hk : ∀ g, v.ownBlock = some g -> w'.heap[g]? = w.heap[g]?) : w'.ownsRow B e s v n xs := by
 refine ⟨h.1, ?_⟩
 rcases h.2 with h2 | ⟨g, cap, cur, rfl, hg, hh, r⟩
 ·exact .inl h2
 ·exact .inr ⟨g, cap, cur, rfl, hg, (hk g rfl).trans hh, r⟩
theorem Fr.keep {w w' : World} : ∀ {m lo hi : Nat} {v : Value} {c : C}, Fr w m lo hi v c -> Keep (Rg lo hi) w w' -> Fr w' m lo hi v c := by
 intro m
 induction m with
 | zero => intro lo hi v c h; rw [Fr] at h; exact h.elim
 | succ m ih =>
  intro lo hi v c h hk0
  obtain ⟨k, b, i, s, n, l⟩ := c
  rw [Fr] at h ⊢
  obtain ⟨nv, lv, a1, a2, us, cut, h1, h2, rfl, hk, hi', hs, hn1, hn2, hl1, hT, hTb, hV, hVb, hus, hc0, hcl, hcm, hel⟩ := h
  have hcc := cut_le hcm
  have ha2 : a2 <= hi := by have := hcc 0 l.length (by omega) (by omega); omega
  refine ⟨nv, lv, a1, a2, us, cut, h1, h2, rfl, hk, hi', hs, hn1, hn2, hl1, own_keep hT (fun g hg => ?_), hTb, ⟨own_keep hV.1 (fun g hg => ?_), hV.2⟩, hVb, hus, hc0, hcl, hcm, fun j h h' => ih (hel j h h') (fun b hb hlt => ?_)⟩
  ·have := World.ownsRow.lt hT g hg
   have := hTb g hg
   exact hk0 g ⟨by omega, by omega⟩ (by omega)
  ·have := World.ownsRow.lt hV.1 g hg
   have := hVb g hg
   exact hk0 g ⟨by omega, by omega⟩ (by omega)
  ·have := hcc 0 j (by omega) (by omega)
   have := hcc (j + 1) l.length (by omega) (by omega)
   have := hb.1
   have := hb.2
   exact hk0 b ⟨by omega, by omega⟩ hlt
theorem Fr.below {w w' : World} {m lo hi : Nat} {v : Value} {c : C} (h : Fr w m lo hi v c) (hb : Below w.heap.size w w') : Fr w' m lo hi v c := h.keep (.of_below hb)
theorem Tx.low {w : World} {v : Value} {n : List ByteArray} (h : Tx false All w v n) : Tx false (fun b => b < w.heap.size) w v n := by
 obtain ⟨a, cap, h1, h2, h3, h4, h5, h6, h7⟩ := h
 refine ⟨a, cap, h1, h2, h3, h4, h5, h6, ?_⟩
 by_cases hn : n = []
 ·exact .inl ⟨hn, rfl⟩
 ·rcases h7 with ⟨h7, _⟩ | ⟨g, o, ha, hS, hc, hr⟩
  ·exact absurd h7 hn
  ·exact .inr ⟨g, o, ha, cell_lt (hc 0 (List.length_pos_iff.2 hn)), hc, fun h => by cases h⟩
theorem In.low {w : World} : ∀ {m : Nat} {v : Value} {c : C}, In false All w m v c -> In false (fun b => b < w.heap.size) w m v c := by
 intro m
 induction m with
 | zero => intro v c h; rw [In] at h; exact h.elim
 | succ m ih =>
  intro v c h
  obtain ⟨k, b, i, s, n, l⟩ := c
  rw [in_iff] at h ⊢
  obtain ⟨nv, lv, h1, h2, h3, h4, h5, ⟨a, cap, g1, g2, g3, g4, g5, g6⟩⟩ := h
  refine ⟨nv, lv, h1, h2, h3, h4, Tx.low h5, a, cap, g1, g2, g3, g4, g5, ?_⟩
  by_cases hl : l = []
  ·exact .inl ⟨hl, rfl⟩
  ·rcases g6 with ⟨g6, _⟩ | ⟨g, o, ha, hS, hc, hr⟩
   ·exact absurd g6 hl
   ·have hpos := List.length_pos_iff.2 hl
    obtain ⟨u0, hu0, _⟩ := hc 0 hpos
    obtain ⟨v0, v1, v2, v3, v4, v5, _, c0, _⟩ := hu0
    refine .inr ⟨g, o, ha, cell_lt c0, fun j hj => ?_, fun h => by cases h⟩
    obtain ⟨u, hu, hin⟩ := hc j hj
    exact ⟨u, hu, ih hin⟩
end Go.Proofs.YthjbknncbhkinaaGreatDoor.Fresh
namespace Go.Proofs.YthjbknncbhkinaaGreatDoor.Eq
open Go.RowKit Base
def eqB (a b : ByteArray) : Bool := a.toList == b.toList
def eqN : List ByteArray -> List ByteArray -> Bool
 | [], [] => true
 | a :: xs, b :: bs => eqB a b && eqN xs bs
 | _, _ => false
def sameL : List C -> List C -> Bool
 | [], [] => true
 | .mk k b i s n l :: cs, .mk k' b' i' s' n' l' :: ds => (decide (k = k') && (if k = 2 then b == b' else if k = 3 then i == i' else if k = 4 then eqB s s' else if k = 5 then sameL l l' else if k = 6 then eqN n n' && sameL l l' else true)) && sameL cs ds
 | _, _ => false
def same : C -> C -> Bool
 | .mk k b i s n l, .mk k' b' i' s' n' l' => decide (k = k') && (if k = 2 then b == b' else if k = 3 then i == i' else if k = 4 then eqB s s' else if k = 5 then sameL l l' else if k = 6 then eqN n n' && sameL l l' else true)
theorem sameL_cons (c d : C) (cs ds : List C) : sameL (c :: cs) (d :: ds) = (same c d && sameL cs ds) := by
 obtain ⟨k, b, i, s, n, l⟩ := c
 obtain ⟨k', b', i', s', n', l'⟩ := d
 rw [sameL, same]
theorem eqB_eq {a b : ByteArray} : eqB a b = true ↔ a = b := by
 unfold eqB
 rw [beq_iff_eq, ByteArray.toList_eq, ByteArray.toList_eq]
 constructor
 ·intro h
  apply ByteArray.ext
  exact Array.toList_inj.1 h
 ·rintro rfl; rfl
theorem eqN_len {L M : List ByteArray} (h : L.length ≠ M.length) : eqN L M = false := by
 induction L generalizing M with
 | nil => cases M with
  | nil => simp at h
  | cons b bs => rfl
 | cons a xs ih => cases M with
  | nil => rfl
  | cons b bs =>
   rw [eqN, ih (by simpa using h)]
   simp
theorem eqN_iff {L M : List ByteArray} (h : L.length = M.length) : eqN L M = true ↔ ∀ j (h1 : j < L.length) (h2 : j < M.length), eqB L[j] M[j] = true := by
 induction L generalizing M with
 | nil => cases M with
  | nil => simp [eqN]
  | cons b bs => simp at h
 | cons a xs ih => cases M with
  | nil => simp at h
  | cons b bs =>
   rw [eqN, Bool.and_eq_true, ih (by simpa using h)]
   constructor
   ·rintro ⟨h1, h2⟩ j hj hj'
    cases j with
    | zero => exact h1
    | succ j => exact h2 j (by simpa using hj) (by simpa using hj')
   ·intro hh
    exact ⟨hh 0 (by simp) (by simp), fun j h1 h2 => hh (j + 1) (by simpa using h1) (by simpa using h2)⟩
theorem sameL_len {L M : List C} (h : L.length ≠ M.length) : sameL L M = false := by
 induction L generalizing M with
 | nil => cases M with
  | nil => simp at h
  | cons b bs => simp [sameL]
 | cons a xs ih => cases M with
  | nil => simp [sameL]
  | cons b bs =>
   rw [sameL_cons, ih (by simpa using h)]
   simp
theorem sameL_iff {L M : List C} (h : L.length = M.length) : sameL L M = true ↔ ∀ j (h1 : j < L.length) (h2 : j < M.length), same L[j] M[j] = true := by
 induction L generalizing M with
 | nil => cases M with
  | nil => simp [sameL]
  | cons b bs => simp at h
 | cons a xs ih => cases M with
  | nil => simp at h
  | cons b bs =>
   rw [sameL_cons, Bool.and_eq_true, ih (by simpa using h)]
   constructor
   ·rintro ⟨h1, h2⟩ j hj hj'
    cases j with
    | zero => exact h1
    | succ j => exact h2 j (by simpa using hj) (by simpa using hj')
   ·intro hh
    exact ⟨hh 0 (by simp) (by simp), fun j h1 h2 => hh (j + 1) (by simpa using h1) (by simpa using h2)⟩
theorem false_of {b : Bool} (h : ¬ b = true) : b = false := by simpa using h
theorem eqT_c (u v : Value) (L M : List ByteArray) (w : World) (hu : Tx false All w u L) (hv : Tx false All w v M) :
  Calls prog 142 #[u, v] w fun e w' => e = .returned (.bool (eqN L M)) /\ Below w.heap.size w w' := by
 obtain ⟨a, cap, rfl, hlc, hm, hlen, hsz, hnil, hN⟩ := hu.out
 obtain ⟨a', cap', rfl, hlc', hm', hlen', hsz', hnil', hN'⟩ := hv.out
 clear hu hv hsz hsz'
 by_cases hne : L.length = M.length
 ·have HI := eqN_iff hne
  generalize eqN L M = R at *
  have hne' : ((L.length : Int) != (M.length : Int)) = false := by simp; omega
  have HH : Hid (R = true ↔ ∀ j (h1 : j < L.length) (h2 : j < M.length), eqB L[j] M[j] = true) := HI
  clear HI
  go_enter func142, ntmps142
  go_wp2_with fail
  go_loopw [13] (fun i wr => ∃ q : Nat, q <= L.length /\ i = .int .i64 q /\ (∀ j (h1 : j < L.length) (h2 : j < M.length), j < q -> eqB L[j] M[j] = true) /\ Below w.heap.size w wr) (fun i _ => L.length - (intOf i).toNat)
  case atStart => exact ⟨0, by omega, rfl, fun j _ _ h => by omega, Below.refl _ _⟩
  case round =>
   obtain ⟨q, hq, rfl, hall, hb⟩ := hrel
   by_cases hlt : q < L.length
   ·have hlt2 : q < M.length := by omega
    obtain ⟨g, o, rfl, -, hc⟩ := name_at hN hlt
    obtain ⟨g', o', rfl, -, hc'⟩ := name_at hN' hlt2
    have hc := below_cell hc hb
    have hc' := below_cell hc' hb
    have hb' := hb.drew
    have HA : Hid (∀ j (h1 : j < L.length) (h2 : j < M.length), j < q -> eqB L[j] M[j] = true) := hall
    obtain ⟨x, hx⟩ : ∃ x, L[q] = x := ⟨_, rfl⟩
    obtain ⟨y, hy⟩ : ∃ y, M[q] = y := ⟨_, rfl⟩
    have HX : Hid (L[q] = x) := hx
    have HY : Hid (M[q] = y) := hy
    rw [hx] at hc
    rw [hy] at hc'
    clear hN hN' hall hx hy
    cases he : (x.toList == y.toList) with
    | true =>
     have he' : eqB x y = true := he
     go_wp2_with fail
     go_region
     all_goals go_wp2_with fail
     all_goals go_roundw
     all_goals first
      | (case rel =>
        refine ⟨q + 1, by omega, by go_num, fun j h1 h2 hj => ?_, hb'⟩
        by_cases e : j = q
        ·subst e
         rw [HX.out, HY.out]
         exact he'
        ·exact HA.out j h1 h2 (by omega))
      | (case measure => simp only [intOf]; omega)
    | false =>
     have he' : ¬ eqB x y = true := by unfold eqB; rw [he]; simp
     have hR : R = false := false_of fun h => he' (by have := HH.out.1 h q hlt hlt2; rwa [HX.out, HY.out] at this)
     subst hR
     go_wp2_with fail
     go_region
     all_goals go_wp2_with fail
     all_goals go_ret
     all_goals exact ⟨rfl, hb'⟩
   ·have hlt' : decide ((q : Int) < (L.length : Int)) = false := by simp; omega
    have hR : R = true := HH.out.2 fun j h1 h2 => hall j h1 h2 (by omega)
    subst hR
    clear hall
    go_wp2_with fail
    go_ret
    exact ⟨rfl, hb⟩
 ·rw [eqN_len hne]
  have hne' : ((L.length : Int) != (M.length : Int)) = true := by simp; omega
  go_enter func142, ntmps142
  go_wp2_with fail
  go_ret
  exact ⟨rfl, Below.refl _ _⟩
end Go.Proofs.YthjbknncbhkinaaGreatDoor.Eq
namespace Go.Proofs.YthjbknncbhkinaaGreatDoor.Shallow
open Go.RowKit Base
def depL : List C -> Nat
 | [] => 0
 | .mk _ _ _ _ _ l :: cs => max (depL l + 1) (depL cs)
def dep : C -> Nat
 | .mk _ _ _ _ _ l => depL l + 1
theorem depL_cons (c : C) (cs : List C) : depL (c :: cs) = max (dep c) (depL cs) := by
 obtain ⟨k, b, i, s, n, l⟩ := c
 rw [depL, dep]
theorem depL_le {l : List C} {q : Nat} : depL l <= q ↔ ∀ j (h : j < l.length), dep l[j] <= q := by
 induction l with
 | nil => simp [depL]
 | cons c cs ih =>
  rw [depL_cons, Nat.max_le, ih]
  constructor
  ·rintro ⟨h1, h2⟩ j hj
   cases j with
   | zero => exact h1
   | succ j => exact h2 j (by simpa using hj)
  ·intro h
   exact ⟨h 0 (by simp), fun j hj => h (j + 1) (by simpa using hj)⟩
theorem value_c : ∀ (m : Nat) (v : Value) (c : C) (left : Nat) (w : World), left <= 4096 -> In false All w m v c ->
  Calls prog 36 #[v, .int .i64 left] w fun r w' => r = .returned (.bool (decide (dep c <= left))) /\ Below w.heap.size w w' := by
 intro m
 induction m with
 | zero => intro v c left w _ h; rw [In] at h; exact h.elim
 | succ m ih =>
  intro v c left w hle h
  obtain ⟨k, b, i, s, n, l⟩ := c
  rw [in_iff] at h
  obtain ⟨nv, lv, rfl, hk, hi, hs, hn, hL0⟩ := h
  obtain ⟨a, cap, rfl, hl, hcap, hlen, ha, hL⟩ := hL0.out
  clear hL0
  have ih' := Hid.out ih
  have H : Hid (∀ (v : Value) (c : C) (left : Nat) (w : World), left <= 4096 -> In false All w m v c ->
   Calls prog 36 #[v, .int .i64 left] w fun r w' => r = .returned (.bool (decide (dep c <= left))) /\ Below w.heap.size w w') := ih
  clear ih ih'
  by_cases h0 : left = 0
  ·subst h0
   have hd : decide (dep (.mk k b i s n l) <= 0) = false := by simp [dep]
   rw [hd]
   clear hd
   go_enter func36, ntmps36
   go_wp2_with fail
   go_ret
   exact ⟨rfl, (Below.refl _ _).alloc (Nat.le_refl _) _⟩
  ·have h0' : ((left : Int) == 0) = false := by simp; omega
   have hd : decide (dep (.mk k b i s n l) <= left) = decide (depL l <= left - 1) := by simp only [dep]; congr 1; exact propext ⟨fun _ => by omega, fun _ => by omega⟩
   rw [hd]
   clear hd
   go_enter func36, ntmps36
   go_wp2_with fail
   go_loopw [5] (fun i' wr => ∃ q : Nat, q <= l.length /\ i' = .int .i64 q /\ (∀ j (h : j < l.length), j < q -> dep l[j] <= left - 1) /\
    Below (w.heap.size + 1) (w.alloc (.cells #[.int .i64 k, .bool b, .int .i64 i, .string s, nv, .slice a l.length cap] 46)) wr) (fun i' _ => l.length - (intOf i').toNat)
   case atStart => exact ⟨0, by omega, rfl, fun j _ h => by omega, Below.refl _ _⟩
   case round =>
    obtain ⟨q, hq, rfl, hall, hb⟩ := hrel
    obtain ⟨c0, c1, c2, c3, c4, c5⟩ := six_box (box_at hb)
    by_cases hlt : q < l.length
    ·obtain ⟨g, o, u, rfl, -, hu, hin⟩ := elem_at hL hlt
     have hu := six_below hu (below_box hb)
     have hin := hin.below (below_box hb)
     obtain ⟨v0, v1, v2, v3, v4, v5, rfl, d0, d1, d2, d3, d4, d5⟩ := hu
     go_wp2_with fail
     rw [show (left : Int) - 1 = ((left - 1 : Nat) : Int) by omega]
     refine (H.out _ _ (left - 1) _ (by omega) hin).mono ?_
     rintro e w2 ⟨rfl, b2⟩
     cases hd : decide (dep l[q] <= left - 1) with
     | true =>
      go_wp2_with fail
      go_roundw
      case rel =>
       refine ⟨q + 1, by omega, by go_num, fun j hj hjq => ?_, nxB hb (by simp) b2⟩
       by_cases e : j = q
       ·subst e
        exact of_decide_eq_true hd
       ·exact hall j hj (by omega)
      case measure => simp only [intOf]; omega
     | false =>
      go_wp2_with fail
      go_ret
      refine ⟨?_, nx (below_box hb) b2⟩
      have h1 : ¬ dep l[q] <= left - 1 := of_decide_eq_false hd
      have : ¬ depL l <= left - 1 := fun h => h1 (depL_le.1 h q hlt)
      simp [this]
    ·have hlt' : decide ((q : Int) < (l.length : Int)) = false := by simp; omega
     go_wp2_with fail
     go_ret
     refine ⟨?_, below_box hb⟩
     have : depL l <= left - 1 := depL_le.2 fun j hj => hall j hj (by omega)
     simp [this]
end Go.Proofs.YthjbknncbhkinaaGreatDoor.Shallow
namespace Go.Proofs.YthjbknncbhkinaaGreatDoor.GCf
open Go.RowKit Base Clone
theorem row_nil {w : World} {B : Nat} {t : TypeId} {z : Nat} {v : Value} {xs : List Value} (h : w.ownsRow B t z v 0 xs) : ∃ a cap, v = .slice a 0 cap /\ cap <= maxLen /\ (a = none -> cap = 0) := by
 rcases h.2 with ⟨rfl, _⟩ | ⟨g, cap, cur, rfl, _, _, _, hm, _⟩
 ·exact ⟨none, 0, rfl, by simp, fun _ => rfl⟩
 ·exact ⟨_, cap, rfl, hm, fun h => by cases h⟩
theorem list_nil {S : Nat -> Prop} {m : Nat} {lv : Value} {w : World} (h : InL false S w m lv []) :
  Calls prog 68 #[lv, .func (.func 43) #[] #[]] w fun e w' => ∃ a cap, e = .returned (.slice a 0 cap) /\ (cap <= maxLen /\ (a = none -> cap = 0)) /\ Below w.heap.size w w' := by
 have c70 := cloneV_c m lv [] w h
 clear h
 go_enter func68, ntmps68
 go_wp2_with fail
 refine c70.mono ?_
 rintro e w2 ⟨lu, rfl, os, hV0, hos, -, b2⟩
 have h0 := hV0.1
 rw [show os.length = 0 from hos] at h0
 obtain ⟨a, cap, rfl, h1, h2⟩ := row_nil h0
 have HA : Hid (cap <= maxLen /\ (a = none -> cap = 0)) := ⟨h1, h2⟩
 have HB : Hid (Below w.heap.size w w2) := b2
 clear c70 hV0 hos h0 h1 h2 b2
 go_wp2_with fail
 go_loopw [12] (fun i' wr => i' = .int .i64 0 /\ w2 = wr) (fun _ _ => 0)
 case atStart => exact ⟨rfl, rfl⟩
 case round =>
  obtain ⟨rfl, hw⟩ := hrel
  subst hw
  have hlt : decide ((0 : Int) < (0 : Int)) = false := by simp
  go_wp2_with fail
  go_ret
  exact ⟨_, _, rfl, HA.out, HB.out⟩
theorem flat_c {m : Nat} {k : Int} {b : Bool} {i : Int} {s : ByteArray} (w : World) (v : Value) (h : In false All w (m + 1) v (.mk k b i s [] [])) :
  Calls prog 43 #[v] w fun e w' => ∃ u, e = .returned u /\ In false (fun b => w.heap.size <= b) w' (m + 1) u (.mk k b i s [] []) /\ Below w.heap.size w w' := by
 rw [in_iff] at h
 obtain ⟨nv, lv, rfl, hk, hi, hs, hn, hl⟩ := h
 obtain ⟨W0, hW0⟩ : ∃ W0, (w.alloc (.cells #[.int .i64 k, .bool b, .int .i64 i, .string s, nv, lv] 46)).alloc (.cells #[.int .i64 0, .bool false, .int .i64 0, .string ⟨#[]⟩, .slice none 0 0, .slice none 0 0] 46) = W0 := ⟨_, rfl⟩
 have hb0 : Below w.heap.size w W0 := by rw [<- hW0]; exact ((Below.refl _ w).alloc (Nat.le_refl _) _).alloc (by simp) _
 have hsz0 : W0.heap.size = w.heap.size + 2 := by rw [<- hW0]; simp
 have hx0 : W0.heap[w.heap.size]? = some (.cells #[.int .i64 k, .bool b, .int .i64 i, .string s, nv, lv] 46 (0, 0)) := by
  rw [<- hW0, Below.heap_alloc _ _ _ (by simp), heap_alloc_new]
 have hx1 : W0.heap[w.heap.size + 1]? = some (.cells #[.int .i64 0, .bool false, .int .i64 0, .string ⟨#[]⟩, .slice none 0 0, .slice none 0 0] 46 (0, 0)) := by
  have := heap_alloc_new (w.alloc (.cells #[.int .i64 k, .bool b, .int .i64 i, .string s, nv, lv] 46)) (.cells #[.int .i64 0, .bool false, .int .i64 0, .string ⟨#[]⟩, .slice none 0 0, .slice none 0 0] 46)
  rwa [hW0, World.size_alloc] at this
 have c69 := cloneT_c nv [] W0 (hn.below hb0)
 obtain ⟨-, -, -, -, e4, -⟩ := six_box hx0
 go_enter func43, ntmps43
 go_wp2_with fail
 refine c69.mono ?_
 rintro e w1 ⟨nu, rfl, ht1, b1⟩
 obtain ⟨an, cn, rfl, hn1, hn2⟩ := row_nil (xs := (([] : List ByteArray).map Value.string)) ht1
 have hy0 := (b1.block w.heap.size (by omega)).trans hx0
 have hy1 := (b1.block (w.heap.size + 1) (by omega)).trans hx1
 clear c69 hx0 hx1 hW0 e4
 obtain ⟨d0, d1, d2, d3, d4, d5⟩ := six_box hy0
 have f4 := frozen_box hy0 4
 have hs1 := b1.size
 obtain ⟨W1, hW1⟩ : ∃ W1, w1.setCell ⟨w.heap.size, 4, none⟩ (.slice an 0 cn) = W1 := ⟨_, rfl⟩
 have hz0 : W1.heap[w.heap.size]? = some (.cells #[.int .i64 k, .bool b, .int .i64 i, .string s, .slice an 0 cn, lv] 46 (0, 0)) := by rw [<- hW1, block_set hy0]; rfl
 have hz1 : W1.heap[w.heap.size + 1]? = some (.cells #[.int .i64 0, .bool false, .int .i64 0, .string ⟨#[]⟩, .slice none 0 0, .slice none 0 0] 46 (0, 0)) := by rw [<- hW1, Below.heap_setCell _ _ _ _ (by simp)]; exact hy1
 have hsz1 : W1.heap.size = w1.heap.size := by rw [<- hW1]; simp [World.setCell]
 have hb1 : Below w.heap.size w W1 := by rw [<- hW1]; exact (hb0.trans (b1.mono (by omega))).setCell (p := ⟨w.heap.size, 4, none⟩) (Nat.le_refl _) _
 have c70 := list_nil (hl.below hb1)
 have HN : Hid (cn <= maxLen /\ (an = none -> cn = 0)) := ⟨hn1, hn2⟩
 clear ht1 hy0 hy1 hn1 hn2 hn hl
 obtain ⟨-, -, -, -, -, k5⟩ := six_box hz0
 go_wp2_with fail
 refine c70.mono ?_
 rintro e w2 ⟨al, cl, rfl, hal, b2⟩
 have hy0 := (b2.block w.heap.size (by omega)).trans hz0
 have hy1 := (b2.block (w.heap.size + 1) (by omega)).trans hz1
 have HL : Hid (cl <= maxLen /\ (al = none -> cl = 0)) := hal
 clear c70 hz0 hz1 hW1 d0 d1 d2 d3 d4 d5 f4 k5 hal
 have f5 := frozen_box hy0 5
 have hs2 := b2.size
 obtain ⟨d0, d1, d2, d3, d4, d5⟩ := six_box hy0
 obtain ⟨W2, hW2⟩ : ∃ W2, w2.setCell ⟨w.heap.size, 5, none⟩ (.slice al 0 cl) = W2 := ⟨_, rfl⟩
 have hz0 : W2.heap[w.heap.size]? = some (.cells #[.int .i64 k, .bool b, .int .i64 i, .string s, .slice an 0 cn, .slice al 0 cl] 46 (0, 0)) := by rw [<- hW2, block_set hy0]; rfl
 have hz1 : W2.heap[w.heap.size + 1]? = some (.cells #[.int .i64 0, .bool false, .int .i64 0, .string ⟨#[]⟩, .slice none 0 0, .slice none 0 0] 46 (0, 0)) := by rw [<- hW2, Below.heap_setCell _ _ _ _ (by simp)]; exact hy1
 have hb2 : Below w.heap.size w W2 := by rw [<- hW2]; exact (hb1.trans (b2.mono (by omega))).setCell (p := ⟨w.heap.size, 5, none⟩) (Nat.le_refl _) _
 obtain ⟨e0, e1, e2, e3, e4, e5⟩ := six_box hz1
 obtain ⟨j0, j1, j2, j3, j4, j5⟩ := six_box hz0
 have g0 := frozen_box hz1 0
 have g1 := frozen_box hz1 1
 have g2 := frozen_box hz1 2
 have g3 := frozen_box hz1 3
 have g4 := frozen_box hz1 4
 have g5 := frozen_box hz1 5
 have HZ1 : Hid _ := hz1
 clear hy0 hy1 hz0 hz1
 go_wp2_with fail
 try rw [hW2]
 clear d0 d1 d2 d3 d4 d5 f5
 obtain ⟨W3, hW3⟩ : ∃ W3, ((((((W2.setCell ⟨w.heap.size + 1, 0, none⟩ (.int .i64 k)).setCell ⟨w.heap.size + 1, 1, none⟩ (.bool b)).setCell ⟨w.heap.size + 1, 2, none⟩ (.int .i64 i)).setCell ⟨w.heap.size + 1, 3, none⟩ (.string s)).setCell ⟨w.heap.size + 1, 4, none⟩ (.slice an 0 cn)).setCell ⟨w.heap.size + 1, 5, none⟩ (.slice al 0 cl)) = W3 := ⟨_, rfl⟩
 go_wp2_with fail
 try rw [hW3]
 obtain ⟨q1, q2, q3, q4⟩ := set6 _ _ _ _ _ _ HZ1.out hW3
 refine bodyPost_ret (results_cell_row rfl _ W3 (w.heap.size + 1) 46 _ (0, 0) _ rfl q1 underlying46 rfl (by kernel_rfl)) rfl ?_
 refine ⟨_, rfl, ?_, q4 _ _ (by omega) hb2⟩
 rw [in_iff]
 exact ⟨_, _, rfl, hk, hi, hs, ⟨an, cn, rfl, by simp, HN.out.1, by simp, by simp, HN.out.2, .inl ⟨rfl, rfl⟩⟩, ⟨al, cl, rfl, by simp, HL.out.1, by simp, HL.out.2, .inl ⟨rfl, rfl⟩⟩⟩
end Go.Proofs.YthjbknncbhkinaaGreatDoor.GCf
namespace Go.Proofs.YthjbknncbhkinaaGreatDoor.Same
open Go.RowKit Base Go.Proofs.YthjbknncbhkinaaGreatDoor.Eq
def SameIs (m : Nat) : Prop := ∀ (u v : Value) (c d : C) (w : World), In false All w m u c -> In false All w m v d ->
  Calls prog 117 #[u, v] w fun e w' => e = .returned (.bool (same c d)) /\ Below w.heap.size w w'
theorem eqF_of (m : Nat) (hm : SameIs m) (u v : Value) (L M : List C) (w : World) (hu : InL false All w m u L) (hv : InL false All w m v M) :
  Calls prog 141 #[u, v, .func (.func 117) #[] #[]] w fun e w' => e = .returned (.bool (sameL L M)) /\ Below w.heap.size w w' := by
 obtain ⟨a, cap, rfl, hlc, hcm, hlen, hnil, hN⟩ := hu.out
 obtain ⟨a', cap', rfl, hlc', hm', hlen', hnil', hN'⟩ := hv.out
 clear hu hv
 by_cases hne : L.length = M.length
 ·have HI := sameL_iff hne
  generalize sameL L M = R at *
  have hne' : ((L.length : Int) != (M.length : Int)) = false := by simp; omega
  have HH : Hid (R = true ↔ ∀ j (h1 : j < L.length) (h2 : j < M.length), same L[j] M[j] = true) := HI
  have hle1 : L.length <= M.length := by omega
  have hle2 : M.length <= L.length := by omega
  clear HI hne
  go_enter func141, ntmps141
  go_wp2_with fail
  go_loopw [17] (fun i wr => ∃ q : Nat, q <= L.length /\ i = .int .i64 q /\ (∀ j (h1 : j < L.length) (h2 : j < M.length), j < q -> same L[j] M[j] = true) /\ Below w.heap.size w wr) (fun i _ => L.length - (intOf i).toNat)
  case atStart => exact ⟨0, by omega, rfl, fun j _ _ h => by omega, Below.refl _ _⟩
  case round =>
   obtain ⟨q, hq, rfl, hall, hb⟩ := hrel
   by_cases hlt : q < L.length
   ·have hlt2 : q < M.length := by omega
    obtain ⟨g, o, x, rfl, -, hx, hin⟩ := elem_at hN hlt
    obtain ⟨g', o', y, rfl, -, hy, hin'⟩ := elem_at hN' hlt2
    have hx := six_below hx hb
    have hy := six_below hy hb
    obtain ⟨x0, x1, x2, x3, x4, x5, rfl, d0, d1, d2, d3, d4, d5⟩ := hx
    obtain ⟨y0, y1, y2, y3, y4, y5, rfl, e0, e1, e2, e3, e4, e5⟩ := hy
    obtain ⟨a1, n1, c1, a2, n2, c2, rfl, rfl, rfl, rfl, rfl, rfl⟩ := hin.kinds
    obtain ⟨p1, q1, r1, p2, q2, r2, rfl, rfl, rfl, rfl, rfl, rfl⟩ := hin'.kinds
    generalize L[q].k = kk, L[q].b = bb, L[q].i = ii, L[q].s = ss, M[q].k = kk', M[q].b = bb', M[q].i = ii', M[q].s = ss' at *
    have hg' : g' < wr.heap.size := cell_lt e0
    have hb2 : Below wr.heap.size wr ((wr.alloc (.cells #[.int .i64 kk, .bool bb, .int .i64 ii, .string ss, .slice a1 n1 c1, .slice a2 n2 c2] 46)).alloc (.cells #[.int .i64 kk', .bool bb', .int .i64 ii', .string ss', .slice p1 q1 r1, .slice p2 q2 r2] 46)) := ((Below.refl _ wr).alloc (Nat.le_refl _) _).alloc (by simp) _
    have c20 := hm _ _ L[q] M[q] _ ((hin.below hb).below hb2) ((hin'.below hb).below hb2)
    have HA : Hid (∀ j (h1 : j < L.length) (h2 : j < M.length), j < q -> same L[j] M[j] = true) := hall
    obtain ⟨x, hx⟩ : ∃ x, same L[q] M[q] = x := ⟨_, rfl⟩
    have HX : Hid (same L[q] M[q] = x) := hx
    rw [hx] at c20
    clear hN hN' hall hx hin hin' hm
    go_wp2_with fail
    refine c20.mono ?_
    rintro e w1 ⟨rfl, b1⟩
    have hb3 := nx (nx hb hb2) b1
    clear hb2 b1 c20
    cases x with
    | true =>
     go_wp2_with fail
     go_roundw
     case rel =>
      refine ⟨q + 1, by omega, by go_num, fun j h1 h2 hj => ?_, hb3⟩
      by_cases e : j = q
      ·subst e
       exact HX.out
      ·exact HA.out j h1 h2 (by omega)
     case measure => simp only [intOf]; omega
    | false =>
     have hR : R = false := false_of fun h => by
      have := HH.out.1 h q hlt hlt2
      rw [HX.out] at this
      cases this
     subst hR
     go_wp2_with fail
     go_ret
     exact ⟨rfl, hb3⟩
   ·have hlt' : decide ((q : Int) < (L.length : Int)) = false := by simp; omega
    have hR : R = true := HH.out.2 fun j h1 h2 => hall j h1 h2 (by omega)
    subst hR
    clear hall
    go_wp2_with fail
    go_ret
    exact ⟨rfl, hb⟩
 ·rw [sameL_len hne]
  have hne' : ((L.length : Int) != (M.length : Int)) = true := by simp; omega
  go_enter func141, ntmps141
  go_wp2_with fail
  go_ret
  exact ⟨rfl, Below.refl _ _⟩
theorem same_of (m : Nat) (hm : ∀ (u v : Value) (L M : List C) (w : World), InL false All w m u L -> InL false All w m v M ->
   Calls prog 141 #[u, v, .func (.func 117) #[] #[]] w fun e w' => e = .returned (.bool (sameL L M)) /\ Below w.heap.size w w') : SameIs (m + 1) := by
 intro u v c d w hu hv
 obtain ⟨k, b, i, s, n, l⟩ := c
 obtain ⟨k', b', i', s', n', l'⟩ := d
 rw [in_iff] at hu hv
 obtain ⟨nv, lv, rfl, -, -, -, hn, hl⟩ := hu
 obtain ⟨nv', lv', rfl, -, -, -, hn', hl'⟩ := hv
 obtain ⟨W0, hW0⟩ : ∃ W0, (w.alloc (.cells #[.int .i64 k, .bool b, .int .i64 i, .string s, nv, lv] 46)).alloc (.cells #[.int .i64 k', .bool b', .int .i64 i', .string s', nv', lv'] 46) = W0 := ⟨_, rfl⟩
 have hb0 : Below w.heap.size w W0 := by rw [<- hW0]; exact ((Below.refl _ w).alloc (Nat.le_refl _) _).alloc (by simp) _
 have hsz0 : W0.heap.size = w.heap.size + 2 := by rw [<- hW0]; simp
 have hx0 : W0.heap[w.heap.size]? = some (.cells #[.int .i64 k, .bool b, .int .i64 i, .string s, nv, lv] 46) := by
  rw [<- hW0, Below.heap_alloc _ _ _ (by simp), heap_alloc_new]
 have hx1 : W0.heap[w.heap.size + 1]? = some (.cells #[.int .i64 k', .bool b', .int .i64 i', .string s', nv', lv'] 46) := by
  have := heap_alloc_new (w.alloc (.cells #[.int .i64 k, .bool b, .int .i64 i, .string s, nv, lv] 46)) (.cells #[.int .i64 k', .bool b', .int .i64 i', .string s', nv', lv'] 46)
  rwa [hW0, World.size_alloc] at this
 obtain ⟨d0, d1, d2, d3, d4, d5⟩ := six_box hx0
 obtain ⟨e0, e1, e2, e3, e4, e5⟩ := six_box hx1
 by_cases hk : ¬ k = k'
 ·have hk' : (k != k') = true := by simp [hk]
  have e : same (.mk k b i s n l) (.mk k' b' i' s' n' l') = false := by simp [same, hk]
  rw [e]
  clear e
  go_enter func117, ntmps117
  go_wp2_with fail
  go_ret
  exact ⟨rfl, hb0⟩
 have hk : k = k' := Decidable.of_not_not hk
 subst hk
 by_cases h2 : k = 2
 ·subst h2
  have e : same (.mk 2 b i s n l) (.mk 2 b' i' s' n' l') = (b == b') := by simp [same]
  rw [e]
  clear e
  go_enter func117, ntmps117
  go_wp2_with fail
  go_ret
  exact ⟨rfl, hb0⟩
 by_cases h3 : k = 3
 ·subst h3
  have e : same (.mk 3 b i s n l) (.mk 3 b' i' s' n' l') = (i == i') := by simp [same]
  rw [e]
  clear e
  go_enter func117, ntmps117
  go_wp2_with fail
  go_ret
  exact ⟨rfl, hb0⟩
 by_cases h4 : k = 4
 ·subst h4
  have e : same (.mk 4 b i s n l) (.mk 4 b' i' s' n' l') = (s.toList == s'.toList) := by simp [same, eqB]
  rw [e]
  clear e
  go_enter func117, ntmps117
  go_wp2_with fail
  go_ret
  exact ⟨rfl, hb0⟩
 have h2' : (k == 2) = false := by simp [h2]
 have h3' : (k == 3) = false := by simp [h3]
 have h4' : (k == 4) = false := by simp [h4]
 by_cases h5 : k = 5
 ·subst h5
  have e : same (.mk 5 b i s n l) (.mk 5 b' i' s' n' l') = sameL l l' := by simp [same]
  rw [e]
  have c42 := hm lv lv' l l' W0 (hl.below hb0) (hl'.below hb0)
  generalize sameL l l' = R at *
  clear e hm hx0 hx1
  go_enter func117, ntmps117
  go_wp2_with (first | (go_at_call 141; refine c42.mono ?_; rintro e w1 ⟨rfl, b1⟩))
  go_ret
  exact ⟨rfl, nx hb0 b1⟩
 have h5' : (k == 5) = false := by simp [h5]
 by_cases h6 : k = 6
 ·subst h6
  have e : same (.mk 6 b i s n l) (.mk 6 b' i' s' n' l') = (eqN n n' && sameL l l') := by simp [same]
  rw [e]
  have c43 := eqT_c nv nv' n n' W0 (hn.below hb0) (hn'.below hb0)
  generalize eqN n n' = T at *
  have hm := fun w h1 h2 => hm lv lv' l l' w h1 h2
  generalize sameL l l' = R at *
  clear e
  go_enter func117, ntmps117
  go_wp2_with fail
  refine c43.mono ?_
  rintro e w1 ⟨rfl, b1⟩
  have k5 := (six_box ((b1.block w.heap.size (by omega)).trans hx0)).2.2.2.2.2
  have j5 := (six_box ((b1.block (w.heap.size + 1) (by omega)).trans hx1)).2.2.2.2.2
  have c42 := hm w1 ((hl.below hb0).below b1) ((hl'.below hb0).below b1)
  clear c43 hx0 hx1 hW0 hm
  cases T with
  | false =>
   go_wp2_with fail
   go_ret
   exact ⟨rfl, nx hb0 b1⟩
  | true =>
   go_wp2_with (first | (go_at_call 141; refine c42.mono ?_; rintro e w2 ⟨rfl, b2⟩))
   go_ret
   exact ⟨by simp, nx (nx hb0 b1) b2⟩
 have h6' : (k == 6) = false := by simp [h6]
 have e : same (.mk k b i s n l) (.mk k b' i' s' n' l') = true := by simp [same, h2, h3, h4, h5, h6]
 rw [e]
 clear e
 go_enter func117, ntmps117
 go_wp2_with fail
 go_ret
 exact ⟨rfl, hb0⟩
theorem sames : ∀ m, SameIs m := by
 intro m
 induction m with
 | zero => intro u v c d w h; rw [In] at h; exact h.elim
 | succ m ih => exact same_of m (eqF_of m ih)
theorem same_c {m m' : Nat} {u v : Value} {c d : C} {w : World} (hu : In false All w m u c) (hv : In false All w m' v d) :
  Calls prog 117 #[u, v] w fun e w' => e = .returned (.bool (same c d)) /\ Below w.heap.size w w' :=
 sames (max m m') u v c d w (hu.weak (fun _ h => h) false id _ (Nat.le_max_left _ _)) (hv.weak (fun _ h => h) false id _ (Nat.le_max_right _ _))
end Go.Proofs.YthjbknncbhkinaaGreatDoor.Same

import Derived.Test.YtaiackmmmlhgbaaGreatPV11
import Derived.Test.YtaiackmmmlhgbaaGreatPV21
open Go.Proofs.Tryz
set_option linter.unusedVariables false
set_option maxRecDepth 20000
set_option maxHeartbeats 3200000
namespace Go.Proofs.YtaiackmmmlhgbaaGreat.BRn
open BPl BGd BSt
open YPl (Oq Bk Pg)
structure Lk where
  (dep : Int) (lets : List Int) (names : List ByteArray)
def lst {α : Type} (l : List α) (d : α) : α := l.getD (l.length - 1) d
theorem lst_snoc {α : Type} (l : List α) (x d : α) : lst (l ++ [x]) d = x := by unfold lst; simp
def rsh (S : Sh) (el : Int) (ops : List Oq) (p : Nat) (s : Lk) (o : Oq) : Option Lk :=
  if o.k = 3 then (if 63 < el + s.names.length + 1 then none else some ⟨s.dep, s.lets ++ [0], s.names ++ [ByteArray.empty]⟩)
  else if o.k = 7 then (if 64 < el + s.names.length + dpa S o.a then none else some s)
  else if o.k = 4 \/ o.k = 5 then
    (if p = 0 \/ s.names = [] \/ ¬ ((ahd ops p).k = 3 \/ (ahd ops p).k = 4 \/ (ahd ops p).k = 5) \/ TPure.lt (lst s.names ByteArray.empty) (txa S o.a) = false then none
     else some ⟨s.dep, s.lets, s.names.set (s.names.length - 1) (txa S o.a)⟩)
  else if o.k = 6 then (if s.names = [] \/ 0 < lst s.lets 0 then none else some ⟨s.dep, s.lets.take (s.lets.length - 1), s.names.take (s.names.length - 1)⟩)
  else if o.k = 12 then (if lst s.lets 0 < o.a then none else some ⟨s.dep - o.a, s.lets.set (s.lets.length - 1) (lst s.lets 0 - o.a), s.names⟩)
  else some s
def rlt (s : Lk) (o : Oq) : Lk := if o.k = 11 then ⟨s.dep + 1, s.lets.set (s.lets.length - 1) (lst s.lets 0 + 1), s.names⟩ else s
structure Rel (S : Sh) (el : Int) (ops : List Oq) (p : Nat) (b : Bd) (s : Lk) : Prop where
  dep : s.dep = b.ar.st
  lets : s.lets = b.ou ++ [b.lt]
  len : s.names.length = b.ou.length
  el : b.ar.el = el + b.ou.length
  top : p ≠ 0 -> (ahd ops p).k = 3 -> ∃ m, s.names = m ++ [ByteArray.empty]
  nam : p ≠ 0 -> ((ahd ops p).k = 4 \/ (ahd ops p).k = 5) -> ∃ m, s.names = m ++ [txa S (ahd ops p).a]
theorem ahd_next {ops : List Oq} {p : Nat} (hp : p < ops.length) : ahd ops (p + 1) = ops[p] := by
  unfold ahd
  rw [Nat.add_sub_cancel, List.getD_eq_getElem?_getD, List.getElem?_eq_getElem hp]
  rfl
theorem set_last {α : Type} (l : List α) (x y : α) : (l ++ [x]).set ((l ++ [x]).length - 1) y = l ++ [y] := by
  rw [List.length_append, List.length_singleton, Nat.add_sub_cancel, List.set_append_right _ _ (Nat.le_refl _)]
  simp
theorem take_last {α : Type} (l : List α) (x : α) : (l ++ [x]).take ((l ++ [x]).length - 1) = l := by
  rw [List.length_append, List.length_singleton, Nat.add_sub_cancel, List.take_left]
theorem empty_lt {t : ByteArray} (h : UBase.word t 45 = true) : TPure.lt ByteArray.empty t = true := by
  have h0 : 0 < t.size := by
    unfold UBase.word at h
    by_cases h0 : 0 < t.size
    · exact h0
    · simp [h0] at h
  unfold TPure.lt
  have e : ByteArray.empty.toList = [] := by rw [TPure.list_eq]; rfl
  rw [e, TPure.list_eq]
  have hl : t.data.toList.length = t.size := Array.length_toList
  cases hc : t.data.toList with
  | nil => rw [hc] at hl; simp at hl; omega
  | cons a l => rfl
theorem tg_w {S : Sh} {i : Int} (h : isTg S i = true) : UBase.word (txa S i) 45 = true := by
  unfold isTg at h
  exact (band h).2
theorem fits_tg {S : Sh} {o : Oq} (h : fits S o = true) (hk : o.k = 4 \/ o.k = 5) : isTg S o.a = true := by
  unfold fits at h
  rw [if_neg (by omega), if_pos hk] at h
  exact (band (zr_true h)).2
theorem rsh_eq {S : Sh} {el : Int} {ops : List Oq} {p : Nat} {b : Bd} {s : Lk} {o : Oq} (hr : Rel S el ops p b s) (hb : Gb b) (hf : fits S o = true) (hp : p < ops.length) (ho : ops[p] = o) :
    (stands S ops b p o = false -> rsh S el ops p s o = none) /\ (stands S ops b p o = true -> ∃ s', rsh S el ops p s o = some s' /\ Rel S el ops (p + 1) (pass b p o) (rlt s' o)) := by
  obtain ⟨r1, r2, r3, r4, r5, r6⟩ := hr
  have hn : ahd ops (p + 1) = o := by rw [ahd_next hp, ho]
  have hlen : (s.names.length : Int) = b.ou.length := by omega
  have hl0 : lst s.lets 0 = b.lt := by rw [r2]; exact lst_snoc _ _ _
  by_cases h3 : o.k = 3
  · have e1 : stands S ops b p o = decide (b.ar.el + 1 <= 63) := by unfold stands; rw [if_neg (by omega), if_pos h3]
    have e2 : rsh S el ops p s o = if 63 < el + s.names.length + 1 then none else some ⟨s.dep, s.lets ++ [0], s.names ++ [ByteArray.empty]⟩ := by unfold rsh; rw [if_pos h3]
    have e3 : rlt ⟨s.dep, s.lets ++ [0], s.names ++ [ByteArray.empty]⟩ o = ⟨s.dep, s.lets ++ [0], s.names ++ [ByteArray.empty]⟩ := by unfold rlt; rw [if_neg (by omega)]
    rw [e1, e2]
    constructor
    · intro h
      rw [if_pos (by simp at h; omega)]
    · intro h
      rw [if_neg (by simp at h; omega)]
      refine ⟨_, rfl, ?_⟩
      rw [e3, pass_3 h3]
      refine ⟨r1, by rw [r2], by simp [r3], ?_, fun _ _ => ⟨_, rfl⟩, fun _ h => by rw [hn] at h; omega⟩
      show b.ar.el + 1 = _
      rw [List.length_append, r4]
      simp
      omega
  by_cases h7 : o.k = 7
  · have e1 : stands S ops b p o = decide (b.ar.el + dpa S o.a <= 64) := by unfold stands; rw [if_neg (by omega), if_neg h3, if_pos h7]
    have e2 : rsh S el ops p s o = if 64 < el + s.names.length + dpa S o.a then none else some s := by unfold rsh; rw [if_neg h3, if_pos h7]
    have e3 : rlt s o = s := by unfold rlt; rw [if_neg (by omega)]
    rw [e1, e2]
    constructor
    · intro h
      rw [if_pos (by simp at h; omega)]
    · intro h
      rw [if_neg (by simp at h; omega)]
      refine ⟨_, rfl, ?_⟩
      rw [e3, pass_0 h3 (by omega) (by omega) (by omega)]
      exact ⟨r1, r2, r3, r4, fun _ h => by rw [hn] at h; omega, fun _ h => by rw [hn] at h; omega⟩
  by_cases h45 : o.k = 4 \/ o.k = 5
  · have e1 : stands S ops b p o = rises S ops p o := by unfold stands; rw [if_pos h45]
    have htg := tg_w (fits_tg hf h45)
    have hcond : (p = 0 \/ s.names = [] \/ ¬ ((ahd ops p).k = 3 \/ (ahd ops p).k = 4 \/ (ahd ops p).k = 5) \/ TPure.lt (lst s.names ByteArray.empty) (txa S o.a) = false) ↔ rises S ops p o = false := by
      unfold rises
      by_cases hp0 : p = 0
      · rw [if_pos hp0]; exact ⟨fun _ => rfl, fun _ => .inl hp0⟩
      rw [if_neg hp0]
      by_cases a3 : (ahd ops p).k = 3
      · obtain ⟨m, hm⟩ := r5 hp0 a3
        rw [if_pos a3, hm, lst_snoc, empty_lt htg]
        constructor
        · rintro (e | e | e | e)
          · exact (hp0 e).elim
          · simp at e
          · exact (e (.inl a3)).elim
          · cases e
        · intro e; cases e
      rw [if_neg a3]
      by_cases a45 : (ahd ops p).k = 4 \/ (ahd ops p).k = 5
      · obtain ⟨m, hm⟩ := r6 hp0 a45
        rw [if_pos a45, hm, lst_snoc]
        constructor
        · rintro (e | e | e | e)
          · exact (hp0 e).elim
          · simp at e
          · exact (e (.inr a45)).elim
          · exact e
        · intro e; exact .inr (.inr (.inr e))
      · rw [if_neg a45]
        exact ⟨fun _ => rfl, fun _ => .inr (.inr (.inl fun e => by rcases e with e | e; exact a3 e; exact a45 e))⟩
    have e2 : rsh S el ops p s o = if (p = 0 \/ s.names = [] \/ ¬ ((ahd ops p).k = 3 \/ (ahd ops p).k = 4 \/ (ahd ops p).k = 5) \/ TPure.lt (lst s.names ByteArray.empty) (txa S o.a) = false) then none else some ⟨s.dep, s.lets, s.names.set (s.names.length - 1) (txa S o.a)⟩ := by unfold rsh; rw [if_neg h3, if_neg h7, if_pos h45]
    have e3 : rlt ⟨s.dep, s.lets, s.names.set (s.names.length - 1) (txa S o.a)⟩ o = ⟨s.dep, s.lets, s.names.set (s.names.length - 1) (txa S o.a)⟩ := by unfold rlt; rw [if_neg (by omega)]
    rw [e1, e2]
    constructor
    · intro h
      rw [if_pos (hcond.2 h)]
    · intro h
      have hnc : ¬ _ := fun e => by have := hcond.1 e; rw [this] at h; cases h
      rw [if_neg hnc]
      refine ⟨_, rfl, ?_⟩
      rw [e3, pass_0 h3 (by omega) (by omega) (by omega)]
      refine ⟨r1, r2, by rw [List.length_set]; exact r3, r4, fun _ h => by rw [hn] at h; omega, fun _ _ => ?_⟩
      rw [hn]
      have hne : s.names ≠ [] := fun e => hnc (.inr (.inl e))
      obtain ⟨m, y, hm⟩ := snoc s.names hne
      exact ⟨m, by show s.names.set _ _ = _; rw [hm, set_last]⟩
  by_cases h6 : o.k = 6
  · have e1 : stands S ops b p o = (bif decide ((0 : Int) < (b.ou.length : Int)) then b.lt == 0 else false) := by unfold stands; rw [if_neg h45, if_neg h3, if_neg h7, if_pos h6]
    have e2 : rsh S el ops p s o = if s.names = [] \/ 0 < lst s.lets 0 then none else some ⟨s.dep, s.lets.take (s.lets.length - 1), s.names.take (s.names.length - 1)⟩ := by unfold rsh; rw [if_neg h3, if_neg h7, if_neg h45, if_pos h6]
    have e3 : rlt ⟨s.dep, s.lets.take (s.lets.length - 1), s.names.take (s.names.length - 1)⟩ o = ⟨s.dep, s.lets.take (s.lets.length - 1), s.names.take (s.names.length - 1)⟩ := by unfold rlt; rw [if_neg (by omega)]
    have hlt := hb.2.1
    constructor
    · intro h
      rw [e1] at h
      rw [e2, if_pos]
      by_cases hz : b.ou = []
      · left
        exact List.length_eq_zero_iff.1 (by rw [r3, hz]; rfl)
      · right
        rw [hl0]
        have : 0 < b.ou.length := List.length_pos_iff.2 hz
        rw [show decide ((0 : Int) < (b.ou.length : Int)) = true by simp; omega] at h
        simp at h
        omega
    · intro h
      obtain ⟨h1, h2⟩ := stands_close h h6
      have hnn : s.names ≠ [] := fun e => h1 (List.length_eq_zero_iff.1 (by rw [<- r3, e]; rfl))
      rw [e2, if_neg (by rw [hl0, h2]; rintro (e | e); exact hnn e; omega)]
      refine ⟨_, rfl, ?_⟩
      obtain ⟨l, y, hl⟩ := snoc b.ou h1
      obtain ⟨m, z, hm⟩ := snoc s.names hnn
      rw [e3, pass_6 h6 hl]
      refine ⟨r1, ?_, ?_, ?_, fun _ h => by rw [hn] at h; omega, fun _ h => by rw [hn] at h; omega⟩
      · show s.lets.take (s.lets.length - 1) = l ++ [y]
        rw [r2, take_last, hl]
      · show (s.names.take (s.names.length - 1)).length = l.length
        have : s.names.length = l.length + 1 := by rw [r3, hl]; simp
        rw [List.length_take]
        omega
      · show b.ar.el - 1 = el + l.length
        have : b.ou.length = l.length + 1 := by rw [hl]; simp
        omega
  by_cases h12 : o.k = 12
  · have e1 : stands S ops b p o = decide (o.a <= b.lt) := by unfold stands; rw [if_neg h45, if_neg h3, if_neg h7, if_neg h6, if_pos h12]
    have e2 : rsh S el ops p s o = if lst s.lets 0 < o.a then none else some ⟨s.dep - o.a, s.lets.set (s.lets.length - 1) (lst s.lets 0 - o.a), s.names⟩ := by unfold rsh; rw [if_neg h3, if_neg h7, if_neg h45, if_neg h6, if_pos h12]
    have e3 : rlt ⟨s.dep - o.a, s.lets.set (s.lets.length - 1) (lst s.lets 0 - o.a), s.names⟩ o = ⟨s.dep - o.a, s.lets.set (s.lets.length - 1) (lst s.lets 0 - o.a), s.names⟩ := by unfold rlt; rw [if_neg (by omega)]
    rw [e1, e2, hl0]
    constructor
    · intro h
      rw [if_pos (by simp at h; omega)]
    · intro h
      rw [if_neg (by simp at h; omega)]
      refine ⟨_, rfl, ?_⟩
      rw [hl0] at e3
      rw [e3, pass_12 h12]
      refine ⟨by show s.dep - o.a = b.ar.st - o.a; omega, ?_, r3, r4, fun _ h => by rw [hn] at h; omega, fun _ h => by rw [hn] at h; omega⟩
      show s.lets.set (s.lets.length - 1) (b.lt - o.a) = b.ou ++ [b.lt - o.a]
      rw [r2, set_last]
  have e1 : stands S ops b p o = true := by unfold stands; rw [if_neg h45, if_neg h3, if_neg h7, if_neg h6, if_neg h12]
  have e2 : rsh S el ops p s o = some s := by unfold rsh; rw [if_neg h3, if_neg h7, if_neg h45, if_neg h6, if_neg h12]
  refine ⟨(fun h => by rw [e1] at h; cases h), fun _ => ⟨s, e2, ?_⟩⟩
  by_cases h11 : o.k = 11
  · have e3 : rlt s o = ⟨s.dep + 1, s.lets.set (s.lets.length - 1) (lst s.lets 0 + 1), s.names⟩ := by unfold rlt; rw [if_pos h11]
    rw [e3, pass_11 h11, hl0]
    refine ⟨by show s.dep + 1 = b.ar.st + 1; omega, ?_, r3, r4, fun _ h => by rw [hn] at h; omega, fun _ h => by rw [hn] at h; omega⟩
    show s.lets.set (s.lets.length - 1) (b.lt + 1) = b.ou ++ [b.lt + 1]
    rw [r2, set_last]
  · have e3 : rlt s o = s := by unfold rlt; rw [if_neg h11]
    rw [e3, pass_0 h3 h6 h11 h12]
    exact ⟨r1, r2, r3, r4, fun _ h => by rw [hn] at h; omega, fun _ h => by rw [hn] at h; omega⟩
theorem rel_0 {S : Sh} {ops : List Oq} {A : Ar} : Rel S A.el ops 0 ⟨A, 0, [], 0⟩ ⟨A.st, [0], []⟩ := ⟨rfl, rfl, rfl, by show A.el = A.el + (0 : Nat); omega, fun h => (h rfl).elim, fun h => (h rfl).elim⟩
end Go.Proofs.YtaiackmmmlhgbaaGreat.BRn
namespace Go.Proofs.YtaiackmmmlhgbaaGreat.BRo
open BPl BTr
open YPl (Oq Bk Pg)
def rbad (nb : Nat) (H : List Ar) (n : Int) : Bool := decide (n <= (nb : Int)) || (decide ((H.length : Int) <= n) || (H.getD n.toNat ar0).ow)
def f1 (o : Oq) : List Int := if o.k = 8 /\ o.b ≠ 0 then [o.b] else []
def f2 (o : Oq) : List Int := if (o.k = 8 /\ o.c ≠ 0) \/ o.k = 9 \/ o.k = 10 then [o.c] else []
theorem bks_f (o : Oq) : bks o = f1 o ++ f2 o := by
  unfold bks f1 f2
  by_cases h8 : o.k = 8
  · rw [if_pos h8]
    by_cases hb : o.b = 0 <;> by_cases hc : o.c = 0 <;> simp [h8, hb, hc]
  · rw [if_neg h8]
    by_cases h9 : o.k = 9 \/ o.k = 10
    · rw [if_pos h9, if_neg (fun h => h8 h.1), if_pos (.inr h9)]
      rfl
    · rw [if_neg h9, if_neg (fun h => h8 h.1), if_neg (by rintro (h | h); exact h8 h.1; exact h9 h)]
      rfl
theorem bks_len (o : Oq) : (bks o).length <= 2 := by
  rw [bks_f]
  unfold f1 f2
  split <;> split <;> simp
def rno (nb : Nat) (H : List Ar) (l : List Int) : Bool := l.any (rbad nb H) || decide (l.length = 2 /\ l.getD 0 0 = l.getD 1 0)
def put (A : Ar) (H : List Ar) (l : List Int) : List Ar := l.foldl (fun H n => H.set n.toNat A) H
theorem clm_one {nb : Nat} {A : Ar} {n : Int} {r : List Int} {H : List Ar} : clm nb A (n :: r) H = if rbad nb H n = true then none else clm nb A r (H.set n.toNat A) := by
  rw [clm]
  have : (n <= (nb : Int) \/ (H.length : Int) <= n \/ (H.getD n.toNat ar0).ow = true) ↔ rbad nb H n = true := by unfold rbad; simp
  by_cases h : rbad nb H n = true
  · rw [if_pos (this.2 h), if_pos h]
  · rw [if_neg (fun e => h (this.1 e)), if_neg h]
theorem clm_rno {nb : Nat} {A : Ar} (hA : A.ow = true) {l : List Int} (hl : l.length <= 2) {H : List Ar} : clm nb A l H = if rno nb H l = true then none else some (put A H l) := by
  match l, hl with
  | [], _ => rfl
  | [x], _ =>
    rw [clm_one, clm]
    unfold rno put
    simp only [List.any_cons, List.any_nil, Bool.or_false, List.foldl_cons, List.foldl_nil]
    simp
  | [x, y], _ =>
    rw [clm_one, clm_one, clm]
    unfold rno put
    simp only [List.any_cons, List.any_nil, Bool.or_false, List.foldl_cons, List.foldl_nil]
    by_cases hx : rbad nb H x = true
    · rw [if_pos hx, if_pos (by simp [hx])]
    · rw [if_neg hx]
      have hx1 : (nb : Int) < x /\ x < (H.length : Int) := by
        unfold rbad at hx
        simp at hx
        omega
      have hb : rbad nb (H.set x.toNat A) y = (rbad nb H y || decide (x = y)) := by
        by_cases e : x = y
        · subst e
          unfold rbad
          rw [getD_set _ _ _ _ (by omega), if_pos rfl, hA]
          simp
        · have e2 : decide (x = y) = false := by simp [e]
          rw [e2, Bool.or_false]
          unfold rbad
          rw [List.length_set]
          by_cases hy : y <= (nb : Int)
          · simp [hy]
          · rw [getD_set _ _ _ _ (by omega), if_neg (by omega)]
      rw [hb]
      have hxf : rbad nb H x = false := by simpa using hx
      rw [hxf]
      simp
end Go.Proofs.YtaiackmmmlhgbaaGreat.BRo
namespace Go.Proofs.YtaiackmmmlhgbaaGreat.BRg
open BPl BGd BRn BRo
open YPl (Oq Bk Pg)
def rin (A : Ar) (s : Lk) (o : Oq) : Ar := ⟨true, o.k == 9, s.dep + grows o, A.el + s.names.length, if o.k = 9 then A.ls + 1 else A.ls⟩
def rop (S : Sh) (nb : Nat) (ops : List Oq) (A : Ar) (p : Nat) (o : Oq) (s : Lk) (H : List Ar) : Except Int (Lk × List Ar) :=
  if 8192 <= p \/ fits S o = false then .error 2203
  else if reaches S s.dep o = false then .error 2201
  else match rsh S A.el ops p s o with
    | none => .error 2204
    | some s' =>
      if rno nb H (bks o) = true then .error 2205
      else if 64 < s'.dep + grows o then .error 2208
      else if 8 < (if o.k = 9 then A.ls + 1 else A.ls) then .error 2206
      else .ok (rlt s' o, put (rin A s' o) H (bks o))
def rgo (S : Sh) (nb : Nat) (ops : List Oq) (A : Ar) : Nat -> List Oq -> Lk -> List Ar -> Except (Int × Int) (Lk × List Ar)
  | p, [], s, H => .ok (s, H)
  | p, o :: r, s, H => match rop S nb ops A p o s H with
    | .error c => .error (p, c)
    | .ok (s', H') => rgo S nb ops A (p + 1) r s' H'
theorem rsh_same {S : Sh} {el : Int} {ops : List Oq} {p : Nat} {s s' : Lk} {o : Oq} (h : rsh S el ops p s o = some s') : (o.k ≠ 12 -> s'.dep = s.dep) /\ (o.k = 12 -> s'.dep = s.dep - o.a) /\ (o.k = 8 \/ o.k = 9 \/ o.k = 10 \/ o.k = 11 -> s' = s) := by
  unfold rsh at h
  split at h
  · rename_i hk
    split at h
    · cases h
    · cases h
      exact ⟨fun _ => rfl, fun e => by omega, fun e => by omega⟩
  split at h
  · rename_i hk
    split at h
    · cases h
    · cases h
      exact ⟨fun _ => rfl, fun e => by omega, fun e => by omega⟩
  split at h
  · rename_i hk
    split at h
    · cases h
    · cases h
      exact ⟨fun _ => rfl, fun e => by omega, fun e => by omega⟩
  split at h
  · rename_i hk
    split at h
    · cases h
    · cases h
      exact ⟨fun _ => rfl, fun e => by omega, fun e => by omega⟩
  split at h
  · rename_i hk
    split at h
    · cases h
    · cases h
      exact ⟨fun e => (e hk).elim, fun _ => rfl, fun e => by omega⟩
  · rename_i hk
    cases h
    exact ⟨fun _ => rfl, fun e => (hk e).elim, fun _ => rfl⟩
section
variable {S : Sh} {nb : Nat} {ops : List Oq} {A : Ar}
theorem rop_eq {p : Nat} {o : Oq} {b : Bd} {s : Lk} {H : List Ar} (hr : Rel S A.el ops p b s) (hb : Gb b) (how : b.ar.ow = true) (hls : b.ar.ls = A.ls) (hp : p < ops.length) (ho : ops[p] = o) (hp8 : p <= 8192) :
    (∀ c, opf S nb ops b H p o = .error c -> rop S nb ops A p o s H = .error c) /\ (∀ H', opf S nb ops b H p o = .ok H' -> ∃ s', rop S nb ops A p o s H = .ok (s', H') /\ Rel S A.el ops (p + 1) (pass b p o) s') := by
  have hls8 := hb.1.2.2.2.2.2
  have hst := hb.1.2.1
  by_cases hf : p = 8192 \/ fits S o = false
  · have e1 : opf S nb ops b H p o = .error 2203 := by unfold opf; rw [if_pos hf]
    have e2 : rop S nb ops A p o s H = .error 2203 := by unfold rop; rw [if_pos (by rcases hf with h | h; exact .inl (by omega); exact .inr h)]
    rw [e1, e2]
    exact ⟨fun c h => by cases h; rfl, fun H' h => by cases h⟩
  have hf' : ¬ (8192 <= p \/ fits S o = false) := fun e => hf (by rcases e with h | h; exact .inl (by omega); exact .inr h)
  have hfit : fits S o = true := by
    cases e : fits S o with
    | true => rfl
    | false => exact (hf (.inr e)).elim
  by_cases hc : reaches S b.ar.st o = false
  · have e1 : opf S nb ops b H p o = .error 2201 := by unfold opf; rw [if_neg hf, if_pos hc]
    have e2 : rop S nb ops A p o s H = .error 2201 := by unfold rop; rw [if_neg hf', hr.dep, if_pos hc]
    rw [e1, e2]
    exact ⟨fun c h => by cases h; rfl, fun H' h => by cases h⟩
  obtain ⟨k1, k2⟩ := rsh_eq hr hb hfit hp ho
  cases hs : stands S ops b p o with
  | false =>
    have e1 : opf S nb ops b H p o = .error 2204 := by unfold opf; rw [if_neg hf, if_neg hc, if_pos hs]
    have e2 : rop S nb ops A p o s H = .error 2204 := by unfold rop; rw [if_neg hf', hr.dep, if_neg hc, k1 hs]
    rw [e1, e2]
    exact ⟨fun c h => by cases h; rfl, fun H' h => by cases h⟩
  | true =>
    obtain ⟨s', h1, h2⟩ := k2 hs
    obtain ⟨q1, q2, q3⟩ := rsh_same h1
    have hg : s'.dep + grows o = b.ar.st + grows o \/ (o.k = 12 /\ grows o = 0 /\ s'.dep <= b.ar.st) := by
      by_cases h12 : o.k = 12
      · right
        have := fits_drop hfit h12
        have hq := q2 h12
        have hd := hr.dep
        exact ⟨h12, by unfold grows; rw [if_neg (by omega), if_neg (by omega), if_neg (by omega)], by omega⟩
      · left
        rw [q1 h12, hr.dep]
    have hgr : (64 < s'.dep + grows o) ↔ (64 < b.ar.st + grows o) := by
      rcases hg with e | ⟨-, e1, e2⟩
      · rw [e]
      · rw [e1]; omega
    have hlo : (8 < (if o.k = 9 then A.ls + 1 else A.ls)) ↔ (o.k = 9 /\ b.ar.ls = 8) := by
      split
      · rename_i h9
        constructor
        · intro h; exact ⟨h9, by omega⟩
        · intro h; have := h.2; omega
      · rename_i h9
        constructor
        · intro h; omega
        · intro h; exact (h9 h.1).elim
    have hcl := clm_rno (nb := nb) (A := ins b.ar o) (show (ins b.ar o).ow = true from how) (bks_len o) (H := H)
    have e1 : opf S nb ops b H p o = match clm nb (ins b.ar o) (bks o) H with
        | none => .error 2205
        | some H' => if 64 < b.ar.st + grows o then .error 2208 else if o.k = 9 /\ b.ar.ls = 8 then .error 2206 else .ok H' := by unfold opf; rw [if_neg hf, if_neg hc, if_neg (by rw [hs]; decide)]; cases clm nb (ins b.ar o) (bks o) H <;> rfl
    have e2 : rop S nb ops A p o s H = if rno nb H (bks o) = true then .error 2205 else if 64 < s'.dep + grows o then .error 2208 else if 8 < (if o.k = 9 then A.ls + 1 else A.ls) then .error 2206 else .ok (rlt s' o, put (rin A s' o) H (bks o)) := by unfold rop; rw [if_neg hf', hr.dep, if_neg hc, h1]
    rw [e1, e2, hcl]
    by_cases hn : rno nb H (bks o) = true
    · rw [if_pos hn, if_pos hn]
      exact ⟨fun c h => by cases h; rfl, fun H' h => by cases h⟩
    rw [if_neg hn, if_neg hn]
    dsimp only
    by_cases h64 : 64 < b.ar.st + grows o
    · rw [if_pos h64, if_pos (hgr.2 h64)]
      exact ⟨fun c h => by cases h; rfl, fun H' h => by cases h⟩
    rw [if_neg h64, if_neg (fun e => h64 (hgr.1 e))]
    by_cases h8 : o.k = 9 /\ b.ar.ls = 8
    · rw [if_pos h8, if_pos (hlo.2 h8)]
      exact ⟨fun c h => by cases h; rfl, fun H' h => by cases h⟩
    rw [if_neg h8, if_neg (fun e => h8 (hlo.1 e))]
    refine ⟨fun c h => (by cases h), fun H' h => ⟨rlt s' o, ?_, h2⟩⟩
    cases h
    congr 2
    by_cases hb0 : bks o = []
    · rw [hb0]; rfl
    · have hk : o.k = 8 \/ o.k = 9 \/ o.k = 10 := by
        unfold bks at hb0
        split at hb0
        · rename_i h; exact .inl h
        split at hb0
        · rename_i h; exact .inr h
        · exact (hb0 rfl).elim
      have es := q3 (by omega)
      subst es
      have : rin A s' o = ins b.ar o := by
        unfold rin ins
        rw [hr.dep, hr.len, how, hls, hr.el]
      rw [this]
end
end Go.Proofs.YtaiackmmmlhgbaaGreat.BRg
namespace Go.Proofs.YtaiackmmmlhgbaaGreat.BRh
open BPl BGd BRp BRn BRg
open YPl (Oq Bk Pg)
section
variable {S : Sh} {nb : Nat} {ops : List Oq} {A : Ar}
theorem rgo_eq : ∀ (l : List Oq) (p : Nat) (b : Bd) (s : Lk) (H : List Ar), l = ops.drop p -> p <= ops.length -> p <= 8192 -> Rel S A.el ops p b s -> Gb b -> b.ar.ow = true -> b.ar.ls = A.ls ->
    (∀ q, gos S nb ops p l b H = .error q -> rgo S nb ops A p l s H = .error q) /\ (∀ be He, gos S nb ops p l b H = .ok (be, He) -> ∃ s', rgo S nb ops A p l s H = .ok (s', He) /\ Rel S A.el ops ops.length be s' /\ Gb be)
  | [], p, b, s, H, hl, hp, hp8, hr, hb, how, hls => by
    have e : p = ops.length := by
      have := congrArg List.length hl
      rw [List.length_drop] at this
      simp at this
      omega
    subst e
    rw [gos, rgo]
    exact ⟨fun q h => (by cases h), fun be He h => (by cases h; exact ⟨s, rfl, hr, hb⟩)⟩
  | o :: r, p, b, s, H, hl, hp, hp8, hr, hb, how, hls => by
    have hpl : p < ops.length := by
      have := congrArg List.length hl
      rw [List.length_drop] at this
      simp at this
      omega
    rw [List.drop_eq_getElem_cons hpl] at hl
    injection hl with ho hr'
    obtain ⟨k1, k2⟩ := rop_eq (nb := nb) (H := H) hr hb how hls hpl ho.symm hp8
    rw [gos, rgo]
    cases e : opf S nb ops b H p o with
    | error c =>
      rw [k1 c e]
      exact ⟨fun q h => (by cases h; rfl), fun be He h => (by cases h)⟩
    | ok H' =>
      obtain ⟨s', h1, h2⟩ := k2 H' e
      rw [h1]
      have ha := pass_ar (b := b) (p := p) (o := o)
      exact rgo_eq r (p + 1) (pass b p o) s' H' hr' (by omega) (by have := (opf_ok e).1; omega) h2 (gb_pass e hb) (by rw [ha.1]; exact how) (by rw [ha.2.2]; exact hls)
def rone (S : Sh) (nb : Nat) (k : Bk) (H : List Ar) : Except (Int × Int) (List Ar) :=
  if (H.getD nb ar0).ow = false then .error (0, 2205)
  else if k.d ≠ (H.getD nb ar0).st then .error (0, 2208)
  else match rgo S nb k.o (H.getD nb ar0) 0 k.o ⟨(H.getD nb ar0).st, [0], []⟩ H with
    | .error q => .error q
    | .ok (s, H') =>
      if s.names ≠ [] \/ 0 < s.lets.getD 0 0 then .error ((k.o.length : Int), 2204)
      else if (H.getD nb ar0).lp = true /\ sgl k.o = false then .error (0, 2206)
      else if (rup k.o.length none 0 k.u).2 ≠ 0 then .error (rup k.o.length none 0 k.u) else .ok H'
theorem rone_eq {k : Bk} {H : List Ar} (hG : Gh H) : rone S nb k H = blf S nb k H := by
  unfold rone blf
  by_cases how : (H.getD nb ar0).ow = false
  · rw [if_pos how, if_pos how]
  rw [if_neg how, if_neg how]
  by_cases hd : k.d ≠ (H.getD nb ar0).st
  · rw [if_pos hd, if_pos hd]
  rw [if_neg hd, if_neg hd]
  have ht : (H.getD nb ar0).ow = true := by simpa using how
  have hga : Ga (H.getD nb ar0) := by
    by_cases hn : nb < H.length
    · refine hG _ ?_ ht
      rw [List.getD_eq_getElem?_getD, List.getElem?_eq_getElem hn, Option.getD_some]
      exact List.getElem_mem _
    · rw [List.getD_eq_getElem?_getD, List.getElem?_eq_none (by omega)] at ht
      cases ht
  obtain ⟨k1, k2⟩ := rgo_eq (S := S) (nb := nb) (A := H.getD nb ar0) k.o 0 ⟨H.getD nb ar0, 0, [], 0⟩ ⟨(H.getD nb ar0).st, [0], []⟩ H (by rw [List.drop_zero]) (by omega) (by omega) rel_0 ⟨hga, Int.le_refl 0, (by simp), by simpa using hga.1, by simpa using hga.2.2.1⟩ ht rfl
  cases e : gos S nb k.o 0 k.o ⟨H.getD nb ar0, 0, [], 0⟩ H with
  | error q => rw [k1 q e]
  | ok y =>
    obtain ⟨be, He⟩ := y
    obtain ⟨s', h1, h2, h3⟩ := k2 be He e
    rw [h1]
    dsimp only
    have hc : (s'.names ≠ [] \/ 0 < s'.lets.getD 0 0) ↔ (be.ou ≠ [] \/ 0 < be.lt) := by
      have hl := h2.len
      by_cases ho : be.ou = []
      · have hn : s'.names = [] := List.length_eq_zero_iff.1 (by rw [hl, ho]; rfl)
        have hs : s'.lets.getD 0 0 = be.lt := by rw [h2.lets, ho]; rfl
        rw [hn, hs, ho]
        simp
      · have hn : s'.names ≠ [] := fun e => ho (List.length_eq_zero_iff.1 (by rw [<- hl, e]; rfl))
        exact ⟨fun _ => .inl ho, fun _ => .inl hn⟩
    by_cases hx : be.ou ≠ [] \/ 0 < be.lt
    · rw [if_pos (hc.2 hx), if_pos hx]
    rw [if_neg (fun h => hx (hc.1 h)), if_neg hx]
    have hou : be.ou = [] := Decidable.not_not.1 fun h => hx (.inl h)
    have hlp : be.ar.lp = (H.getD nb ar0).lp := by
      have key : ∀ (l : List Oq) (p : Nat) (b : Bd) (H1 : List Ar) (be : Bd) (He : List Ar), gos S nb k.o p l b H1 = .ok (be, He) -> be.ar.lp = b.ar.lp := by
        intro l
        induction l with
        | nil => intro p b H1 be He h; rw [gos] at h; cases h; rfl
        | cons o r ih =>
          intro p b H1 be He h
          rw [gos] at h
          cases e : opf S nb k.o b H1 p o with
          | error c => rw [e] at h; cases h
          | ok H' =>
            rw [e] at h
            rw [ih _ _ _ _ _ h, pass_ar.2.1]
      exact key _ _ _ _ _ _ e
    rw [sgl_item e hou, rup_eq, hlp]
end
end Go.Proofs.YtaiackmmmlhgbaaGreat.BRh
namespace Go.Proofs.YtaiackmmmlhgbaaGreat.BQa
open Go.RowKit BPl YRr YRs BBx BRp
open YPl (Oq Bk Pg)
open BSf (hid)
theorem in_c (i : Int) (n : Nat) (w : World) : Calls prog 102 #[.int .i64 i, .int .i64 (n : Int)] w fun e w' => e = .returned (.bool (isN i n)) /\ w = w' := by
  unfold isN
  cases h : decide (0 <= i) with
  | true =>
    obtain ⟨b, hb⟩ : ∃ b, decide (i < (n : Int)) = b := ⟨_, rfl⟩
    rw [hb]
    have h2 : decide ((0 : Int) <= i) = true := h
    go_enter func102, ntmps102
    go_wp2_with fail
    go_ret
    exact ⟨rfl, rfl⟩
  | false =>
    have h2 : decide ((0 : Int) <= i) = false := h
    go_enter func102, ntmps102
    go_wp2_with fail
    go_ret
    exact ⟨rfl, rfl⟩
theorem results_tmp5 {P : Program} {fn : Func} {i j k l m : Nat} (hfn : fn.results = #[.tmp i, .tmp j, .tmp k, .tmp l, .tmp m]) (t : Array Value) (w : World) (a : Unit) :
    (results fn t).run P w = .ok (.tuple #[t.getD i undef, t.getD j undef, t.getD k undef, t.getD l undef, t.getD m undef]) w := by
  unfold results
  simp [hfn]
def uA (k : Int) : Bool := decide (k = 1 \/ k = 2 \/ k = 3 \/ k = 7 \/ k = 11 \/ k = 12 \/ k = 4 \/ k = 5 \/ k = 8 \/ k = 9)
def uB (k : Int) : Bool := decide (k = 4 \/ k = 5 \/ k = 8 \/ k = 9)
def uC (k : Int) : Bool := decide (k = 8 \/ k = 9 \/ k = 10)
def uL (k : Int) : Bool := decide (k = 10)
def uK (k : Int) : Bool := decide (1 <= k /\ k <= 12)
theorem used_c (k : Int) (w : World) : Calls prog 152 #[.int .i64 k] w fun e w' => e = .returned (.tuple #[.bool (uA k), .bool (uB k), .bool (uC k), .bool (uL k), .bool (uK k)]) /\ w = w' := by
  by_cases hk : 1 <= k /\ k <= 12
  · have : k = 1 \/ k = 2 \/ k = 3 \/ k = 4 \/ k = 5 \/ k = 6 \/ k = 7 \/ k = 8 \/ k = 9 \/ k = 10 \/ k = 11 \/ k = 12 := by omega
    clear hk
    rcases this with rfl | rfl | rfl | rfl | rfl | rfl | rfl | rfl | rfl | rfl | rfl | rfl
    all_goals
      go_enter func152, ntmps152
      go_wp2_with fail
      (try simp only [Exit.inBlock, Exit.then]); refine bodyPost_ret (results_tmp5 rfl _ _ ()) rfl ?_
      exact ⟨rfl, rfl⟩
  · have h1 : (k == 1) = false := by simp; omega
    have h2 : (k == 2) = false := by simp; omega
    have h3 : (k == 3) = false := by simp; omega
    have h4 : (k == 4) = false := by simp; omega
    have h5 : (k == 5) = false := by simp; omega
    have h6 : (k == 6) = false := by simp; omega
    have h7 : (k == 7) = false := by simp; omega
    have h8 : (k == 8) = false := by simp; omega
    have h9 : (k == 9) = false := by simp; omega
    have h10 : (k == 10) = false := by simp; omega
    have h11 : (k == 11) = false := by simp; omega
    have h12 : (k == 12) = false := by simp; omega
    have e1 : uA k = false := by unfold uA; simp; omega
    have e2 : uB k = false := by unfold uB; simp; omega
    have e3 : uC k = false := by unfold uC; simp; omega
    have e4 : uL k = false := by unfold uL; simp; omega
    have e5 : uK k = false := by unfold uK; simp; omega
    rw [e1, e2, e3, e4, e5]
    clear hk e1 e2 e3 e4 e5
    go_enter func152, ntmps152
    go_wp2_with fail
    (try simp only [Exit.inBlock, Exit.then]); refine bodyPost_ret (results_tmp5 rfl _ _ ()) rfl ?_
    exact ⟨rfl, rfl⟩
theorem single_c {S : Nat -> Prop} {w : World} {ov : Value} {ops : List Oq} (h : RrS 5 (LyOs S) S w ov ops) :
    Calls prog 101 #[ov] w fun e w' => e = .returned (.bool (sgl ops)) /\ w = w' := by
  have HH := hid h
  obtain ⟨a, cap, rfl, hlc, hcm, h47, -, -⟩ := h
  obtain ⟨n, hn⟩ : ∃ n, ops.length = n := ⟨_, rfl⟩
  have HN := hid hn
  rw [hn] at hlc h47 ⊢
  by_cases hz : n = 0
  · have e : sgl ops = false := by unfold sgl; rw [if_pos (List.length_eq_zero_iff.1 (by omega))]
    have d0 : ((n : Int) == 0) = true := by simp; omega
    rw [e]
    clear hz e hn
    go_enter func101, ntmps101
    go_wp2_with fail
    go_ret
    exact ⟨rfl, rfl⟩
  have dz : ((n : Int) == 0) = false := by simp; omega
  have h0 : 0 < ops.length := by omega
  have hne : ¬ (ops = []) := fun e => by rw [e] at h0; simp at h0
  obtain ⟨g, o, cap', hsl, -, -, -, ⟨lv, y0, -⟩⟩ := RrS.at HH.out h0
  rw [hn] at hsl
  cases hsl
  rw [Nat.zero_mul, Nat.add_zero] at y0
  have e0 : ops.getD 0 ⟨0, 0, 0, 0, []⟩ = ops[0] := by rw [List.getD_eq_getElem?_getD, List.getElem?_eq_getElem h0]; rfl
  have HE : Hid (sgl ops = if ops[0].k = 7 then (n : Int) == 1 else if ops[0].k = 3 then sgo n 0 0 ops else false) := by
    show sgl ops = _
    unfold sgl
    rw [if_neg hne, e0, hn]
  generalize ops[0] = x0 at *
  have i0 : (0 : Int) < (n : Int) := by omega
  by_cases h7 : x0.k = 7
  · have d7 : (x0.k == 7) = true := by simp [h7]
    have e : Hid (sgl ops = ((n : Int) == 1)) := by have := HE.out; rw [if_pos h7] at this; exact this
    obtain ⟨D, hD⟩ : ∃ D, ((n : Int) == 1) = D := ⟨_, rfl⟩
    clear h7 hn h0 hne e0 HE
    go_enter func101, ntmps101
    go_wp2_with fail
    go_ret
    exact ⟨by rw [e.out, hD]; rfl, rfl⟩
  have d7 : (x0.k == 7) = false := by simp [h7]
  by_cases h3 : x0.k = 3
  rotate_left 1
  · have d3 : (x0.k != 3) = true := by simp [h3]
    have e : Hid (sgl ops = false) := by have := HE.out; rw [if_neg h7, if_neg h3] at this; exact this
    clear h7 h3 hn h0 hne e0 HE
    go_enter func101, ntmps101
    go_wp2_with fail
    go_ret
    exact ⟨by rw [e.out]; rfl, rfl⟩
  have d3 : (x0.k != 3) = false := by simp [h3]
  have HS : Hid (sgl ops = sgo n 0 0 ops) := by have := HE.out; rw [if_neg h7, if_pos h3] at this; exact this
  clear h7 h3 hn h0 hne e0 HE
  go_enter func101, ntmps101
  go_wp2_with fail
  go_loopw [3, 4] (fun op i wr => ∃ (q : Nat) (c : Int), q <= n /\ i = .int .i64 q /\ op = .int .i64 c /\ -(q : Int) <= c /\ c <= (q : Int) /\ Hid (sgo n c q (ops.drop q) = sgo n 0 0 ops) /\ w = wr) (fun _ i _ => n - (intOf i).toNat)
  case atStart => exact ⟨0, 0, by omega, rfl, rfl, by omega, by omega, (by show sgo n 0 0 (ops.drop 0) = _; rw [List.drop_zero]), rfl⟩
  case round =>
    obtain ⟨q, c, hq, rfl, rfl, hc1, hc2, HG, hwr⟩ := hrel
    obtain rfl := hwr
    by_cases hlt : q < n
    · have t0 : decide ((q : Int) < (n : Int)) = true := by simp; omega
      have i1 : (0 : Int) <= (q : Int) := by omega
      have i2 : (q : Int) < (n : Int) := by omega
      have hqo : q < ops.length := by rw [HN.out]; exact hlt
      obtain ⟨g', o', cap', hsl, -, -, -, ⟨lv', k0, -⟩⟩ := RrS.at HH.out hqo
      rw [HN.out] at hsl
      cases hsl
      have HX := hid (List.drop_eq_getElem_cons hqo)
      generalize ops[q] = x at *
      obtain ⟨c', hc'⟩ : ∃ c', (if x.k = 3 then c + 1 else if x.k = 6 then c - 1 else c) = c' := ⟨_, rfl⟩
      have HG2 : Hid (sgo n 0 0 ops = if c' = 0 then (q : Int) == (n : Int) - 1 else sgo n c' (q + 1) (ops.drop (q + 1))) := by
        have := HG.out
        rw [HX.out, sgo, hc'] at this
        exact this.symm
      have hw : IntKind.i64.wrap ((n : Int) - 1) = (n : Int) - 1 := by rw [IntKind.wrap_i64]; omega
      obtain ⟨D, hD⟩ : ∃ D, ((q : Int) == (n : Int) - 1) = D := ⟨_, rfl⟩
      clear HG HX
      by_cases h3 : x.k = 3
      · have d3' : (x.k == 3) = true := by simp [h3]
        have d6' : (x.k == 6) = false := by simp [h3]
        rw [if_pos h3] at hc'
        subst hc'
        have hw1 : IntKind.i64.wrap (c + 1) = c + 1 := by rw [IntKind.wrap_i64]; omega
        by_cases hz' : c + 1 = 0
        · have dc : (c + 1 == 0) = true := by simp [hz']
          have e : Hid (sgl ops = D) := by have := HG2.out; rw [if_pos hz', hD] at this; rw [<- this]; exact HS.out
          clear h3 hz'
          go_wp2_with fail
          go_ret
          exact ⟨by rw [e.out]; rfl, rfl⟩
        · have dc : (c + 1 == 0) = false := by simp [hz']
          have e : Hid (sgo n (c + 1) (q + 1) (ops.drop (q + 1)) = sgo n 0 0 ops) := by have := HG2.out; rw [if_neg hz'] at this; exact this.symm
          clear h3 hz'
          go_wp2_with fail
          go_roundw
          case rel => exact ⟨q + 1, c + 1, by omega, by go_num, by go_num, by omega, by omega, e, by first | rfl | trivial⟩
          case measure => simp only [intOf]; omega
      · have d3' : (x.k == 3) = false := by simp [h3]
        rw [if_neg h3] at hc'
        by_cases h6 : x.k = 6
        · have d6' : (x.k == 6) = true := by simp [h6]
          rw [if_pos h6] at hc'
          subst hc'
          have hw1 : IntKind.i64.wrap (c - 1) = c - 1 := by rw [IntKind.wrap_i64]; omega
          by_cases hz' : c - 1 = 0
          · have dc : (c - 1 == 0) = true := by simp [hz']
            have e : Hid (sgl ops = D) := by have := HG2.out; rw [if_pos hz', hD] at this; rw [<- this]; exact HS.out
            clear h3 h6 hz'
            go_wp2_with fail
            go_ret
            exact ⟨by rw [e.out]; rfl, rfl⟩
          · have dc : (c - 1 == 0) = false := by simp [hz']
            have e : Hid (sgo n (c - 1) (q + 1) (ops.drop (q + 1)) = sgo n 0 0 ops) := by have := HG2.out; rw [if_neg hz'] at this; exact this.symm
            clear h3 h6 hz'
            go_wp2_with fail
            go_roundw
            case rel => exact ⟨q + 1, c - 1, by omega, by go_num, by go_num, by omega, by omega, e, by first | rfl | trivial⟩
            case measure => simp only [intOf]; omega
        · have d6' : (x.k == 6) = false := by simp [h6]
          rw [if_neg h6] at hc'
          subst hc'
          by_cases hz' : c = 0
          · have dc : (c == 0) = true := by simp [hz']
            have e : Hid (sgl ops = D) := by have := HG2.out; rw [if_pos hz', hD] at this; rw [<- this]; exact HS.out
            clear h3 h6 hz'
            go_wp2_with fail
            go_ret
            exact ⟨by rw [e.out]; rfl, rfl⟩
          · have dc : (c == 0) = false := by simp [hz']
            have e : Hid (sgo n c (q + 1) (ops.drop (q + 1)) = sgo n 0 0 ops) := by have := HG2.out; rw [if_neg hz'] at this; exact this.symm
            clear h3 h6 hz'
            go_wp2_with fail
            go_roundw
            case rel => exact ⟨q + 1, c, by omega, by go_num, rfl, by omega, by omega, e, by first | rfl | trivial⟩
            case measure => simp only [intOf]; omega
    · have hqe : n = q := by omega
      subst hqe
      have t0 : decide ((n : Int) < (n : Int)) = false := by simp
      have e : Hid (sgl ops = false) := by
        have := HG.out
        rw [List.drop_eq_nil_of_le (by rw [HN.out]; omega), sgo] at this
        rw [HS.out]
        exact this.symm
      clear hlt hq HG
      go_wp2_with fail
      go_ret
      exact ⟨by rw [e.out]; rfl, rfl⟩
end Go.Proofs.YtaiackmmmlhgbaaGreat.BQa

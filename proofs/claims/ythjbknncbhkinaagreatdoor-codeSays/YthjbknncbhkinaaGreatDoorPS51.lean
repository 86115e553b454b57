import Derived.Test.YthjbknncbhkinaaGreatDoorPS17
import Derived.Test.YthjbknncbhkinaaGreatDoorPS27
import Derived.Test.YthjbknncbhkinaaGreatDoorPS32
import Derived.Test.YthjbknncbhkinaaGreatDoorPS43
import Derived.Test.YthjbknncbhkinaaGreatDoorPS44
import Derived.Test.YthjbknncbhkinaaGreatDoorPS49
set_option linter.unusedVariables false
namespace Go.Proofs.YthjbknncbhkinaaGreatDoor.JGd
open Go.RowKit Base VPure
open Walk (pl plL)
open UBase (at' verr)
def code (c : C) : Int := (Measure.ms 0 0 (Walk.pl 1 c)).2.2
def rg (i : Int) : Prop := -9223372036854775808 <= i /\ i <= 9223372036854775807
def okP (c : C) (d q : Nat) : Prop := q <= 16384 /\ d <= 24 /\ (1 <= c.k /\ c.k <= 6) /\ Fault.fm c = true
theorem ft_iff (c : C) (d q : Nat) : Fault.ft c d q = 0 ↔ okP c d q := by
 unfold Fault.ft okP
 by_cases h1 : 16384 < (q : Int)
 ·rw [if_pos h1]; exact ⟨fun h => (by cases h), fun h => (by omega)⟩
 rw [if_neg h1]
 by_cases h2 : 24 < (d : Int)
 ·rw [if_pos h2]; exact ⟨fun h => (by cases h), fun h => (by omega)⟩
 rw [if_neg h2]
 by_cases h3 : c.k < 1 \/ 6 < c.k
 ·rw [if_pos h3]; exact ⟨fun h => (by cases h), fun h => (by omega)⟩
 rw [if_neg h3]
 by_cases h4 : Fault.fm c = true
 ·rw [if_pos h4]; exact ⟨fun _ => ⟨by omega, by omega, by omega, h4⟩, fun _ => rfl⟩
 ·rw [if_neg h4]; exact ⟨fun h => (by cases h), fun h => (h4 h.2.2.2).elim⟩
theorem ms_iff : ∀ (r : List (Nat × C)) (D k : Nat), (Measure.ms D k r).2.2 = 0 ↔ ∀ j (h : j < r.length), okP r[j].2 r[j].1 (k + j + 1)
 | [], _, _ => by rw [Measure.ms]; exact ⟨fun _ j h => absurd h (by simp), fun _ => rfl⟩
 | (d, c) :: r, D, k => by
  rw [Measure.ms]
  by_cases hf : Fault.ft c d (k + 1 : Nat) = 0
  ·rw [if_pos hf, ms_iff r]
   constructor
   ·intro h j hj
    cases j with
    | zero => exact (ft_iff c d (k + 1)).1 hf
    | succ j =>
     have := h j (by simpa using hj)
     rw [show k + 1 + j + 1 = k + (j + 1) + 1 from by omega] at this
     simpa using this
   ·intro h j hj
    have := h (j + 1) (by simpa using hj)
    rw [show k + (j + 1) + 1 = k + 1 + j + 1 from by omega] at this
    simpa using this
  ·rw [if_neg hf]
   constructor
   ·intro h; exact (hf h).elim
   ·intro h
    exact (hf ((ft_iff c d (k + 1)).2 (h 0 (by simp)))).elim
theorem code_iff (c : C) : code c = 0 ↔ ∀ j (h : j < (pl 1 c).length), okP (pl 1 c)[j].2 (pl 1 c)[j].1 (j + 1) := by
 unfold code
 rw [ms_iff]
 constructor <;> intro h j hj <;> simpa using h j hj
def Gd (c : C) : Prop := code c = 0 /\ ∀ p ∈ pl 1 c, rg p.2.i
theorem plL_up : ∀ (l : List C) (d : Nat), plL (d + 1) l = (plL d l).map fun p => (p.1 + 1, p.2)
 | [], _ => by rw [plL, plL]; rfl
 | .mk k b i s n l :: t, d => by rw [plL, plL, plL_up l (d + 1), plL_up t d]; simp
theorem pl_up (c : C) (d : Nat) : pl (d + 1) c = (pl d c).map fun p => (p.1 + 1, p.2) := by
 obtain ⟨k, b, i, s, n, l⟩ := c
 rw [pl, pl, plL_up l (d + 1)]
 rfl
theorem plL_at : ∀ (l : List C) (d q : Nat) (h : q < l.length), ∃ A B, plL d l = A ++ pl d l[q] ++ B
 | [], _, q, h => absurd h (by simp)
 | c :: t, d, 0, h => ⟨[], plL d t, by rw [Walk.plL_cons]; rfl⟩
 | c :: t, d, q + 1, h => by
  obtain ⟨A, B, e⟩ := plL_at t d q (by simpa using h)
  exact ⟨pl d c ++ A, B, by rw [Walk.plL_cons, e]; simp⟩
theorem pl_len (c : C) : c.l.length < (pl 1 c).length := by
 have h : ∀ (l : List C) (d : Nat), l.length <= (plL d l).length := by
  intro l
  induction l with
  | nil => intro d; simp
  | cons c t ih => intro d; rw [Walk.plL_cons]; obtain ⟨k, b, i, s, n, l⟩ := c; rw [pl]; simp; have := ih d; omega
 obtain ⟨k, b, i, s, n, l⟩ := c
 rw [pl]
 have := h l (1 + 1)
 simp only [List.length_cons, C.l]
 omega
theorem Gd.self {c : C} (h : Gd c) : (1 <= c.k /\ c.k <= 6) /\ Fault.fm c = true /\ rg c.i /\ c.l.length <= 16384 := by
 have hp := (code_iff c).1 h.1
 have hl := pl_len c
 have hlast := hp ((pl 1 c).length - 1) (by omega)
 have h0 := hp 0 (by omega)
 have e : (pl 1 c)[0]'(by omega) = (1, c) := by obtain ⟨k, b, i, s, n, l⟩ := c; simp [pl]
 rw [e] at h0
 have hm := h.2 (1, c) (by rw [<- e]; exact List.getElem_mem _)
 exact ⟨h0.2.2.1, h0.2.2.2, hm, by have := hlast.1; omega⟩
theorem Gd.sub {c : C} (h : Gd c) {q : Nat} (hq : q < c.l.length) : Gd (c.l.getD q zerC) := by
 have eg : c.l.getD q zerC = c.l[q] := by rw [List.getD_eq_getElem?_getD, List.getElem?_eq_getElem hq]; rfl
 rw [eg]
 obtain ⟨A, B, e⟩ := plL_at c.l 2 q hq
 have ep : pl 1 c = (1, c) :: (A ++ pl 2 c.l[q] ++ B) := by rw [<- e]; obtain ⟨k, b, i, s, n, l⟩ := c; rw [pl]; rfl
 have eu := pl_up c.l[q] 1
 have hp := (code_iff c).1 h.1
 refine ⟨(code_iff _).2 fun j hj => ?_, fun p hp' => ?_⟩
 ·have hj2 : j < (pl 2 c.l[q]).length := by rw [eu]; simpa using hj
  have hlen : 1 + A.length + j < (pl 1 c).length := by rw [ep]; simp; omega
  have hh := hp (1 + A.length + j) hlen
  have eq? : (pl 1 c)[1 + A.length + j]? = (pl 2 c.l[q])[j]? := by
   rw [ep, show 1 + A.length + j = (A.length + j) + 1 from by omega, List.getElem?_cons_succ, List.getElem?_append_left (by simp; omega), List.getElem?_append_right (by omega)]
   simp
  have eidx : (pl 1 c)[1 + A.length + j] = (pl 2 c.l[q])[j] := by
   rw [List.getElem?_eq_getElem hlen, List.getElem?_eq_getElem hj2] at eq?
   injection eq?
  have eel : (pl 2 c.l[q])[j] = ((pl 1 c.l[q])[j].1 + 1, (pl 1 c.l[q])[j].2) := by simp [eu]
  rw [eidx, eel] at hh
  exact ⟨by have := hh.1; omega, by have := hh.2.1; simp only at this; omega, hh.2.2.1, hh.2.2.2⟩
 ·have hm : (p.1 + 1, p.2) ∈ pl 2 c.l[q] := by rw [eu, List.mem_map]; exact ⟨p, hp', rfl⟩
  exact h.2 (p.1 + 1, p.2) (by rw [ep]; exact List.mem_cons_of_mem _ (List.mem_append_left _ (List.mem_append_right _ hm)))
theorem Gd.one {k i : Int} {b : Bool} {s : ByteArray} (hk : 1 <= k /\ k <= 6) (hf : Fault.fm (.mk k b i s [] []) = true) (hi : rg i) : Gd (.mk k b i s [] []) := by
 have e : pl 1 (.mk k b i s [] []) = [(1, .mk k b i s [] [])] := by simp [pl, plL]
 refine ⟨(code_iff _).2 fun j hj => ?_, fun p hp => ?_⟩
 ·have hj0 : j = 0 := by rw [e] at hj; simpa using hj
  subst hj0
  simp only [e, List.getElem_cons_zero]
  exact ⟨by omega, by omega, hk, hf⟩
 ·rw [e] at hp
  simp only [List.mem_cons, List.not_mem_nil, or_false] at hp
  rw [hp]
  exact hi
theorem bad_low (s : ByteArray) (h : ∀ j, j < s.size -> at' s j < 128) : ∀ (k i : Nat), s.size - i <= k -> UBase.bad s i = none := by
 intro k
 induction k with
 | zero => intro i hk; rw [UBase.bad, if_neg (by omega)]
 | succ k ih =>
  intro i hk
  rw [UBase.bad]
  by_cases hi : i < s.size
  ·have e : UBase.len s i = 1 := by unfold UBase.len; rw [if_pos (h i hi)]
   rw [if_pos hi, if_neg (by omega), e]
   exact ih (i + 1) (by omega)
  ·rw [if_neg hi]
theorem tg_low {L : List UInt8} (h : ∀ c ∈ L, c.toNat < 128) (hl : L.length <= 4096) : Pure.tg ⟨L.toArray⟩ = true := by
 have e : UBase.bad ⟨L.toArray⟩ 0 = none := bad_low _ (fun j hj => by
  have hj' : j < L.length := hj
  rw [USmall.at_list]
  simp only [List.getElem?_eq_getElem hj']
  exact h _ (List.getElem_mem hj')) _ 0 (Nat.le_refl _)
 have hs : (⟨L.toArray⟩ : ByteArray).size = L.length := rfl
 unfold Pure.tg verr
 rw [if_pos e, hs]
 simp [hl]
theorem dec_low : ∀ (u : Nat), ∀ c ∈ Lib.decDigits u, c.toNat < 128 := by
 intro u
 induction u using Nat.strongRecOn with
 | _ u ih =>
  intro c hc
  rw [Lib.decDigits] at hc
  by_cases h : u < 10
  ·rw [dif_pos h] at hc
   simp only [List.mem_cons, List.not_mem_nil, or_false] at hc
   subst hc
   simp; omega
  ·rw [dif_neg h, List.mem_append] at hc
   rcases hc with hc | hc
   ·exact ih (u / 10) (by omega) c hc
   ·simp only [List.mem_cons, List.not_mem_nil, or_false] at hc
    subst hc
    simp; omega
theorem itoa_low (i : Int) : ∀ c ∈ Lib.itoa i, c.toNat < 128 := by
 intro c hc
 unfold Lib.itoa at hc
 by_cases h : i < 0
 ·rw [if_pos h] at hc
  rcases List.mem_cons.1 hc with rfl | hc
  ·decide
  ·exact dec_low _ c hc
 ·rw [if_neg h] at hc; exact dec_low _ c hc
end Go.Proofs.YthjbknncbhkinaaGreatDoor.JGd
namespace Go.Proofs.YthjbknncbhkinaaGreatDoor.JGe
open Go.RowKit Base EPure JPure JGd
open VPure hiding evL
theorem fm_of {k i : Int} {b : Bool} {s : ByteArray} (hs : Pure.tg s = true) (hp : Pure.pu k b i s 0 0 = true) (h6 : k ≠ 6) : Fault.fm (.mk k b i s [] []) = true := by
 unfold Fault.fm
 simp only [C.k, C.b, C.i, C.s, C.n, C.l, List.length_nil]
 rw [hp, hs]
 simp [h6]
theorem tg_e : Pure.tg ⟨#[]⟩ = true := tg_low (L := []) (by simp) (by simp)
theorem gd_int {i : Int} (h : rg i) : Gd (intC i) := Gd.one (by decide) (fm_of tg_e (by simp [Pure.pu]) (by decide)) h
theorem gd_boo (b : Bool) : Gd (booC b) := Gd.one (by decide) (fm_of tg_e (by simp [Pure.pu]) (by decide)) (by constructor <;> decide)
theorem gd_nul : Gd nulC := Gd.one (by decide) (fm_of tg_e (by simp [Pure.pu]) (by decide)) (by constructor <;> decide)
theorem gd_str {s : ByteArray} (h : Pure.tg s = true) : Gd (strC s) := Gd.one (by decide) (fm_of h (by simp [Pure.pu]) (by decide)) (by constructor <;> decide)
theorem gd_tg {c : C} (h : Gd c) : Pure.tg c.s = true := by
 have hf := h.self.2.1
 unfold Fault.fm at hf
 simp only [Bool.and_eq_true] at hf
 exact hf.1.2
theorem tg_size {s : ByteArray} (h : Pure.tg s = true) : s.size <= 4096 := by
 unfold Pure.tg at h
 simp only [Bool.and_eq_true, decide_eq_true_eq] at h
 exact h.1
theorem tg_bad {s : ByteArray} (h : Pure.tg s = true) : UBase.bad s 0 = none := by
 unfold Pure.tg UBase.verr at h
 by_cases e : UBase.bad s 0 = none
 ·exact e
 ·rw [if_neg e] at h; simp at h
theorem tg_join {x y : ByteArray} (hx : Pure.tg x = true) (hy : Pure.tg y = true) (hl : x.size + y.size <= 4096) : Pure.tg (x ++ y) = true := by
 have e := UJn.verr_join (t := y) (tg_bad hx)
 have ey : UBase.verr y = 0 := by unfold UBase.verr; rw [if_pos (tg_bad hy)]
 unfold Pure.tg
 rw [e, ey, ByteArray.size_append]
 simp [hl]
theorem txt_tg {c : C} {x : ByteArray} (h : Gd c) (hx : txt c = .ok x) : Pure.tg x = true := by
 have hs := gd_tg h
 have hi := h.self.2.2.1
 unfold txt at hx
 by_cases he : TextKey.te c = 0
 ·rw [if_pos he] at hx
  injection hx with hx
  rw [<- hx]
  obtain ⟨k, b, i, s, n, l⟩ := c
  simp only [C.s, C.i] at hs hi
  show Pure.tg (if k = 1 then ⟨#[]⟩ else if k = 2 then (if b = true then ⟨#[116, 114, 117, 101]⟩ else ⟨#[102, 97, 108, 115, 101]⟩) else if k = 3 then ⟨(Lib.itoa i).toArray⟩ else if k = 4 then s else ⟨#[]⟩) = true
  by_cases h1 : k = 1
  ·rw [if_pos h1]; exact tg_e
  rw [if_neg h1]
  by_cases h2 : k = 2
  ·rw [if_pos h2]
   cases b
   ·exact tg_low (L := [102, 97, 108, 115, 101]) (by decide) (by decide)
   ·exact tg_low (L := [116, 114, 117, 101]) (by decide) (by decide)
  rw [if_neg h2]
  by_cases h3 : k = 3
  ·rw [if_pos h3]
   exact tg_low (itoa_low i) (by have := Lib.itoa_length_le i hi.1 hi.2; omega)
  rw [if_neg h3]
  by_cases h4 : k = 4
  ·rw [if_pos h4]; exact hs
  rw [if_neg h4]
  exact tg_e
 ·rw [if_neg he] at hx; cases hx
theorem mapI_gd {x : Except Nat Int} {c : C} (hr : ∀ i, x = .ok i -> rg i) (h : mapI x = .ok c) : Gd c := by
 cases x with
 | error e => cases h
 | ok y => injection h with h; rw [<- h]; exact gd_int (hr y rfl)
theorem numb_gd {o : Int} {a b c : C} (ha : rg a.i) (h : numb o a b = .ok c) : Gd c :=
 mapI_gd (fun i hi => by rw [VRs.tw_ok hi]; exact VRs.wh_rng ha) h
theorem pr2_gd {o : Int} {a b c : C} (ha : Gd a) (hb : o = 17 -> Gd b) (h : pr2 o a b = .ok c) : Gd c := by
 have hbo : ∀ {B : Bool}, (Except.ok (booC B) : Ans) = .ok c -> Gd c := fun h => by injection h with h; rw [<- h]; exact gd_boo _
 have hoL : ∀ {x : Except Nat Int} {f : Int -> Bool}, (bnd x fun c => .ok (booC (f c))) = (.ok c : Ans) -> Gd c := fun {x f} h => by
  cases x with
  | error e => cases h
  | ok y => exact hbo h
 have hsf := ha.self
 unfold pr2 at h
 by_cases q : o = 17
 ·rw [if_pos q] at h
  have hb := hb q
  unfold cat at h
  have ta : ∀ x, txt a = .ok x -> Pure.tg x = true := fun x hx => txt_tg ha hx
  have tb : ∀ x, txt b = .ok x -> Pure.tg x = true := fun x hx => txt_tg hb hx
  revert h ta tb
  generalize txt a = x
  generalize txt b = y
  intro h ta tb
  cases x with
  | error e => cases h
  | ok x =>
   cases y with
   | error e => cases h
   | ok y =>
    simp only [bnd] at h
    by_cases q : 4096 < x.size + y.size
    ·rw [if_pos q] at h; cases h
    ·rw [if_neg q] at h; injection h with h; rw [<- h]; exact gd_str (tg_join (ta x rfl) (tb y rfl) (by omega))
 rw [if_neg q] at h
 clear q
 by_cases q : o = 10
 ·rw [if_pos q] at h
  exact numb_gd (by constructor <;> decide) h
 rw [if_neg q] at h
 clear q
 by_cases q : o = 23
 ·rw [if_pos q] at h
  exact hoL h
 rw [if_neg q] at h
 clear q
 by_cases q : o = 24
 ·rw [if_pos q] at h
  exact hoL h
 rw [if_neg q] at h
 clear q
 by_cases q : o = 25
 ·rw [if_pos q] at h
  exact hoL h
 rw [if_neg q] at h
 clear q
 by_cases q : o = 26
 ·rw [if_pos q] at h
  exact hoL h
 rw [if_neg q] at h
 clear q
 by_cases q : o = 27
 ·rw [if_pos q] at h
  exact hbo h
 rw [if_neg q] at h
 clear q
 by_cases q : o = 28
 ·rw [if_pos q] at h
  exact hbo h
 rw [if_neg q] at h
 clear q
 by_cases q : o = 7 \/ o = 8
 ·rw [if_pos q] at h
  unfold VPure.prt prtR at h
  by_cases q5 : a.k = 5
  ·rw [if_pos q5] at h
   by_cases q3 : b.k = 3
   ·rw [if_pos q3] at h
    by_cases qi : b.i < 0 \/ (a.l.length : Int) <= b.i
    ·rw [if_pos qi] at h; cases h
    ·rw [if_neg qi] at h; injection h with h; rw [<- h]; exact ha.sub (by omega)
   ·rw [if_neg q3] at h; cases h
  ·rw [if_neg q5] at h
   by_cases q6 : a.k = 6 /\ b.k = 4
   ·rw [if_pos q6] at h
    cases hf : Part.fi a.n b.s with
    | none => rw [hf] at h; cases h
    | some q => rw [hf] at h; injection h with h; rw [<- h]; exact ha.sub (by have := Part.fi_lt hf; have := GWf.fm_six hsf.2.1 q6.1; omega)
   ·rw [if_neg q6] at h; cases h
 rw [if_neg q] at h
 clear q
 by_cases q : o = 9
 ·rw [if_pos q] at h
  unfold cal at h
  by_cases q1 : b.i = 1
  ·rw [if_pos q1] at h
   refine mapI_gd (fun i hi => ?_) h
   unfold lenI at hi
   by_cases q4 : a.k = 4
   ·rw [if_pos q4] at hi; injection hi with hi; have := tg_size (gd_tg ha); constructor <;> omega
   ·rw [if_neg q4] at hi
    by_cases q5 : a.k = 5 \/ a.k = 6
    ·rw [if_pos q5] at hi; injection hi with hi; have := hsf.2.2.2; constructor <;> omega
    ·rw [if_neg q5] at hi; cases hi
  rw [if_neg q1] at h
  by_cases q2 : b.i = 2
  ·rw [if_pos q2] at h
   have ta : ∀ x, txt a = .ok x -> Pure.tg x = true := fun x hx => txt_tg ha hx
   revert h ta
   generalize txt a = x
   intro h ta
   cases x with
   | error e => cases h
   | ok x => injection h with h; rw [<- h]; exact gd_str (ta x rfl)
  ·rw [if_neg q2] at h
   refine mapI_gd (fun i hi => ?_) h
   unfold tunI at hi
   by_cases q3 : a.k = 3
   ·rw [if_pos q3] at hi; injection hi with hi; rw [<- hi]; exact VTo.tun_rng _ _
   ·rw [if_neg q3] at hi; cases hi
 rw [if_neg q] at h
 clear q
 by_cases q : o = 11
 ·rw [if_pos q] at h
  unfold notT at h
  by_cases q2 : a.k = 2
  ·rw [if_pos q2] at h; exact hbo h
  ·rw [if_neg q2] at h; cases h
 rw [if_neg q] at h
 clear q
 by_cases q : o = 20 \/ o = 21 \/ o = 22
 ·rw [if_pos q] at h
  exact mapI_gd (fun i hi => by rw [VPm.tx_ok hi]; exact VBi.bit_rng _ _ _) h
 rw [if_neg q] at h
 clear q
 exact numb_gd hsf.2.2.1 h
theorem node_gd {ρ : ByteArray -> Option C} (hρ : ∀ s c, ρ s = some c -> Gd c) {o i : Int} {s : ByteArray} {p : List Ans} (hft : o = 5 -> Pure.tg s = true) (hi : rg i) (hp : ∀ q c, p.getD q (.error 0) = .ok c -> Gd c) {c : C} (h : node ρ o i s p = .ok c) : Gd c := by
 have hbo : ∀ {B : Bool}, (Except.ok (booC B) : Ans) = .ok c -> Gd c := fun h => by injection h with h; rw [<- h]; exact gd_boo _
 unfold node at h
 by_cases q : o = 1
 ·rw [if_pos q] at h
  injection h with h; rw [<- h]; exact gd_nul
 rw [if_neg q] at h
 clear q
 by_cases q : o = 2 \/ o = 3
 ·rw [if_pos q] at h
  exact hbo h
 rw [if_neg q] at h
 clear q
 by_cases q : o = 4
 ·rw [if_pos q] at h
  injection h with h; rw [<- h]; exact gd_int hi
 rw [if_neg q] at h
 clear q
 by_cases q : o = 5
 ·rw [if_pos q] at h
  injection h with h
  rw [<- h]
  subst q
  refine gd_str ?_
  exact hft rfl
 rw [if_neg q] at h
 clear q
 by_cases q : o = 6
 ·rw [if_pos q] at h
  cases e : ρ s with
  | none => rw [e] at h; cases h
  | some c' => rw [e] at h; injection h with h; rw [<- h]; exact hρ _ _ e
 rw [if_neg q] at h
 clear q
 by_cases q : o = 29 \/ o = 30
 ·rw [if_pos q] at h
  revert h
  generalize bnd (p.getD 0 (.error 0)) isT = x
  generalize bnd (p.getD 1 (.error 0)) isT = y
  intro h
  cases x with
  | error e => cases h
  | ok b =>
   simp only [bnd] at h
   by_cases q : b = decide (o = 30)
   ·rw [if_pos q] at h; exact hbo h
   ·rw [if_neg q] at h
    cases y with
    | error e => cases h
    | ok b => exact hbo h
 rw [if_neg q] at h
 clear q
 by_cases q : o = 31
 ·rw [if_pos q] at h
  revert h
  generalize bnd (p.getD 0 (.error 0)) isT = x
  intro h
  cases x with
  | error e => cases h
  | ok b =>
   simp only [bnd] at h
   by_cases q : b = true
   ·rw [if_pos q] at h; exact hp _ _ h
   ·rw [if_neg q] at h; exact hp _ _ h
 rw [if_neg q] at h
 clear q
 cases hx : p.getD 0 (.error 0) with
 | error e => rw [hx] at h; cases h
 | ok a =>
  rw [hx] at h
  have ha := hp _ _ hx
  simp only [bnd] at h
  have h17 : ∀ b, o = 17 -> snd2 o i s p = .ok b -> Gd b := fun b e hb => by subst e; exact hp 1 b hb
  revert h h17
  generalize snd2 o i s p = y
  intro h h17
  cases y with
  | error e => cases h
  | ok b => exact pr2_gd ha (fun e => h17 b e rfl) h
def xrL : List Ex -> Prop
 | [] => True
 | .mk o i s l :: t => (rg i /\ (o = 5 -> Pure.tg s = true) /\ xrL l) /\ xrL t
theorem evL_gd {ρ : Int -> Option C} (hρ : ∀ (j : Int) c, ρ j = some c -> Gd c) : ∀ (l : List Ex) (hx : xrL l) (q : Nat) (c : C), (evL ρ l).getD q (.error 0) = .ok c -> Gd c
 | [], _, q, c, h => by rw [evL, List.getD_nil] at h; cases h
 | .mk o i s l :: t, hx, 0, c, h => by
  rw [evL, List.getD_cons_zero] at h
  rw [xrL] at hx
  exact node_gd (fun _ c h => hρ i c h) hx.1.2.1 hx.1.1 (evL_gd hρ l hx.1.2.2) h
 | .mk o i s l :: t, hx, q + 1, c, h => by
  rw [evL, List.getD_cons_succ] at h
  rw [xrL] at hx
  exact evL_gd hρ t hx.2 q c h
def xr (x : Ex) : Prop := rg x.i /\ (x.o = 5 -> Pure.tg x.s = true) /\ xrL x.l
theorem ev_gd {ρ : Int -> Option C} (hρ : ∀ (j : Int) c, ρ j = some c -> Gd c) {x : Ex} (hx : xr x) {c : C} (h : ev ρ x = .ok c) : Gd c := node_gd (fun _ c h => hρ x.i c h) hx.2.1 hx.1 (evL_gd hρ x.l hx.2.2) h
theorem Gd.wf {c : C} (h : Gd c) : wf c := GWf.code_wf h.1
end Go.Proofs.YthjbknncbhkinaaGreatDoor.JGe
namespace Go.Proofs.YthjbknncbhkinaaGreatDoor.NRu
open Base EPure VPure JGd JGe
open CPu (Ins)
open NMk (Sz)
open MPl (mrun ins dop sec)
open NGe (gen sz kid row Cd isT opd tx)
open GPl (rh)
open SFit (kd ft)
def At (L : List Ins) (c : Nat) (D : List Ins) : Prop := ∀ j, j < D.length -> L[c + j]? = D[j]?
def Ta (T : List ByteArray) (t : Nat) (X : List ByteArray) : Prop := ∀ j, j < X.length -> T[t + j]? = X[j]?
theorem at_app {L : List Ins} {c : Nat} {A B : List Ins} (h : At L c (A ++ B)) : At L c A /\ At L (c + A.length) B := by
 refine ⟨fun j hj => ?_, fun j hj => ?_⟩
 ·rw [h j (by simp; omega), List.getElem?_append_left hj]
 ·rw [Nat.add_assoc, h (A.length + j) (by simp; omega), List.getElem?_append_right (by omega), show A.length + j - A.length = j by omega]
theorem at_cons {L : List Ins} {c : Nat} {x : Ins} {B : List Ins} (h : At L c (x :: B)) : L[c]? = some x /\ At L (c + 1) B := by
 refine ⟨by have := h 0 (by simp); simpa using this, fun j hj => ?_⟩
 have := h (j + 1) (by simp; omega)
 rw [show c + 1 + j = c + (j + 1) by omega, this]
 simp
theorem ta_app {T : List ByteArray} {t : Nat} {A B : List ByteArray} (h : Ta T t (A ++ B)) : Ta T t A /\ Ta T (t + A.length) B := by
 refine ⟨fun j hj => ?_, fun j hj => ?_⟩
 ·rw [h j (by simp; omega), List.getElem?_append_left hj]
 ·rw [Nat.add_assoc, h (A.length + j) (by simp; omega), List.getElem?_append_right (by omega), show A.length + j - A.length = j by omega]
def Sr (L : List Ins) (T : List ByteArray) (S : List C) (c e : Nat) (A : Ans) : Prop := ∀ (f : Nat) (p : List C), L.length <= f + c ->
 match A with
 | .ok v => ∃ f', L.length <= f' + e /\ mrun L T S f c p = mrun L T S f' e (p ++ [v])
 | .error q => mrun L T S f c p = .error q
theorem step1 {L : List Ins} {T : List ByteArray} {S : List C} {c : Nat} {o a : Int} {f : Nat} {p : List C} (hL : L[c]? = some (o, a)) (hf : L.length <= f + c) (ho : o ≠ 30 /\ o ≠ 31 /\ o ≠ 32 /\ o ≠ 33) :
  ∃ f', L.length <= f' + (c + 1) /\ mrun L T S f c p = bnd (dop T S o a p) fun p' => mrun L T S f' (c + 1) p' := by
 have hc := (List.getElem?_eq_some_iff.1 hL).1
 obtain ⟨f', rfl⟩ : ∃ f', f = f' + 1 := ⟨f - 1, by omega⟩
 refine ⟨f', by omega, ?_⟩
 rw [mrun, hL]
 have e : ins T S c (o, a) p = bnd (dop T S o a p) fun p' => .ok (c + 1, p') := by
  unfold ins
  rw [if_neg (by simp only; omega), if_neg (by simp only; omega), if_neg (by simp only; omega)]
 simp only [e]
 cases dop T S o a p <;> rfl
theorem stepj {L : List Ins} {T : List ByteArray} {S : List C} {c k : Nat} {o : Int} {f : Nat} {p : List C} {v : C} (hL : L[c]? = some (o, (k : Int))) (hf : L.length <= f + c) (hk : c < k) (ho : o = 30 \/ o = 31) :
  ∃ f', (L.length <= f' + (c + 1)) /\ mrun L T S f c (p ++ [v]) = (if v.k = 2 then (if v.b = decide (o = 31) then mrun L T S f' k (p ++ [v]) else mrun L T S f' (c + 1) p) else .error 1101) := by
 have hc := (List.getElem?_eq_some_iff.1 hL).1
 obtain ⟨f', rfl⟩ : ∃ f', f = f' + 1 := ⟨f - 1, by omega⟩
 refine ⟨f', by omega, ?_⟩
 rw [mrun, hL]
 unfold ins
 simp only [MPl.last_snoc, MPl.drop_snoc, if_pos ho, Int.toNat_natCast]
 by_cases h2 : v.k = 2
 ·rw [if_pos h2, if_pos h2]
  by_cases hb : v.b = decide (o = 31)
  ·rw [if_pos hb, if_pos hb]; rfl
  ·rw [if_neg hb, if_neg hb]; rfl
 ·rw [if_neg h2, if_neg h2]; rfl
theorem stepe {L : List Ins} {T : List ByteArray} {S : List C} {c k : Nat} {f : Nat} {p : List C} {v : C} (hL : L[c]? = some (32, (k : Int))) (hf : L.length <= f + c) (hk : c < k) :
  ∃ f', (L.length <= f' + (c + 1)) /\ mrun L T S f c (p ++ [v]) = (if v.k = 2 then (if v.b = true then mrun L T S f' (c + 1) p else mrun L T S f' k p) else .error 1101) := by
 have hc := (List.getElem?_eq_some_iff.1 hL).1
 obtain ⟨f', rfl⟩ : ∃ f', f = f' + 1 := ⟨f - 1, by omega⟩
 refine ⟨f', by omega, ?_⟩
 rw [mrun, hL]
 unfold ins
 simp only [MPl.last_snoc, MPl.drop_snoc, Int.toNat_natCast, show ¬ ((32 : Int) = 30 \/ (32 : Int) = 31) by omega, if_false, if_true]
 by_cases h2 : v.k = 2
 ·rw [if_pos h2, if_pos h2]
  cases v.b <;> rfl
 ·rw [if_neg h2, if_neg h2]; rfl
theorem stepg {L : List Ins} {T : List ByteArray} {S : List C} {c k : Nat} {f : Nat} {p : List C} (hL : L[c]? = some (33, (k : Int))) (hf : L.length <= f + c) :
  ∃ f', (L.length <= f' + (c + 1)) /\ mrun L T S f c p = mrun L T S f' k p := by
 have hc := (List.getElem?_eq_some_iff.1 hL).1
 obtain ⟨f', rfl⟩ : ∃ f', f = f' + 1 := ⟨f - 1, by omega⟩
 refine ⟨f', by omega, ?_⟩
 rw [mrun, hL]
 unfold ins
 simp only [Int.toNat_natCast, show ¬ ((33 : Int) = 30 \/ (33 : Int) = 31) by omega, show ¬ ((33 : Int) = 32) by omega, if_false, if_true]
 rfl
theorem dop29 (T : List ByteArray) (S : List C) (p : List C) (v : C) : dop T S 29 0 (p ++ [v]) = if v.k = 2 then .ok (p ++ [v]) else .error 1101 := by
 unfold dop
 rw [if_neg (by omega), if_neg (by omega), if_neg (by omega), if_neg (by omega), if_neg (by omega), if_pos rfl, MPl.last_snoc]
theorem gd_bool {c : C} (h : Gd c) (hk : c.k = 2) : c = booC c.b := by
 have h1 := h.self.2.1
 obtain ⟨k, b, i, t, n, l⟩ := c
 have hk : k = 2 := hk
 subst hk
 have h2 : Pure.pu 2 b i t n.length l.length = true := by
  unfold Fault.fm at h1
  simp only [Bool.and_eq_true] at h1
  exact h1.1.1
 unfold Pure.pu at h2
 simp at h2
 obtain ⟨⟨⟨hi, ht⟩, hl⟩, hn⟩ := h2
 subst hi
 have ht' : t = ⟨#[]⟩ := by
  have := SFit.ne t
  simp [ht] at this
  exact this
 rw [ht', hl, hn]
 rfl
theorem ok_xr : ∀ (m : Nat) (x : Ex), Sz m x -> NGe.Ok KSh.rlf m x -> xr x := by
 intro m
 induction m with
 | zero => intro x _ h; exact h.elim
 | succ m ih =>
  rintro ⟨o, i, s, l⟩ ⟨-, z2, -, z4⟩ ⟨-, h2, h3⟩
  have hl : ∀ l : List Ex, (∀ y ∈ l, xr y) -> xrL l := by
   intro l
   induction l with
   | nil => intro _; rw [xrL]; trivial
   | cons y t iht =>
    intro h
    obtain ⟨o', i', s', l'⟩ := y
    rw [xrL]
    exact ⟨h (Ex.mk o' i' s' l') (List.mem_cons_self ..), iht fun z hz => h z (List.mem_cons_of_mem _ hz)⟩
  refine ⟨z2, fun e => ?_, hl l fun y hy => ih y (z4 y hy) (h3 y hy)⟩
  have e : o = 5 := e
  subst e
  unfold ft at h2
  rw [if_pos (by omega)] at h2
  unfold KSh.rlf at h2
  rw [if_neg (by omega), Bool.and_eq_true] at h2
  exact h2.2
theorem sr_both {L : List Ins} {T : List ByteArray} {S : List C} {c : Nat} {o j : Int} {A B : Cd} {PA PB : Ans} (ho : (o = 29 /\ j = 30) \/ (o = 30 /\ j = 31)) (hA : Sr L T S c (c + A.1.length) PA) (hB : Sr L T S (c + A.1.length + 1) (c + A.1.length + 1 + B.1.length) PB) (hat : At L c (NGe.both2 j c A B).1) (gA : ∀ v, PA = .ok v -> Gd v) (gB : ∀ v, PB = .ok v -> Gd v) :
  Sr L T S c (c + (NGe.both2 j c A B).1.length) (bnd (bnd PA VPure.isT) fun b => if b = decide (o = 30) then .ok (booC (decide (o = 30))) else bnd (bnd PB VPure.isT) fun d => .ok (booC d)) := by
 have hlen : (NGe.both2 j c A B).1.length = A.1.length + 1 + B.1.length + 1 := by simp [NGe.both2]; omega
 rw [hlen]
 unfold NGe.both2 at hat
 obtain ⟨-, h1⟩ := at_app hat
 obtain ⟨h1, h2⟩ := at_cons h1
 obtain ⟨-, h3⟩ := at_app h2
 obtain ⟨h3, -⟩ := at_cons h3
 have hdo : decide (j = 31) = decide (o = 30) := by
  rcases ho with ⟨rfl, rfl⟩ | ⟨rfl, rfl⟩ <;> rfl
 intro f p hf
 have k1 := hA f p hf
 cases PA with
 | error q => exact k1
 | ok v =>
  obtain ⟨f1, hf1, e1⟩ := k1
  obtain ⟨f2, hf2, e2⟩ := stepj (T := T) (S := S) (p := p) (v := v) h1 hf1 (by omega) (by omega)
  rw [hdo] at e2
  rw [e1, e2]
  simp only [bnd, VPure.isT]
  by_cases hv : v.k = 2
  ·rw [if_pos hv, if_pos hv]
   have hg := gd_bool (gA v rfl) hv
   by_cases hb : v.b = decide (o = 30)
   ·rw [if_pos hb]
    simp only [if_pos hb]
    refine ⟨f2, by omega, ?_⟩
    rw [<- hb, <- hg]
    congr 1
    omega
   ·rw [if_neg hb]
    simp only [if_neg hb]
    have k2 := hB f2 p (by omega)
    cases PB with
    | error q => exact k2
    | ok u =>
     obtain ⟨f3, hf3, e3⟩ := k2
     obtain ⟨f4, hf4, e4⟩ := step1 (T := T) (S := S) (p := p ++ [u]) h3 hf3 (by omega)
     rw [e3, e4, dop29]
     by_cases hu : u.k = 2
     ·simp only [if_pos hu, bnd]
      refine ⟨f4, by omega, ?_⟩
      rw [<- gd_bool (gB u rfl) hu]
      congr 1
      omega
     ·simp only [if_neg hu, bnd]
  ·rw [if_neg hv, if_neg hv]
theorem sr_three {L : List Ins} {T : List ByteArray} {S : List C} {c : Nat} {A B D : Cd} {PA PB PD : Ans} (hA : Sr L T S c (c + A.1.length) PA) (hB : Sr L T S (c + A.1.length + 1) (c + A.1.length + 1 + B.1.length) PB) (hD : Sr L T S (c + A.1.length + 1 + B.1.length + 1) (c + A.1.length + 1 + B.1.length + 1 + D.1.length) PD) (hat : At L c (NGe.three c A B D).1) :
  Sr L T S c (c + (NGe.three c A B D).1.length) (bnd (bnd PA VPure.isT) fun b => if b = true then PB else PD) := by
 have hlen : (NGe.three c A B D).1.length = A.1.length + 1 + B.1.length + 1 + D.1.length := by simp [NGe.three]; omega
 rw [hlen]
 unfold NGe.three at hat
 obtain ⟨-, h1⟩ := at_app hat
 obtain ⟨h1, h2⟩ := at_cons h1
 obtain ⟨-, h3⟩ := at_app h2
 obtain ⟨h3, -⟩ := at_cons h3
 intro f p hf
 have k1 := hA f p hf
 cases PA with
 | error q => exact k1
 | ok v =>
  obtain ⟨f1, hf1, e1⟩ := k1
  obtain ⟨f2, hf2, e2⟩ := stepe (T := T) (S := S) (p := p) (v := v) h1 hf1 (by omega)
  rw [e1, e2]
  simp only [bnd, VPure.isT]
  by_cases hv : v.k = 2
  ·rw [if_pos hv, if_pos hv]
   cases hb : v.b with
   | true =>
    simp only [if_true]
    have k2 := hB f2 p (by omega)
    cases PB with
    | error q => exact k2
    | ok u =>
     obtain ⟨f3, hf3, e3⟩ := k2
     obtain ⟨f4, hf4, e4⟩ := stepg (T := T) (S := S) (p := p ++ [u]) h3 hf3
     refine ⟨f4, by omega, ?_⟩
     rw [e3, e4]
     congr 1
     omega
   | false =>
    simp only [Bool.false_eq_true, if_false]
    have k2 := hD f2 p (by omega)
    cases PD with
    | error q => exact k2
    | ok u =>
     obtain ⟨f3, hf3, e3⟩ := k2
     refine ⟨f3, by omega, ?_⟩
     rw [e3]
     congr 1
     omega
  ·rw [if_neg hv, if_neg hv]
theorem sr_zero {L : List Ins} {T : List ByteArray} {S : List C} {c : Nat} {o a : Int} {A : Ans} (hL : L[c]? = some (o, a)) (ho : o <= 29) (h : ∀ p, dop T S o a p = bnd A fun v => .ok (p ++ [v])) : Sr L T S c (c + 1) A := by
 intro f p hf
 obtain ⟨f1, hf1, e1⟩ := step1 (T := T) (S := S) (p := p) hL hf (by omega)
 rw [e1, h p]
 cases A with
 | error q => rfl
 | ok v => exact ⟨f1, hf1, rfl⟩
theorem dop_pr2 {T : List ByteArray} {S : List C} {o a : Int} {p : List C} (ho : 7 <= o /\ o <= 28) : dop T S o a p = bnd (pr2 o ((sec T o a p).2.getLastD zerC) (sec T o a p).1) fun v => .ok ((sec T o a p).2.dropLast ++ [v]) := by
 unfold dop
 rw [if_neg (by omega), if_neg (by omega), if_neg (by omega), if_neg (by omega), if_neg (by omega), if_neg (by omega)]
theorem sr_one {L : List Ins} {T : List ByteArray} {S : List C} {c e : Nat} {o a : Int} {PA : Ans} {u : C} (hA : Sr L T S c e PA) (hL : L[e]? = some (o, a)) (ho : 7 <= o /\ o <= 28) (h : ∀ p, sec T o a p = (u, p)) : Sr L T S c (e + 1) (bnd PA fun v => pr2 o v u) := by
 intro f p hf
 have k1 := hA f p hf
 cases PA with
 | error q => exact k1
 | ok v =>
  obtain ⟨f1, hf1, e1⟩ := k1
  obtain ⟨f2, hf2, e2⟩ := step1 (T := T) (S := S) (p := p ++ [v]) hL hf1 (by omega)
  rw [e1, e2, dop_pr2 ho, h]
  simp only [MPl.last_snoc, MPl.drop_snoc, bnd]
  cases hp : pr2 o v u with
  | error q => rfl
  | ok w => exact ⟨f2, hf2, rfl⟩
theorem sr_two {L : List Ins} {T : List ByteArray} {S : List C} {c d e : Nat} {o a : Int} {PA PB : Ans} (hA : Sr L T S c d PA) (hB : Sr L T S d e PB) (hL : L[e]? = some (o, a)) (ho : o = 8 \/ (12 <= o /\ o <= 28)) : Sr L T S c (e + 1) (bnd PA fun v => bnd PB fun u => pr2 o v u) := by
 intro f p hf
 have k1 := hA f p hf
 cases PA with
 | error q => exact k1
 | ok v =>
  obtain ⟨f1, hf1, e1⟩ := k1
  have k2 := hB f1 (p ++ [v]) hf1
  cases PB with
  | error q => rw [e1]; exact k2
  | ok u =>
   obtain ⟨f2, hf2, e2⟩ := k2
   obtain ⟨f3, hf3, e3⟩ := step1 (T := T) (S := S) (p := p ++ [v] ++ [u]) hL hf2 (by omega)
   have hs : sec T o a (p ++ [v] ++ [u]) = (u, p ++ [v]) := by
    unfold sec
    rw [if_neg (by omega), if_neg (by omega), if_neg (by omega), MPl.last_snoc, MPl.drop_snoc]
   rw [e1, e2, e3, dop_pr2 (by omega), hs]
   simp only [MPl.last_snoc, MPl.drop_snoc, bnd]
   cases hp : pr2 o v u with
   | error q => rfl
   | ok w => exact ⟨f3, hf3, rfl⟩
theorem ta_at {T : List ByteArray} {t : Nat} {s : ByteArray} (h : Ta T t [s]) : T.getD t ⟨#[]⟩ = s := by
 have := h 0 (by simp)
 simp at this
 rw [List.getD_eq_getElem?_getD, this]
 rfl
theorem one_of {l : List Ex} (h : l.length = 1) : ∃ a, l = [a] := List.length_eq_one_iff.1 h
theorem two_of {l : List Ex} (h : l.length = 2) : ∃ a b, l = [a, b] := by
 match l, h with
 | [a, b], _ => exact ⟨a, b, rfl⟩
theorem three_of {l : List Ex} (h : l.length = 3) : ∃ a b d, l = [a, b, d] := by
 match l, h with
 | [a, b, d], _ => exact ⟨a, b, d, rfl⟩
theorem kd_cases {o : Int} {n : Nat} (h : (n : Int) = kd o) : (1 <= o /\ o <= 6 /\ n = 0) \/ ((o = 7 \/ o = 9 \/ o = 10 \/ o = 11) /\ n = 1) \/ ((o = 8 \/ (12 <= o /\ o <= 30)) /\ n = 2) \/ (o = 31 /\ n = 3) := by
 unfold kd at h
 split at h
 ·omega
 split at h
 ·omega
 split at h
 ·omega
 split at h
 ·omega
 ·omega
theorem run_gen {L : List Ins} {T : List ByteArray} {S : List C} (hS : ∀ c ∈ S, Gd c) : ∀ (m : Nat) (x : Ex) (c t : Nat), NGe.Ok KSh.rlf m x -> Sz m x -> NGe.Pl S.length m x -> At L c (gen m x c t).1 -> Ta T t (gen m x c t).2 -> Sr L T S c (c + (gen m x c t).1.length) (JPure.ev (rh S) x) := by
 have hrho : ∀ (j : Int) d, rh S j = some d -> Gd d := by
  intro j d h
  unfold rh at h
  split at h
  ·exact hS d (List.mem_of_getElem? h)
  ·cases h
 intro m
 induction m with
 | zero => intro x c t h; exact h.elim
 | succ m ih =>
  rintro ⟨o, i, s, l⟩ c t hok hsz hpl hat hta
  have hgd : ∀ y ∈ l, ∀ v, JPure.ev (rh S) y = .ok v -> Gd v := fun y hy v h => JGe.ev_gd hrho (ok_xr m y (hsz.2.2.2 y hy) (hok.2.2 y hy)) h
  obtain ⟨h1, h2, h3⟩ := hok
  obtain ⟨z1, z2, z3, z4⟩ := hsz
  obtain ⟨p1, p2⟩ := hpl
  have hev : JPure.ev (rh S) (.mk o i s l) = node (fun _ => rh S i) o i s (JPure.evL (rh S) l) := rfl
  rw [hev]
  rcases kd_cases h1 with ⟨ho1, ho2, hn⟩ | ⟨ho, hn⟩ | ⟨ho, hn⟩ | ⟨ho, hn⟩
  ·obtain rfl : l = [] := List.eq_nil_of_length_eq_zero hn
   have eg : gen (m + 1) (.mk o i s []) c t = NGe.leaf o i s t ([], []) := by rw [gen, if_neg (by omega), if_neg (by omega)]; rfl
   rw [eg] at hat hta ⊢
   unfold NGe.leaf at hat hta ⊢
   simp only [List.nil_append, List.length_nil, Nat.add_zero, List.length_cons, Nat.zero_add] at hat hta ⊢
   obtain ⟨hL, -⟩ := at_cons hat
   refine sr_zero hL (by omega) fun p => ?_
   have hc : o = 1 \/ o = 2 \/ o = 3 \/ o = 4 \/ o = 5 \/ o = 6 := by omega
   rcases hc with rfl | rfl | rfl | rfl | rfl | rfl
   ·rfl
   ·rfl
   ·rfl
   ·rfl
   ·have ht : T.getD t ⟨#[]⟩ = s := ta_at hta
    show dop T S 5 ((t : Nat) : Int) p = _
    unfold dop
    rw [if_neg (by omega), if_neg (by omega), if_neg (by omega), if_pos rfl, Int.toNat_natCast, ht]
    rfl
   ·obtain ⟨q1, q2⟩ := p1 rfl
    have hr : rh S i = some (S.getD i.toNat zerC) := by
     unfold rh
     rw [if_pos q1, List.getD_eq_getElem?_getD, List.getElem?_eq_getElem (by omega)]
     rfl
    show dop T S 6 i p = _
    unfold node
    simp only [hr]
    rfl
  ·obtain ⟨a, rfl⟩ := one_of hn
   have eg : gen (m + 1) (.mk o i s [a]) c t = NGe.leaf o i s t (gen m a c t) := by
    rw [gen, if_neg (by omega), if_neg (by omega)]
    simp [row]
   rw [eg] at hat hta ⊢
   unfold NGe.leaf at hat hta ⊢
   simp only [List.length_append, List.length_cons, List.length_nil, Nat.zero_add] at hat hta ⊢
   obtain ⟨hatA, h5⟩ := at_app hat
   obtain ⟨htA, h6⟩ := ta_app hta
   obtain ⟨hL, -⟩ := at_cons h5
   have kA := ih a c t (h3 a (by simp)) (z4 a (by simp)) (p2 a (by simp)) hatA htA
   have hp0 : (JPure.evL (rh S) [a]).getD 0 (.error 0) = JPure.ev (rh S) a := JPure.evL_get (rh S) [a] 0 (by simp)
   rw [<- Nat.add_assoc]
   rcases ho with rfl | rfl | rfl | rfl
   ·have ht : T.getD (t + (gen m a c t).2.length) ⟨#[]⟩ = s := ta_at h6
    have := sr_one (T := T) (u := strC s) kA hL (by omega) (fun p => by
     show sec T 7 (((t + (gen m a c t).2.length : Nat)) : Int) p = _
     unfold sec
     rw [if_pos rfl, Int.toNat_natCast, ht])
    unfold node
    rw [if_neg (by omega), if_neg (by omega), if_neg (by omega), if_neg (by omega), if_neg (by omega), if_neg (by omega), if_neg (by omega), hp0]
    exact this
   ·have := sr_one (T := T) (u := intC i) kA hL (by omega) (fun p => rfl)
    unfold node
    rw [if_neg (by omega), if_neg (by omega), if_neg (by omega), if_neg (by omega), if_neg (by omega), if_neg (by omega), if_neg (by omega), hp0]
    exact this
   ·have := sr_one (T := T) (u := zerC) kA hL (by omega) (fun p => rfl)
    unfold node
    rw [if_neg (by omega), if_neg (by omega), if_neg (by omega), if_neg (by omega), if_neg (by omega), if_neg (by omega), if_neg (by omega), hp0]
    exact this
   ·have := sr_one (T := T) (u := zerC) kA hL (by omega) (fun p => rfl)
    unfold node
    rw [if_neg (by omega), if_neg (by omega), if_neg (by omega), if_neg (by omega), if_neg (by omega), if_neg (by omega), if_neg (by omega), hp0]
    exact this
  ·obtain ⟨a, b, rfl⟩ := two_of hn
   have hp0 : (JPure.evL (rh S) [a, b]).getD 0 (.error 0) = JPure.ev (rh S) a := JPure.evL_get (rh S) [a, b] 0 (by simp)
   have hp1 : (JPure.evL (rh S) [a, b]).getD 1 (.error 0) = JPure.ev (rh S) b := JPure.evL_get (rh S) [a, b] 1 (by simp)
   by_cases h29 : o = 29 \/ o = 30
   ·have eg : gen (m + 1) (.mk o i s [a, b]) c t = NGe.both2 (o + 1) c (gen m a c t) (gen m b (c + (gen m a c t).1.length + 1) (t + (gen m a c t).2.length)) := by rw [gen, if_pos h29]; rfl
    rw [eg] at hat hta ⊢
    obtain ⟨hatA, h5⟩ := at_app hat
    obtain ⟨htA, htB⟩ := ta_app hta
    obtain ⟨-, h5⟩ := at_cons h5
    obtain ⟨hatB, -⟩ := at_app h5
    have kA := ih a c t (h3 a (by simp)) (z4 a (by simp)) (p2 a (by simp)) hatA htA
    have kB := ih b _ _ (h3 b (by simp)) (z4 b (by simp)) (p2 b (by simp)) hatB htB
    have := sr_both (o := o) (j := o + 1) (by omega) kA kB hat (hgd a (by simp)) (hgd b (by simp))
    unfold node
    rw [if_neg (by omega), if_neg (by omega), if_neg (by omega), if_neg (by omega), if_neg (by omega), if_pos h29, hp0, hp1]
    exact this
   ·have eg : gen (m + 1) (.mk o i s [a, b]) c t = NGe.leaf o i s t (row (gen m) [a, b] c t) := by rw [gen, if_neg h29, if_neg (by omega)]
    have er : row (gen m) [a, b] c t = ((gen m a c t).1 ++ (gen m b (c + (gen m a c t).1.length) (t + (gen m a c t).2.length)).1, (gen m a c t).2 ++ (gen m b (c + (gen m a c t).1.length) (t + (gen m a c t).2.length)).2) := by simp [row]
    rw [eg, er] at hat hta ⊢
    unfold NGe.leaf at hat hta ⊢
    simp only [List.length_append, List.length_cons, List.length_nil, Nat.zero_add] at hat hta ⊢
    obtain ⟨h4, h5⟩ := at_app hat
    obtain ⟨hatA, hatB⟩ := at_app h4
    obtain ⟨h6, -⟩ := ta_app hta
    obtain ⟨htA, htB⟩ := ta_app h6
    obtain ⟨hL, -⟩ := at_cons h5
    have kA := ih a c t (h3 a (by simp)) (z4 a (by simp)) (p2 a (by simp)) hatA htA
    have kB := ih b _ _ (h3 b (by simp)) (z4 b (by simp)) (p2 b (by simp)) hatB htB
    rw [List.length_append, <- Nat.add_assoc] at hL
    have := sr_two kA kB hL (by omega)
    unfold node
    rw [if_neg (by omega), if_neg (by omega), if_neg (by omega), if_neg (by omega), if_neg (by omega), if_neg h29, if_neg (by omega), hp0]
    have hs2 : snd2 o i s (JPure.evL (rh S) [a, b]) = JPure.ev (rh S) b := by
     unfold snd2
     rw [if_neg (by omega), if_neg (by omega), if_neg (by omega), hp1]
    rw [hs2]
    rw [<- Nat.add_assoc, <- Nat.add_assoc]
    exact this
  ·obtain ⟨a, b, d, rfl⟩ := three_of hn
   subst ho
   have hp0 : (JPure.evL (rh S) [a, b, d]).getD 0 (.error 0) = JPure.ev (rh S) a := JPure.evL_get (rh S) [a, b, d] 0 (by simp)
   have hp1 : (JPure.evL (rh S) [a, b, d]).getD 1 (.error 0) = JPure.ev (rh S) b := JPure.evL_get (rh S) [a, b, d] 1 (by simp)
   have hp2 : (JPure.evL (rh S) [a, b, d]).getD 2 (.error 0) = JPure.ev (rh S) d := JPure.evL_get (rh S) [a, b, d] 2 (by simp)
   obtain ⟨A, hA⟩ : ∃ A, gen m a c t = A := ⟨_, rfl⟩
   obtain ⟨B, hB⟩ : ∃ B, gen m b (c + A.1.length + 1) (t + A.2.length) = B := ⟨_, rfl⟩
   obtain ⟨D, hD⟩ : ∃ D, gen m d (c + A.1.length + 1 + B.1.length + 1) (t + A.2.length + B.2.length) = D := ⟨_, rfl⟩
   have eg : gen (m + 1) (.mk 31 i s [a, b, d]) c t = NGe.three c A B D := by
    rw [gen, if_neg (by omega), if_pos rfl]
    show NGe.choice (gen m) a b d c t = _
    unfold NGe.choice NGe.choice2
    rw [hA, hB, hD]
   rw [eg] at hat hta ⊢
   obtain ⟨hatA, h5⟩ := at_app hat
   obtain ⟨h6, htD⟩ := ta_app hta
   obtain ⟨htA, htB⟩ := ta_app h6
   obtain ⟨-, h5⟩ := at_cons h5
   obtain ⟨hatB, h5⟩ := at_app h5
   obtain ⟨-, hatD⟩ := at_cons h5
   have kA := ih a c t (h3 a (by simp)) (z4 a (by simp)) (p2 a (by simp)) (by rw [hA]; exact hatA) (by rw [hA]; exact htA)
   rw [hA] at kA
   have kB := ih b (c + A.1.length + 1) (t + A.2.length) (h3 b (by simp)) (z4 b (by simp)) (p2 b (by simp)) (by rw [hB]; exact hatB) (by rw [hB]; exact htB)
   rw [hB] at kB
   have kD := ih d (c + A.1.length + 1 + B.1.length + 1) (t + A.2.length + B.2.length) (h3 d (by simp)) (z4 d (by simp)) (p2 d (by simp)) (by rw [hD]; exact hatD) (by rw [hD]; rw [List.length_append, <- Nat.add_assoc] at htD; exact htD)
   rw [hD] at kD
   have := sr_three kA kB kD hat
   unfold node
   rw [if_neg (by omega), if_neg (by omega), if_neg (by omega), if_neg (by omega), if_neg (by omega), if_neg (by omega), if_pos rfl, hp0, hp1, hp2]
   exact this
end Go.Proofs.YthjbknncbhkinaaGreatDoor.NRu

import Derived.Deep.RegionWith
import Derived.Laws.Entries
import Derived.Laws.ResultCell
import Derived.LoopN
import Derived.LoopTactic
import Derived.Test.YtiijfmdfccdagaaGreatDoorPA01
import Derived.Test.YtiijfmdfccdagaaGreatDoorPA02
open Go.Proofs.Tryz
set_option linter.unusedVariables false
namespace Go.Proofs.YtiijfmdfccdagaaGreatDoor.Eq
open Go.RowKit Base
def eqB (a b : ByteArray) : Bool := a.toList == b.toList
def eqN : List ByteArray -> List ByteArray -> Bool
 | [], [] => true
 | a :: xs, b :: bs => eqB a b && eqN xs bs
 | _, _ => false
def sameL : List C -> List C -> Bool
 | [], [] => true
 | .mk k b i s n l :: cs, .mk k' b' i' s' n' l' :: ds => (decide (k = k') && (if k = 2 then b == b' else if k = 3 then i == i' else if k = 4 then eqB s s' else if k = 5 then sameL l l' else if k = 6 then eqN n n' && sameL l l' else true)) && sameL cs ds
 | _, _ => false
def same : C -> C -> Bool
 | .mk k b i s n l, .mk k' b' i' s' n' l' => decide (k = k') && (if k = 2 then b == b' else if k = 3 then i == i' else if k = 4 then eqB s s' else if k = 5 then sameL l l' else if k = 6 then eqN n n' && sameL l l' else true)
theorem sameL_cons (c d : C) (cs ds : List C) : sameL (c :: cs) (d :: ds) = (same c d && sameL cs ds) := by
 obtain ⟨k, b, i, s, n, l⟩ := c
 obtain ⟨k', b', i', s', n', l'⟩ := d
 rw [sameL, same]
theorem eqB_eq {a b : ByteArray} : eqB a b = true ↔ a = b := by
 unfold eqB
 rw [beq_iff_eq, ByteArray.toList_eq, ByteArray.toList_eq]
 constructor
 ·intro h
  apply ByteArray.ext
  exact Array.toList_inj.1 h
 ·rintro rfl; rfl
theorem eqN_len {L M : List ByteArray} (h : L.length ≠ M.length) : eqN L M = false := by
 induction L generalizing M with
 | nil => cases M with
  | nil => simp at h
  | cons b bs => rfl
 | cons a xs ih => cases M with
  | nil => rfl
  | cons b bs =>
   rw [eqN, ih (by simpa using h)]
   simp
theorem eqN_iff {L M : List ByteArray} (h : L.length = M.length) : eqN L M = true ↔ ∀ j (h1 : j < L.length) (h2 : j < M.length), eqB L[j] M[j] = true := by
 induction L generalizing M with
 | nil => cases M with
  | nil => simp [eqN]
  | cons b bs => simp at h
 | cons a xs ih => cases M with
  | nil => simp at h
  | cons b bs =>
   rw [eqN, Bool.and_eq_true, ih (by simpa using h)]
   constructor
   ·rintro ⟨h1, h2⟩ j hj hj'
    cases j with
    | zero => exact h1
    | succ j => exact h2 j (by simpa using hj) (by simpa using hj')
   ·intro hh
    exact ⟨hh 0 (by simp) (by simp), fun j h1 h2 => hh (j + 1) (by simpa using h1) (by simpa using h2)⟩
theorem sameL_len {L M : List C} (h : L.length ≠ M.length) : sameL L M = false := by
 induction L generalizing M with
 | nil => cases M with
  | nil => simp at h
  | cons b bs => simp [sameL]
 | cons a xs ih => cases M with
  | nil => simp [sameL]
  | cons b bs =>
   rw [sameL_cons, ih (by simpa using h)]
   simp
theorem sameL_iff {L M : List C} (h : L.length = M.length) : sameL L M = true ↔ ∀ j (h1 : j < L.length) (h2 : j < M.length), same L[j] M[j] = true := by
 induction L generalizing M with
 | nil => cases M with
  | nil => simp [sameL]
  | cons b bs => simp at h
 | cons a xs ih => cases M with
  | nil => simp at h
  | cons b bs =>
   rw [sameL_cons, Bool.and_eq_true, ih (by simpa using h)]
   constructor
   ·rintro ⟨h1, h2⟩ j hj hj'
    cases j with
    | zero => exact h1
    | succ j => exact h2 j (by simpa using hj) (by simpa using hj')
   ·intro hh
    exact ⟨hh 0 (by simp) (by simp), fun j h1 h2 => hh (j + 1) (by simpa using h1) (by simpa using h2)⟩
theorem false_of {b : Bool} (h : ¬ b = true) : b = false := by simpa using h
theorem eqT_c (u v : Value) (L M : List ByteArray) (w : World) (hu : Tx false All w u L) (hv : Tx false All w v M) :
  Calls prog 38 #[u, v] w fun e w' => e = .returned (.bool (eqN L M)) /\ Below w.heap.size w w' := by
 obtain ⟨a, cap, rfl, hlc, hm, hlen, hsz, hnil, hN⟩ := hu.out
 obtain ⟨a', cap', rfl, hlc', hm', hlen', hsz', hnil', hN'⟩ := hv.out
 clear hu hv hsz hsz'
 by_cases hne : L.length = M.length
 ·have HI := eqN_iff hne
  generalize eqN L M = R at *
  have hne' : ((L.length : Int) != (M.length : Int)) = false := by simp; omega
  have HH := hid HI
  clear HI
  go_enter func38, ntmps38
  go_wp2_with fail
  go_loopw [13] (fun i wr => ∃ q : Nat, q <= L.length /\ i = .int .i64 q /\ (∀ j (h1 : j < L.length) (h2 : j < M.length), j < q -> eqB L[j] M[j] = true) /\ Below w.heap.size w wr) (fun i _ => L.length - (intOf i).toNat)
  case atStart => exact ⟨0, by omega, rfl, fun j _ _ h => by omega, Below.refl _ _⟩
  case round =>
   obtain ⟨q, hq, rfl, hall, hb⟩ := hrel
   by_cases hlt : q < L.length
   ·have hlt2 : q < M.length := by omega
    obtain ⟨g, o, rfl, -, hc⟩ := name_at hN hlt
    obtain ⟨g', o', rfl, -, hc'⟩ := name_at hN' hlt2
    have hc := below_cell hc hb
    have hc' := below_cell hc' hb
    have hb' := hb.drew
    have HA := hid hall
    obtain ⟨x, hx⟩ : ∃ x, L[q] = x := ⟨_, rfl⟩
    obtain ⟨y, hy⟩ : ∃ y, M[q] = y := ⟨_, rfl⟩
    have HX := hid hx
    have HY := hid hy
    rw [hx] at hc
    rw [hy] at hc'
    clear hN hN' hall hx hy
    cases he : (x.toList == y.toList) with
    | true =>
     have he' := he
     go_wp2_with fail
     go_region
     all_goals go_wp2_with fail
     all_goals go_roundw
     all_goals first
      | (case rel =>
        refine ⟨q + 1, by omega, by go_num, fun j h1 h2 hj => ?_, hb'⟩
        by_cases e : j = q
        ·subst e
         rw [HX.out, HY.out]
         exact he'
        ·exact HA.out j h1 h2 (by omega))
      | (case measure => simp only [intOf]; omega)
    | false =>
     have he' : ¬ eqB x y = true := by unfold eqB; rw [he]; simp
     have hR : R = false := false_of fun h => he' (by have := HH.out.1 h q hlt hlt2; rwa [HX.out, HY.out] at this)
     subst hR
     go_wp2_with fail
     go_region
     all_goals go_wp2_with fail
     all_goals go_ret
     all_goals exact ⟨rfl, hb'⟩
   ·have hlt' : decide ((q : Int) < (L.length : Int)) = false := by simp; omega
    have hR : R = true := HH.out.2 fun j h1 h2 => hall j h1 h2 (by omega)
    subst hR
    clear hall
    go_wp2_with fail
    go_ret
    exact ⟨rfl, hb⟩
 ·rw [eqN_len hne]
  have hne' : ((L.length : Int) != (M.length : Int)) = true := by simp; omega
  go_enter func38, ntmps38
  go_wp2_with fail
  go_ret
  exact ⟨rfl, Below.refl _ _⟩
end Go.Proofs.YtiijfmdfccdagaaGreatDoor.Eq
namespace Go.Proofs.YtiijfmdfccdagaaGreatDoor.Part
open Go.RowKit Base Fresh Go.Proofs.YtiijfmdfccdagaaGreatDoor.Eq
def fi (L : List ByteArray) (x : ByteArray) : Option Nat := L.findIdx? (eqB x)
def fiI (L : List ByteArray) (x : ByteArray) : Int := match fi L x with | none => -1 | some j => j
theorem fi_some {L : List ByteArray} {x : ByteArray} {q : Nat} (h : q < L.length) (he : eqB x L[q] = true) (hn : ∀ j (h : j < L.length), j < q -> eqB x L[j] = false) : fi L x = some q :=
 List.findIdx?_eq_some_iff_getElem.2 ⟨h, he, fun j hj => by rw [hn j (by omega) hj]; simp⟩
theorem fi_none {L : List ByteArray} {x : ByteArray} (hn : ∀ j (h : j < L.length), eqB x L[j] = false) : fi L x = none := by
 apply List.findIdx?_eq_none_iff.2
 intro y hy
 obtain ⟨j, hj, rfl⟩ := List.mem_iff_getElem.1 hy
 exact hn j hj
theorem fi_lt {L : List ByteArray} {x : ByteArray} {q : Nat} (h : fi L x = some q) : q < L.length := (List.findIdx?_eq_some_iff_getElem.1 h).1
theorem index_c (v : Value) (L : List ByteArray) (x : ByteArray) (w : World) (h : Tx false All w v L) :
  Calls prog 160 #[v, .string x] w fun e w' => e = .returned (.int .i64 (fiI L x)) /\ Below w.heap.size w w' := by
 obtain ⟨a, cap, rfl, hlc, hm, hlen, hsz, hnil, hN⟩ := h.out
 clear h hsz
 have H1 : Hid (∀ q (h : q < L.length), eqB x L[q] = true -> (∀ j (h : j < L.length), j < q -> eqB x L[j] = false) -> fiI L x = q) := fun q h he hn => by
  unfold fiI
  rw [fi_some h he hn]
 have H2 : Hid ((∀ j (h : j < L.length), eqB x L[j] = false) -> fiI L x = -1) := fun hn => by
  unfold fiI
  rw [fi_none hn]
 generalize fiI L x = R at *
 go_enter func160, ntmps160
 go_wp2_with fail
 go_loopw [8] (fun i wr => ∃ q : Nat, q <= L.length /\ i = .int .i64 q /\ (∀ j (h : j < L.length), j < q -> eqB x L[j] = false) /\ Below w.heap.size w wr) (fun i _ => L.length - (intOf i).toNat)
 case atStart => exact ⟨0, by omega, rfl, fun j _ h => by omega, Below.refl _ _⟩
 case round =>
  obtain ⟨q, hq, rfl, hall, hb⟩ := hrel
  by_cases hlt : q < L.length
  ·obtain ⟨g, o, rfl, -, hc⟩ := name_at hN hlt
   have hc := below_cell hc hb
   have HA := hid hall
   obtain ⟨y, hy⟩ : ∃ y, L[q] = y := ⟨_, rfl⟩
   have HY := hid hy
   rw [hy] at hc
   clear hN hall hy
   cases he : (x.toList == y.toList) with
   | true =>
    have hR : R = q := H1.out q hlt (by rw [HY.out]; exact he) HA.out
    subst hR
    go_wp2_with fail
    go_ret
    exact ⟨rfl, hb⟩
   | false =>
    have he' := he
    go_wp2_with fail
    go_roundw
    case rel =>
     refine ⟨q + 1, by omega, by go_num, fun j h1 hj => ?_, hb⟩
     by_cases e : j = q
     ·subst e
      rw [HY.out]
      exact he'
     ·exact HA.out j h1 (by omega)
    case measure => simp only [intOf]; omega
  ·have hlt' : decide ((q : Int) < (L.length : Int)) = false := by simp; omega
   have hR : R = -1 := H2.out fun j h => hall j h (by omega)
   subst hR
   clear hall
   go_wp2_with fail
   go_ret
   exact ⟨rfl, hb⟩
theorem res_row_tmp {P : Program} {fn : Func} {p u : Tmp} {ty : TypeId} (h : fn.results = #[.cell p ty, .tmp u]) (tmps : Array Value) (w : World) (g : Nat) (t : TypeId) (cs : Array Value) (fr : Nat × Nat) (d : TypeDesc)
  (hp : tmps.getD p undef = .pointer (some ⟨g, 0, none⟩)) (hg : w.heap[g]? = some (.cells cs t fr)) (hu : P.underlying ty = some d) (hd : (match d with | .struct _ | .array _ _ => true | _ => false) = true) (hi : (P.info? ty).map (·.size) = some cs.size) :
  (results fn tmps).run P w = .ok (.tuple #[.agg cs, tmps.getD u undef]) w := by
 rw [results_cell_tmp h, hp]
 simp [asAddr, run_loadVar_row w g t ty cs fr d hg hu hd hi, Result.andThen]
end Go.Proofs.YtiijfmdfccdagaaGreatDoor.Part
namespace Go.Proofs.YtiijfmdfccdagaaGreatDoor.VPure
open Go.RowKit Base EPure Sums
def nulC : C := .mk 1 false 0 ⟨#[]⟩ [] []
def booC (b : Bool) : C := .mk 2 b 0 ⟨#[]⟩ [] []
def intC (i : Int) : C := .mk 3 false i ⟨#[]⟩ [] []
def strC (s : ByteArray) : C := .mk 4 false 0 s [] []
def zerC : C := .mk 0 false 0 ⟨#[]⟩ [] []
abbrev Ans := Except Nat C
def bnd {α β : Type} (x : Except Nat α) (f : α -> Except Nat β) : Except Nat β := match x with
 | .error e => .error e
 | .ok a => f a
def isT (c : C) : Except Nat Bool := if c.k = 2 then .ok c.b else .error 1101
def chkI (x e0 : Int) : Except Nat Int := if e0 = 100 then .error 1102 else if e0 = 101 then .error 1103 else if e0 = 102 then .error 1104 else .ok x
def twI (k1 k2 x e0 : Int) : Except Nat Int := if k1 = 3 then (if k2 = 3 then chkI x e0 else .error 1101) else .error 1101
def mapI : Except Nat Int -> Ans
 | .error e => .error e
 | .ok x => .ok (intC x)
def wh (o x y : Int) : Int × Int :=
 if o = 12 then (num (x * y), err (x * y))
 else if o = 13 then (WhA.dnum x y, WhA.derr x y)
 else if o = 14 then (WhA.mnum x y, WhA.merr y)
 else if o = 15 then (num (x + y), err (x + y))
 else if o = 16 then (num (x - y), err (x - y))
 else if o = 18 then (if 0 <= y /\ y <= 63 then (num (x * 2 ^ y.toNat), err (x * 2 ^ y.toNat)) else (0, 102))
 else (if 0 <= y /\ y <= 63 then (x / 2 ^ y.toNat, 0) else (0, 102))
def numb (o : Int) (a b : C) : Ans := mapI (twI a.k b.k (wh o a.i b.i).1 (wh o a.i b.i).2)
def txt (c : C) : Except Nat ByteArray := if TextKey.te c = 0 then .ok (TextKey.tx c) else .error 1101
def cat (a b : C) : Ans := bnd (txt a) fun x => bnd (txt b) fun y => if 4096 < x.size + y.size then .error 1107 else .ok (strC (x ++ y))
def ord (k1 i1 : Int) (s1 : ByteArray) (k2 i2 : Int) (s2 : ByteArray) : Except Nat Int := if k1 = 4 /\ k2 = 4 then .ok (Lib.compareBytes s1.data.toList s2.data.toList) else if k1 = 3 then (if k2 = 3 then .ok (Lib.compareInt i1 i2) else .error 1101) else .error 1101
def ordL (a b : C) : Ans := bnd (ord a.k a.i a.s b.k b.i b.s) fun c => .ok (booC (decide (c < 0)))
def ordM (a b : C) : Ans := bnd (ord a.k a.i a.s b.k b.i b.s) fun c => .ok (booC (decide (c <= 0)))
def bit (o x y : Int) : Int := if o = 20 then Go.bits .and .i64 x y else if o = 21 then Go.bits .xor .i64 x y else Go.bits .or .i64 x y
def twX (k1 k2 x : Int) : Except Nat Int := if k1 = 3 then (if k2 = 3 then .ok x else .error 1101) else .error 1101
def tun (n x : Int) : Int := if n = 3 then (x + 128) % 256 - 128 else if n = 4 then x % 256 else if n = 5 then (x + 32768) % 65536 - 32768 else if n = 6 then x % 65536 else if n = 7 then (x + 2147483648) % 4294967296 - 2147483648 else x % 4294967296
def prtR (k1 : Int) (n : List ByteArray) (l : List C) (k2 i2 : Int) (s2 : ByteArray) : Ans := if k1 = 5 then (if k2 = 3 then (if i2 < 0 \/ (l.length : Int) <= i2 then .error 1106 else .ok (l.getD i2.toNat zerC)) else .error 1101)
 else if k1 = 6 /\ k2 = 4 then (match Part.fi n s2 with
  | none => .error 1105
  | some q => .ok (l.getD q zerC)) else .error 1101
def prt (a b : C) : Ans := prtR a.k a.n a.l b.k b.i b.s
def mapS : Except Nat ByteArray -> Ans
 | .error e => .error e
 | .ok x => .ok (strC x)
def lenI (k : Int) (s : ByteArray) (n : Nat) : Except Nat Int := if k = 4 then .ok (s.size : Int) else if k = 5 \/ k = 6 then .ok (n : Int) else .error 1101
def tunI (n k i : Int) : Except Nat Int := if k = 3 then .ok (tun n i) else .error 1101
def cal (a : C) (n : Int) : Ans := if n = 1 then mapI (lenI a.k a.s a.l.length) else if n = 2 then mapS (txt a) else mapI (tunI n a.k a.i)
def notT (k : Int) (b : Bool) : Except Nat Bool := if k = 2 then .ok (!b) else .error 1101
def mapB : Except Nat Bool -> Ans
 | .error e => .error e
 | .ok x => .ok (booC x)
def pr2 (o : Int) (a b : C) : Ans := if o = 17 then cat a b else if o = 10 then numb 16 (intC 0) a else if o = 23 then ordL a b else if o = 24 then ordM a b else if o = 25 then ordL b a else if o = 26 then ordM b a else if o = 27 then .ok (booC (Eq.same a b)) else if o = 28 then .ok (booC (!(Eq.same a b))) else if o = 7 \/ o = 8 then prt a b else if o = 9 then cal a b.i else if o = 11 then mapB (notT a.k a.b) else if o = 20 \/ o = 21 \/ o = 22 then mapI (twX a.k b.k (bit o a.i b.i)) else numb o a b
def snd2 (o i : Int) (s : ByteArray) (p : List Ans) : Ans := if o = 7 then .ok (strC s) else if o = 9 then .ok (intC i) else if o = 10 \/ o = 11 then .ok zerC else p.getD 1 (.error 0)
def node (ρ : ByteArray -> Option C) (o i : Int) (s : ByteArray) (p : List Ans) : Ans :=
 if o = 1 then .ok nulC
 else if o = 2 \/ o = 3 then .ok (booC (decide (o = 3)))
 else if o = 4 then .ok (intC i)
 else if o = 5 then .ok (strC s)
 else if o = 6 then (match ρ s with
  | none => .error 1100
  | some c => .ok c)
 else if o = 29 \/ o = 30 then bnd (bnd (p.getD 0 (.error 0)) isT) fun b => if b = decide (o = 30) then .ok (booC (decide (o = 30))) else bnd (bnd (p.getD 1 (.error 0)) isT) fun c => .ok (booC c)
 else if o = 31 then bnd (bnd (p.getD 0 (.error 0)) isT) fun b => if b = true then p.getD 1 (.error 0) else p.getD 2 (.error 0)
 else bnd (p.getD 0 (.error 0)) fun a => bnd (snd2 o i s p) fun b => pr2 o a b
def evL (ρ : ByteArray -> Option C) : List Ex -> List Ans
 | [] => []
 | .mk o i s l :: t => node ρ o i s (evL ρ l) :: evL ρ t
def wfL : List C -> Prop
 | [] => True
 | .mk k b i s n l :: t => ((k = 6 -> n.length <= l.length) /\ wfL l) /\ wfL t
def wf (c : C) : Prop := (c.k = 6 -> c.n.length <= c.l.length) /\ wfL c.l
theorem wfL_cons {c : C} {t : List C} : wfL (c :: t) ↔ wf c /\ wfL t := by
 obtain ⟨k, b, i, s, n, l⟩ := c
 rw [wfL]
 exact Iff.rfl
theorem wfL_get : ∀ {l : List C}, wfL l -> ∀ q, wf (l.getD q zerC)
 | [], _, q => by rw [List.getD_nil]; exact ⟨fun h => by simp [zerC, C.k] at h, by rw [show zerC.l = [] from rfl, wfL]; trivial⟩
 | c :: t, h, 0 => by simpa using (wfL_cons.1 h).1
 | c :: t, h, q + 1 => by simpa using wfL_get (wfL_cons.1 h).2 q
theorem wf_one {k i : Int} {b : Bool} {s : ByteArray} (h : k ≠ 6) : wf (.mk k b i s [] []) := ⟨fun e => (h e).elim, by show wfL []; rw [wfL]; trivial⟩
theorem mapI_wf {x : Except Nat Int} {c : C} (h : mapI x = .ok c) : wf c := by
 cases x with
 | error e => cases h
 | ok y => injection h with h; rw [<- h]; exact wf_one (by decide)
theorem pr2_wf {o : Int} {a b c : C} (ha : wf a) (h : pr2 o a b = .ok c) : wf c := by
 have hb : ∀ {B : Bool}, (Except.ok (booC B) : Ans) = .ok c -> wf c := fun h => by injection h with h; rw [<- h]; exact wf_one (by decide)
 have hoL : ∀ {x : Except Nat Int} {f : Int -> Bool}, (bnd x fun c => .ok (booC (f c))) = (.ok c : Ans) -> wf c := fun {x f} h => by
  cases x with
  | error e => cases h
  | ok y => exact hb h
 unfold pr2 at h
 by_cases q : o = 17
 ·rw [if_pos q] at h
  unfold cat at h
  revert h
  generalize txt a = x
  generalize txt b = y
  intro h
  cases x with
  | error e => cases h
  | ok x =>
   cases y with
   | error e => cases h
   | ok y =>
    simp only [bnd] at h
    by_cases q : 4096 < x.size + y.size
    ·rw [if_pos q] at h; cases h
    ·rw [if_neg q] at h; injection h with h; rw [<- h]; exact wf_one (by decide)
 rw [if_neg q] at h
 clear q
 by_cases q : o = 10
 ·rw [if_pos q] at h
  exact mapI_wf h
 rw [if_neg q] at h
 clear q
 by_cases q : o = 23
 ·rw [if_pos q] at h
  exact hoL h
 rw [if_neg q] at h
 clear q
 by_cases q : o = 24
 ·rw [if_pos q] at h
  exact hoL h
 rw [if_neg q] at h
 clear q
 by_cases q : o = 25
 ·rw [if_pos q] at h
  exact hoL h
 rw [if_neg q] at h
 clear q
 by_cases q : o = 26
 ·rw [if_pos q] at h
  exact hoL h
 rw [if_neg q] at h
 clear q
 by_cases q : o = 27
 ·rw [if_pos q] at h
  exact hb h
 rw [if_neg q] at h
 clear q
 by_cases q : o = 28
 ·rw [if_pos q] at h
  exact hb h
 rw [if_neg q] at h
 clear q
 by_cases q : o = 7 \/ o = 8
 ·rw [if_pos q] at h
  unfold prt prtR at h
  by_cases q5 : a.k = 5
  ·rw [if_pos q5] at h
   by_cases q3 : b.k = 3
   ·rw [if_pos q3] at h
    by_cases qi : b.i < 0 \/ (a.l.length : Int) <= b.i
    ·rw [if_pos qi] at h; cases h
    ·rw [if_neg qi] at h; injection h with h; rw [<- h]; exact wfL_get ha.2 _
   ·rw [if_neg q3] at h; cases h
  ·rw [if_neg q5] at h
   by_cases q6 : a.k = 6 /\ b.k = 4
   ·rw [if_pos q6] at h
    cases hf : Part.fi a.n b.s with
    | none => rw [hf] at h; cases h
    | some q => rw [hf] at h; injection h with h; rw [<- h]; exact wfL_get ha.2 _
   ·rw [if_neg q6] at h; cases h
 rw [if_neg q] at h
 clear q
 by_cases q : o = 9
 ·rw [if_pos q] at h
  unfold cal at h
  by_cases q1 : b.i = 1
  ·rw [if_pos q1] at h; exact mapI_wf h
  rw [if_neg q1] at h
  by_cases q2 : b.i = 2
  ·rw [if_pos q2] at h
   revert h
   generalize txt a = x
   intro h
   cases x with
   | error e => cases h
   | ok x => injection h with h; rw [<- h]; exact wf_one (by decide)
  ·rw [if_neg q2] at h; exact mapI_wf h
 rw [if_neg q] at h
 clear q
 by_cases q : o = 11
 ·rw [if_pos q] at h
  unfold notT at h
  by_cases q2 : a.k = 2
  ·rw [if_pos q2] at h; exact hb h
  ·rw [if_neg q2] at h; cases h
 rw [if_neg q] at h
 clear q
 by_cases q : o = 20 \/ o = 21 \/ o = 22
 ·rw [if_pos q] at h
  exact mapI_wf h
 rw [if_neg q] at h
 clear q
 exact mapI_wf h
theorem node_wf {ρ : ByteArray -> Option C} (hρ : ∀ s c, ρ s = some c -> wf c) {o i : Int} {s : ByteArray} {p : List Ans} (hp : ∀ q c, p.getD q (.error 0) = .ok c -> wf c) {c : C} (h : node ρ o i s p = .ok c) : wf c := by
 have hb : ∀ {k i : Int} {b : Bool} {s : ByteArray}, k ≠ 6 -> (Except.ok (.mk k b i s [] []) : Ans) = .ok c -> wf c := fun hk h => by injection h with h; rw [<- h]; exact wf_one hk
 unfold node at h
 by_cases q : o = 1
 ·rw [if_pos q] at h
  exact hb (by decide) h
 rw [if_neg q] at h
 clear q
 by_cases q : o = 2 \/ o = 3
 ·rw [if_pos q] at h
  exact hb (by decide) h
 rw [if_neg q] at h
 clear q
 by_cases q : o = 4
 ·rw [if_pos q] at h
  exact hb (by decide) h
 rw [if_neg q] at h
 clear q
 by_cases q : o = 5
 ·rw [if_pos q] at h
  exact hb (by decide) h
 rw [if_neg q] at h
 clear q
 by_cases q : o = 6
 ·rw [if_pos q] at h
  cases e : ρ s with
  | none => rw [e] at h; cases h
  | some c' => rw [e] at h; injection h with h; rw [<- h]; exact hρ _ _ e
 rw [if_neg q] at h
 clear q
 by_cases q : o = 29 \/ o = 30
 ·rw [if_pos q] at h
  revert h
  generalize bnd (p.getD 0 (.error 0)) isT = x
  generalize bnd (p.getD 1 (.error 0)) isT = y
  intro h
  cases x with
  | error e => cases h
  | ok b =>
   simp only [bnd] at h
   by_cases q : b = decide (o = 30)
   ·rw [if_pos q] at h; exact hb (by decide) h
   ·rw [if_neg q] at h
    cases y with
    | error e => cases h
    | ok b => exact hb (by decide) h
 rw [if_neg q] at h
 clear q
 by_cases q : o = 31
 ·rw [if_pos q] at h
  revert h
  generalize bnd (p.getD 0 (.error 0)) isT = x
  intro h
  cases x with
  | error e => cases h
  | ok b =>
   simp only [bnd] at h
   by_cases q : b = true
   ·rw [if_pos q] at h; exact hp _ _ h
   ·rw [if_neg q] at h; exact hp _ _ h
 rw [if_neg q] at h
 clear q
 cases hx : p.getD 0 (.error 0) with
 | error e => rw [hx] at h; cases h
 | ok a =>
  rw [hx] at h
  have ha := hp _ _ hx
  simp only [bnd] at h
  revert h
  generalize snd2 o i s p = y
  intro h
  cases y with
  | error e => cases h
  | ok b => exact pr2_wf ha h
def opsL (P : Int -> Prop) : List Ex -> Prop
 | [] => True
 | .mk o i s l :: t => (P o /\ opsL P l) /\ opsL P t
theorem opsL_cons {P : Int -> Prop} {x : Ex} {t : List Ex} : opsL P (x :: t) ↔ (P x.o /\ opsL P x.l) /\ opsL P t := by
 obtain ⟨o, i, s, l⟩ := x
 rw [opsL]
 exact Iff.rfl
def ops (P : Int -> Prop) (x : Ex) : Prop := P x.o /\ opsL P x.l
theorem opsL_get {P : Int -> Prop} : ∀ {l : List Ex}, opsL P l -> ∀ {j : Nat} (h : j < l.length), ops P l[j]
 | [], _, _, h => absurd h (by simp)
 | x :: t, hg, 0, _ => (opsL_cons.1 hg).1
 | x :: t, hg, j + 1, h => opsL_get (opsL_cons.1 hg).2 (j := j) (by simpa using h)
end Go.Proofs.YtiijfmdfccdagaaGreatDoor.VPure
namespace Go.Proofs.YtiijfmdfccdagaaGreatDoor.VSm
open Go.RowKit Base
def pkE (c : Nat) : List PanicEntry := [{ v := .iface 30 (.int .i64 (c : Nat)), recovered := false }]
abbrev vl (k : Int) (b : Bool) (i : Int) (s : ByteArray) (nv lv : Value) : Value := .agg #[.int .i64 k, .bool b, .int .i64 i, .string s, nv, lv]
abbrev v0 (k : Int) (b : Bool) (i : Int) (s : ByteArray) : Value := vl k b i s (.slice none 0 0) (.slice none 0 0)
theorem two2 (w : World) (c1 c2 : Array Value) : ∃ W0, (w.alloc (.cells c1 26)).alloc (.cells c2 26) = W0 /\ W0.heap.size = w.heap.size + 2 /\ Below w.heap.size w W0 /\ W0.heap[w.heap.size]? = some (.cells c1 26 (0, 0)) /\ W0.heap[w.heap.size + 1]? = some (.cells c2 26 (0, 0)) := by
 refine ⟨_, rfl, by simp, ((Below.refl _ w).alloc (Nat.le_refl _) _).alloc (by simp) _, ?_, ?_⟩
 ·rw [Below.heap_alloc _ _ _ (by simp), heap_alloc_new]
 ·have := heap_alloc_new (w.alloc (.cells c1 26)) (.cells c2 26)
  rw [World.size_alloc] at this
  exact this
theorem two3 (w : World) (c1 c2 : Array Value) : ∃ W0, ((w.alloc (.cells c1 26)).alloc (.cells c2 26)).alloc (.cells #[.int .i64 0, .bool false, .int .i64 0, .string ⟨#[]⟩, .slice none 0 0, .slice none 0 0] 26) = W0 /\ W0.heap.size = w.heap.size + 3 /\ Below w.heap.size w W0 /\ W0.heap[w.heap.size]? = some (.cells c1 26 (0, 0)) /\ W0.heap[w.heap.size + 1]? = some (.cells c2 26 (0, 0)) /\ W0.heap[w.heap.size + 2]? = some (.cells #[.int .i64 0, .bool false, .int .i64 0, .string ⟨#[]⟩, .slice none 0 0, .slice none 0 0] 26 (0, 0)) := by
 obtain ⟨W1, h1, h2, h3, h4, h5⟩ := two2 w c1 c2
 rw [h1]
 refine ⟨_, rfl, by simp [h2], h3.alloc (by omega) _, ?_, ?_, ?_⟩
 ·rw [Below.heap_alloc _ _ _ (by omega)]; exact h4
 ·rw [Below.heap_alloc _ _ _ (by omega)]; exact h5
 ·rw [<- h2]; exact heap_alloc_new _ _
theorem three (w : World) (c1 c2 : Array Value) (T1 T2 : TypeId) : ∃ W0, ((w.alloc (.cells c1 T1)).alloc (.cells c2 T2)).alloc (.cells #[.int .i64 0, .bool false, .int .i64 0, .string ⟨#[]⟩, .slice none 0 0, .slice none 0 0] 26) = W0 /\ W0.heap.size = w.heap.size + 3 /\ Below w.heap.size w W0 /\ W0.heap[w.heap.size]? = some (.cells c1 T1 (0, 0)) /\ W0.heap[w.heap.size + 1]? = some (.cells c2 T2 (0, 0)) /\ W0.heap[w.heap.size + 2]? = some (.cells #[.int .i64 0, .bool false, .int .i64 0, .string ⟨#[]⟩, .slice none 0 0, .slice none 0 0] 26 (0, 0)) := by
 refine ⟨_, rfl, by simp, (((Below.refl _ w).alloc (Nat.le_refl _) _).alloc (by simp) _).alloc (by simp; omega) _, ?_, ?_, ?_⟩
 ·rw [Below.heap_alloc _ _ _ (by simp; omega), Below.heap_alloc _ _ _ (by simp), heap_alloc_new]
 ·have := heap_alloc_new (w.alloc (.cells c1 T1)) (.cells c2 T2)
  rw [World.size_alloc] at this
  rw [Below.heap_alloc _ _ _ (by simp)]
  exact this
 ·have := heap_alloc_new ((w.alloc (.cells c1 T1)).alloc (.cells c2 T2)) (.cells #[.int .i64 0, .bool false, .int .i64 0, .string ⟨#[]⟩, .slice none 0 0, .slice none 0 0] 26)
  rw [World.size_alloc, World.size_alloc] at this
  exact this
theorem truth_c (b : Bool) (w : World) : Calls prog 88 #[.bool b] w fun e w' => e = .returned (v0 2 b 0 ⟨#[]⟩) /\ Below w.heap.size w w' := by
 have hr : (w.alloc (.cells #[.int .i64 0, .bool false, .int .i64 0, .string ⟨#[]⟩, .slice none 0 0, .slice none 0 0] 26)).heap[w.heap.size]? = some (.cells #[.int .i64 0, .bool false, .int .i64 0, .string ⟨#[]⟩, .slice none 0 0, .slice none 0 0] 26 (0, 0)) := heap_alloc_new w _
 have hb0 : Below w.heap.size w (w.alloc (.cells #[.int .i64 0, .bool false, .int .i64 0, .string ⟨#[]⟩, .slice none 0 0, .slice none 0 0] 26)) := (Below.refl _ w).alloc (Nat.le_refl _) _
 obtain ⟨W0, hW0⟩ : ∃ W0, w.alloc (.cells #[.int .i64 0, .bool false, .int .i64 0, .string ⟨#[]⟩, .slice none 0 0, .slice none 0 0] 26) = W0 := ⟨_, rfl⟩
 rw [hW0] at hr hb0
 obtain ⟨r0, r1, r2, r3, r4, r5⟩ := six_box hr
 obtain ⟨rf0, rf1, rf2, rf3, rf4, rf5⟩ := Base.frz6 hr
 go_enter func88, ntmps88
 go_wp2_with fail
 obtain ⟨W9, hW9⟩ := stc6 W0 w.heap.size (.int .i64 2) (.bool b) (.int .i64 0) (.string ⟨#[]⟩) (.slice none 0 0) (.slice none 0 0)
 rw [hW9]
 obtain ⟨q1, q2, q3, q4⟩ := set6 _ _ _ _ _ _ hr hW9
 refine bodyPost_ret (results_cell_row rfl _ W9 (w.heap.size) 26 _ (0, 0) _ rfl q1 underlying26 rfl (by kernel_rfl)) rfl ?_
 exact ⟨rfl, q4 _ _ (Nat.le_refl _) hb0⟩
theorem number_c (i : Int) (w : World) : Calls prog 89 #[.int .i64 i] w fun e w' => e = .returned (v0 3 false i ⟨#[]⟩) /\ Below w.heap.size w w' := by
 have hr : (w.alloc (.cells #[.int .i64 0, .bool false, .int .i64 0, .string ⟨#[]⟩, .slice none 0 0, .slice none 0 0] 26)).heap[w.heap.size]? = some (.cells #[.int .i64 0, .bool false, .int .i64 0, .string ⟨#[]⟩, .slice none 0 0, .slice none 0 0] 26 (0, 0)) := heap_alloc_new w _
 have hb0 : Below w.heap.size w (w.alloc (.cells #[.int .i64 0, .bool false, .int .i64 0, .string ⟨#[]⟩, .slice none 0 0, .slice none 0 0] 26)) := (Below.refl _ w).alloc (Nat.le_refl _) _
 obtain ⟨W0, hW0⟩ : ∃ W0, w.alloc (.cells #[.int .i64 0, .bool false, .int .i64 0, .string ⟨#[]⟩, .slice none 0 0, .slice none 0 0] 26) = W0 := ⟨_, rfl⟩
 rw [hW0] at hr hb0
 obtain ⟨r0, r1, r2, r3, r4, r5⟩ := six_box hr
 obtain ⟨rf0, rf1, rf2, rf3, rf4, rf5⟩ := Base.frz6 hr
 go_enter func89, ntmps89
 go_wp2_with fail
 obtain ⟨W9, hW9⟩ := stc6 W0 w.heap.size (.int .i64 3) (.bool false) (.int .i64 i) (.string ⟨#[]⟩) (.slice none 0 0) (.slice none 0 0)
 rw [hW9]
 obtain ⟨q1, q2, q3, q4⟩ := set6 _ _ _ _ _ _ hr hW9
 refine bodyPost_ret (results_cell_row rfl _ W9 (w.heap.size) 26 _ (0, 0) _ rfl q1 underlying26 rfl (by kernel_rfl)) rfl ?_
 exact ⟨rfl, q4 _ _ (Nat.le_refl _) hb0⟩
theorem text_c (s : ByteArray) (w : World) : Calls prog 90 #[.string s] w fun e w' => e = .returned (v0 4 false 0 s) /\ Below w.heap.size w w' := by
 have hr : (w.alloc (.cells #[.int .i64 0, .bool false, .int .i64 0, .string ⟨#[]⟩, .slice none 0 0, .slice none 0 0] 26)).heap[w.heap.size]? = some (.cells #[.int .i64 0, .bool false, .int .i64 0, .string ⟨#[]⟩, .slice none 0 0, .slice none 0 0] 26 (0, 0)) := heap_alloc_new w _
 have hb0 : Below w.heap.size w (w.alloc (.cells #[.int .i64 0, .bool false, .int .i64 0, .string ⟨#[]⟩, .slice none 0 0, .slice none 0 0] 26)) := (Below.refl _ w).alloc (Nat.le_refl _) _
 obtain ⟨W0, hW0⟩ : ∃ W0, w.alloc (.cells #[.int .i64 0, .bool false, .int .i64 0, .string ⟨#[]⟩, .slice none 0 0, .slice none 0 0] 26) = W0 := ⟨_, rfl⟩
 rw [hW0] at hr hb0
 obtain ⟨r0, r1, r2, r3, r4, r5⟩ := six_box hr
 obtain ⟨rf0, rf1, rf2, rf3, rf4, rf5⟩ := Base.frz6 hr
 go_enter func90, ntmps90
 go_wp2_with fail
 obtain ⟨W9, hW9⟩ := stc6 W0 w.heap.size (.int .i64 4) (.bool false) (.int .i64 0) (.string s) (.slice none 0 0) (.slice none 0 0)
 rw [hW9]
 obtain ⟨q1, q2, q3, q4⟩ := set6 _ _ _ _ _ _ hr hW9
 refine bodyPost_ret (results_cell_row rfl _ W9 (w.heap.size) 26 _ (0, 0) _ rfl q1 underlying26 rfl (by kernel_rfl)) rfl ?_
 exact ⟨rfl, q4 _ _ (Nat.le_refl _) hb0⟩
theorem must_t (w : World) : Calls prog 158 #[.bool true] w fun e w' => (∃ v, e = .returned v) /\ w' = w := by
 go_enter func158, ntmps158
 go_wp2_with fail
 go_end0
 exact ⟨⟨_, rfl⟩, rfl⟩
theorem must_f (w : World) : Calls prog 158 #[.bool false] w fun e w' => e = .panicked (pkE 1101) /\ w' = w := by
 unfold pkE
 go_enter func158, ntmps158
 go_wp2_with fail
 exact ⟨rfl, rfl, rfl⟩
def An {α : Type} (w w' : World) (e : Ending) (f : α -> Value) : Except Nat α -> Prop
 | .ok x => e = .returned (f x) /\ Below w.heap.size w w'
 | .error c => e = .panicked (pkE c) /\ Below w.heap.size w w'
theorem isTrue_c (k : Int) (b : Bool) (i : Int) (s : ByteArray) (nv lv : Value) (w : World) : Calls prog 118 #[vl k b i s nv lv] w fun e w' => An w w' e (Value.bool) (if k = 2 then .ok b else .error 1101) := by
 have hp : (w.alloc (.cells #[.int .i64 k, .bool b, .int .i64 i, .string s, nv, lv] 26)).heap[w.heap.size]? = some (.cells #[.int .i64 k, .bool b, .int .i64 i, .string s, nv, lv] 26 (0, 0)) := heap_alloc_new w _
 have hb0 : Below w.heap.size w (w.alloc (.cells #[.int .i64 k, .bool b, .int .i64 i, .string s, nv, lv] 26)) := (Below.refl _ w).alloc (Nat.le_refl _) _
 obtain ⟨W0, hW0⟩ : ∃ W0, w.alloc (.cells #[.int .i64 k, .bool b, .int .i64 i, .string s, nv, lv] 26) = W0 := ⟨_, rfl⟩
 rw [hW0] at hp hb0
 obtain ⟨p0, p1, p2, p3, p4, p5⟩ := six_box hp
 by_cases h : k = 2
 ·subst h
  rw [if_pos rfl]
  have c := must_t W0
  have HB := hid hb0
  clear hb0 hp
  go_enter func118, ntmps118
  go_wp2_with fail
  try rw [hW0]
  refine c.mono ?_
  rintro e w' ⟨⟨v, rfl⟩, rfl⟩
  go_wp2_with fail
  go_ret
  exact ⟨rfl, HB.out⟩
 ·rw [if_neg h]
  have d : (k == 2) = false := by simp [h]
  have c := must_f W0
  have HB := hid hb0
  clear hb0 hp h
  go_enter func118, ntmps118
  go_wp2_with fail
  try rw [hW0]
  refine c.mono ?_
  rintro e w' ⟨rfl, rfl⟩
  exact ⟨rfl, rfl, HB.out⟩
theorem integer_c (k : Int) (b : Bool) (i : Int) (s : ByteArray) (nv lv : Value) (w : World) : Calls prog 159 #[vl k b i s nv lv] w fun e w' => An w w' e (Value.int .i64) (if k = 3 then .ok i else .error 1101) := by
 have hp : (w.alloc (.cells #[.int .i64 k, .bool b, .int .i64 i, .string s, nv, lv] 26)).heap[w.heap.size]? = some (.cells #[.int .i64 k, .bool b, .int .i64 i, .string s, nv, lv] 26 (0, 0)) := heap_alloc_new w _
 have hb0 : Below w.heap.size w (w.alloc (.cells #[.int .i64 k, .bool b, .int .i64 i, .string s, nv, lv] 26)) := (Below.refl _ w).alloc (Nat.le_refl _) _
 obtain ⟨W0, hW0⟩ : ∃ W0, w.alloc (.cells #[.int .i64 k, .bool b, .int .i64 i, .string s, nv, lv] 26) = W0 := ⟨_, rfl⟩
 rw [hW0] at hp hb0
 obtain ⟨p0, p1, p2, p3, p4, p5⟩ := six_box hp
 by_cases h : k = 3
 ·subst h
  rw [if_pos rfl]
  have c := must_t W0
  have HB := hid hb0
  clear hb0 hp
  go_enter func159, ntmps159
  go_wp2_with fail
  try rw [hW0]
  refine c.mono ?_
  rintro e w' ⟨⟨v, rfl⟩, rfl⟩
  go_wp2_with fail
  go_ret
  exact ⟨rfl, HB.out⟩
 ·rw [if_neg h]
  have d : (k == 3) = false := by simp [h]
  have c := must_f W0
  have HB := hid hb0
  clear hb0 hp h
  go_enter func159, ntmps159
  go_wp2_with fail
  try rw [hW0]
  refine c.mono ?_
  rintro e w' ⟨rfl, rfl⟩
  exact ⟨rfl, rfl, HB.out⟩
theorem checked_c (x e0 : Int) (w : World) : Calls prog 121 #[.int .i64 x, .int .i64 e0] w fun e w' => An w w' e (fun c : Int => v0 3 false c ⟨#[]⟩) (if e0 = 100 then .error 1102 else if e0 = 101 then .error 1103 else if e0 = 102 then .error 1104 else .ok x) := by
 have hr : (w.alloc (.cells #[.int .i64 0, .bool false, .int .i64 0, .string ⟨#[]⟩, .slice none 0 0, .slice none 0 0] 26)).heap[w.heap.size]? = some (.cells #[.int .i64 0, .bool false, .int .i64 0, .string ⟨#[]⟩, .slice none 0 0, .slice none 0 0] 26 (0, 0)) := heap_alloc_new w _
 have hb0 : Below w.heap.size w (w.alloc (.cells #[.int .i64 0, .bool false, .int .i64 0, .string ⟨#[]⟩, .slice none 0 0, .slice none 0 0] 26)) := (Below.refl _ w).alloc (Nat.le_refl _) _
 have hs0 : (w.alloc (.cells #[.int .i64 0, .bool false, .int .i64 0, .string ⟨#[]⟩, .slice none 0 0, .slice none 0 0] 26)).heap.size = w.heap.size + 1 := by simp
 obtain ⟨W0, hW0⟩ : ∃ W0, w.alloc (.cells #[.int .i64 0, .bool false, .int .i64 0, .string ⟨#[]⟩, .slice none 0 0, .slice none 0 0] 26) = W0 := ⟨_, rfl⟩
 rw [hW0] at hr hb0 hs0
 by_cases h0 : e0 = 100
 ·subst h0
  rw [if_pos rfl]
  show Calls _ _ _ _ fun e w' => An w w' e _ (.error 1102)
  unfold An pkE
  have HB := hid hb0
  clear hb0 hr
  go_enter func121, ntmps121
  go_wp2_with fail
  try rw [hW0]
  exact ⟨rfl, rfl, HB.out⟩
 by_cases h1 : e0 = 101
 ·subst h1
  rw [if_neg (by decide)]
  rw [if_pos rfl]
  show Calls _ _ _ _ fun e w' => An w w' e _ (.error 1103)
  unfold An pkE
  have HB := hid hb0
  clear hb0 hr
  go_enter func121, ntmps121
  go_wp2_with fail
  try rw [hW0]
  exact ⟨rfl, rfl, HB.out⟩
 by_cases h2 : e0 = 102
 ·subst h2
  rw [if_neg (by decide)]
  rw [if_neg (by decide)]
  rw [if_pos rfl]
  show Calls _ _ _ _ fun e w' => An w w' e _ (.error 1104)
  unfold An pkE
  have HB := hid hb0
  clear hb0 hr
  go_enter func121, ntmps121
  go_wp2_with fail
  try rw [hW0]
  exact ⟨rfl, rfl, HB.out⟩
 rw [if_neg h0, if_neg h1, if_neg h2]
 have d0 : (e0 == 100) = false := by simp [h0]
 have d1 : (e0 == 101) = false := by simp [h1]
 have d2 : (e0 == 102) = false := by simp [h2]
 have c := number_c x W0
 have HR := hid hr
 have HB := hid hb0
 clear hb0 hr h0 h1 h2
 go_enter func121, ntmps121
 go_wp2_with fail
 try rw [hW0]
 refine c.mono ?_
 rintro e W1 ⟨rfl, hb1⟩
 have hr := (hb1.block w.heap.size (by omega)).trans HR.out
 have HB1 := hid (HB.out.trans (hb1.mono HB.out.size))
 clear hb1 c
 obtain ⟨r0, r1, r2, r3, r4, r5⟩ := six_box hr
 obtain ⟨rf0, rf1, rf2, rf3, rf4, rf5⟩ := Base.frz6 hr
 go_wp2_with fail
 obtain ⟨W9, hW9⟩ := stc6 W1 w.heap.size (.int .i64 3) (.bool false) (.int .i64 x) (.string ⟨#[]⟩) (.slice none 0 0) (.slice none 0 0)
 rw [hW9]
 obtain ⟨q1, q2, q3, q4⟩ := set6 _ _ _ _ _ _ hr hW9
 refine bodyPost_ret (results_cell_row rfl _ W9 (w.heap.size) 26 _ (0, 0) _ rfl q1 underlying26 rfl (by kernel_rfl)) rfl ?_
 exact ⟨rfl, q4 _ _ (Nat.le_refl _) HB1.out⟩
end Go.Proofs.YtiijfmdfccdagaaGreatDoor.VSm

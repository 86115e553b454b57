import Derived.Deep.CutBlock
import Derived.Deep.RegionHeld3
import Derived.Deep.RegionWith
import Derived.Laws.Externs
import Derived.Laws.OwnMore
import Derived.Lib.AppendStr
import Derived.Lib.Builder
import Derived.Lib.UnsafeStr
import Derived.Maps.AppendAt
import Derived.Test.YtiijfmdfccdagaaGreatDoorChecked
import Derived.WalkKit
import Derived.Test.YtiijfmdfccdagaaGreatDoorPL00
import Derived.Test.YtiijfmdfccdagaaGreatDoorPL02
import Derived.Test.YtiijfmdfccdagaaGreatDoorPL04
import Derived.Test.YtiijfmdfccdagaaGreatDoorPL15
import Derived.Test.YtiijfmdfccdagaaGreatDoorPL16
open Go.Proofs.Tryz
set_option linter.unusedVariables false
set_option maxRecDepth 20000
set_option maxHeartbeats 6400000
namespace Go.Proofs.YtiijfmdfccdagaaGreatDoor.TBase
open Go.RowKit
theorem infoA : (prog.info? 63).map (fun i => (i.zero, i.size, i.bytes)) = some (some (.agg #[.string ⟨#[]⟩, .string ⟨#[]⟩]), 2, 32) := by kernel_rfl
theorem infoT : (prog.info? 50).map (fun i => (i.zero, i.size, i.bytes)) = some (some (.agg #[.string ⟨#[]⟩, .string ⟨#[]⟩, .slice none 0 0, .slice none 0 0]), 4, 80) := by kernel_rfl
def flatA (L : List (ByteArray × ByteArray)) : List Value := L.flatMap fun t => [.string t.1, .string t.2]
def OwnA (w : World) (B : Nat) (v : Value) (L : List (ByteArray × ByteArray)) : Prop := w.ownsRow B 63 2 v L.length (flatA L)
theorem flatA_append (a b : List (ByteArray × ByteArray)) : flatA (a ++ b) = flatA a ++ flatA b := by simp [flatA]
theorem flatA_get (L : List (ByteArray × ByteArray)) : ∀ (j : Nat) (hj : j < L.length), (flatA L)[j * 2]? = some (.string L[j].1) /\ (flatA L)[j * 2 + 1]? = some (.string L[j].2) := by
 induction L with
 | nil => intro j hj; simp at hj
 | cons t L ih =>
  intro j hj
  have e : flatA (t :: L) = [.string t.1, .string t.2] ++ flatA L := by simp [flatA]
  rw [e]
  cases j with
  | zero => simp
  | succ j =>
   rw [List.getElem?_append_right (by simp; omega), List.getElem?_append_right (by simp; omega)]
   have e2 : (j + 1) * 2 - [Value.string t.1, .string t.2].length = j * 2 := by simp; omega
   have e3 : (j + 1) * 2 + 1 - [Value.string t.1, .string t.2].length = j * 2 + 1 := by simp; omega
   rw [e2, e3]
   exact ih j (by simpa using hj)
theorem ownA_cell {w : World} {B g n cap : Nat} {L : List (ByteArray × ByteArray)} (h : OwnA w B (.slice (some ⟨g, 0, none⟩) n cap) L) (j : Nat) (hj : j < L.length) : Two w g (0 + j * 2) L[j] := by
 have h1 := World.ownsRow.cells (g := g) h rfl (j * 2) _ (flatA_get L j hj).1
 have h2 := World.ownsRow.cells (g := g) h rfl (j * 2 + 1) _ (flatA_get L j hj).2
 rw [add_none] at h1 h2
 exact ⟨h1, h2⟩
def flat (us : List Value) : List Value := us.flatMap fun u => u.cells.toList
def Fours (us : List Value) : Prop := ∀ u ∈ us, ∃ v0 v1 v2 v3, u = .agg #[v0, v1, v2, v3] /\ ∀ x ∈ [v0, v1, v2, v3], x.oneCell' = true
def OwnV (w : World) (B : Nat) (v : Value) (us : List Value) : Prop := w.ownsRow B 50 4 v us.length (flat us) /\ Fours us
theorem flat_append (a b : List Value) : flat (a ++ b) = flat a ++ flat b := by simp [flat]
theorem flat_len {us : List Value} (h : Fours us) : (flat us).length = us.length * 4 := by
 induction us with
 | nil => rfl
 | cons u us ih =>
  obtain ⟨v0, v1, v2, v3, rfl, -⟩ := h u (by simp)
  have := ih (fun x hx => h x (by simp [hx]))
  simp only [flat, List.flatMap_cons, List.length_append] at this ⊢
  simp only [Value.cells, List.length_cons] at this ⊢
  simp [this]
  omega
theorem flat_get {us : List Value} (h : Fours us) : ∀ (j : Nat) (hj : j < us.length) (i : Nat), i < 4 -> (flat us)[j * 4 + i]? = us[j].cells.toList[i]? := by
 induction us with
 | nil => intro j hj; simp at hj
 | cons u us ih =>
  intro j hj i hi
  obtain ⟨v0, v1, v2, v3, rfl, -⟩ := h u (by simp)
  have ih := ih (fun x hx => h x (by simp [hx]))
  have e : flat (.agg #[v0, v1, v2, v3] :: us) = [v0, v1, v2, v3] ++ flat us := by simp [flat, Value.cells]
  rw [e]
  cases j with
  | zero =>
   rw [List.getElem?_append_left (by simp; omega)]
   simp [Value.cells]
  | succ j =>
   rw [List.getElem?_append_right (by simp; omega)]
   have e2 : (j + 1) * 4 + i - [v0, v1, v2, v3].length = j * 4 + i := by simp; omega
   rw [e2, ih j (by simpa using hj) i hi]
   simp
theorem ownV_four {w : World} {B g n cap : Nat} {us : List Value} (h : OwnV w B (.slice (some ⟨g, 0, none⟩) n cap) us) (j : Nat) (hj : j < us.length) : Four w g (0 + j * 4) us[j] := by
 obtain ⟨v0, v1, v2, v3, e, -⟩ := h.2 us[j] (List.getElem_mem hj)
 have hc : ∀ i u, i < 4 -> us[j].cells.toList[i]? = some u -> w.cell? ⟨g, 0 + (j * 4 + i), none⟩ = some u := by
  intro i u hi hu
  rw [<- add_none]
  exact World.ownsRow.cells (g := g) h.1 rfl (j * 4 + i) u (by rw [flat_get h.2 j hj i hi]; exact hu)
 rw [e] at hc ⊢
 refine ⟨v0, v1, v2, v3, rfl, ?_, ?_, ?_, ?_⟩
 ·exact hc 0 v0 (by omega) rfl
 ·exact hc 1 v1 (by omega) rfl
 ·exact hc 2 v2 (by omega) rfl
 ·exact hc 3 v3 (by omega) rfl
theorem new_cells (w : World) (cs : List Value) (t : TypeId) : ∀ j u, cs[j]? = some u -> (w.alloc (.cells cs.toArray t)).cell? ((⟨w.heap.size, 0, none⟩ : Addr).add j) = some u := by
 intro j u hu
 rw [add_none, Nat.zero_add]
 have h := heap_alloc_new w (.cells cs.toArray t)
 have e : (w.alloc (.cells cs.toArray t)).cell? ⟨w.heap.size, j, none⟩ = cs.toArray[j]? := by
  unfold World.cell?
  rw [h]
  rfl
 rw [e]
 simpa using hu
theorem block_set {w : World} {B j : Nat} {cs : Array Value} {t : TypeId} {fz : Nat × Nat} (h : w.heap[B]? = some (.cells cs t fz)) (u : Value) : (w.setCell ⟨B, j, none⟩ u).heap[B]? = some (.cells (cs.setIfInBounds j u) t fz) := by
 simp [World.setCell, Array.getElem?_modify, h]
theorem frozen_box {w : World} {B : Nat} {cs : Array Value} {t : TypeId} (h : w.heap[B]? = some (.cells cs t (0, 0))) (j : Nat) : w.frozen? ⟨B, j, none⟩ = false := by
 simp [World.frozen?, h]
theorem own_below {w w' : World} {B : Nat} {e : TypeId} {s n : Nat} {v : Value} {xs : List Value} (h : w.ownsRow B e s v n xs) (hb : Below w.heap.size w w') : w'.ownsRow B e s v n xs := by
 refine ⟨h.1, ?_⟩
 rcases h.2 with h2 | ⟨g, cap, cur, hv, hg, hh, r⟩
 ·exact .inl h2
 ·exact .inr ⟨g, cap, cur, hv, hg, (hb.block g (Array.getElem?_eq_some_iff.1 hh).1).trans hh, r⟩
theorem fours_snoc {us : List Value} {u : Value} (h : Fours us) (hu : ∃ v0 v1 v2 v3, u = .agg #[v0, v1, v2, v3] /\ ∀ x ∈ [v0, v1, v2, v3], x.oneCell' = true) : Fours (us ++ [u]) := by
 intro x hx
 rcases List.mem_append.1 hx with hx | hx
 ·exact h x hx
 ·simp at hx; subst hx; exact hu
end Go.Proofs.YtiijfmdfccdagaaGreatDoor.TBase
namespace Go.Proofs.YtiijfmdfccdagaaGreatDoor.XLend
open Go.RowKit
open Base (nx All heap_alloc_new add_none Keep)
theorem info_parts {t : TypeId} {z : Value} {s b : Nat} (h : (prog.info? t).map (fun i => (i.zero, i.size, i.bytes)) = some (some z, s, b)) : ∃ i, prog.info? t = some i /\ i.zero = some z /\ i.size = s /\ i.bytes = b := by
 cases hi : prog.info? t with
 | none => rw [hi] at h; cases h
 | some i =>
  rw [hi] at h
  simp only [Option.map_some, Option.some.injEq, Prod.mk.injEq] at h
  exact ⟨i, rfl, h.1, h.2.1, h.2.2⟩
end Go.Proofs.YtiijfmdfccdagaaGreatDoor.XLend
namespace Go.Proofs.YtiijfmdfccdagaaGreatDoor.GAs
open Go.RowKit Base EPure JPure VSm VJn JVa GPl GVa GEn GAt
open VPure hiding evL
open KBase (Fld RF InF Fd8)
open TBase (OwnA flatA flatA_append infoA)
def ats (L : List C) : List Fld -> Except Nat (List (ByteArray × ByteArray))
 | [] => .ok []
 | f :: t => bnd (atr L f.p f.b f.e) fun a => bnd (ats L t) fun r => .ok (if a.2 = true then (f.n, a.1) :: r else r)
def app {α : Type} (A : List α) (x : Except Nat (List α)) : Except Nat (List α) := bnd x fun r => .ok (A ++ r)
theorem app_nil {α : Type} (x : Except Nat (List α)) : app [] x = x := by cases x <;> rfl
structure Bs (K m : Nat) (w : World) (B : Nat) (Pv mk sv : Value) (r : Int) (L : List C) : Prop where
 box : w.heap[B]? = some (.cells (wk Pv mk sv r) 105 (0, 0))
 low : K <= w.heap.size
 wfs : ∀ (j : Int) c, rh L j = some c -> wf c
 tb : Tb w
 sk : Sk K (m + 1) w Pv L
theorem Bs.below {K m : Nat} {w w' : World} {B : Nat} {Pv mk sv : Value} {r : Int} {L : List C} (h : Bs K m w B Pv mk sv r L) (hb : Below w.heap.size w w') : Bs K m w' B Pv mk sv r L :=
 ⟨(hb.block B (Array.getElem?_eq_some_iff.1 h.box).1).trans h.box, Nat.le_trans h.low hb.size, h.wfs, h.tb.below hb, h.sk.below hb⟩
theorem Bs.rk {K m n : Nat} {w : World} {B : Nat} {Pv mk sv : Value} {r : Int} {L : List C} (h : Bs K m w B Pv mk sv r L) {v : Value} {x : Ex} (hx : XBase.In false (fun b => b < K) w n v x) (hg : gd x) (ho : ops okOp x) : Rk K m n w Pv L v x :=
 ⟨hx, h.low, h.wfs, hg, ho, h.tb, h.sk⟩
theorem ats_yes {L : List C} {f : Fld} {t : List Fld} {A : List (ByteArray × ByteArray)} {a : ByteArray} (h : atr L f.p f.b f.e = .ok (a, true)) : app A (ats L (f :: t)) = app (A ++ [(f.n, a)]) (ats L t) := by
 rw [ats, h]
 cases ats L t with
 | error q => rfl
 | ok r => show Except.ok (A ++ (f.n, a) :: r) = Except.ok (A ++ [(f.n, a)] ++ r); simp
theorem ats_not {L : List C} {f : Fld} {t : List Fld} {A : List (ByteArray × ByteArray)} {a : ByteArray} (h : atr L f.p f.b f.e = .ok (a, false)) : app A (ats L (f :: t)) = app A (ats L t) := by
 rw [ats, h]
 cases ats L t with
 | error q => rfl
 | ok r => rfl
theorem ats_bad {L : List C} {f : Fld} {t : List Fld} {A : List (ByteArray × ByteArray)} {q : Nat} (h : atr L f.p f.b f.e = .error q) : app A (ats L (f :: t)) = .error q := by
 rw [ats, h]
 rfl
def AR (w : World) (a : Except Nat (List (ByteArray × ByteArray))) (e : Ending) (w' : World) : Prop := Below w.heap.size w w' /\ match a with
 | .ok A => ∃ v, e = .returned v /\ OwnA w' w.heap.size v A
 | .error n => e = .panicked (pkE n)
theorem attrs_c {K m : Nat} {w : World} {B : Nat} {Pv mk sv : Value} {r : Int} {L : List C} (h : Bs K m w B Pv mk sv r L) {fv : Value} {fs : List Fld} (hf : RF false (fun b => b < K) w fv fs) (hg : ∀ j (h : j < fs.length), fs[j].b = true -> gd fs[j].e /\ ops okOp fs[j].e) (hn : fs.length <= 4096) :
  Calls prog 99 #[ptr B, fv] w fun e w' => AR w (ats L fs) e w' := by
 obtain ⟨ia, hia, ha0, ha1, ha2⟩ := XLend.info_parts infoA
 have HB := hid h
 have HF := hid hf
 have HG := hid hg
 obtain ⟨T, hT⟩ : ∃ T, ats L fs = T := ⟨_, rfl⟩
 rw [hT]
 have HT : Hid (app [] (ats L (fs.drop 0)) = T) := by show _ = _; rw [app_nil, List.drop_zero]; exact hT
 obtain ⟨a, cap, rfl, hlc, hcm, hlen, -, -⟩ := hf
 clear h hg hT
 go_enter func99, ntmps99
 go_wp2_with fail
 go_loopw [5, 12] (fun out i wr => ∃ (q : Nat) (A : List (ByteArray × ByteArray)), i = .int .i64 q /\ q <= fs.length /\ A.length <= q /\ app A (ats L (fs.drop q)) = T /\ OwnA wr w.heap.size out A /\ Below w.heap.size w wr) (fun _ i _ => fs.length - (intOf i).toNat)
 case atStart => exact ⟨0, [], rfl, by omega, by simp, HT.out, World.ownsRow_nil _ _ _ _, Below.refl _ _⟩
 case round =>
  clear HT
  obtain ⟨q, A, rfl, hq, hA, hM, hown, hb⟩ := hrel
  have HO := hid hown
  have HBr := hid hb
  have hsz := hb.size
  by_cases hlt : q < fs.length
  ·have d0 : decide ((q : Int) < (fs.length : Int)) = true := by simp; omega
   have i0 : (0 : Int) <= (q : Int) := by omega
   have i1 : (q : Int) < (fs.length : Int) := by omega
   obtain ⟨aa, cc, hsl, -, -, -, -, hLA⟩ := HF.out
   cases hsl
   obtain ⟨g, o, u, rfl, -, hu, hi⟩ := hLA.elem hlt
   obtain ⟨v0, v1, v2, e0, e1, e2, e3, v7, rfl, c0, c1, c2, c3, c4, c5, c6, c7⟩ := hu
   obtain ⟨mm, hxi⟩ := hi.kinds.2.2.2.2.2.2.2
   obtain ⟨ea, ec, rfl, rfl, rfl, rfl, rfl, rfl, rfl, rfl, -, -, -, -⟩ := hi.eight
   have c0 := below_cell c0 hb
   have c1 := below_cell c1 hb
   have c2 := below_cell c2 hb
   have c3 := below_cell c3 hb
   have c4 := below_cell c4 hb
   have c5 := below_cell c5 hb
   have c6 := below_cell c6 hb
   have c7 := below_cell c7 hb
   have hgq := HG.out q hlt
   rw [List.drop_eq_getElem_cons hlt] at hM
   obtain ⟨f, hff⟩ : ∃ f, fs[q] = f := ⟨_, rfl⟩
   rw [hff] at c0 c1 c2 c3 c4 c5 c6 c7 hM hgq hxi
   obtain ⟨W1, hW1⟩ : ∃ W1, wr.alloc (.cells #[.string f.n, .string f.p, .bool f.b, .int .i64 f.e.o, .int .i64 f.e.i, .string f.e.s, .slice ea f.e.l.length ec, .int .i64 f.a] 59) = W1 := ⟨_, rfl⟩
   have b1 := alB hW1
   have hs1 : W1.heap.size = wr.heap.size + 1 := by rw [<- hW1]; simp
   have hx1 := alG hW1
   have HX1 := hid hx1
   have hB1 := HB.out.below (nx hb b1)
   have cA := attr_c (n := mm) (fn := f.n) (fp := f.p) (fb := f.b) (fa := f.a) (xa := ea) (xc := ec) (x := f.e) hB1.box hB1.sk (fun hbt => hB1.rk (hxi.below (nx hb b1)) (hgq hbt).1 (hgq hbt).2)
   obtain ⟨z0, z1, z2, z3, z4, z5, z6, z7⟩ := eight_b hx1
   obtain ⟨U, hU⟩ : ∃ U, atr L f.p f.b f.e = U := ⟨_, rfl⟩
   rw [hU] at cA
   have HU := hid hU
   have HM := hid hM
   have HB1 := hid (nx hb b1)
   have HO1 := hid (TBase.own_below hown b1)
   have HW1 := hid hW1
   clear hLA hi hxi hff hgq hM hU hb hown b1 hx1 hB1 hW1
   go_wp2_with fail
   try rw [HW1.out]
   refine cA.mono ?_
   intro ee W2 hA2
   cases U with
   | error z =>
    obtain ⟨rfl, b2⟩ := hA2
    have hT := HM.out
    rw [ats_bad HU.out] at hT
    subst hT
    exact ⟨rfl, nx HB1.out b2, rfl⟩
   | ok y =>
    obtain ⟨rfl, b2⟩ := hA2
    obtain ⟨t, ok⟩ := y
    have HB2 := hid (nx HB1.out b2)
    have hs2 := b2.size
    have HO2 := hid (TBase.own_below HO1.out b2)
    obtain ⟨y0, -⟩ := eight_b ((b2.block wr.heap.size (by omega)).trans HX1.out)
    clear b2 cA z0 z1 z2 z3 z4 z5 z6 z7
    cases ok with
    | false =>
     have HM2 : Hid (app A (ats L (fs.drop (q + 1))) = T) := by show _ = _; rw [<- HM.out, ats_not HU.out]
     go_wp2_with fail
     go_roundw
     case rel => exact ⟨q + 1, A, by go_num, by omega, by omega, HM2.out, HO2.out, HB2.out⟩
     case measure => simp only [intOf]; omega
    | true =>
     have HM2 : Hid (app (A ++ [(f.n, t)]) (ats L (fs.drop (q + 1))) = T) := by show _ = _; rw [<- HM.out, ats_yes HU.out]
     have hrow := World.ownsRow.alloc HO2.out (.cells #[.string f.n, .string t] 63)
     have hsw := HB2.out.size
     have hAl : A.length <= 4096 := by omega
     go_wp2_with (first
      | (at_builtin; refine wpList_append_own_at _ rfl _ _ 48 rfl w.heap.size 63 ia (.agg #[.string ⟨#[]⟩, .string ⟨#[]⟩]) 2 32 underlying48 hia ha0 ha1 ha2 rfl (by decide) _ _ _ rfl hrow ⟨W2.heap.size, 0, none⟩ 1 1 [.string f.n, .string t] rfl rfl (TBase.new_cells W2 _ 63) (by simp [Value.oneCell']) (by unfold maxLen; omega) (by omega) (by simp; omega) ?_))
     intro v' W4 hown' hgrow _ hat
     have HO4 : Hid (OwnA W4 w.heap.size v' (A ++ [(f.n, t)])) := by
      show World.ownsRow _ _ _ _ _ _ _
      rw [List.length_append, flatA_append]
      exact hown'
     have HB4 : Hid (Below w.heap.size w W4) := (HB2.out.alloc HB2.out.size _).grown hgrow (by simp; omega) (fun k hk => (World.ownsRow.lt HO2.out k hk).1)
     have hAl2 : (A ++ [(f.n, t)]).length <= q + 1 := by simp; omega
     clear hown' hgrow hat hrow
     go_wp2_with fail
     go_roundw
     case rel => exact ⟨q + 1, A ++ [(f.n, t)], by go_num, by omega, hAl2, HM2.out, HO4.out, HB4.out⟩
     case measure => simp only [intOf]; omega
  ·have d0 : decide ((q : Int) < (fs.length : Int)) = false := by simp; omega
   have hT : T = .ok A := by
    rw [<- hM, List.drop_eq_nil_of_le (by omega)]
    show Except.ok (A ++ []) = _
    rw [List.append_nil]
   subst hT
   clear hM hb hown
   go_wp2_with fail
   go_ret
   exact ⟨HBr.out, _, rfl, HO.out⟩
end Go.Proofs.YtiijfmdfccdagaaGreatDoor.GAs
namespace Go.Proofs.YtiijfmdfccdagaaGreatDoor.HBuild
open Go.RowKit
theorem info5 : (prog.info? 5).map (fun i => (i.zero, i.size, i.bytes)) = some (some (.int .u8 0), 1, 1) := by kernel_rfl
theorem info36 : (prog.info? 176).map (fun i => i.size) = some 2 := by kernel_rfl
theorem lies36 : liesAt prog prog.depth 176 (2 / prog.cellsOf 176) 0 176 1 = true := by kernel_rfl
theorem check_used (b : Nat) (w : World) (h0 : w.cell? ⟨b, 0, none⟩ = some (.pointer (some ⟨b, 0, none⟩))) :
  Calls prog 171 #[.pointer (some ⟨b, 0, none⟩)] w fun e w' => e = .returned (.tuple #[]) /\ w' = w := by
 obtain ⟨j, hj, _⟩ := Option.map_eq_some_iff.1 info36
 have hq := Lib.run_neq_ptr_same (P := prog) w ⟨b, 0, none⟩ underlying174 hj
 go_enter func171, ntmps171
 go_wp2
 go_end0
 exact ⟨rfl, rfl⟩
theorem check_fresh (b : Nat) (w : World) (h0 : w.cell? ⟨b, 0, none⟩ = some (.pointer none)) (hsh : w.shape? b = some (176, 2)) (hfz : w.frozen? ⟨b, 0, none⟩ = false) :
  Calls prog 171 #[.pointer (some ⟨b, 0, none⟩)] w fun e w' => e = .returned (.tuple #[]) /\ w' = w.setCell ⟨b, 0, none⟩ (.pointer (some ⟨b, 0, none⟩)) := by
 obtain ⟨j, hj, hjs⟩ := Option.map_eq_some_iff.1 info36
 have hto := Lib.run_to_unsafe (P := prog) w ⟨b, 0, none⟩ underlying174 underlying230 hj (by rw [hjs]; decide) hsh (Nat.zero_lt_succ 1)
 have hfrom := Lib.run_from_unsafe (P := prog) w ⟨b, 0, none⟩ underlying230 underlying174 hj hsh lies36
 have hesc : (callFunc 184 #[.pointer (some ⟨b, 0, none⟩)]).run prog w = .ok (.value (.pointer (some ⟨b, 0, none⟩))) w := by
  rw [run_callFunc_extern func184 (by kernel_rfl) (by kernel_rfl) (by kernel_rfl) (e := Extern.AbiNoEscape.same) (by kernel_rfl), Lib.run_noEscape]
  rfl
 have hq := Lib.run_neq_ptr_same (P := prog) (w.setCell ⟨b, 0, none⟩ (.pointer (some ⟨b, 0, none⟩))) ⟨b, 0, none⟩ underlying174 hj
 go_enter func171, ntmps171
 go_wp2
 go_end0
 exact ⟨rfl, rfl⟩
theorem check_c (B b : Nat) (bs : List Value) (w : World) (h : Lib.IsBuilder 176 5 B b bs w) :
  Calls prog 171 #[.pointer (some ⟨b, 0, none⟩)] w fun e w' => e = .returned (.tuple #[]) /\ Lib.BuilderAt 176 5 B b (.pointer (some ⟨b, 0, none⟩)) bs w' /\ Below B w w' := by
 rcases h with h | h
 ·refine (check_fresh b w h.cell0 h.shape h.frozen0).mono ?_
  rintro e w' ⟨rfl, rfl⟩
  exact ⟨rfl, h.used _, (Below.refl B w).setCell (p := ⟨b, 0, none⟩) h.1 _⟩
 ·refine (check_used b w h.cell0).mono ?_
  rintro e w' ⟨rfl, rfl⟩
  exact ⟨rfl, h, Below.refl B _⟩
theorem at_open {B b : Nat} {bs : List Value} {w : World} (h : Lib.BuilderAt 176 5 B b (.pointer (some ⟨b, 0, none⟩)) bs w) :
  ∃ v, w.cell? ⟨b, 1, none⟩ = some v /\ w.ownsRow B 5 1 v bs.length bs /\ b < w.heap.size /\ B <= b /\ v.ownBlock ≠ some b /\ w.heap[b]? = some (.cells #[.pointer (some ⟨b, 0, none⟩), v] 176 (0, 0)) := by
 have hl := h.lt
 obtain ⟨hB, v, hb, hown, hne⟩ := h
 exact ⟨v, by rw [Lib.cell_of_heap hb]; rfl, hown, hl, hB, hne, hb⟩
theorem text_c (B b : Nat) (bs : List Value) (x : ByteArray) (w : World) (h : Lib.IsBuilder 176 5 B b bs w) (hlen : bs.length + x.size <= 140737488355328) (hBw : B <= w.heap.size) :
  Calls prog 136 #[.pointer (some ⟨b, 0, none⟩), .string x] w fun e w' => e = .returned (.tuple #[.int .i64 x.size, .nilIface]) /\ Lib.IsBuilder 176 5 B b (bs ++ Lib.strCells x) w' /\ Below B w w' := by
 obtain ⟨i0, hi, hz0, hz1, hz2⟩ := info_parts info5
 go_enter func136, ntmps136
 go_wp2_with (first
  | (go_at_call 171; refine (check_c B b bs _ h).mono ?_))
 rintro e w1 ⟨rfl, h1, hb1⟩
 obtain ⟨v, c1, hown, hlt, hB, hne, hbk⟩ := at_open h1
 have hs1 := hb1.size
 clear h1 h
 go_wp2_with (first
  | (at_builtin; refine Lib.wpList_append_own_string _ rfl _ _ 90 9 rfl B 5 i0 underlying90 underlying9 hi hz0 hz1 hz2 _ _ _ rfl hown x rfl (by unfold maxLen; omega) (by omega) (by omega) ?_))
 intro v' w2 hown' hgrow _
 have hb2 : w2.heap[b]? = some (.cells #[.pointer (some ⟨b, 0, none⟩), v] 176 (0, 0)) := by
  rw [hgrow.block b (by omega) (fun e => hne e.symm)]
  exact hbk
 have d1 : w2.cell? ⟨b, 1, none⟩ = some v := by rw [Lib.cell_of_heap hb2]; rfl
 have f1 := Lib.frozen_of_heap hb2 1
 have hnew : Lib.BuilderAt 176 5 B b (.pointer (some ⟨b, 0, none⟩)) (bs ++ Lib.strCells x) (w2.setCell ⟨b, 1, none⟩ v') := Lib.BuilderAt.put hB hb2 (by simpa [Lib.strCells_length] using hown') (by decide)
 have hbel := (hb1.grown hgrow (by omega) (fun k hk => (World.ownsRow.lt hown k hk).1)).setCell (p := ⟨b, 1, none⟩) hB v'
 obtain ⟨ao, n', cap, rfl⟩ : ∃ ao n' cap, v' = .slice ao n' cap := by
  rcases hown'.2 with ⟨hv, _⟩ | ⟨g, cap, cur, hv, _⟩
  ·exact ⟨_, _, _, hv⟩
  ·exact ⟨_, _, _, hv⟩
 clear hown' hgrow hown hb2 hbk hne
 go_wp2
 go_ret2
 exact ⟨rfl, Or.inr hnew, hbel⟩
end Go.Proofs.YtiijfmdfccdagaaGreatDoor.HBuild
namespace Go.Proofs.YtiijfmdfccdagaaGreatDoor.GTx
open Tak
open Go.RowKit Base EPure JPure VSm VJn VRs JVa GPl GVa GEn GAs
open VPure hiding evL
open KBase (Pt RP InP Pt6)
def tpc (L : List C) (p : ByteArray) (b : Bool) (x : Ex) : Except Nat ByteArray := if b = true then bnd (ev (rh L) x) txt else .ok p
def tgo (L : List C) : List Pt -> Nat -> Except Nat (List UInt8)
 | [], _ => .ok []
 | f :: t, n => bnd (tpc L f.p f.b f.e) fun s => if 4096 < n + s.size then .error 1107 else bnd (tgo L t (n + s.size)) fun r => .ok (s.data.toList ++ r)
theorem tgo_bad {L : List C} {f : Pt} {t : List Pt} {l : List UInt8} {q : Nat} (h : tpc L f.p f.b f.e = .error q) : app l (tgo L (f :: t) l.length) = .error q := by
 rw [tgo, h]
 rfl
theorem tgo_big {L : List C} {f : Pt} {t : List Pt} {l : List UInt8} {s : ByteArray} (h : tpc L f.p f.b f.e = .ok s) (hb : 4096 < l.length + s.size) : app l (tgo L (f :: t) l.length) = .error 1107 := by
 rw [tgo, h]
 show app l (if 4096 < l.length + s.size then _ else _) = _
 rw [if_pos hb]
 rfl
theorem len_l (s : ByteArray) : s.data.toList.length = s.size := by rw [Array.length_toList]; rfl
theorem tgo_ok {L : List C} {f : Pt} {t : List Pt} {l : List UInt8} {s : ByteArray} (h : tpc L f.p f.b f.e = .ok s) (hb : ¬ 4096 < l.length + s.size) : app l (tgo L (f :: t) l.length) = app (l ++ s.data.toList) (tgo L t (l ++ s.data.toList).length) := by
 rw [tgo, h]
 show app l (if 4096 < l.length + s.size then _ else _) = _
 rw [if_neg hb, List.length_append, len_l]
 cases tgo L t (l.length + s.size) with
 | error q => rfl
 | ok r => show Except.ok (l ++ (s.data.toList ++ r)) = Except.ok (l ++ s.data.toList ++ r); simp
theorem cells_len (l : List UInt8) : (Lib.byteCells l).length = l.length := by simp [Lib.byteCells]
theorem cells_app (l : List UInt8) (s : ByteArray) : Lib.byteCells (l ++ s.data.toList) = Lib.byteCells l ++ Lib.strCells s := by
 simp [Lib.byteCells, Lib.strCells]
theorem isb_below {T e : TypeId} {B b : Nat} {bs : List Value} {w w' : World} (h : Lib.IsBuilder T e B b bs w) (hb : Below w.heap.size w w') : Lib.IsBuilder T e B b bs w' := by
 rcases h with ⟨h1, v, h2, h3, h4⟩ | ⟨h1, v, h2, h3, h4⟩
 ·exact .inl ⟨h1, v, (hb.block b (Array.getElem?_eq_some_iff.1 h2).1).trans h2, TBase.own_below h3 hb, h4⟩
 ·exact .inr ⟨h1, v, (hb.block b (Array.getElem?_eq_some_iff.1 h2).1).trans h2, TBase.own_below h3 hb, h4⟩
def SR (w : World) (a : Except Nat (List UInt8)) (e : Ending) (w' : World) : Prop := Below w.heap.size w w' /\ match a with
 | .ok l => e = .returned (.string ⟨l.toArray⟩)
 | .error n => e = .panicked (pkE n)
theorem text_c {K m : Nat} {w : World} {B : Nat} {Pv mk sv : Value} {r : Int} {L : List C} (h : Bs K m w B Pv mk sv r L) {pv : Value} {ps : List Pt} (hf : RP false (fun b => b < K) w pv ps) (hg : ∀ j (h : j < ps.length), ps[j].b = true -> gd ps[j].e /\ ops okOp ps[j].e) :
  Calls prog 98 #[ptr B, pv] w fun e w' => SR w (tgo L ps 0) e w' := by
 have HB := hid h
 have HF := hid hf
 have HG := hid hg
 obtain ⟨T, hT⟩ : ∃ T, tgo L ps 0 = T := ⟨_, rfl⟩
 rw [hT]
 have HT : Hid (app [] (tgo L (ps.drop 0) ([] : List UInt8).length) = T) := by show _ = _; rw [app_nil, List.drop_zero]; exact hT
 obtain ⟨ps0, pc0, rfl, -⟩ := h.sk
 obtain ⟨a, cap, rfl, hlc, hcm, hlen, -, -⟩ := hf
 clear h hg hT
 go_enter func98, ntmps98
 go_wp2_with fail
 go_loopw [11] (fun i wr => ∃ (q : Nat) (l : List UInt8), i = .int .i64 q /\ q <= ps.length /\ l.length <= 4096 /\ app l (tgo L (ps.drop q) l.length) = T /\ Lib.IsBuilder 176 5 w.heap.size w.heap.size (Lib.byteCells l) wr /\ Below w.heap.size w wr) (fun i _ => ps.length - (intOf i).toNat)
 case atStart => exact ⟨0, [], rfl, by omega, by simp, HT.out, Lib.fresh_isBuilder 176 5 w, (Below.refl _ w).alloc (Nat.le_refl _) _⟩
 case round =>
  clear HT
  obtain ⟨q, l, rfl, hq, hl, hM, hI, hb⟩ := hrel
  obtain ⟨V, hV⟩ : ∃ V, V = wr := ⟨_, rfl⟩
  subst hV
  by_cases hlt : q < ps.length
  ·have d0 : decide ((q : Int) < (ps.length : Int)) = true := by simp; omega
   have i0 : (0 : Int) <= (q : Int) := by omega
   have i1 : (q : Int) < (ps.length : Int) := by omega
   obtain ⟨aa, cc, hsl, -, -, -, -, hLA⟩ := HF.out
   cases hsl
   obtain ⟨g, o, u, rfl, -, hu, hi⟩ := hLA.elem hlt
   obtain ⟨v0, v1, e0, e1, e2, e3, rfl, c0, c1, c2, c3, c4, c5⟩ := hu
   obtain ⟨mm, hxi⟩ := hi.kinds.2.2.2
   obtain ⟨ea, ec, rfl, rfl, rfl, rfl, rfl, rfl, hpl, -⟩ := hi.six
   have c0 := below_cell c0 hb
   have c1 := below_cell c1 hb
   have c2 := below_cell c2 hb
   have c3 := below_cell c3 hb
   have c4 := below_cell c4 hb
   have c5 := below_cell c5 hb
   have hgq := HG.out q hlt
   rw [List.drop_eq_getElem_cons hlt] at hM
   obtain ⟨f, hff⟩ : ∃ f, ps[q] = f := ⟨_, rfl⟩
   rw [hff] at c0 c1 c2 c3 c4 c5 hM hgq hxi hpl
   obtain ⟨W1, hW1⟩ : ∃ W1, V.alloc (.cells #[.string f.p, .bool f.b, .int .i64 f.e.o, .int .i64 f.e.i, .string f.e.s, .slice ea f.e.l.length ec] 89) = W1 := ⟨_, rfl⟩
   have b1 := alB hW1
   have hs1 : W1.heap.size = V.heap.size + 1 := by rw [<- hW1]; simp
   have HP1 := hid (alG hW1)
   have HD1 := hid (nx hb b1)
   have HI1 := hid (isb_below hI b1)
   have HBs1 := hid (HB.out.below HD1.out)
   obtain ⟨k0, -, -, -⟩ := wk_box HBs1.out.box
   obtain ⟨z0, z1, z2, z3, z4, z5⟩ := six_box HP1.out
   have HM := hid hM
   have HW1 := hid hW1
   have HXI := hid hxi
   have HPL := hid hpl
   obtain ⟨bb, hbb⟩ : ∃ bb, f.b = bb := ⟨_, rfl⟩
   have HBB := hid hbb
   have HGQ := hid hgq
   clear hLA hi hxi hff hgq hM hb hI b1 hW1 hpl
   cases bb with
   | false =>
    obtain ⟨s, hs⟩ : ∃ s, f.p = s := ⟨_, rfl⟩
    have HU : Hid (tpc L f.p f.b f.e = .ok s) := by show _ = _; rw [HBB.out, <- hs]; rfl
    have HSZ : Hid (s.size <= 140737488351232) := by rw [<- hs]; exact HPL.out
    rw [hs] at z0 c0 HP1 HW1
    rw [hbb] at z1 c1 HP1 HW1
    clear hs hbb
    go_upto_region 8 with fail
    try rw [HW1.out]
    have cL := Tryz.Builder_Len _ _ _ _ HI1.out
    rw [cells_len] at cL
    have hsl := HSZ.out
    have hw : IntKind.i64.wrap ((l.length : Int) + (s.size : Int)) = (l.length : Int) + (s.size : Int) := by rw [IntKind.wrap_i64]; omega
    go_wp2_with fail
    refine cL.mono ?_
    rintro ee w' ⟨rfl, hw'⟩
    subst w'
    by_cases hbig : 4096 < l.length + s.size
    ·have db : decide ((4096 : Int) < (l.length : Int) + (s.size : Int)) = true := decide_eq_true (by omega)
     have hT := HM.out
     rw [tgo_big HU.out hbig] at hT
     have hT : T = .error 1107 := hT.symm
     subst hT
     clear hbig
     go_wp2_with fail
     exact ⟨rfl, HD1.out, rfl⟩
    ·have db : decide ((4096 : Int) < (l.length : Int) + (s.size : Int)) = false := decide_eq_false (by omega)
     have HM2 : Hid (app (l ++ s.data.toList) (tgo L (ps.drop (q + 1)) (l ++ s.data.toList).length) = T) := by
      show _ = _
      rw [<- HM.out, tgo_ok HU.out hbig]
     have hsz1 := HD1.out.size
     have hgo := HI1.out
     have cW := HBuild.text_c _ _ _ s _ HI1.out (by rw [cells_len]; omega) (by omega)
     have hl2 : (l ++ s.data.toList).length <= 4096 := by
      rw [List.length_append]
      have : s.data.toList.length = s.size := by rw [Array.length_toList]; rfl
      omega
     clear hbig hgo
     go_wp2_with fail
     refine cW.mono ?_
     rintro ee W6 ⟨rfl, hI6, b6⟩
     have HI6 : Hid (Lib.IsBuilder 176 5 w.heap.size w.heap.size (Lib.byteCells (l ++ s.data.toList)) W6) := by
      show Lib.IsBuilder _ _ _ _ _ _
      rw [cells_app]
      exact hI6
     have HD6 := hid (HD1.out.trans b6)
     clear hI6 b6 cW cL
     go_wp2_with fail
     go_roundw
     case rel => exact ⟨q + 1, l ++ s.data.toList, by go_num, by omega, hl2, HM2.out, HI6.out, HD6.out⟩
     case measure => simp only [intOf]; omega
   | true =>
    have cV : Hid (∀ W, Below w.heap.size w W -> Calls prog 134 #[.slice ps0 L.length pc0, .agg #[.int .i64 f.e.o, .int .i64 f.e.i, .string f.e.s, .slice ea f.e.l.length ec]] W fun e w' => VR K (m + 1) W (ev (rh L) f.e) e w') := fun W hW => value_c ((HB.out.below hW).rk (HXI.out.below hW) (HGQ.out HBB.out).1 (HGQ.out HBB.out).2)
    have cT : Hid (∀ W u c, Below w.heap.size w W -> Base.In false (fun b => b < K) W (m + 1) u c -> Calls prog 133 #[u] W fun e w' => An W w' e Value.string (txt c)) := fun W u c hW hu => GPl.textOf_c hu.plain (HB.out.tb.below hW)
    have HU0 : Hid (tpc L f.p f.b f.e = bnd (ev (rh L) f.e) txt) := by show _ = _; rw [HBB.out]; rfl
    rw [hbb] at z1 c1 HP1 HW1
    generalize ev (rh L) f.e = U at *
    clear hbb
    go_upto_region 7 with fail
    try rw [HW1.out]
    cases U with
    | error z =>
     have hT := HM.out
     rw [tgo_bad HU0.out] at hT
     have hT : T = .error z := hT.symm
     subst hT
     refine wp_region_held_drew (S := fun w' => w'.cell? ⟨B, 0, none⟩ = some (.slice ps0 L.length pc0) /\ w'.cell? ⟨V.heap.size, 2, none⟩ = some (.int .i64 f.e.o) /\ w'.cell? ⟨V.heap.size, 3, none⟩ = some (.int .i64 f.e.i) /\ w'.cell? ⟨V.heap.size, 4, none⟩ = some (.string f.e.s) /\ w'.cell? ⟨V.heap.size, 5, none⟩ = some (.slice ea f.e.l.length ec)) (by kernel_rfl) (by exact ⟨k0, z2, z3, z4, z5⟩) (fun hHeld => ?_)
     refine tkH 0 rfl ?_; try simp only [ptH]
     refine tkH 1 rfl ?_; try simp only [ptH]
     refine tkH 2 rfl ?_; try simp only [ptH]
     refine tkH 3 rfl ?_; try simp only [ptH]
     refine tkH 4 rfl ?_; try simp only [ptH]
     refine tkH 5 rfl ?_; try simp only [ptH]
     refine rdH [6] ?_
     refine alH rfl fun K0 hK => ?_
     go_simp
     refine (cV.out _ HD1.out.drew).mono ?_
     rintro ee W2 ⟨b2, hq⟩
     obtain rfl := hq
     exact ⟨rfl, HD1.out.drew.trans (b2.mono (by have := HD1.out.size; simp; omega)), rfl⟩
    | ok c =>
     refine wp_region_held_drew (S := fun w' => w'.cell? ⟨B, 0, none⟩ = some (.slice ps0 L.length pc0) /\ w'.cell? ⟨V.heap.size, 2, none⟩ = some (.int .i64 f.e.o) /\ w'.cell? ⟨V.heap.size, 3, none⟩ = some (.int .i64 f.e.i) /\ w'.cell? ⟨V.heap.size, 4, none⟩ = some (.string f.e.s) /\ w'.cell? ⟨V.heap.size, 5, none⟩ = some (.slice ea f.e.l.length ec)) (by kernel_rfl) (by exact ⟨k0, z2, z3, z4, z5⟩) (fun hHeld => ?_)
     refine tkH 0 rfl ?_; try simp only [ptH]
     refine tkH 1 rfl ?_; try simp only [ptH]
     refine tkH 2 rfl ?_; try simp only [ptH]
     refine tkH 3 rfl ?_; try simp only [ptH]
     refine tkH 4 rfl ?_; try simp only [ptH]
     refine tkH 5 rfl ?_; try simp only [ptH]
     refine rdH [6] ?_
     refine alH rfl fun K0 hK => ?_
     go_simp
     refine (cV.out _ HD1.out.drew).mono ?_
     rintro ee W2 ⟨b2, u, rfl, hin⟩
     have b2 : Below W1.heap.size W1 W2 := (Below.refl _ W1).drew.trans b2
     have HD2 := hid (nx HD1.out b2)
     have HI2 := hid (isb_below HI1.out b2)
     have HBs2 := hid (HBs1.out.below b2)
     have HP2 := hid ((b2.block V.heap.size (by omega)).trans HP1.out)
     obtain ⟨k0, -, -, -⟩ := wk_box HBs2.out.box
     obtain ⟨z0, z1, z2, z3, z4, z5⟩ := six_box HP2.out
     have cTx := cT.out W2 u c HD2.out hin
     have HSX : Hid (∀ x, txt c = .ok x -> x.size <= 140737488351232) := fun x hx => txt_le hin.plain hx
     have hs2 := b2.size
     obtain ⟨an, ln, cn, al, ll, cl, rfl⟩ := in_shape hin
     have HU1 : Hid (tpc L f.p f.b f.e = txt c) := HU0.out
     generalize txt c = X at *
     clear b2 hin HU0
     refine hK.out _ _ (by exact ⟨k0, z2, z3, z4, z5⟩) (fun hHeld => ?_)
     clear hK K0
     try simp only [ptH]
     refine rdH [7] ?_
     refine alH rfl fun K0 hK => ?_
     go_simp
     refine cTx.mono ?_
     intro ee W3 hA3
     cases X with
     | error z =>
      obtain ⟨rfl, b3⟩ := hA3
      have hT := HM.out
      rw [tgo_bad HU1.out] at hT
      have hT := hT.symm
      subst hT
      exact ⟨rfl, nx HD2.out b3, rfl⟩
     | ok s =>
      obtain ⟨rfl, b3⟩ := hA3
      have HU := hid HU1.out
      have HSZ := hid (HSX.out s rfl)
      have HD3 := hid (nx HD2.out b3)
      have HI3 := hid (isb_below HI2.out b3)
      have HBs3 := hid (HBs2.out.below b3)
      have HP3 := hid ((b3.block V.heap.size (by omega)).trans HP2.out)
      obtain ⟨k0, -, -, -⟩ := wk_box HBs3.out.box
      obtain ⟨z0, z1, z2, z3, z4, z5⟩ := six_box HP3.out
      clear b3 cTx
      refine hK.out _ _ (by exact ⟨k0, z2, z3, z4, z5⟩) (fun hHeld => ?_)
      clear hK K0
      try simp only [ptH]
      refine tkH 8 rfl ?_; try simp only [ptH]
      refine dnH ?_
      clear hHeld
      have cL := Tryz.Builder_Len _ _ _ _ HI3.out
      rw [cells_len] at cL
      have hsl := HSZ.out
      have hw : IntKind.i64.wrap ((l.length : Int) + (s.size : Int)) = (l.length : Int) + (s.size : Int) := by rw [IntKind.wrap_i64]; omega
      go_wp2_with fail
      refine cL.mono ?_
      rintro ee w' ⟨rfl, hw'⟩
      subst w'
      by_cases hbig : 4096 < l.length + s.size
      ·have db : decide ((4096 : Int) < (l.length : Int) + (s.size : Int)) = true := decide_eq_true (by omega)
       have hT := HM.out
       rw [tgo_big HU.out hbig] at hT
       have hT := hT.symm
       subst hT
       clear hbig
       go_wp2_with fail
       exact ⟨rfl, HD3.out, rfl⟩
      ·have db : decide ((4096 : Int) < (l.length : Int) + (s.size : Int)) = false := decide_eq_false (by omega)
       have HM2 : Hid (app (l ++ s.data.toList) (tgo L (ps.drop (q + 1)) (l ++ s.data.toList).length) = T) := by
        show _ = _
        rw [<- HM.out, tgo_ok HU.out hbig]
       have hsz3 := HD3.out.size
       have hgo := HI3.out
       have cW := HBuild.text_c _ _ _ s _ HI3.out (by rw [cells_len]; omega) (by omega)
       have hl2 : (l ++ s.data.toList).length <= 4096 := by
        rw [List.length_append]
        have : s.data.toList.length = s.size := by rw [Array.length_toList]; rfl
        omega
       clear hbig hgo
       go_wp2_with fail
       refine cW.mono ?_
       rintro ee W6 ⟨rfl, hI6, b6⟩
       have HI6 : Hid (Lib.IsBuilder 176 5 w.heap.size w.heap.size (Lib.byteCells (l ++ s.data.toList)) W6) := by
        show Lib.IsBuilder _ _ _ _ _ _
        rw [cells_app]
        exact hI6
       have HD6 := hid (HD3.out.trans b6)
       clear hI6 b6 cW cL
       go_wp2_with fail
       go_roundw
       case rel => exact ⟨q + 1, l ++ s.data.toList, by go_num, by omega, hl2, HM2.out, HI6.out, HD6.out⟩
       case measure => simp only [intOf]; omega
  ·have d0 : decide ((q : Int) < (ps.length : Int)) = false := by simp; omega
   have hT : T = .ok l := by
    rw [<- hM, List.drop_eq_nil_of_le (by omega)]
    show Except.ok (l ++ []) = _
    rw [List.append_nil]
   subst hT
   have hsz := hb.size
   have cS := Tryz.Builder_String_any _ _ l V hI (by omega)
   have HD := hid hb
   clear hM hb hI
   go_wp2_with fail
   refine cS.mono ?_
   rintro ee W2 ⟨rfl, b2⟩
   have HD2 := hid (HD.out.trans b2)
   clear b2 cS
   go_wp2_with fail
   go_ret
   exact ⟨HD2.out, rfl⟩
end Go.Proofs.YtiijfmdfccdagaaGreatDoor.GTx

/- The kids of a node in their row: contract of kids; rows of handles. -/
import Derived.Test.YtnpamcgbnimdkaaDNeed
import Derived.Test.YtnpamcgbnimdkaaTRow
import Derived.Maps.AppendAt
namespace Go.Proofs.Ytnpamcgbnimdkaa.DKids
open Go.RowKit Go.Proofs.Ytnpamcgbnimdkaa.TBase Go.Proofs.Ytnpamcgbnimdkaa.DBase Go.Proofs.Ytnpamcgbnimdkaa.DJoin Go.Proofs.Ytnpamcgbnimdkaa.DNeed
set_option linter.unusedVariables false

/-- A row of handles of one's own. -/
def Oi (w : World) (B : Nat) (v : Value) (L : List Int) : Prop := w.ownsRow B 3 1 v L.length (L.map (Value.int .i64))
theorem infoI : (Try.prog.info? 3).map (fun i => (i.zero, i.size, i.bytes)) = some (some (.int .i64 0), 1, 8) := by kernel_rfl
def slen : Value → Nat | .slice _ n _ => n | _ => 0
theorem Oi.len {w : World} {B : Nat} {v : Value} {L : List Int} (h : Oi w B v L) : slen v = L.length := by
  rcases h.2 with ⟨rfl, e⟩ | ⟨g, cap, cur, rfl, -⟩
  · exact e.symm
  · rfl
theorem Oi.shape {w : World} {B : Nat} {v : Value} {L : List Int} (h : Oi w B v L) : ∃ a cap, v = .slice a L.length cap := by
  rcases h.2 with ⟨rfl, e⟩ | ⟨g, cap, cur, rfl, -⟩
  · exact ⟨none, 0, by rw [e]⟩
  · exact ⟨_, _, rfl⟩
theorem Oi.below {w w' : World} {B : Nat} {v : Value} {L : List Int} (h : Oi w B v L) (hb : Below w.heap.size w w') : Oi w' B v L := by
  refine ⟨h.1, ?_⟩
  rcases h.2 with h2 | ⟨g, cap, cur, h1, h2, h3, h4⟩
  · exact .inl h2
  · exact .inr ⟨g, cap, cur, h1, h2, (hb.block g (Array.getElem?_eq_some_iff.1 h3).1).trans h3, h4⟩
theorem Oi.hs {w : World} {B : Nat} {v : Value} {L : List Int} (h : Oi w B v L) : Hs w v L := by
  have h0 := h
  rcases h.2 with ⟨rfl, e⟩ | ⟨g, cap, cur, rfl, h1, h2, h3, h4, -⟩
  · have := List.eq_nil_of_length_eq_zero e
    subst this
    exact ⟨none, 0, rfl, by simp, by simp, .inl rfl⟩
  · refine ⟨_, cap, rfl, h3, h4, .inr ⟨g, 0, rfl, fun j hj => ?_⟩⟩
    have := World.ownsRow.cells (g := g) h0 rfl j (.int .i64 L[j]) (by simp [hj])
    rwa [add_none] at this
/-- From link to link. -/
def Chain (c : Nat → Nd) (n : Nat) : Option Nat → List Nat → Prop
  | o, [] => o = none
  | o, k :: r => o = some k ∧ k < n ∧ Chain c n (c k).ne r
def hl (ks : List Nat) : List Int := ks.map fun k : Nat => (k : Int)

set_option maxRecDepth 20000 in
set_option maxHeartbeats 800000 in
theorem kids_c {w : World} {p gc n : Nat} {fv : Value} {q : Nat → Int} {c : Nat → Nd} (hb : Bx w p gc n fv q) (hc : Cr w gc n c) (hn : n ≤ 8192) {x : Nat} (hx : x < n) {ks : List Nat} (hk : Chain c n (c x).fi ks) (hl8 : ks.length ≤ 8192) :
    Calls Try.prog 67 #[.pointer (some ⟨p, 0, none⟩), .int .i64 x] w fun e w' => ∃ v, e = .returned v ∧ Oi w' w.heap.size v (hl ks) ∧ Below w.heap.size w w' := by
  obtain ⟨i0, hi, hz0, hz1, hz2⟩ := info_parts infoI
  have k0 := hb.at0
  have q5 := hc.at hx (k := 5) (by omega)
  rw [show (c x).put 5 = .int .i64 (en (c x).fi) from rfl] at q5
  have HB : Hid (Bx w p gc n fv q) := hb
  have HC : Hid (Cr w gc n c) := hc
  generalize (c x).fi = o0 at *
  clear hb hc
  go_enter Try.func67, Try.ntmps67
  go_wp2_with fail
  go_loopw [5, 6] (fun hv kid wr => ∃ ds rs o, ks = ds ++ rs ∧ kid = .int .i64 (en o) ∧ Chain c n o rs ∧ Oi wr w.heap.size hv (hl ds) ∧ Below w.heap.size w wr) (fun hv _ _ => ks.length - slen hv)
  case atStart => exact ⟨[], ks, o0, rfl, rfl, hk, World.ownsRow_nil _ _ _ _, Below.refl _ _⟩
  case round =>
    obtain ⟨ds, rs, o, he, rfl, hch, hown, hbel⟩ := hrel
    have hsz := hbel.size
    cases rs with
    | nil =>
      have ho : o = none := hch
      subst ho
      have HO : Hid (Oi wr w.heap.size u5 (hl ds)) := hown
      rw [List.append_nil] at he
      subst he
      clear hch hown
      simp only [en_none]
      go_wp2_with fail
      go_ret
      exact ⟨_, rfl, HO.out, hbel⟩
    | cons k rs =>
      obtain ⟨rfl, hkn, hch⟩ := hch
      have hBl := hbel.block p HB.out.lt
      have hCl := hbel.block gc HC.out.lt
      have k1 := (HB.out.keep hBl).at0
      have HCw : Hid (Cr wr gc n c) := HC.out.keep hCl
      have HBw : Hid (Bx wr p gc n fv q) := HB.out.keep hBl
      have hlen : (hl ds).length + 1 ≤ 8192 := by
        have : ks.length = ds.length + (rs.length + 1) := by rw [he]; simp
        simp only [hl, List.length_map]
        omega
      have ek : ((k : Int) == -1) = false := by simp
      have HO : Hid (Oi wr w.heap.size u5 (hl ds)) := hown
      have L5' : slen u5 = ds.length := by rw [hown.len]; simp [hl]
      have L5 : Hid (slen u5 = ds.length) := L5'
      clear L5'
      have hrow1 := World.ownsRow.alloc hown (.cells #[.int .i64 (k : Int)] 3)
      have HCH : Hid (Chain c n (c k).ne rs) := hch
      have HE : Hid (ks = ds ++ k :: rs) := he
      clear hch hown he hBl hCl
      simp only [en_some]
      go_wp2_with (first
        | (at_builtin; refine wpList_append_own_at _ rfl _ _ 37 rfl w.heap.size 3 i0 (.int .i64 0) 1 8 Try.underlying37 hi hz0 hz1 hz2 rfl (by decide) _ _ _ rfl hrow1 ⟨wr.heap.size, 0, none⟩ 1 1 [.int .i64 (k : Int)] rfl rfl (cell_one_new _ _ _) (by simp [Value.oneCell']) (by unfold maxLen; omega) (by omega) (by simp; omega) ?_))
      intro v' w2 hown' hgrow _ hat
      have hb3 := (hbel.alloc hsz (.cells #[.int .i64 (k : Int)] 3)).grown hgrow (by simp; omega) (fun j hj => (World.ownsRow.lt HO.out j hj).1)
      have ho2 : Oi w2 w.heap.size v' (hl (ds ++ [k])) := by
        unfold Oi hl at *
        simp only [List.map_append, List.map_cons, List.map_nil, List.length_append, List.length_cons, List.length_nil, Nat.zero_add] at *
        exact hown'
      have hBl := hb3.block p HB.out.lt
      have hCl := hb3.block gc HC.out.lt
      have k2 := (HB.out.keep hBl).at0
      have q8 := (HC.out.keep hCl).at hkn (k := 8) (by omega)
      rw [show (c k).put 8 = .int .i64 (en (c k).ne) from rfl] at q8
      have H2 : Hid (Oi w2 w.heap.size v' (hl (ds ++ [k]))) := ho2
      clear hown' hgrow hat hrow1 HO ho2
      generalize (c k).ne = o2 at *
      go_wp2_with fail
      go_roundw
      case rel => exact ⟨ds ++ [k], rs, o2, by rw [HE.out]; simp, rfl, HCH.out, H2.out, hb3⟩
      case measure =>
        have e1 := H2.out.len
        have e0 := L5.out
        have e2 : ks.length = ds.length + (rs.length + 1) := by rw [HE.out]; simp
        simp only [hl, List.length_map, List.length_append, List.length_cons, List.length_nil] at e1
        omega
end Go.Proofs.Ytnpamcgbnimdkaa.DKids

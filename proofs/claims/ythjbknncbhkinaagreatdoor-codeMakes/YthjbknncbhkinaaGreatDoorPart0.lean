/- Parts of a value: contracts of slices.Index, element, Field and Index. -/
import Derived.Test.YthjbknncbhkinaaGreatDoorFresh
import Derived.Deep.RegionWith
import Derived.Test.YthjbknncbhkinaaGreatDoorEq
import Derived.Laws.ResultCell
namespace Go.Proofs.YthjbknncbhkinaaGreatDoor.Copied
open Go.RowKit Go.Proofs.YthjbknncbhkinaaGreatDoor.Base Go.Proofs.YthjbknncbhkinaaGreatDoor.Clone Go.Proofs.YthjbknncbhkinaaGreatDoor.Fresh
set_option linter.unusedVariables false

theorem Fr.weak {w : World} {m lo hi lo' hi' : Nat} {v : Value} {c : C} (h : Fr w m lo hi v c) (h1 : lo' ≤ lo) (h2 : hi ≤ hi') : Fr w m lo' hi' v c := by
  cases m with
  | zero => rw [Fr] at h; exact h.elim
  | succ m =>
    obtain ⟨k, b, i, s, n, l⟩ := c
    rw [Fr] at h ⊢
    obtain ⟨nv, lv, a1, a2, us, cut, g1, g2, rfl, hk, hi', hs, hn1, hn2, hl1, hT, hTb, hV, hVb, hus, hc0, hcl, hcm, hel⟩ := h
    refine ⟨nv, lv, a1, a2, us, cut, by omega, g2, rfl, hk, hi', hs, hn1, hn2, hl1, ⟨hT.1, ?_⟩, hTb, hV, hVb, hus, hc0, by omega, hcm, hel⟩
    rcases hT.2 with h0 | ⟨g, cap, cur, e, hg, r⟩
    · exact .inl h0
    · exact .inr ⟨g, cap, cur, e, by omega, r⟩
/-- Six cells of a row written over. -/
theorem flat_set {us : List Value} {q : Nat} {u : Value} (hs : Sixes us) (hu : ∃ v0 v1 v2 v3 v4 v5, u = .agg #[v0, v1, v2, v3, v4, v5] ∧ ∀ x ∈ [v0, v1, v2, v3, v4, v5], x.oneCell' = true) : Sixes (us.set q u) := by
  intro x hx
  rcases List.mem_or_eq_of_mem_set hx with h | rfl
  · exact hs x h
  · exact hu
theorem ownV_set {w w' : World} {B g n cap q : Nat} {us : List Value} {v0 v1 v2 v3 v4 v5 : Value} (h : OwnV w B (.slice (some ⟨g, 0, none⟩) n cap) us) (hq : q < us.length) (h1 : ∀ x ∈ [v0, v1, v2, v3, v4, v5], x.oneCell' = true)
    (hW : ((((((w.setCell ⟨g, q * 6, none⟩ v0).setCell ⟨g, q * 6 + 1, none⟩ v1).setCell ⟨g, q * 6 + 2, none⟩ v2).setCell ⟨g, q * 6 + 3, none⟩ v3).setCell ⟨g, q * 6 + 4, none⟩ v4).setCell ⟨g, q * 6 + 5, none⟩ v5) = w') :
    OwnV w' B (.slice (some ⟨g, 0, none⟩) n cap) (us.set q (.agg #[v0, v1, v2, v3, v4, v5])) ∧ (∀ b, b ≠ g → w'.heap[b]? = w.heap[b]?) ∧ w'.heap.size = w.heap.size ∧ ∀ x k, k ≤ g → Below k x w → Below k x w' := by
  subst hW
  refine ⟨?_, fun b hb => ?_, by simp [World.setCell], fun x k hk hb => ?_⟩
  · have hs' : Sixes (us.set q (.agg #[v0, v1, v2, v3, v4, v5])) := flat_set h.2 ⟨_, _, _, _, _, _, rfl, h1⟩
    refine ⟨?_, hs'⟩
    have hlen := h.1.1
    rcases h.1.2 with ⟨h0, _⟩ | ⟨g', cap', cur, e, hB, hg, hn, hm, hsz, htake⟩
    · cases h0
    · cases e
      refine ⟨by rw [flat_len hs', List.length_set], .inr ⟨g, cap, _, ?_, hB, block_set (block_set (block_set (block_set (block_set (block_set hg _) _) _) _) _) _, by rw [List.length_set]; exact hn, hm, by simp [hsz], ?_⟩⟩
      · rw [List.length_set]
      · apply List.ext_getElem?
        intro p
        rw [List.length_set, List.getElem?_take]
        by_cases hp : p < us.length * 6
        · rw [if_pos hp]
          have hp6 : p / 6 < us.length := by omega
          have e6 : p / 6 * 6 + p % 6 = p := by omega
          have hr : p % 6 < 6 := by omega
          have hF := flat_get hs' (p / 6) (by rw [List.length_set]; exact hp6) (p % 6) hr
          rw [e6] at hF
          rw [hF]
          have hold : cur.toList[p]? = us[p / 6].cells.toList[p % 6]? := by
            have := flat_get h.2 (p / 6) hp6 (p % 6) hr
            rw [e6, ← htake, List.getElem?_take, if_pos hp] at this
            exact this
          have hcs : p < cur.size := by rw [hsz]; omega
          have hpc : p < cap * 6 := by omega
          rw [List.getElem_set]
          by_cases hq6 : q = p / 6
          · rw [if_pos hq6]
            have hcase : p % 6 = 0 ∨ p % 6 = 1 ∨ p % 6 = 2 ∨ p % 6 = 3 ∨ p % 6 = 4 ∨ p % 6 = 5 := by omega
            simp only [Array.getElem?_toList, Value.cells]
            rcases hcase with h6 | h6 | h6 | h6 | h6 | h6 <;> rw [h6]
            · have ep : p = q * 6 := by omega
              subst ep
              simp [hsz, hpc]
            · have ep : p = q * 6 + 1 := by omega
              subst ep
              simp [hsz, hpc]
            · have ep : p = q * 6 + 2 := by omega
              subst ep
              simp [hsz, hpc]
            · have ep : p = q * 6 + 3 := by omega
              subst ep
              simp [hsz, hpc]
            · have ep : p = q * 6 + 4 := by omega
              subst ep
              simp [hsz, hpc]
            · have ep : p = q * 6 + 5 := by omega
              subst ep
              simp [hsz, hpc]
          · rw [if_neg hq6, ← hold, Array.getElem?_toList, Array.getElem?_toList]
            rw [Array.getElem?_setIfInBounds_ne (by omega), Array.getElem?_setIfInBounds_ne (by omega), Array.getElem?_setIfInBounds_ne (by omega), Array.getElem?_setIfInBounds_ne (by omega), Array.getElem?_setIfInBounds_ne (by omega), Array.getElem?_setIfInBounds_ne (by omega)]
        · rw [if_neg hp, List.getElem?_eq_none]
          rw [flat_len hs', List.length_set]
          omega
  · rw [Below.heap_setCell _ _ _ _ hb, Below.heap_setCell _ _ _ _ hb, Below.heap_setCell _ _ _ _ hb, Below.heap_setCell _ _ _ _ hb, Below.heap_setCell _ _ _ _ hb, Below.heap_setCell _ _ _ _ hb]
  · exact (((((hb.setCell (p := ⟨g, q * 6, none⟩) hk _).setCell (p := ⟨g, q * 6 + 1, none⟩) hk _).setCell (p := ⟨g, q * 6 + 2, none⟩) hk _).setCell (p := ⟨g, q * 6 + 3, none⟩) hk _).setCell (p := ⟨g, q * 6 + 4, none⟩) hk _).setCell (p := ⟨g, q * 6 + 5, none⟩) hk _
theorem frozen_own {w : World} {B : Nat} {e : TypeId} {s n n' g cap : Nat} {xs : List Value} (h : w.ownsRow B e s (.slice (some ⟨g, 0, none⟩) n' cap) n xs) (j : Nat) : w.frozen? ⟨g, j, none⟩ = false := by
  rcases h.2 with ⟨h0, _⟩ | ⟨g', cap', cur, e, _, hg, _⟩
  · cases h0
  · cases e
    exact frozen_box hg j
end Go.Proofs.YthjbknncbhkinaaGreatDoor.Copied

namespace Go.Proofs.YthjbknncbhkinaaGreatDoor.Part
open Go.RowKit Go.Proofs.YthjbknncbhkinaaGreatDoor.Base Go.Proofs.YthjbknncbhkinaaGreatDoor.Fresh Go.Proofs.YthjbknncbhkinaaGreatDoor.Copied Go.Proofs.YthjbknncbhkinaaGreatDoor.Eq
set_option linter.unusedVariables false

/-- Where a name stands first. -/
def fi (L : List ByteArray) (x : ByteArray) : Option Nat := L.findIdx? (eqB x)
def fiI (L : List ByteArray) (x : ByteArray) : Int := match fi L x with | none => -1 | some j => j
theorem fi_some {L : List ByteArray} {x : ByteArray} {q : Nat} (h : q < L.length) (he : eqB x L[q] = true) (hn : ∀ j (h : j < L.length), j < q → eqB x L[j] = false) : fi L x = some q :=
  List.findIdx?_eq_some_iff_getElem.2 ⟨h, he, fun j hj => by rw [hn j (by omega) hj]; simp⟩
theorem fi_none {L : List ByteArray} {x : ByteArray} (hn : ∀ j (h : j < L.length), eqB x L[j] = false) : fi L x = none := by
  apply List.findIdx?_eq_none_iff.2
  intro y hy
  obtain ⟨j, hj, rfl⟩ := List.mem_iff_getElem.1 hy
  exact hn j hj
theorem fi_lt {L : List ByteArray} {x : ByteArray} {q : Nat} (h : fi L x = some q) : q < L.length := (List.findIdx?_eq_some_iff_getElem.1 h).1
theorem index_c (v : Value) (L : List ByteArray) (x : ByteArray) (w : World) (h : Tx false All w v L) :
    Calls Tryz.prog 131 #[v, .string x] w fun e w' => e = .returned (.int .i64 (fiI L x)) ∧ Below w.heap.size w w' := by
  obtain ⟨a, cap, rfl, hlc, hm, hlen, hsz, hnil, hN⟩ := h.out
  clear h hsz
  have H1 : Hid (∀ q (h : q < L.length), eqB x L[q] = true → (∀ j (h : j < L.length), j < q → eqB x L[j] = false) → fiI L x = q) := fun q h he hn => by
    unfold fiI
    rw [fi_some h he hn]
  have H2 : Hid ((∀ j (h : j < L.length), eqB x L[j] = false) → fiI L x = -1) := fun hn => by
    unfold fiI
    rw [fi_none hn]
  generalize fiI L x = R at *
  go_enter Tryz.func131, Tryz.ntmps131
  go_wp2_with fail
  go_loopw [8] (fun i wr => ∃ q : Nat, q ≤ L.length ∧ i = .int .i64 q ∧ (∀ j (h : j < L.length), j < q → eqB x L[j] = false) ∧ Below w.heap.size w wr) (fun i _ => L.length - (intOf i).toNat)
  case atStart => exact ⟨0, by omega, rfl, fun j _ h => by omega, Below.refl _ _⟩
  case round =>
    obtain ⟨q, hq, rfl, hall, hb⟩ := hrel
    by_cases hlt : q < L.length
    · obtain ⟨g, o, rfl, -, hc⟩ := name_at hN hlt
      have hc := below_cell hc hb
      have HA : Hid (∀ j (h : j < L.length), j < q → eqB x L[j] = false) := hall
      obtain ⟨y, hy⟩ : ∃ y, L[q] = y := ⟨_, rfl⟩
      have HY : Hid (L[q] = y) := hy
      rw [hy] at hc
      clear hN hall hy
      cases he : (x.toList == y.toList) with
      | true =>
        have hR : R = q := H1.out q hlt (by rw [HY.out]; exact he) HA.out
        subst hR
        go_wp2_with fail
        go_ret
        exact ⟨rfl, hb⟩
      | false =>
        have he' : eqB x y = false := he
        go_wp2_with fail
        go_roundw
        case rel =>
          refine ⟨q + 1, by omega, by go_num, fun j h1 hj => ?_, hb⟩
          by_cases e : j = q
          · subst e
            rw [HY.out]
            exact he'
          · exact HA.out j h1 (by omega)
        case measure => simp only [intOf]; omega
    · have hlt' : decide ((q : Int) < (L.length : Int)) = false := by simp; omega
      have hR : R = -1 := H2.out fun j h => hall j h (by omega)
      subst hR
      clear hall
      go_wp2_with fail
      go_ret
      exact ⟨rfl, hb⟩
/-- No value. -/
def noC : C := .mk 0 false 0 ⟨#[]⟩ [] []
def zV : Value := .agg #[.int .i64 0, .bool false, .int .i64 0, .string ⟨#[]⟩, .slice none 0 0, .slice none 0 0]
theorem zV_fr (w : World) (lo hi : Nat) (h : lo ≤ hi) (m : Nat) : Fr w (m + 1) lo hi zV noC := by
  rw [noC, Fr]
  exact ⟨_, _, lo, lo, [], fun _ => lo, Nat.le_refl _, Nat.le_refl _, rfl, by omega, by omega, by decide, by simp, by simp, by simp, World.ownsRow_nil _ _ _ _, fun g hg => by simp [Value.ownBlock] at hg,
    ⟨World.ownsRow_nil _ _ _ _, fun u hu => by cases hu⟩, fun g hg => by simp [Value.ownBlock] at hg, rfl, rfl, h, fun j hj => by simp at hj, fun j h => by simp at h⟩
def oc (o : Option C) : C := o.getD noC
def oe (o : Option C) : Int := if o.isSome then 0 else 506
theorem Fr.more {w : World} : ∀ {m lo hi : Nat} {v : Value} {c : C}, Fr w m lo hi v c → Fr w (m + 1) lo hi v c := by
  intro m
  induction m with
  | zero => intro lo hi v c h; rw [Fr] at h; exact h.elim
  | succ m ih =>
    intro lo hi v c h
    obtain ⟨k, b, i, s, n, l⟩ := c
    rw [Fr] at h ⊢
    obtain ⟨nv, lv, a1, a2, us, cut, h1, h2, rfl, hk, hi', hs, hn1, hn2, hl1, hT, hTb, hV, hVb, hus, hc0, hcl, hcm, hel⟩ := h
    exact ⟨nv, lv, a1, a2, us, cut, h1, h2, rfl, hk, hi', hs, hn1, hn2, hl1, hT, hTb, hV, hVb, hus, hc0, hcl, hcm, fun j h h' => ih (hel j h h')⟩
/-- Element i. -/
def eo (l : List C) (i : Int) : Option C := if i < 0 then none else l[i.toNat]?
theorem res_row_tmp {P : Program} {fn : Func} {p u : Tmp} {ty : TypeId} (h : fn.results = #[.cell p ty, .tmp u]) (tmps : Array Value) (w : World) (g : Nat) (t : TypeId) (cs : Array Value) (fr : Nat × Nat) (d : TypeDesc)
    (hp : tmps.getD p undef = .pointer (some ⟨g, 0, none⟩)) (hg : w.heap[g]? = some (.cells cs t fr)) (hu : P.underlying ty = some d) (hd : (match d with | .struct _ | .array _ _ => true | _ => false) = true) (hi : (P.info? ty).map (·.size) = some cs.size) :
    (results fn tmps).run P w = .ok (.tuple #[.agg cs, tmps.getD u undef]) w := by
  rw [results_cell_tmp h, hp]
  simp [asAddr, run_loadVar_row w g t ty cs fr d hg hu hd hi, Result.andThen]
/-- What lies in an answer: the part and the error. -/
def Ans (m : Nat) (o : Option C) (lo : Nat) (w0 : World) (e : Ending) (w' : World) : Prop := ∃ u, e = .returned (.tuple #[u, .int .i64 (oe o)]) ∧ Fr w' m lo w'.heap.size u (oc o) ∧ Below w0.heap.size w0 w'
def io (c : C) (q : Int) : Option C := if c.k = 5 then eo c.l q else none
def fo (c : C) (x : ByteArray) : Option C := if c.k = 6 then eo c.l (fiI c.n x) else none
/-- What the answer of element gives, laid out. -/
theorem Ans.out {m lo : Nat} {o : Option C} {w0 W : World} {e : Ending} {w1 : World} (h : Ans m o lo w0 e w1) :
    ∃ kk bb ii ss a1 n1 c1 a2 n2 c2, e = .returned (.tuple #[.agg #[.int .i64 kk, .bool bb, .int .i64 ii, .string ss, .slice a1 n1 c1, .slice a2 n2 c2], .int .i64 (oe o)]) ∧
      Hid (Fr w1 m lo w1.heap.size (.agg #[.int .i64 kk, .bool bb, .int .i64 ii, .string ss, .slice a1 n1 c1, .slice a2 n2 c2]) (oc o)) ∧ Below w0.heap.size w0 w1 := by
  obtain ⟨u, rfl, hfr, b1⟩ := h
  obtain ⟨y0, y1, y2, y3, y4, y5, rfl, -⟩ := hfr.in.six
  obtain ⟨a1, n1, c1, a2, n2, c2, rfl, rfl, rfl, rfl, rfl, rfl⟩ := hfr.in.kinds
  exact ⟨_, _, _, _, _, _, _, _, _, _, rfl, hfr, b1⟩
end Go.Proofs.YthjbknncbhkinaaGreatDoor.Part

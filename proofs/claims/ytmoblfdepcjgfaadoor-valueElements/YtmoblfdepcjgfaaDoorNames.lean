/- The names of a record: contract of namesMayBe. -/
import Derived.Test.YtmoblfdepcjgfaaDoorPure
import Derived.Test.YtmoblfdepcjgfaaDoorEq
import Derived.Maps.OwnSet
import Derived.LoopTactic
import Derived.LoopN
namespace Go.Proofs.YtmoblfdepcjgfaaDoor.Names
open Go.RowKit Go.Maps Go.WideMaps Go.Proofs.YtmoblfdepcjgfaaDoor.Base Go.Proofs.YtmoblfdepcjgfaaDoor.Pure Go.Proofs.YtmoblfdepcjgfaaDoor.Eq
set_option linter.unusedVariables false

def key (x : ByteArray) : Lit := .string x.data.toList
theorem key_inj {x y : ByteArray} (h : key x = key y) : x = y := by
  have h2 : x.data.toList = y.data.toList := by simpa [key] using h
  apply ByteArray.ext
  exact Array.toList_inj.1 h2
/-- The datum D of a map whose keys are the names L, one put behind the other. -/
structure Dat (D : DataW Unit) (L : List ByteArray) : Prop where
  tidy : Tidy D
  has : ∀ x, Maps.has D (key x) = true ↔ x ∈ L
  le : Maps.size D ≤ L.length
  eq : Maps.size D = L.length ↔ L.Nodup
theorem Dat.nil : Dat (.map []) [] := ⟨tidy_empty, fun x => by simp [Maps.has], by simp [Maps.size], by simp [Maps.size]⟩
theorem Dat.snoc {D : DataW Unit} {L : List ByteArray} (h : Dat D L) (x : ByteArray) (d : DataW Unit) : Dat (D.put (key x) d) (L ++ [x]) := by
  have hk : WideAt.IsKeyLit (key x) := trivial
  have hsz := size_put (k := key x) h.tidy d
  refine ⟨h.tidy.put hk d, fun y => ?_, ?_, ?_⟩
  · by_cases hy : y = x
    · subst hy
      rw [has_put_same h.tidy.isMap hk d]
      simp
    · rw [has_put_other (fun e => hy (key_inj e)) d, h.has y]
      simp [hy]
  · rw [hsz, List.length_append]
    have := h.le
    split <;> simp <;> omega
  · rw [hsz, List.length_append, List.nodup_append]
    have hle := h.le
    have heq := h.eq
    by_cases hx : x ∈ L
    · rw [if_pos ((h.has x).2 hx)]
      constructor
      · intro e; simp at e; omega
      · intro ⟨_, _, e⟩
        exact absurd rfl (e x hx x (by simp))
    · rw [if_neg (fun e => hx ((h.has x).1 e))]
      constructor
      · intro e
        refine ⟨heq.1 (by simp at e; omega), by simp, ?_⟩
        intro a ha b hb
        simp at hb
        subst hb
        intro e2
        subst e2
        exact hx ha
      · intro ⟨e, _⟩
        have := heq.2 e
        simp [this]
theorem law9 : Keyed Tryd.prog 9 := string_keyed Tryd.underlying9
/-- No two texts are the same. -/
def nd : List ByteArray → Bool
  | [] => true
  | a :: l => !(l.any (eqB a)) && nd l
theorem nd_iff {L : List ByteArray} : nd L = true ↔ L.Nodup := by
  induction L with
  | nil => simp [nd]
  | cons a l ih =>
    rw [nd, Bool.and_eq_true, ih, List.nodup_cons]
    have : (!(l.any (eqB a))) = true ↔ ¬ a ∈ l := by
      rw [Bool.not_eq_true', ← Bool.not_eq_true, List.any_eq_true]
      constructor
      · intro h ha
        exact h ⟨a, ha, eqB_eq.2 rfl⟩
      · rintro h ⟨x, hx, e⟩
        rw [eqB_eq] at e
        subst e
        exact h hx
    rw [this]
/-- The names of a record may be. -/
def nmb (n : List ByteArray) (ll : Nat) : Bool := decide (n.length = ll) && n.all tg && nd n
theorem makeHint (n : Int) (w : World) : (Instr.makeMap 83 (some (.int .i64 n))).run Tryd.prog w = .ok (.map (some w.heap.size)) (w.alloc (.map #[] 0)) := by
  simp [Instr.makeMap, run_underlying Tryd.underlying83, asInt]
  rfl
set_option maxRecDepth 20000 in
set_option maxHeartbeats 800000 in
theorem names_c {m : Nat} {v : Value} {c : C} {w : World} (h : In false All w m v c) :
    Calls Tryd.prog 65 #[v] w fun r w' => r = .returned (.bool (nmb c.n c.l.length)) ∧ Below w.heap.size w w' := by
  obtain ⟨m', nv, lv, -, rfl, -, -, -, hn, hl⟩ := h.shape
  obtain ⟨a', cap', rfl, hlc', hcm', hlen', hnil', -⟩ := hl.out
  obtain ⟨a, cap, rfl, hlc, hcm, hlen, hsz, hnil, hN⟩ := hn.out
  clear h hn hl
  obtain ⟨k, b, i, s, n, l⟩ := c
  simp only [C.k, C.b, C.i, C.s, C.n, C.l] at *
  generalize l.length = ll at *
  by_cases hne : n.length = ll
  · subst hne
    have e : nmb n n.length = (n.all tg && nd n) := by simp [nmb]
    rw [e]
    clear e
    have hmm := makeHint
    obtain ⟨W0, hW0⟩ : ∃ W0, w.alloc (.cells #[.int .i64 k, .bool b, .int .i64 i, .string s, .slice a n.length cap, .slice a' n.length cap'] 25) = W0 := ⟨_, rfl⟩
    have hb0 : Below w.heap.size w W0 := by rw [← hW0]; exact (Below.refl _ w).alloc (Nat.le_refl _) _
    have hx0 : W0.heap[w.heap.size]? = some (.cells #[.int .i64 k, .bool b, .int .i64 i, .string s, .slice a n.length cap, .slice a' n.length cap'] 25) := by rw [← hW0, heap_alloc_new]
    have hs0 : W0.heap.size = w.heap.size + 1 := by rw [← hW0]; simp
    obtain ⟨d0, d1, d2, d3, d4, d5⟩ := six_box hx0
    have HR : Hid (∀ q, q ≤ n.length → True) := fun _ _ => trivial
    generalize hR : (n.all tg && nd n) = R
    have HH : Hid ((n.all tg && nd n) = R) := hR
    clear hR HR
    go_enter Tryd.func65, Tryd.ntmps65
    go_wp2_with fail
    go_loopw [20] (fun i' wr => ∃ (q : Nat) (D : DataW Unit), q ≤ n.length ∧ i' = .int .i64 q ∧ wr.ownsMap Tryd.prog 9 (plainElem Tryd.prog 3) (w.heap.size + 1) q D ∧ Dat D (n.take q) ∧ ((n.take q).all tg = true) ∧ Below (w.heap.size + 1) W0 wr)
      (fun i' _ => n.length - (intOf i').toNat)
    case atStart =>
      refine ⟨0, .map [], by omega, rfl, ?_, by simpa using Dat.nil, by simp, (Below.refl _ _).alloc (by omega) _⟩
      have := World.ownsMap_made (H := Unit) W0 Tryd.prog 9 (plainElem Tryd.prog 3)
      rwa [hs0] at this
    case round =>
      obtain ⟨q, D, hq, rfl, hown, hD, htg, hb⟩ := hrel
      have HD : Hid (Dat D (n.take q) ∧ (n.take q).all tg = true) := ⟨hD, htg⟩
      have hsle : Maps.size D ≤ q := by have := hD.le; rw [List.length_take] at this; omega
      clear hD htg
      obtain ⟨-, -, -, -, y4, -⟩ := six_box ((hb.block w.heap.size (by omega)).trans hx0)
      have hbw : Below w.heap.size w wr := hb0.trans (hb.mono (by omega))
      by_cases hlt : q < n.length
      · obtain ⟨g, o, rfl, -, hc⟩ := name_at hN hlt
        have hc := below_cell hc hbw
        have hsx := hsz n[q] (List.getElem_mem hlt)
        obtain ⟨x, hx⟩ : ∃ x, n[q] = x := ⟨_, rfl⟩
        have HX : Hid (n[q] = x) := hx
        rw [hx] at hc hsx
        have c64 := tmb_c x hsx wr
        clear hN hx hsz hx0 hW0
        cases ht : tg x with
        | true =>
          rw [ht] at c64
          have hkey : keyOf Tryd.prog 9 (.string x) = some (key x) := keyOf_string_mk Tryd.underlying9 (by unfold maxLen; omega)
          have hval : plainElem (H := Unit) Tryd.prog 3 (.int .i64 (q : Int)) = some (.lit (.int .i64 (q : Int)), []) := plainElem_int Tryd.underlying3 (Go.WalkArith.wf_i64 (by omega))
          go_wp2_with (first
            | (go_at_call 64; refine c64.mono ?_; rintro e w1 ⟨rfl, b1⟩; have hown1 := hown.kept (row := none) ⟨b1.os, b1.tape, b1.output, b1.size, fun k hk _ => b1.block k hk⟩ (by simp))
            | (at_mapUpdate; refine wpList_mapUpdate_own _ rfl _ _ _ 83 rfl 9 3 law9 Tryd.underlying83 (plainElem (H := Unit) Tryd.prog 3) (w.heap.size + 1) q _ rfl hown1 (by unfold maxLen; omega) _ _ _ rfl rfl hkey _ [] hval ?_; intro w2 hown2 hgrow2)
            | fail)
          have HD2 : Hid (Dat (D.put (key x) (.lit (.int .i64 (q : Int)))) (n.take (q + 1)) ∧ (n.take (q + 1)).all tg = true) := by
            have e : n.take (q + 1) = n.take q ++ [x] := by rw [List.take_add_one, List.getElem?_eq_getElem hlt, HX.out]; rfl
            rw [e]
            exact ⟨HD.out.1.snoc x _, by rw [List.all_append, HD.out.2]; simp [ht]⟩
          have hb2 : Below (w.heap.size + 1) W0 w2 := (hb.trans (b1.mono (by have := hb.size; omega))).grown hgrow2 (by have := hb.size; have := b1.size; omega) (fun k hk => by cases hk; exact Nat.le_refl _)
          go_roundw
          case rel => exact ⟨q + 1, _, by omega, by go_num, hown2, HD2.out.1, HD2.out.2, hb2⟩
          case measure => simp only [intOf]; omega
        | false =>
          rw [ht] at c64
          have hR : R = false := by
            rw [← HH.out]
            have : n.all tg = false := by
              rw [← Bool.not_eq_true, List.all_eq_true]
              intro h
              have := h n[q] (List.getElem_mem hlt)
              rw [HX.out, ht] at this
              cases this
            rw [this]
            rfl
          subst hR
          go_wp2_with (first | (go_at_call 64; refine c64.mono ?_; rintro e w1 ⟨rfl, b1⟩))
          go_ret
          exact ⟨rfl, nx hbw b1⟩
      · have hlt' : decide ((q : Int) < (n.length : Int)) = false := by simp; omega
        obtain rfl : q = n.length := by omega
        have e : n.take n.length = n := List.take_of_length_le (Nat.le_refl _)
        have hDat := HD.out.1
        have hall := HD.out.2
        rw [e] at hDat hall
        have hR : ((Maps.size D : Int) == (n.length : Int)) = R := by
          rw [← HH.out, hall, Bool.true_and]
          by_cases hs : Maps.size D = n.length
          · rw [nd_iff.2 (hDat.eq.1 hs), hs]
            simp
          · have : nd n = false := by
              rw [← Bool.not_eq_true, nd_iff]
              exact fun h => hs (hDat.eq.2 h)
            rw [this]
            simp; omega
        clear hDat hall HD e hN hx0 hW0 HH hsz
        go_wp2_with (first
          | (at_len; refine wpList_len_own _ rfl _ 83 rfl 9 3 Tryd.underlying83 (plainElem (H := Unit) Tryd.prog 3) (w.heap.size + 1) n.length _ rfl hown ?_)
          | fail)
        go_ret
        exact ⟨rfl, hbw⟩
  · have e : nmb n ll = false := by simp [nmb, hne]
    rw [e]
    clear e
    have hne' : ((n.length : Int) != (ll : Int)) = true := by simp; omega
    go_enter Tryd.func65, Tryd.ntmps65
    go_wp2_with fail
    go_ret
    exact ⟨rfl, (Below.refl _ w).alloc (Nat.le_refl _) _⟩
end Go.Proofs.YtmoblfdepcjgfaaDoor.Names

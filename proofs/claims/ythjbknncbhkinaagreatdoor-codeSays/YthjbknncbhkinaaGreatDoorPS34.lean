import Derived.LoopN
import Derived.LoopTactic
import Derived.Maps.OwnSet
import Derived.Test.YthjbknncbhkinaaGreatDoorPS04
import Derived.Test.YthjbknncbhkinaaGreatDoorPS21
open Go.Proofs.Tryz
set_option linter.unusedVariables false
set_option maxRecDepth 20000
set_option maxHeartbeats 3200000
namespace Go.Proofs.YthjbknncbhkinaaGreatDoor.Names
open Go.RowKit Go.Maps Go.WideMaps Base Go.Proofs.YthjbknncbhkinaaGreatDoor.Pure Go.Proofs.YthjbknncbhkinaaGreatDoor.Eq
def key (x : ByteArray) : Lit := .string x.data.toList
theorem key_inj {x y : ByteArray} (h : key x = key y) : x = y := by
 have h2 : x.data.toList = y.data.toList := by simpa [key] using h
 apply ByteArray.ext
 exact Array.toList_inj.1 h2
structure Dat (D : DataW Unit) (L : List ByteArray) : Prop where
 tidy : Tidy D
 has : ∀ x, Maps.has D (key x) = true ↔ x ∈ L
 le : Maps.size D <= L.length
 eq : Maps.size D = L.length ↔ L.Nodup
theorem Dat.nil : Dat (.map []) [] := ⟨tidy_empty, fun x => by simp [Maps.has], by simp [Maps.size], by simp [Maps.size]⟩
theorem Dat.snoc {D : DataW Unit} {L : List ByteArray} (h : Dat D L) (x : ByteArray) (d : DataW Unit) : Dat (D.put (key x) d) (L ++ [x]) := by
 have hk : WideAt.IsKeyLit (key x) := trivial
 have hsz := size_put (k := key x) h.tidy d
 refine ⟨h.tidy.put hk d, fun y => ?_, ?_, ?_⟩
 ·by_cases hy : y = x
  ·subst hy
   rw [has_put_same h.tidy.isMap hk d]
   simp
  ·rw [has_put_other (fun e => hy (key_inj e)) d, h.has y]
   simp [hy]
 ·rw [hsz, List.length_append]
  have := h.le
  split <;> simp <;> omega
 ·rw [hsz, List.length_append, List.nodup_append]
  have hle := h.le
  have heq := h.eq
  by_cases hx : x ∈ L
  ·rw [if_pos ((h.has x).2 hx)]
   constructor
   ·intro e; simp at e; omega
   ·intro ⟨_, _, e⟩
    exact absurd rfl (e x hx x (by simp))
  ·rw [if_neg (fun e => hx ((h.has x).1 e))]
   constructor
   ·intro e
    refine ⟨heq.1 (by simp at e; omega), by simp, ?_⟩
    intro a ha b hb
    simp at hb
    subst hb
    intro e2
    subst e2
    exact hx ha
   ·intro ⟨e, _⟩
    have := heq.2 e
    simp [this]
theorem law9 : Keyed prog 9 := string_keyed underlying9
def nd : List ByteArray -> Bool
 | [] => true
 | a :: l => !(l.any (eqB a)) && nd l
theorem nd_iff {L : List ByteArray} : nd L = true ↔ L.Nodup := by
 induction L with
 | nil => simp [nd]
 | cons a l ih =>
  rw [nd, Bool.and_eq_true, ih, List.nodup_cons]
  have : (!(l.any (eqB a))) = true ↔ ¬ a ∈ l := by
   rw [Bool.not_eq_true', <- Bool.not_eq_true, List.any_eq_true]
   constructor
   ·intro h ha
    exact h ⟨a, ha, eqB_eq.2 rfl⟩
   ·rintro h ⟨x, hx, e⟩
    rw [eqB_eq] at e
    subst e
    exact h hx
  rw [this]
def nmb (n : List ByteArray) (ll : Nat) : Bool := decide (n.length = ll) && n.all tg && nd n
theorem makeHint (n : Int) (w : World) : (Instr.makeMap 148 (some (.int .i64 n))).run prog w = .ok (.map (some w.heap.size)) (w.alloc (.map #[] 0)) := by
 simp [Instr.makeMap, run_underlying underlying148, asInt]
 rfl
theorem names_c {m : Nat} {v : Value} {c : C} {w : World} (h : In false All w m v c) :
  Calls prog 129 #[v] w fun r w' => r = .returned (.bool (nmb c.n c.l.length)) /\ Below w.heap.size w w' := by
 obtain ⟨m', nv, lv, -, rfl, -, -, -, hn, hl⟩ := h.shape
 obtain ⟨a', cap', rfl, hlc', hcm', hlen', hnil', -⟩ := hl.out
 obtain ⟨a, cap, rfl, hlc, hcm, hlen, hsz, hnil, hN⟩ := hn.out
 clear h hn hl
 obtain ⟨k, b, i, s, n, l⟩ := c
 simp only [C.k, C.b, C.i, C.s, C.n, C.l] at *
 generalize l.length = ll at *
 by_cases hne : n.length = ll
 ·subst hne
  have e : nmb n n.length = (n.all tg && nd n) := by simp [nmb]
  rw [e]
  clear e
  have hmm := makeHint
  obtain ⟨W0, hW0⟩ : ∃ W0, w.alloc (.cells #[.int .i64 k, .bool b, .int .i64 i, .string s, .slice a n.length cap, .slice a' n.length cap'] 46) = W0 := ⟨_, rfl⟩
  have hb0 : Below w.heap.size w W0 := by rw [<- hW0]; exact (Below.refl _ w).alloc (Nat.le_refl _) _
  have hx0 : W0.heap[w.heap.size]? = some (.cells #[.int .i64 k, .bool b, .int .i64 i, .string s, .slice a n.length cap, .slice a' n.length cap'] 46) := by rw [<- hW0, heap_alloc_new]
  have hs0 : W0.heap.size = w.heap.size + 1 := by rw [<- hW0]; simp
  obtain ⟨d0, d1, d2, d3, d4, d5⟩ := six_box hx0
  have HR : Hid (∀ q, q <= n.length -> True) := fun _ _ => trivial
  generalize hR : (n.all tg && nd n) = R
  have HH : Hid ((n.all tg && nd n) = R) := hR
  clear hR HR
  go_enter func129, ntmps129
  go_wp2_with fail
  go_loopw [20] (fun i' wr => ∃ (q : Nat) (D : DataW Unit), q <= n.length /\ i' = .int .i64 q /\ wr.ownsMap prog 9 (plainElem prog 3) (w.heap.size + 1) q D /\ Dat D (n.take q) /\ ((n.take q).all tg = true) /\ Below (w.heap.size + 1) W0 wr)
   (fun i' _ => n.length - (intOf i').toNat)
  case atStart =>
   refine ⟨0, .map [], by omega, rfl, ?_, by simpa using Dat.nil, by simp, (Below.refl _ _).alloc (by omega) _⟩
   have := World.ownsMap_made (H := Unit) W0 prog 9 (plainElem prog 3)
   rwa [hs0] at this
  case round =>
   obtain ⟨q, D, hq, rfl, hown, hD, htg, hb⟩ := hrel
   have HD : Hid (Dat D (n.take q) /\ (n.take q).all tg = true) := ⟨hD, htg⟩
   have hsle : Maps.size D <= q := by have := hD.le; rw [List.length_take] at this; omega
   clear hD htg
   obtain ⟨-, -, -, -, y4, -⟩ := six_box ((hb.block w.heap.size (by omega)).trans hx0)
   have hbw : Below w.heap.size w wr := hb0.trans (hb.mono (by omega))
   by_cases hlt : q < n.length
   ·obtain ⟨g, o, rfl, -, hc⟩ := name_at hN hlt
    have hc := below_cell hc hbw
    have hsx := hsz n[q] (List.getElem_mem hlt)
    obtain ⟨x, hx⟩ : ∃ x, n[q] = x := ⟨_, rfl⟩
    have HX : Hid (n[q] = x) := hx
    rw [hx] at hc hsx
    have c64 := tmb_c x hsx wr
    clear hN hx hsz hx0 hW0
    cases ht : tg x with
    | true =>
     rw [ht] at c64
     have hkey : keyOf prog 9 (.string x) = some (key x) := keyOf_string_mk underlying9 (by unfold maxLen; omega)
     have hval : plainElem (H := Unit) prog 3 (.int .i64 (q : Int)) = some (.lit (.int .i64 (q : Int)), []) := plainElem_int underlying3 (Go.WalkArith.wf_i64 (by omega))
     go_wp2_with (first
      | (go_at_call 50; refine c64.mono ?_; rintro e w1 ⟨rfl, b1⟩; have hown1 := hown.kept (row := none) ⟨b1.os, b1.tape, b1.output, b1.size, fun k hk _ => b1.block k hk⟩ (by simp))
      | (at_mapUpdate; refine wpList_mapUpdate_own _ rfl _ _ _ 148 rfl 9 3 law9 underlying148 (plainElem (H := Unit) prog 3) (w.heap.size + 1) q _ rfl hown1 (by unfold maxLen; omega) _ _ _ rfl rfl hkey _ [] hval ?_; intro w2 hown2 hgrow2)
      | fail)
     have HD2 : Hid (Dat (D.put (key x) (.lit (.int .i64 (q : Int)))) (n.take (q + 1)) /\ (n.take (q + 1)).all tg = true) := by
      have e : n.take (q + 1) = n.take q ++ [x] := by rw [List.take_add_one, List.getElem?_eq_getElem hlt, HX.out]; rfl
      rw [e]
      exact ⟨HD.out.1.snoc x _, by rw [List.all_append, HD.out.2]; simp [ht]⟩
     have hb2 : Below (w.heap.size + 1) W0 w2 := (hb.trans (b1.mono (by have := hb.size; omega))).grown hgrow2 (by have := hb.size; have := b1.size; omega) (fun k hk => by cases hk; exact Nat.le_refl _)
     go_roundw
     case rel => exact ⟨q + 1, _, by omega, by go_num, hown2, HD2.out.1, HD2.out.2, hb2⟩
     case measure => simp only [intOf]; omega
    | false =>
     rw [ht] at c64
     have hR : R = false := by
      rw [<- HH.out]
      have : n.all tg = false := by
       rw [<- Bool.not_eq_true, List.all_eq_true]
       intro h
       have := h n[q] (List.getElem_mem hlt)
       rw [HX.out, ht] at this
       cases this
      rw [this]
      rfl
     subst hR
     go_wp2_with (first | (go_at_call 50; refine c64.mono ?_; rintro e w1 ⟨rfl, b1⟩))
     go_ret
     exact ⟨rfl, nx hbw b1⟩
   ·have hlt' : decide ((q : Int) < (n.length : Int)) = false := by simp; omega
    obtain rfl : q = n.length := by omega
    have e : n.take n.length = n := List.take_of_length_le (Nat.le_refl _)
    have hDat := HD.out.1
    have hall := HD.out.2
    rw [e] at hDat hall
    have hR : ((Maps.size D : Int) == (n.length : Int)) = R := by
     rw [<- HH.out, hall, Bool.true_and]
     by_cases hs : Maps.size D = n.length
     ·rw [nd_iff.2 (hDat.eq.1 hs), hs]
      simp
     ·have : nd n = false := by
       rw [<- Bool.not_eq_true, nd_iff]
       exact fun h => hs (hDat.eq.2 h)
      rw [this]
      simp; omega
    clear hDat hall HD e hN hx0 hW0 HH hsz
    go_wp2_with (first
     | (at_len; refine wpList_len_own _ rfl _ 148 rfl 9 3 underlying148 (plainElem (H := Unit) prog 3) (w.heap.size + 1) n.length _ rfl hown ?_)
     | fail)
    go_ret
    exact ⟨rfl, hbw⟩
 ·have e : nmb n ll = false := by simp [nmb, hne]
  rw [e]
  clear e
  have hne' : ((n.length : Int) != (ll : Int)) = true := by simp; omega
  go_enter func129, ntmps129
  go_wp2_with fail
  go_ret
  exact ⟨rfl, (Below.refl _ w).alloc (Nat.le_refl _) _⟩
end Go.Proofs.YthjbknncbhkinaaGreatDoor.Names
namespace Go.Proofs.YthjbknncbhkinaaGreatDoor.Fault
open Go.RowKit Base Go.Proofs.YthjbknncbhkinaaGreatDoor.Pure Names
def fm (c : C) : Bool := pu c.k c.b c.i c.s c.n.length c.l.length && tg c.s && (!decide (c.k = 6) || nmb c.n c.l.length)
def ft (c : C) (d q : Int) : Int := if 16384 < q then 503 else if 24 < d then 502 else if c.k < 1 \/ 6 < c.k then 500 else if fm c = true then 0 else 501
theorem fault_c {m : Nat} {v : Value} {c : C} {w : World} (h : In false All w m v c) (d q : Int) :
  Calls prog 98 #[v, .int .i64 d, .int .i64 q] w fun r w' => r = .returned (.int .i64 (ft c d q)) /\ Below w.heap.size w w' := by
 have hin := h
 obtain ⟨m', nv, lv, -, rfl, -, -, hs, hn, hl⟩ := h.shape
 obtain ⟨a', cap', rfl, -⟩ := hl.out
 obtain ⟨a, cap, rfl, -⟩ := hn.out
 clear h hn hl
 obtain ⟨k, b, i, s, n, l⟩ := c
 simp only [C.k, C.b, C.i, C.s, C.n, C.l] at *
 obtain ⟨W0, hW0⟩ : ∃ W0, w.alloc (.cells #[.int .i64 k, .bool b, .int .i64 i, .string s, .slice a n.length cap, .slice a' l.length cap'] 46) = W0 := ⟨_, rfl⟩
 have hb0 : Below w.heap.size w W0 := by rw [<- hW0]; exact (Below.refl _ w).alloc (Nat.le_refl _) _
 have hx0 : W0.heap[w.heap.size]? = some (.cells #[.int .i64 k, .bool b, .int .i64 i, .string s, .slice a n.length cap, .slice a' l.length cap'] 46) := by rw [<- hW0, heap_alloc_new]
 have hs0 : W0.heap.size = w.heap.size + 1 := by rw [<- hW0]; simp
 obtain ⟨d0, d1, d2, d3, d4, d5⟩ := six_box hx0
 have c63 := pure_c k b i s a a' n.length l.length cap cap' W0
 have hin0 := hin.below hb0
 by_cases h1 : 16384 < q
 ·have e : ft (.mk k b i s n l) d q = 503 := by simp [ft, h1]
  rw [e]
  clear e hin hin0 c63 hx0
  go_enter func98, ntmps98
  go_wp2_with fail
  go_ret
  exact ⟨rfl, hb0⟩
 have h1' : decide (16384 < q) = false := decide_eq_false h1
 by_cases h2 : 24 < d
 ·have e : ft (.mk k b i s n l) d q = 502 := by simp [ft, h1, h2]
  rw [e]
  clear e hin hin0 c63 hx0
  go_enter func98, ntmps98
  go_wp2_with fail
  go_ret
  exact ⟨rfl, hb0⟩
 have h2' : decide (24 < d) = false := decide_eq_false h2
 by_cases h3 : k < 1
 ·have e : ft (.mk k b i s n l) d q = 500 := by simp [ft, h1, h2, C.k, h3]
  rw [e]
  clear e hin hin0 c63 hx0
  go_enter func98, ntmps98
  go_wp2_with fail
  go_ret
  exact ⟨rfl, hb0⟩
 have h3' : decide (k < 1) = false := decide_eq_false h3
 by_cases h4 : 6 < k
 ·have e : ft (.mk k b i s n l) d q = 500 := by simp [ft, h1, h2, C.k, h4]
  rw [e]
  clear e hin hin0 c63 hx0
  go_enter func98, ntmps98
  go_wp2_with fail
  go_ret
  exact ⟨rfl, hb0⟩
 have h4' : decide (6 < k) = false := decide_eq_false h4
 have e0 : ft (.mk k b i s n l) d q = if (pu k b i s n.length l.length && tg s && (!decide (k = 6) || nmb n l.length)) = true then 0 else 501 := by
  have h34 : ¬ (k < 1 \/ 6 < k) := by omega
  unfold ft
  rw [if_neg h1, if_neg h2]
  exact if_neg h34
 rw [e0]
 clear e0 h1 h2 h3 h4
 generalize pu k b i s n.length l.length = P at *
 have c64 := fun w => tmb_c s hs w
 generalize tg s = T at *
 have c65 : ∀ w, In false All w m (.agg #[.int .i64 k, .bool b, .int .i64 i, .string s, .slice a n.length cap, .slice a' l.length cap']) (.mk k b i s n l) ->
   Calls prog 129 #[.agg #[.int .i64 k, .bool b, .int .i64 i, .string s, .slice a n.length cap, .slice a' l.length cap']] w fun r w' => r = .returned (.bool (nmb n l.length)) /\ Below w.heap.size w w' := fun w h => names_c h
 generalize nmb n l.length = N at *
 obtain ⟨X, hX⟩ : ∃ X : Int, (if (P && T && (!decide (k = 6) || N)) = true then 0 else 501) = X := ⟨_, rfl⟩
 rw [hX]
 have HX : Hid ((if (P && T && (!decide (k = 6) || N)) = true then 0 else 501) = X) := hX
 clear hX
 cases P with
 | false =>
  go_enter func98, ntmps98
  go_wp2_with (first | (go_at_call 128; refine c63.mono ?_; rintro e w1 ⟨rfl, b1⟩))
  go_ret
  exact ⟨by rw [<- HX.out]; rfl, nx hb0 b1⟩
 | true =>
  go_enter func98, ntmps98
  go_wp2_with fail
  refine c63.mono ?_
  rintro e w1 ⟨rfl, b1⟩
  have hx1 := (b1.block w.heap.size (by omega)).trans hx0
  obtain ⟨y0, y1, y2, y3, y4, y5⟩ := six_box hx1
  have c641 := c64 w1
  cases T with
  | false =>
   go_wp2_with (first | (go_at_call 50; refine c641.mono ?_; rintro e w2 ⟨rfl, b2⟩))
   go_ret
   exact ⟨by rw [<- HX.out]; rfl, nx (nx hb0 b1) b2⟩
  | true =>
   go_wp2_with fail
   refine c641.mono ?_
   rintro e w2 ⟨rfl, b2⟩
   have hx2 := (b2.block w.heap.size (by have := b1.size; omega)).trans hx1
   obtain ⟨z0, z1, z2, z3, z4, z5⟩ := six_box hx2
   by_cases h6 : k = 6
   ·subst h6
    have c652 := c65 w2 ((hin0.below b1).below b2)
    cases N with
    | true =>
     go_wp2_with (first | (go_at_call 129; refine c652.mono ?_; rintro e w3 ⟨rfl, b3⟩))
     go_ret
     exact ⟨by rw [<- HX.out]; rfl, nx (nx (nx hb0 b1) b2) b3⟩
    | false =>
     go_wp2_with (first | (go_at_call 129; refine c652.mono ?_; rintro e w3 ⟨rfl, b3⟩))
     go_ret
     exact ⟨by rw [<- HX.out]; rfl, nx (nx (nx hb0 b1) b2) b3⟩
   ·have h6' : (k == 6) = false := by simp [h6]
    go_wp2_with fail
    go_ret
    exact ⟨by rw [<- HX.out]; simp [h6], nx (nx hb0 b1) b2⟩
end Go.Proofs.YthjbknncbhkinaaGreatDoor.Fault

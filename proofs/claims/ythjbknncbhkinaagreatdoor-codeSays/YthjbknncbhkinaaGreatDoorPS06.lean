import Derived.Deep.RegionWith
import Derived.Laws.ResultCell
import Derived.Test.YthjbknncbhkinaaGreatDoorPS04
import Derived.Test.YthjbknncbhkinaaGreatDoorPS05
open Go.Proofs.Tryz
set_option linter.unusedVariables false
set_option maxRecDepth 20000
set_option maxHeartbeats 3200000
namespace Go.Proofs.YthjbknncbhkinaaGreatDoor.Copied
open Go.RowKit Base Fresh
theorem Fr.weak {w : World} {m lo hi lo' hi' : Nat} {v : Value} {c : C} (h : Fr w m lo hi v c) (h1 : lo' <= lo) (h2 : hi <= hi') : Fr w m lo' hi' v c := by
 cases m with
 | zero => rw [Fr] at h; exact h.elim
 | succ m =>
  obtain ⟨k, b, i, s, n, l⟩ := c
  rw [Fr] at h ⊢
  obtain ⟨nv, lv, a1, a2, us, cut, g1, g2, rfl, hk, hi', hs, hn1, hn2, hl1, hT, hTb, hV, hVb, hus, hc0, hcl, hcm, hel⟩ := h
  refine ⟨nv, lv, a1, a2, us, cut, by omega, g2, rfl, hk, hi', hs, hn1, hn2, hl1, ⟨hT.1, ?_⟩, hTb, hV, hVb, hus, hc0, by omega, hcm, hel⟩
  rcases hT.2 with h0 | ⟨g, cap, cur, e, hg, r⟩
  ·exact .inl h0
  ·exact .inr ⟨g, cap, cur, e, by omega, r⟩
theorem flat_set {us : List Value} {q : Nat} {u : Value} (hs : Sixes us) (hu : ∃ v0 v1 v2 v3 v4 v5, u = .agg #[v0, v1, v2, v3, v4, v5] /\ ∀ x ∈ [v0, v1, v2, v3, v4, v5], x.oneCell' = true) : Sixes (us.set q u) := by
 intro x hx
 rcases List.mem_or_eq_of_mem_set hx with h | rfl
 ·exact hs x h
 ·exact hu
theorem ownV_set {w w' : World} {B g n cap q : Nat} {us : List Value} {v0 v1 v2 v3 v4 v5 : Value} (h : OwnV w B (.slice (some ⟨g, 0, none⟩) n cap) us) (hq : q < us.length) (h1 : ∀ x ∈ [v0, v1, v2, v3, v4, v5], x.oneCell' = true)
  (hW : ((((((w.setCell ⟨g, q * 6, none⟩ v0).setCell ⟨g, q * 6 + 1, none⟩ v1).setCell ⟨g, q * 6 + 2, none⟩ v2).setCell ⟨g, q * 6 + 3, none⟩ v3).setCell ⟨g, q * 6 + 4, none⟩ v4).setCell ⟨g, q * 6 + 5, none⟩ v5) = w') :
  OwnV w' B (.slice (some ⟨g, 0, none⟩) n cap) (us.set q (.agg #[v0, v1, v2, v3, v4, v5])) /\ (∀ b, b ≠ g -> w'.heap[b]? = w.heap[b]?) /\ w'.heap.size = w.heap.size /\ ∀ x k, k <= g -> Below k x w -> Below k x w' := by
 subst hW
 refine ⟨?_, fun b hb => ?_, by simp [World.setCell], fun x k hk hb => ?_⟩
 ·have hs' : Sixes (us.set q (.agg #[v0, v1, v2, v3, v4, v5])) := flat_set h.2 ⟨_, _, _, _, _, _, rfl, h1⟩
  refine ⟨?_, hs'⟩
  have hlen := h.1.1
  rcases h.1.2 with ⟨h0, _⟩ | ⟨g', cap', cur, e, hB, hg, hn, hm, hsz, htake⟩
  ·cases h0
  ·cases e
   refine ⟨by rw [flat_len hs', List.length_set], .inr ⟨g, cap, _, ?_, hB, block_set (block_set (block_set (block_set (block_set (block_set hg _) _) _) _) _) _, by rw [List.length_set]; exact hn, hm, by simp [hsz], ?_⟩⟩
   ·rw [List.length_set]
   ·apply List.ext_getElem?
    intro p
    rw [List.length_set, List.getElem?_take]
    by_cases hp : p < us.length * 6
    ·rw [if_pos hp]
     have hp6 : p / 6 < us.length := by omega
     have e6 : p / 6 * 6 + p % 6 = p := by omega
     have hr : p % 6 < 6 := by omega
     have hF := flat_get hs' (p / 6) (by rw [List.length_set]; exact hp6) (p % 6) hr
     rw [e6] at hF
     rw [hF]
     have hold : cur.toList[p]? = us[p / 6].cells.toList[p % 6]? := by
      have := flat_get h.2 (p / 6) hp6 (p % 6) hr
      rw [e6, <- htake, List.getElem?_take, if_pos hp] at this
      exact this
     have hcs : p < cur.size := by rw [hsz]; omega
     have hpc : p < cap * 6 := by omega
     rw [List.getElem_set]
     by_cases hq6 : q = p / 6
     ·rw [if_pos hq6]
      have hcase : p % 6 = 0 \/ p % 6 = 1 \/ p % 6 = 2 \/ p % 6 = 3 \/ p % 6 = 4 \/ p % 6 = 5 := by omega
      simp only [Array.getElem?_toList, Value.cells]
      rcases hcase with h6 | h6 | h6 | h6 | h6 | h6 <;> rw [h6]
      ·have ep : p = q * 6 := by omega
       subst ep
       simp [hsz, hpc]
      ·have ep : p = q * 6 + 1 := by omega
       subst ep
       simp [hsz, hpc]
      ·have ep : p = q * 6 + 2 := by omega
       subst ep
       simp [hsz, hpc]
      ·have ep : p = q * 6 + 3 := by omega
       subst ep
       simp [hsz, hpc]
      ·have ep : p = q * 6 + 4 := by omega
       subst ep
       simp [hsz, hpc]
      ·have ep : p = q * 6 + 5 := by omega
       subst ep
       simp [hsz, hpc]
     ·rw [if_neg hq6, <- hold, Array.getElem?_toList, Array.getElem?_toList]
      rw [Array.getElem?_setIfInBounds_ne (by omega), Array.getElem?_setIfInBounds_ne (by omega), Array.getElem?_setIfInBounds_ne (by omega), Array.getElem?_setIfInBounds_ne (by omega), Array.getElem?_setIfInBounds_ne (by omega), Array.getElem?_setIfInBounds_ne (by omega)]
    ·rw [if_neg hp, List.getElem?_eq_none]
     rw [flat_len hs', List.length_set]
     omega
 ·rw [Below.heap_setCell _ _ _ _ hb, Below.heap_setCell _ _ _ _ hb, Below.heap_setCell _ _ _ _ hb, Below.heap_setCell _ _ _ _ hb, Below.heap_setCell _ _ _ _ hb, Below.heap_setCell _ _ _ _ hb]
 ·exact (((((hb.setCell (p := ⟨g, q * 6, none⟩) hk _).setCell (p := ⟨g, q * 6 + 1, none⟩) hk _).setCell (p := ⟨g, q * 6 + 2, none⟩) hk _).setCell (p := ⟨g, q * 6 + 3, none⟩) hk _).setCell (p := ⟨g, q * 6 + 4, none⟩) hk _).setCell (p := ⟨g, q * 6 + 5, none⟩) hk _
theorem frozen_own {w : World} {B : Nat} {e : TypeId} {s n n' g cap : Nat} {xs : List Value} (h : w.ownsRow B e s (.slice (some ⟨g, 0, none⟩) n' cap) n xs) (j : Nat) : w.frozen? ⟨g, j, none⟩ = false := by
 rcases h.2 with ⟨h0, _⟩ | ⟨g', cap', cur, e, _, hg, _⟩
 ·cases h0
 ·cases e
  exact frozen_box hg j
end Go.Proofs.YthjbknncbhkinaaGreatDoor.Copied
namespace Go.Proofs.YthjbknncbhkinaaGreatDoor.Part
open Go.RowKit Base Fresh Go.Proofs.YthjbknncbhkinaaGreatDoor.Eq
def fi (L : List ByteArray) (x : ByteArray) : Option Nat := L.findIdx? (eqB x)
def fiI (L : List ByteArray) (x : ByteArray) : Int := match fi L x with | none => -1 | some j => j
theorem fi_some {L : List ByteArray} {x : ByteArray} {q : Nat} (h : q < L.length) (he : eqB x L[q] = true) (hn : ∀ j (h : j < L.length), j < q -> eqB x L[j] = false) : fi L x = some q :=
 List.findIdx?_eq_some_iff_getElem.2 ⟨h, he, fun j hj => by rw [hn j (by omega) hj]; simp⟩
theorem fi_none {L : List ByteArray} {x : ByteArray} (hn : ∀ j (h : j < L.length), eqB x L[j] = false) : fi L x = none := by
 apply List.findIdx?_eq_none_iff.2
 intro y hy
 obtain ⟨j, hj, rfl⟩ := List.mem_iff_getElem.1 hy
 exact hn j hj
theorem fi_lt {L : List ByteArray} {x : ByteArray} {q : Nat} (h : fi L x = some q) : q < L.length := (List.findIdx?_eq_some_iff_getElem.1 h).1
theorem index_c (v : Value) (L : List ByteArray) (x : ByteArray) (w : World) (h : Tx false All w v L) :
  Calls prog 131 #[v, .string x] w fun e w' => e = .returned (.int .i64 (fiI L x)) /\ Below w.heap.size w w' := by
 obtain ⟨a, cap, rfl, hlc, hm, hlen, hsz, hnil, hN⟩ := h.out
 clear h hsz
 have H1 : Hid (∀ q (h : q < L.length), eqB x L[q] = true -> (∀ j (h : j < L.length), j < q -> eqB x L[j] = false) -> fiI L x = q) := fun q h he hn => by
  unfold fiI
  rw [fi_some h he hn]
 have H2 : Hid ((∀ j (h : j < L.length), eqB x L[j] = false) -> fiI L x = -1) := fun hn => by
  unfold fiI
  rw [fi_none hn]
 generalize fiI L x = R at *
 go_enter func131, ntmps131
 go_wp2_with fail
 go_loopw [8] (fun i wr => ∃ q : Nat, q <= L.length /\ i = .int .i64 q /\ (∀ j (h : j < L.length), j < q -> eqB x L[j] = false) /\ Below w.heap.size w wr) (fun i _ => L.length - (intOf i).toNat)
 case atStart => exact ⟨0, by omega, rfl, fun j _ h => by omega, Below.refl _ _⟩
 case round =>
  obtain ⟨q, hq, rfl, hall, hb⟩ := hrel
  by_cases hlt : q < L.length
  ·obtain ⟨g, o, rfl, -, hc⟩ := name_at hN hlt
   have hc := below_cell hc hb
   have HA : Hid (∀ j (h : j < L.length), j < q -> eqB x L[j] = false) := hall
   obtain ⟨y, hy⟩ : ∃ y, L[q] = y := ⟨_, rfl⟩
   have HY : Hid (L[q] = y) := hy
   rw [hy] at hc
   clear hN hall hy
   cases he : (x.toList == y.toList) with
   | true =>
    have hR : R = q := H1.out q hlt (by rw [HY.out]; exact he) HA.out
    subst hR
    go_wp2_with fail
    go_ret
    exact ⟨rfl, hb⟩
   | false =>
    have he' : eqB x y = false := he
    go_wp2_with fail
    go_roundw
    case rel =>
     refine ⟨q + 1, by omega, by go_num, fun j h1 hj => ?_, hb⟩
     by_cases e : j = q
     ·subst e
      rw [HY.out]
      exact he'
     ·exact HA.out j h1 (by omega)
    case measure => simp only [intOf]; omega
  ·have hlt' : decide ((q : Int) < (L.length : Int)) = false := by simp; omega
   have hR : R = -1 := H2.out fun j h => hall j h (by omega)
   subst hR
   clear hall
   go_wp2_with fail
   go_ret
   exact ⟨rfl, hb⟩
theorem res_row_tmp {P : Program} {fn : Func} {p u : Tmp} {ty : TypeId} (h : fn.results = #[.cell p ty, .tmp u]) (tmps : Array Value) (w : World) (g : Nat) (t : TypeId) (cs : Array Value) (fr : Nat × Nat) (d : TypeDesc)
  (hp : tmps.getD p undef = .pointer (some ⟨g, 0, none⟩)) (hg : w.heap[g]? = some (.cells cs t fr)) (hu : P.underlying ty = some d) (hd : (match d with | .struct _ | .array _ _ => true | _ => false) = true) (hi : (P.info? ty).map (·.size) = some cs.size) :
  (results fn tmps).run P w = .ok (.tuple #[.agg cs, tmps.getD u undef]) w := by
 rw [results_cell_tmp h, hp]
 simp [asAddr, run_loadVar_row w g t ty cs fr d hg hu hd hi, Result.andThen]
end Go.Proofs.YthjbknncbhkinaaGreatDoor.Part
namespace Go.Proofs.YthjbknncbhkinaaGreatDoor.Copied
open Go.RowKit Base Clone Fresh
def CopiedIs (m : Nat) : Prop := ∀ (v : Value) (c : C) (w : World), In false All w m v c ->
  Calls prog 43 #[v] w fun e w' => ∃ u, e = .returned u /\ Fr w' m w.heap.size w'.heap.size u c /\ Below w.heap.size w w'
structure Mid (w wr : World) (m : Nat) (l : List C) (os : List Value) (lu : Value) (b1 b2 q : Nat) (us : List Value) (cut : Nat -> Nat) : Prop where
 own : OwnV wr b1 lu us
 len : us.length = l.length
 fr : ∀ j (h : j < us.length) (h' : j < l.length), j < q -> Fr wr m (cut j) (cut (j + 1)) us[j] l[j]
 rest : ∀ j, q <= j -> us[j]? = os[j]?
 cut0 : cut 0 = b2
 cutq : cut q <= wr.heap.size
 mono : ∀ j, j < q -> cut j <= cut (j + 1)
theorem mid_step {w wr WP w3 W4 : World} {m b1 b2 q g cl : Nat} {l : List C} {os us : List Value} {cut : Nat -> Nat} {v0 v1 v2 v3 v4 v5 : Value} (hM : Mid w wr m l os (.slice (some ⟨g, 0, none⟩) l.length cl) b1 b2 q us cut) (hq : q < l.length)
  (bP : Below wr.heap.size wr WP) (b3 : Below WP.heap.size WP w3) (hfr : Fr w3 m WP.heap.size w3.heap.size (.agg #[v0, v1, v2, v3, v4, v5]) l[q]) (hg : g < b2) (hone : ∀ x ∈ [v0, v1, v2, v3, v4, v5], x.oneCell' = true)
  (hW : ((((((w3.setCell ⟨g, q * 6, none⟩ v0).setCell ⟨g, q * 6 + 1, none⟩ v1).setCell ⟨g, q * 6 + 2, none⟩ v2).setCell ⟨g, q * 6 + 3, none⟩ v3).setCell ⟨g, q * 6 + 4, none⟩ v4).setCell ⟨g, q * 6 + 5, none⟩ v5) = W4) :
  Mid w W4 m l os (.slice (some ⟨g, 0, none⟩) l.length cl) b1 b2 (q + 1) (us.set q (.agg #[v0, v1, v2, v3, v4, v5])) (fun j => if j <= q then cut j else w3.heap.size) /\ (∀ b, b ≠ g -> b < wr.heap.size -> W4.heap[b]? = wr.heap[b]?) /\ wr.heap.size <= W4.heap.size /\
   ∀ x k, k <= g -> k <= wr.heap.size -> Below k x wr -> Below k x W4 := by
 have hlen := hM.len
 have b4 : Below wr.heap.size wr w3 := nx bP b3
 have hV3 : OwnV w3 b1 (.slice (some ⟨g, 0, none⟩) l.length cl) us := ⟨own_below hM.own.1 b4, hM.own.2⟩
 obtain ⟨hV4, hot, hsz, hbel⟩ := ownV_set hV3 (by omega) hone hW
 have hsP := bP.size
 have hs3 := b3.size
 have hcc : ∀ j, j <= q -> b2 <= cut j := by
  intro j hj
  have := cut_le (n := q) hM.mono 0 j (by omega) hj
  rw [hM.cut0] at this
  exact this
 have hkeep : ∀ lo hi, b2 <= lo -> Keep (Rg lo hi) w3 W4 := fun lo hi hlo b hb _ => hot b (by have := hb.1; omega)
 refine ⟨⟨hV4, by rw [List.length_set]; exact hlen, fun j h h' hj => ?_, fun j hj => ?_, ?_, ?_, fun j hj => ?_⟩, fun b hb hlt => by rw [hot b hb, b4.block b hlt], by omega, fun x k hk hkw hb => hbel x k hk (hb.trans (b4.mono hkw))⟩
 ·have hcq := hM.cutq
  by_cases e : j = q
  ·subst e
   rw [List.getElem_set_self]
   simp only [Nat.le_refl, if_true]
   rw [if_neg (by omega)]
   exact (Fr.weak hfr (by omega) (Nat.le_refl _)).keep (hkeep _ _ (hcc j (Nat.le_refl _)))
  ·rw [List.getElem_set_ne (by omega)]
   try dsimp only
   rw [if_pos (by omega), if_pos (by omega)]
   exact ((hM.fr j (by simpa using h) h' (by omega)).below b4).keep (hkeep _ _ (hcc j (by omega)))
 ·rw [List.getElem?_set_ne (by omega)]
  exact hM.rest j (by omega)
 ·simp [hM.cut0]
 ·try dsimp only
  rw [if_neg (by omega)]
  omega
 ·have hcq := hM.cutq
  by_cases e : j = q
  ·subst e
   simp only [Nat.le_refl, if_true]
   rw [if_neg (by omega)]
   omega
  ·try dsimp only
   rw [if_pos (by omega), if_pos (by omega)]
   exact hM.mono j (by omega)
def ListIs (m : Nat) : Prop := ∀ (S : Nat -> Prop) (lv : Value) (l : List C) (w : World), (∀ b, S b -> b < w.heap.size) -> InL false S w m lv l ->
  Calls prog 68 #[lv, .func (.func 43) #[] #[]] w fun e w' => ∃ al cl os us cut b2, e = .returned (.slice al l.length cl) /\ Mid w w' m l os (.slice al l.length cl) w.heap.size b2 l.length us cut /\ w.heap.size <= b2 /\ (∀ g, (Value.slice al l.length cl).ownBlock = some g -> g < b2) /\ Below w.heap.size w w'
theorem list_of (m : Nat) (ih : CopiedIs m) : ListIs m := by
 intro S lv l w hS h
 have c70 := cloneV_c m lv l w h
 obtain ⟨la, lc, e2, -, -, hl1, -⟩ := h.out
 clear h e2 la lc
 go_enter func68, ntmps68
 go_wp2_with fail
 refine c70.mono ?_
 rintro e w2 ⟨lu, rfl, os, hV0, hos, hins, b2⟩
 clear c70
 have hs2 := b2.size
 have hltV := World.ownsRow.lt hV0.1
 have hlu : ∃ a1 c1, lu = .slice a1 l.length c1 := by
  rcases hV0.1.2 with ⟨h, h0⟩ | ⟨_, _, _, h, _⟩
  ·exact ⟨none, 0, by rw [h]; congr 1; omega⟩
  ·exact ⟨_, _, by rw [h, hos]⟩
 obtain ⟨al, cl, rfl⟩ := hlu
 have HM0 : Hid (Mid w w2 m l os (.slice al l.length cl) w.heap.size w2.heap.size 0 os (fun _ => w2.heap.size)) := ⟨hV0, hos, fun j _ _ h => by omega, fun j _ => rfl, rfl, by omega, fun j h => by omega⟩
 have HI : Hid (∀ wr, Below w.heap.size w wr -> ∀ j (h : j < os.length) (h' : j < l.length), In false All wr m os[j] l[j]) := fun wr hbr j h h' =>
  ((hins j h h').keep (w' := wr) fun b hb _ => hbr.block b (hS b hb)).plain
 clear hV0 hins hS
 have HB2 : Hid (Below w.heap.size w w2) := b2
 clear b2
 go_wp2_with fail
 go_loopw [12] (fun i' wr => ∃ (q : Nat) (us : List Value) (cut : Nat -> Nat), q <= l.length /\ i' = .int .i64 q /\ Mid w wr m l os (.slice al l.length cl) w.heap.size w2.heap.size q us cut /\ Below w.heap.size w wr /\ w2.heap.size <= wr.heap.size) (fun i' _ => l.length - (intOf i').toNat)
 case atStart => exact ⟨0, os, fun _ => w2.heap.size, by omega, rfl, HM0.out, HB2.out, by omega⟩
 case round =>
  clear HM0 HB2
  obtain ⟨q, us, cut, hq, rfl, hM, hb, hsw⟩ := hrel
  by_cases hlt : q < l.length
  ·have hus := hM.len
   obtain ⟨g, ⟨rfl⟩⟩ : ∃ g, al = some ⟨g, 0, none⟩ := by
    rcases hM.own.1.2 with ⟨h, h0⟩ | ⟨g, _, _, h, _⟩
    ·omega
    ·exact ⟨g, (Value.slice.inj h).1⟩
   have hgl := ownV_lt hM.own
   have hx : us[q]'(by omega) = os[q]'(by rw [hos]; omega) := by
    have := hM.rest q (Nat.le_refl _)
    rw [List.getElem?_eq_getElem (by omega), List.getElem?_eq_getElem (by rw [hos]; omega)] at this
    exact Option.some.inj this
   have hin := HI.out wr hb q (by rw [hos]; omega) hlt
   have hsx := ownV_six hM.own q (by omega)
   rw [hx] at hsx
   generalize os[q]'(by rw [hos]; omega) = x at hin hsx
   rw [Nat.zero_add] at hsx
   obtain ⟨x0, x1, x2, x3, x4, x5, rfl, e0, e1, e2, e3, e4, e5⟩ := hsx
   obtain ⟨p1, q1, r1, p2, q2, r2, rfl, rfl, rfl, rfl, rfl, rfl⟩ := hin.kinds
   generalize l[q].k = kk, l[q].b = bb, l[q].i = ii, l[q].s = ss at *
   obtain ⟨WP, hWP⟩ : ∃ WP, wr.alloc (.cells #[.int .i64 kk, .bool bb, .int .i64 ii, .string ss, .slice p1 q1 r1, .slice p2 q2 r2] 46) = WP := ⟨_, rfl⟩
   have bP : Below wr.heap.size wr WP := by rw [<- hWP]; exact (Below.refl _ wr).alloc (Nat.le_refl _) _
   have hsP : WP.heap.size = wr.heap.size + 1 := by rw [<- hWP]; simp
   obtain ⟨t0, t1, t2, t3, t4, t5⟩ := six_box (show WP.heap[wr.heap.size]? = some (.cells #[.int .i64 kk, .bool bb, .int .i64 ii, .string ss, .slice p1 q1 r1, .slice p2 q2 r2] 46 (0, 0)) by rw [<- hWP, heap_alloc_new])
   have c60 := ih _ l[q] WP (hin.below bP)
   have HM : Hid (Mid w wr m l os (.slice (some ⟨g, 0, none⟩) l.length cl) w.heap.size w2.heap.size q us cut) := hM
   clear hM ih hx hin
   have c61 : Calls prog 43 #[.agg #[.int .i64 kk, .bool bb, .int .i64 ii, .string ss, .slice p1 q1 r1, .slice p2 q2 r2]] WP fun e w3 => ∃ K B I S A1 N1 C1 A2 N2 C2, e = .returned (.agg #[.int .i64 K, .bool B, .int .i64 I, .string S, .slice A1 N1 C1, .slice A2 N2 C2]) /\
     (w3.cell? ⟨g, q * 6, none⟩ = some (.int .i64 kk) /\ w3.cell? ⟨g, q * 6 + 1, none⟩ = some (.bool bb) /\ w3.cell? ⟨g, q * 6 + 2, none⟩ = some (.int .i64 ii) /\ w3.cell? ⟨g, q * 6 + 3, none⟩ = some (.string ss) /\ w3.cell? ⟨g, q * 6 + 4, none⟩ = some (.slice p1 q1 r1) /\ w3.cell? ⟨g, q * 6 + 5, none⟩ = some (.slice p2 q2 r2)) /\ (w3.frozen? ⟨g, q * 6, none⟩ = false /\ w3.frozen? ⟨g, q * 6 + 1, none⟩ = false /\ w3.frozen? ⟨g, q * 6 + 2, none⟩ = false /\ w3.frozen? ⟨g, q * 6 + 3, none⟩ = false /\ w3.frozen? ⟨g, q * 6 + 4, none⟩ = false /\ w3.frozen? ⟨g, q * 6 + 5, none⟩ = false) /\
     Hid (Fr w3 m WP.heap.size w3.heap.size (.agg #[.int .i64 K, .bool B, .int .i64 I, .string S, .slice A1 N1 C1, .slice A2 N2 C2]) l[q] /\ Below WP.heap.size WP w3) := by
    refine c60.mono ?_
    rintro e w3 ⟨u, rfl, hfr, b3⟩
    obtain ⟨y0, y1, y2, y3, y4, y5, rfl, hone⟩ := hfr.in.six
    obtain ⟨a1, n1, c1, a2, n2, c2, rfl, rfl, rfl, rfl, rfl, rfl⟩ := hfr.in.kinds
    have hV3 := own_below (own_below HM.out.own.1 bP) b3
    exact ⟨_, _, _, _, _, _, _, _, _, _, rfl, ⟨below_cell (below_cell e0 bP) b3, below_cell (below_cell e1 bP) b3, below_cell (below_cell e2 bP) b3, below_cell (below_cell e3 bP) b3, below_cell (below_cell e4 bP) b3, below_cell (below_cell e5 bP) b3⟩,
     ⟨frozen_own hV3 _, frozen_own hV3 _, frozen_own hV3 _, frozen_own hV3 _, frozen_own hV3 _, frozen_own hV3 _⟩, hfr, b3⟩
   clear c60
   go_wp2_with fail
   try rw [hWP]
   clear hWP
   refine c61.mono ?_
   rintro e w3 ⟨K, B, I, S, A1, N1, C1, A2, N2, C2, rfl, ⟨s10, s11, s12, s13, s14, s15⟩, ⟨z0, z1, z2, z3, z4, z5⟩, HF⟩
   obtain ⟨W4, hW4⟩ : ∃ W4, ((((((w3.setCell ⟨g, q * 6, none⟩ (.int .i64 K)).setCell ⟨g, q * 6 + 1, none⟩ (.bool B)).setCell ⟨g, q * 6 + 2, none⟩ (.int .i64 I)).setCell ⟨g, q * 6 + 3, none⟩ (.string S)).setCell ⟨g, q * 6 + 4, none⟩ (.slice A1 N1 C1)).setCell ⟨g, q * 6 + 5, none⟩ (.slice A2 N2 C2)) = W4 := ⟨_, rfl⟩
   obtain ⟨hM4, hot4, hsz4, hbel4⟩ := mid_step HM.out hlt bP HF.out.2 HF.out.1 (hltV g rfl).2 (by intro x hx; simp at hx; rcases hx with rfl | rfl | rfl | rfl | rfl | rfl <;> rfl) hW4
   have HM5 : Hid (Mid w W4 m l os (.slice (some ⟨g, 0, none⟩) l.length cl) w.heap.size w2.heap.size (q + 1) (us.set q (.agg #[.int .i64 K, .bool B, .int .i64 I, .string S, .slice A1 N1 C1, .slice A2 N2 C2])) (fun j => if j <= q then cut j else w3.heap.size)) := hM4
   clear hM4 HF c61 e0 e1 e2 e3 e4 e5 t0 t1 t2 t3 t4 t5
   go_wp2_with fail
   try rw [hW4]
   go_roundw
   case rel =>
    have hgW := (hltV g rfl).1
    exact ⟨q + 1, _, _, by omega, by go_num, HM5.out, hbel4 w _ (by omega) (by omega) hb, by omega⟩
   case measure => simp only [intOf]; omega
  ·have hlt' : decide ((q : Int) < (l.length : Int)) = false := by simp; omega
   obtain rfl : q = l.length := by omega
   have HM : Hid (Mid w wr m l os (.slice al l.length cl) w.heap.size w2.heap.size l.length us cut) := hM
   clear hM
   go_wp2_with fail
   go_ret
   exact ⟨_, _, _, _, _, _, rfl, HM.out, hs2, fun g hg => (hltV g hg).2, hb⟩
theorem copied_of (m : Nat) (ih : CopiedIs m) : CopiedIs (m + 1) := by
 have hli := list_of m ih
 intro v c w h
 have h' := In.low h
 obtain ⟨k, b, i, s, n, l⟩ := c
 rw [in_iff] at h'
 obtain ⟨nv, lv, rfl, hk, hi, hs, hn, hl⟩ := h'
 clear h ih
 obtain ⟨na, nc, e1, -, -, hn1, hn2, -⟩ := hn.out
 obtain ⟨la, lc, e2, -, -, hl1, -⟩ := hl.out
 clear e1 e2
 obtain ⟨W0, hW0⟩ : ∃ W0, (w.alloc (.cells #[.int .i64 k, .bool b, .int .i64 i, .string s, nv, lv] 46)).alloc (.cells #[.int .i64 0, .bool false, .int .i64 0, .string ⟨#[]⟩, .slice none 0 0, .slice none 0 0] 46) = W0 := ⟨_, rfl⟩
 have hb0 : Below w.heap.size w W0 := by rw [<- hW0]; exact ((Below.refl _ w).alloc (Nat.le_refl _) _).alloc (by simp) _
 have hsz0 : W0.heap.size = w.heap.size + 2 := by rw [<- hW0]; simp
 have hx0 : W0.heap[w.heap.size]? = some (.cells #[.int .i64 k, .bool b, .int .i64 i, .string s, nv, lv] 46 (0, 0)) := by
  rw [<- hW0, Below.heap_alloc _ _ _ (by simp), heap_alloc_new]
 have hx1 : W0.heap[w.heap.size + 1]? = some (.cells #[.int .i64 0, .bool false, .int .i64 0, .string ⟨#[]⟩, .slice none 0 0, .slice none 0 0] 46 (0, 0)) := by
  have := heap_alloc_new (w.alloc (.cells #[.int .i64 k, .bool b, .int .i64 i, .string s, nv, lv] 46)) (.cells #[.int .i64 0, .bool false, .int .i64 0, .string ⟨#[]⟩, .slice none 0 0, .slice none 0 0] 46)
  rwa [hW0, World.size_alloc] at this
 have c69 := cloneT_c nv n W0 (hn.below hb0).plain
 obtain ⟨-, -, -, -, e4, -⟩ := six_box hx0
 go_enter func43, ntmps43
 go_wp2_with fail
 refine c69.mono ?_
 rintro e w1 ⟨nu, rfl, ht1, b1⟩
 have hy0 := (b1.block w.heap.size (by omega)).trans hx0
 have hy1 := (b1.block (w.heap.size + 1) (by omega)).trans hx1
 clear c69 hx0 hx1 hW0 e4
 obtain ⟨d0, d1, d2, d3, d4, d5⟩ := six_box hy0
 have f4 := frozen_box hy0 4
 have hs1 := b1.size
 obtain ⟨W1, hW1⟩ : ∃ W1, w1.setCell ⟨w.heap.size, 4, none⟩ nu = W1 := ⟨_, rfl⟩
 have hz0 : W1.heap[w.heap.size]? = some (.cells #[.int .i64 k, .bool b, .int .i64 i, .string s, nu, lv] 46 (0, 0)) := by rw [<- hW1, block_set hy0]; rfl
 have hz1 : W1.heap[w.heap.size + 1]? = some (.cells #[.int .i64 0, .bool false, .int .i64 0, .string ⟨#[]⟩, .slice none 0 0, .slice none 0 0] 46 (0, 0)) := by rw [<- hW1, Below.heap_setCell _ _ _ _ (by simp)]; exact hy1
 have hsz1 : W1.heap.size = w1.heap.size := by rw [<- hW1]; simp [World.setCell]
 have hb1 : Below w.heap.size w W1 := by rw [<- hW1]; exact (hb0.trans (b1.mono (by omega))).setCell (p := ⟨w.heap.size, 4, none⟩) (Nat.le_refl _) _
 have hlt1 := World.ownsRow.lt ht1
 have ht2 : OwnT W1 W0.heap.size nu n := own_keep ht1 fun g hg => by rw [<- hW1]; exact Below.heap_setCell _ _ _ _ (by have := hlt1 g hg; simp; omega)
 have c70 := hli (fun b => b < w.heap.size) lv l W1 (fun b hb => by show b < _; have := hb1.size; omega) (hl.keep (w' := W1) fun b hb _ => hb1.block b hb)
 have hnu : ∃ a1 n1 c1, nu = .slice a1 n1 c1 := by
  rcases ht1.2 with ⟨h, _⟩ | ⟨_, _, _, h, _⟩
  ·exact ⟨_, _, _, h⟩
  ·exact ⟨_, _, _, h⟩
 obtain ⟨an, nn, cn, rfl⟩ := hnu
 clear ht1 hy0 hy1
 obtain ⟨-, -, -, -, -, k5⟩ := six_box hz0
 go_wp2_with fail
 refine c70.mono ?_
 rintro e w2 ⟨al, cl, os, us, cut, x2, rfl, hM, hx2, hgx, b2⟩
 have hy0 := (b2.block w.heap.size (by omega)).trans hz0
 have hy1 := (b2.block (w.heap.size + 1) (by omega)).trans hz1
 clear c70 hz0 hz1 hW1 d0 d1 d2 d3 d4 d5 f4 k5
 have f5 := frozen_box hy0 5
 have hs2 := b2.size
 obtain ⟨d0, d1, d2, d3, d4, d5⟩ := six_box hy0
 obtain ⟨W2, hW2⟩ : ∃ W2, w2.setCell ⟨w.heap.size, 5, none⟩ (.slice al l.length cl) = W2 := ⟨_, rfl⟩
 have hz0 : W2.heap[w.heap.size]? = some (.cells #[.int .i64 k, .bool b, .int .i64 i, .string s, .slice an nn cn, .slice al l.length cl] 46 (0, 0)) := by rw [<- hW2, block_set hy0]; rfl
 have hz1 : W2.heap[w.heap.size + 1]? = some (.cells #[.int .i64 0, .bool false, .int .i64 0, .string ⟨#[]⟩, .slice none 0 0, .slice none 0 0] 46 (0, 0)) := by rw [<- hW2, Below.heap_setCell _ _ _ _ (by simp)]; exact hy1
 have hsz2 : W2.heap.size = w2.heap.size := by rw [<- hW2]; simp [World.setCell]
 have hb2 : Below w.heap.size w W2 := by rw [<- hW2]; exact (hb1.trans (b2.mono (by omega))).setCell (p := ⟨w.heap.size, 5, none⟩) (Nat.le_refl _) _
 have hlt2 := World.ownsRow.lt ht2
 have hltV := World.ownsRow.lt hM.own.1
 have hot2 : ∀ x, x ≠ w.heap.size -> W2.heap[x]? = w2.heap[x]? := fun x hx => by rw [<- hW2]; exact Below.heap_setCell _ _ _ _ hx
 have ht3 : OwnT W2 W0.heap.size (.slice an nn cn) n := own_keep ht2 fun g hg => by
  have := hlt2 g hg
  rw [hot2 g (by omega)]
  exact b2.block g (by omega)
 obtain ⟨e0, e1, e2, e3, e4, e5⟩ := six_box hz1
 obtain ⟨j0, j1, j2, j3, j4, j5⟩ := six_box hz0
 have g0 := frozen_box hz1 0
 have g1 := frozen_box hz1 1
 have g2 := frozen_box hz1 2
 have g3 := frozen_box hz1 3
 have g4 := frozen_box hz1 4
 have g5 := frozen_box hz1 5
 have HM : Hid _ := hM
 have HZ1 : Hid _ := hz1
 clear hM hy0 hy1 hz0 hz1 hli
 go_wp2_with fail
 try rw [hW2]
 clear d0 d1 d2 d3 d4 d5 f5
 obtain ⟨W3, hW3⟩ : ∃ W3, ((((((W2.setCell ⟨w.heap.size + 1, 0, none⟩ (.int .i64 k)).setCell ⟨w.heap.size + 1, 1, none⟩ (.bool b)).setCell ⟨w.heap.size + 1, 2, none⟩ (.int .i64 i)).setCell ⟨w.heap.size + 1, 3, none⟩ (.string s)).setCell
  ⟨w.heap.size + 1, 4, none⟩ (.slice an nn cn)).setCell ⟨w.heap.size + 1, 5, none⟩ (.slice al l.length cl)) = W3 := ⟨_, rfl⟩
 go_wp2_with fail
 try rw [hW3]
 obtain ⟨q1, q2, q3, q4⟩ := set6 _ _ _ _ _ _ HZ1.out hW3
 refine bodyPost_ret (results_cell_row rfl _ W3 (w.heap.size + 1) 46 _ (0, 0) _ rfl q1 underlying46 rfl (by kernel_rfl)) rfl ?_
 have hM := HM.out
 have hot3 : ∀ x, x ≠ w.heap.size -> x ≠ w.heap.size + 1 -> W3.heap[x]? = w2.heap[x]? := fun x h1 h2 => (q2 x h2).trans (hot2 x h1)
 refine ⟨_, rfl, ?_, q4 _ _ (by omega) hb2⟩
 rw [Fr]
 refine ⟨_, _, w1.heap.size, x2, us, cut, by omega, by have := hM.cutq; have := cut_le (n := l.length) hM.mono 0 l.length (by omega) (by omega); rw [hM.cut0] at this; omega, rfl, hk, hi, hs, hn1, hn2, hl1, ?_, fun g hg => ?_, ?_, fun g hg => hgx g hg, hM.len, hM.cut0, by have := hM.cutq; omega, hM.mono, fun j h h' => ?_⟩
 ·have := own_keep ht3 (w' := W3) fun x hx => q2 x (by have := hlt2 x hx; omega)
  refine ⟨this.1, ?_⟩
  rcases this.2 with h0 | ⟨x, y, z, e, hx, r⟩
  ·exact .inl h0
  ·exact .inr ⟨x, y, z, e, by omega, r⟩
 ·have := hlt1 g hg
  omega
 ·refine ⟨?_, hM.own.2⟩
  have := own_keep hM.own.1 (w' := W3) fun x hx => hot3 x (by have := (hltV x hx).1; omega) (by have := (hltV x hx).1; omega)
  rw [hsz1] at this
  exact this
 ·refine (hM.fr j h h' h').keep fun x hx _ => hot3 x ?_ ?_
  all_goals
   have h1 := cut_le (n := l.length) hM.mono 0 j (by omega) (by omega)
   rw [hM.cut0] at h1
   have := hx.1
   omega
theorem copieds : ∀ m, CopiedIs m := by
 intro m
 induction m with
 | zero => intro v c w h; rw [In] at h; exact h.elim
 | succ m ih => exact copied_of m ih
theorem copied_c {m : Nat} {v : Value} {c : C} {w : World} (h : In false All w m v c) :
  Calls prog 43 #[v] w fun e w' => ∃ u, e = .returned u /\ Fr w' m w.heap.size w'.heap.size u c /\ Below w.heap.size w w' := copieds m v c w h
end Go.Proofs.YthjbknncbhkinaaGreatDoor.Copied
namespace Go.Proofs.YthjbknncbhkinaaGreatDoor.SameV
open Go.RowKit Base SameT
def SamesV (m : Nat) : Prop := ∀ (u v : Value) (c : C) (w : World), In false All w m u c -> In false All w m v c ->
  Calls prog 24 #[u, v] w fun e w' => e = .returned (.bool true) /\ Below w.heap.size w w'
theorem sameVs_of (m : Nat) (hm : SamesV m) (u v : Value) (l : List C) (w : World) (hu : InL false All w m u l) (hv : InL false All w m v l) :
  Calls prog 47 #[u, v] w fun e w' => e = .returned (.bool true) /\ Below w.heap.size w w' := by
 obtain ⟨a, cap, rfl, hlc, hcm, hlen, hnil, hN⟩ := hu.out
 obtain ⟨a', cap', rfl, hlc', hm', hlen', hnil', hN'⟩ := hv.out
 clear hu hv hlen'
 go_enter func47, ntmps47
 go_wp2_with fail
 go_loopw [5] (fun i wr => ∃ q : Nat, q <= l.length /\ i = .int .i64 q /\ Below w.heap.size w wr) (fun i _ => l.length - (intOf i).toNat)
 case atStart => exact ⟨0, by omega, rfl, Below.refl _ _⟩
 case round =>
  obtain ⟨q, hq, rfl, hb⟩ := hrel
  by_cases hlt : q < l.length
  ·obtain ⟨g, o, x, rfl, -, hx, hin⟩ := elem_at hN hlt
   obtain ⟨g', o', y, rfl, -, hy, hin'⟩ := elem_at hN' hlt
   have hd := (Below.refl wr.heap.size wr).drew
   have c31 := hm x y l[q] wr.drew ((hin.below hb).below hd) ((hin'.below hb).below hd)
   have hx := six_below hx hb
   have hy := six_below hy hb
   obtain ⟨x0, x1, x2, x3, x4, x5, rfl, d0, d1, d2, d3, d4, d5⟩ := hx
   obtain ⟨y0, y1, y2, y3, y4, y5, rfl, e0, e1, e2, e3, e4, e5⟩ := hy
   clear hN hN' hin hin' hm
   go_wp2_with fail
   go_region_with (go_at_call 24; refine c31.mono ?_; rintro e w1 ⟨rfl, b1⟩)
   all_goals go_wp2_with fail
   all_goals go_roundw
   all_goals first
    | (case rel => exact ⟨q + 1, by omega, by go_num, hb.drew.trans (b1.mono hb.size)⟩)
    | (case measure => simp only [intOf]; omega)
  ·have hlt' : decide ((q : Int) < (l.length : Int)) = false := by simp; omega
   go_wp2_with fail
   go_ret
   exact ⟨rfl, hb⟩
theorem sameV_of (m : Nat) (hm : ∀ (u v : Value) (l : List C) (w : World), InL false All w m u l -> InL false All w m v l -> Calls prog 47 #[u, v] w fun e w' => e = .returned (.bool true) /\ Below w.heap.size w w') : SamesV (m + 1) := by
 intro u v c w hu hv
 obtain ⟨k, b, i, s, n, l⟩ := c
 rw [in_iff] at hu hv
 obtain ⟨nv, lv, rfl, hk, hi, hs, hn, hl⟩ := hu
 obtain ⟨nv', lv', rfl, -, -, -, hn', hl'⟩ := hv
 obtain ⟨W0, hW0⟩ : ∃ W0, (w.alloc (.cells #[.int .i64 k, .bool b, .int .i64 i, .string s, nv, lv] 46)).alloc (.cells #[.int .i64 k, .bool b, .int .i64 i, .string s, nv', lv'] 46) = W0 := ⟨_, rfl⟩
 have hb0 : Below w.heap.size w W0 := by rw [<- hW0]; exact ((Below.refl _ w).alloc (Nat.le_refl _) _).alloc (by simp) _
 have hsz0 : W0.heap.size = w.heap.size + 2 := by rw [<- hW0]; simp
 have hx0 : W0.heap[w.heap.size]? = some (.cells #[.int .i64 k, .bool b, .int .i64 i, .string s, nv, lv] 46) := by
  rw [<- hW0, Below.heap_alloc _ _ _ (by simp), heap_alloc_new]
 have hx1 : W0.heap[w.heap.size + 1]? = some (.cells #[.int .i64 k, .bool b, .int .i64 i, .string s, nv', lv'] 46) := by
  have := heap_alloc_new (w.alloc (.cells #[.int .i64 k, .bool b, .int .i64 i, .string s, nv, lv] 46)) (.cells #[.int .i64 k, .bool b, .int .i64 i, .string s, nv', lv'] 46)
  rwa [hW0, World.size_alloc] at this
 have c50 := sameT_c nv nv' n W0 (hn.below hb0) (hn'.below hb0)
 obtain ⟨d0, d1, d2, d3, d4, d5⟩ := six_box hx0
 obtain ⟨e0, e1, e2, e3, e4, e5⟩ := six_box hx1
 go_enter func24, ntmps24
 go_wp2_with fail
 refine c50.mono ?_
 rintro e w1 ⟨rfl, b1⟩
 have k5 := (six_box ((b1.block w.heap.size (by omega)).trans hx0)).2.2.2.2.2
 have j5 := (six_box ((b1.block (w.heap.size + 1) (by omega)).trans hx1)).2.2.2.2.2
 have c51 := hm lv lv' l w1 ((hl.below hb0).below b1) ((hl'.below hb0).below b1)
 clear c50 hx0 hx1 hW0
 go_wp2_with fail
 refine c51.mono ?_
 rintro e w2 ⟨rfl, b2⟩
 go_wp2_with fail
 go_ret
 exact ⟨rfl, nx (nx hb0 b1) b2⟩
theorem samesV : ∀ m, SamesV m := by
 intro m
 induction m with
 | zero => intro u v c w h; rw [In] at h; exact h.elim
 | succ m ih => exact sameV_of m (sameVs_of m ih)
theorem sameV_c (m : Nat) (u v : Value) (c : C) (w : World) (hu : In false All w m u c) (hv : In false All w m v c) :
  Calls prog 24 #[u, v] w fun e w' => e = .returned (.bool true) /\ Below w.heap.size w w' := samesV m u v c w hu hv
end Go.Proofs.YthjbknncbhkinaaGreatDoor.SameV

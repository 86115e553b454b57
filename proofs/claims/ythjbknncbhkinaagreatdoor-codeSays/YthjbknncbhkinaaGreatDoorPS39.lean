import Derived.Deep.RegionWith
import Derived.Test.YthjbknncbhkinaaGreatDoorPS03
open Go.Proofs.Tryz
set_option linter.unusedVariables false
set_option maxRecDepth 20000
set_option maxHeartbeats 3200000
namespace Go.Proofs.YthjbknncbhkinaaGreatDoor.XLend
open Go.RowKit EPure XBase
open Base (nx All heap_alloc_new add_none Keep)
theorem infoX : (prog.info? 24).map (fun i => (i.zero, i.size, i.bytes)) = some (some (.agg #[.int .i64 0, .int .i64 0, .string ⟨#[]⟩, .slice none 0 0]), 4, 56) := by kernel_rfl
theorem In.four {r : Bool} {S : Nat -> Prop} {w : World} {m : Nat} {v : Value} {c : Ex} (h : In r S w m v c) :
  ∃ v0 v1 v2 v3, v = .agg #[v0, v1, v2, v3] /\ ∀ u ∈ [v0, v1, v2, v3], u.oneCell' = true := by
 obtain ⟨m', lv, rfl, rfl, -, -, -, ⟨a, cap, rfl, -⟩⟩ := h.shape
 refine ⟨_, _, _, _, rfl, ?_⟩
 intro u hu
 simp at hu
 rcases hu with rfl | rfl | rfl | rfl <;> rfl
def flat (us : List Value) : List Value := us.flatMap fun u => u.cells.toList
def Fours (us : List Value) : Prop := ∀ u ∈ us, ∃ v0 v1 v2 v3, u = .agg #[v0, v1, v2, v3] /\ ∀ x ∈ [v0, v1, v2, v3], x.oneCell' = true
def OwnV (w : World) (B : Nat) (v : Value) (us : List Value) : Prop := w.ownsRow B 24 4 v us.length (flat us) /\ Fours us
theorem flat_append (a b : List Value) : flat (a ++ b) = flat a ++ flat b := by simp [flat]
theorem flat_get {us : List Value} (h : Fours us) : ∀ (j : Nat) (hj : j < us.length) (i : Nat), i < 4 -> (flat us)[j * 4 + i]? = us[j].cells.toList[i]? := by
 induction us with
 | nil => intro j hj; simp at hj
 | cons u us ih =>
  intro j hj i hi
  obtain ⟨v0, v1, v2, v3, rfl, -⟩ := h u (by simp)
  have ih := ih (fun x hx => h x (by simp [hx]))
  have e : flat (.agg #[v0, v1, v2, v3] :: us) = [v0, v1, v2, v3] ++ flat us := by simp [flat, Value.cells]
  rw [e]
  cases j with
  | zero =>
   rw [List.getElem?_append_left (by simp; omega)]
   simp [Value.cells]
  | succ j =>
   rw [List.getElem?_append_right (by simp; omega)]
   have e2 : (j + 1) * 4 + i - [v0, v1, v2, v3].length = j * 4 + i := by simp; omega
   rw [e2, ih j (by simpa using hj) i hi]
   simp
theorem ownV_four {w : World} {B g n cap : Nat} {us : List Value} (h : OwnV w B (.slice (some ⟨g, 0, none⟩) n cap) us) (j : Nat) (hj : j < us.length) : Four w g (0 + j * 4) us[j] := by
 obtain ⟨v0, v1, v2, v3, e, -⟩ := h.2 us[j] (List.getElem_mem hj)
 have hc : ∀ i u, i < 4 -> us[j].cells.toList[i]? = some u -> w.cell? ⟨g, 0 + (j * 4 + i), none⟩ = some u := by
  intro i u hi hu
  rw [<- add_none]
  exact World.ownsRow.cells (g := g) h.1 rfl (j * 4 + i) u (by rw [flat_get h.2 j hj i hi]; exact hu)
 rw [e] at hc ⊢
 refine ⟨v0, v1, v2, v3, rfl, ?_, ?_, ?_, ?_⟩
 ·exact hc 0 v0 (by omega) rfl
 ·exact hc 1 v1 (by omega) rfl
 ·exact hc 2 v2 (by omega) rfl
 ·exact hc 3 v3 (by omega) rfl
theorem ownV_lt {w : World} {B g n cap : Nat} {L : List Value} (h : OwnV w B (.slice (some ⟨g, 0, none⟩) n cap) L) : B <= g /\ g < w.heap.size := World.ownsRow.lt h.1 g rfl
theorem new_cells (w : World) (cs : List Value) (t : TypeId) : ∀ j u, cs[j]? = some u -> (w.alloc (.cells cs.toArray t)).cell? ((⟨w.heap.size, 0, none⟩ : Addr).add j) = some u := by
 intro j u hu
 rw [add_none, Nat.zero_add]
 have h := heap_alloc_new w (.cells cs.toArray t)
 have e : (w.alloc (.cells cs.toArray t)).cell? ⟨w.heap.size, j, none⟩ = cs.toArray[j]? := by
  unfold World.cell?
  rw [h]
  rfl
 rw [e]
 simpa using hu
theorem block_set {w : World} {B j : Nat} {cs : Array Value} {t : TypeId} {fz : Nat × Nat} (h : w.heap[B]? = some (.cells cs t fz)) (u : Value) : (w.setCell ⟨B, j, none⟩ u).heap[B]? = some (.cells (cs.setIfInBounds j u) t fz) := by
 simp [World.setCell, Array.getElem?_modify, h]
theorem set4 {W W' : World} {B : Nat} {t : TypeId} {y0 y1 y2 y3 : Value} (x0 x1 x2 x3 : Value) (h : W.heap[B]? = some (.cells #[y0, y1, y2, y3] t (0, 0))) (hW : ((((W.setCell ⟨B, 0, none⟩ x0).setCell ⟨B, 1, none⟩ x1).setCell ⟨B, 2, none⟩ x2).setCell ⟨B, 3, none⟩ x3) = W') :
  W'.heap[B]? = some (.cells #[x0, x1, x2, x3] t (0, 0)) /\ (∀ b, b ≠ B -> W'.heap[b]? = W.heap[b]?) /\ W'.heap.size = W.heap.size /\ ∀ w n, n <= B -> Below n w W -> Below n w W' := by
 subst hW
 refine ⟨?_, fun b hb => ?_, by simp [World.setCell], fun w n hn hb => ?_⟩
 ·rw [block_set (block_set (block_set (block_set h _) _) _) _]
  rfl
 ·rw [Below.heap_setCell _ _ _ _ hb, Below.heap_setCell _ _ _ _ hb, Below.heap_setCell _ _ _ _ hb, Below.heap_setCell _ _ _ _ hb]
 ·exact (((hb.setCell (p := ⟨B, 0, none⟩) hn x0).setCell (p := ⟨B, 1, none⟩) hn x1).setCell (p := ⟨B, 2, none⟩) hn x2).setCell (p := ⟨B, 3, none⟩) hn x3
theorem own_below {w w' : World} {B : Nat} {e : TypeId} {s n : Nat} {v : Value} {xs : List Value} (h : w.ownsRow B e s v n xs) (hb : Below w.heap.size w w') : w'.ownsRow B e s v n xs := by
 refine ⟨h.1, ?_⟩
 rcases h.2 with h2 | ⟨g, cap, cur, hv, hg, hh, r⟩
 ·exact .inl h2
 ·exact .inr ⟨g, cap, cur, hv, hg, (hb.block g (Array.getElem?_eq_some_iff.1 hh).1).trans hh, r⟩
def El (lo hi : Nat) (v : Value) : Nat -> Prop := fun b => lo <= b /\ b < hi /\ v.ownBlock ≠ some b
theorem fours_snoc {us : List Value} {u : Value} (h : Fours us) (hu : ∃ v0 v1 v2 v3, u = .agg #[v0, v1, v2, v3] /\ ∀ x ∈ [v0, v1, v2, v3], x.oneCell' = true) : Fours (us ++ [u]) := by
 intro x hx
 rcases List.mem_append.1 hx with hx | hx
 ·exact h x hx
 ·simp at hx; subst hx; exact hu
theorem els_keep {r : Bool} {w wr w1 w2 : World} {m : Nat} {us : List Value} {l : List Ex} {out v' : Value} (hels : ∀ j (h : j < us.length) (h' : j < l.length), In r (El w.heap.size wr.heap.size out) wr m us[j] l[j])
  (b1 : Below wr.heap.size wr w1) (o : Obj) (hgrow : (w1.alloc o).grownBy w2 out.ownBlock) (hat : v'.ownBlock = out.ownBlock \/ v'.ownBlock = some (w1.heap.size + 1)) :
  ∀ j (h : j < us.length) (h' : j < l.length), In r (El w.heap.size w2.heap.size v') w2 m us[j] l[j] := by
 have hs1 := b1.size
 have hs2 := hgrow.size
 rw [World.size_alloc] at hs2
 intro j hj h'
 refine ((hels j hj h').keep (w' := w2) ?_).weak ?_ r id m (Nat.le_refl _)
 ·intro b hS hb
  rw [hgrow.block b (by simp; omega) (fun e => hS.2.2 e.symm), Below.heap_alloc _ _ _ (by omega), b1.block b hb]
 ·intro b hS
  have h3 := hS.2.1
  refine ⟨hS.1, by omega, ?_⟩
  rcases hat with h | h
  ·rw [h]; exact hS.2.2
  ·rw [h]
   intro e
   have := Option.some.inj e
   omega
theorem els_step {r : Bool} {w wr w1 w2 : World} {m q : Nat} {us : List Value} {l : List Ex} {out v' u : Value} (hels : ∀ j (h : j < us.length) (h' : j < l.length), In r (El w.heap.size wr.heap.size out) wr m us[j] l[j])
  (hus : us.length = q) (hq : q < l.length) (hown : OwnV wr w.heap.size out us) (b1 : Below wr.heap.size wr w1) (hin1 : In r (Rg wr.heap.size w1.heap.size) w1 m u l[q]) (hsz : w.heap.size <= wr.heap.size) (o : Obj)
  (hgrow : (w1.alloc o).grownBy w2 out.ownBlock) (hat : v'.ownBlock = out.ownBlock \/ v'.ownBlock = some (w1.heap.size + 1)) :
  ∀ j (h : j < (us ++ [u]).length) (h' : j < l.length), In r (El w.heap.size w2.heap.size v') w2 m (us ++ [u])[j] l[j] := by
 have hk := els_keep hels b1 o hgrow hat
 have hlt := World.ownsRow.lt hown.1
 have hs1 := b1.size
 have hs2 := hgrow.size
 rw [World.size_alloc] at hs2
 intro j h h'
 by_cases hj : j < us.length
 ·rw [List.getElem_append_left hj]
  exact hk j hj h'
 ·have e : j = us.length := by simp at h; omega
  subst e
  subst hus
  rw [List.getElem_append_right (by omega)]
  simp only [Nat.sub_self, List.getElem_cons_zero]
  have hne : ∀ b, wr.heap.size <= b -> out.ownBlock ≠ some b := fun b hb e => by have := (hlt b e).2; omega
  refine (hin1.keep (w' := w2) ?_).weak ?_ r id m (Nat.le_refl _)
  ·intro b hS hb
   rw [hgrow.block b (by simp; omega) (fun e => hne b hS.1 e.symm), Below.heap_alloc _ _ _ hb]
  ·intro b hS
   have h2 := hS.2
   have h1 := hS.1
   refine ⟨by omega, by omega, ?_⟩
   rcases hat with h | h
   ·rw [h]; exact hne b hS.1
   ·rw [h]
    intro e
    have := Option.some.inj e
    omega
end Go.Proofs.YthjbknncbhkinaaGreatDoor.XLend
namespace Go.Proofs.YthjbknncbhkinaaGreatDoor.XCp
open Go.RowKit EPure XBase
open Base (nx All heap_alloc_new add_none Keep)
open XLend
def Copies (m : Nat) : Prop := ∀ (v : Value) (c : Ex) (w : World), In false All w m v c ->
  Calls prog 21 #[v] w fun e w' => ∃ u, e = .returned u /\ In false (Rg w.heap.size w'.heap.size) w' m u c /\ Below w.heap.size w w'
theorem copyXs_of (m : Nat) (hm : Copies m) (v : Value) (l : List Ex) (w : World) (h : InL false All w m v l) :
  Calls prog 37 #[v] w fun e w' => ∃ u, e = .returned u /\ InL false (Rg w.heap.size w'.heap.size) w' m u l /\ Below w.heap.size w w' := by
 obtain ⟨i0, hi, hz0, hz1, hz2⟩ := info_parts infoX
 obtain ⟨a, cap, rfl, hlc, hcm, hlen, hnil, hL⟩ := h
 go_enter func37, ntmps37
 go_wp2_with fail
 go_loopw [3, 4] (fun out i wr => ∃ (q : Nat) (us : List Value), q <= l.length /\ us.length = q /\ i = .int .i64 q /\ OwnV wr w.heap.size out us /\
   (∀ j (h : j < us.length) (h' : j < l.length), In false (El w.heap.size wr.heap.size out) wr m us[j] l[j]) /\ Below w.heap.size w wr) (fun _ i _ => l.length - (intOf i).toNat)
 case atStart => exact ⟨0, [], by omega, rfl, rfl, ⟨World.ownsRow_nil _ _ _ _, fun x hx => by cases hx⟩, fun j h => by simp at h, Below.refl _ _⟩
 case round =>
  obtain ⟨q, us, hq, hus, rfl, hown, hels, hb⟩ := hrel
  have hsz := hb.size
  by_cases hlt : q < l.length
  ·obtain ⟨g, o, u, rfl, -, hu, hin⟩ := elem_at hL hlt
   have hu := four_below hu hb
   have hin := hin.below hb
   obtain ⟨v0, v1, v2, v3, rfl, d0, d1, d2, d3⟩ := hu
   have c10 := hm _ _ wr hin
   have HH : Hid (∀ j (h : j < us.length) (h' : j < l.length), In false (El w.heap.size wr.heap.size u3) wr m us[j] l[j]) := hels
   have Hus : Hid (us.length = q) := hus
   have Hown : Hid (OwnV wr w.heap.size u3 us) := hown
   have hrow := hown.1
   have hlen2 : us.length = q := hus
   clear hels hin hus hown
   go_wp2_with (first
    | (go_at_call 21; refine c10.mono ?_; rintro e w1 ⟨u, rfl, hin1, b1⟩; obtain ⟨x0, x1, x2, x3, rfl, hone⟩ := (In.four hin1); have hrow1 := World.ownsRow.alloc (own_below hrow b1) (.cells #[x0, x1, x2, x3] 24); have hs1 := b1.size)
    | (at_builtin; refine wpList_append_own_at _ rfl _ _ 22 rfl w.heap.size 24 i0 (.agg #[.int .i64 0, .int .i64 0, .string ⟨#[]⟩, .slice none 0 0]) 4 56 underlying22 hi hz0 hz1 hz2 rfl (by decide) _ _ _ rfl hrow1 ⟨w1.heap.size, 0, none⟩ 1 1 [x0, x1, x2, x3] rfl rfl (new_cells w1 _ 24) hone (by unfold maxLen; omega) (by omega) (by simp; omega) ?_))
   intro v' w2 hown' hgrow _ hat
   have hels2 := els_step HH.out Hus.out hlt Hown.out b1 hin1 hsz _ hgrow hat
   have hb3 := ((hb.trans (b1.mono hsz)).alloc (by omega) (.cells #[x0, x1, x2, x3] 24)).grown hgrow (by simp; omega) (fun k hk => (World.ownsRow.lt hrow k hk).1)
   have ho2 : OwnV w2 w.heap.size v' (us ++ [.agg #[x0, x1, x2, x3]]) := by
    refine ⟨?_, fours_snoc Hown.out.2 ⟨_, _, _, _, rfl, hone⟩⟩
    rw [flat_append, List.length_append, hlen2]
    exact hown'
   have hlen3 : (us ++ [Value.agg #[x0, x1, x2, x3]]).length = q + 1 := by simp [hlen2]
   obtain ⟨us2, hus2⟩ : ∃ us2, us ++ [Value.agg #[x0, x1, x2, x3]] = us2 := ⟨_, rfl⟩
   rw [hus2] at hels2 ho2 hlen3
   have H2 : Hid (∀ j (h : j < us2.length) (h' : j < l.length), In false (El w.heap.size w2.heap.size v') w2 m us2[j] l[j]) := fun j h h' => hels2 j h h'
   clear hown' hgrow hat hrow hrow1 Hown HH Hus hels2 hus2 hin1 hone c10
   go_wp2_with fail
   go_roundw
   case rel => exact ⟨q + 1, us2, by omega, hlen3, by go_num, ho2, H2.out, hb3⟩
   case measure => simp only [intOf]; omega
  ·obtain rfl : q = l.length := by omega
   have hnlt : decide ((l.length : Int) < (l.length : Int)) = false := by simp
   have HH : Hid (∀ j (h : j < us.length) (h' : j < l.length), In false (El w.heap.size wr.heap.size u3) wr m us[j] l[j]) := hels
   have Hown : Hid (OwnV wr w.heap.size u3 us) := hown
   have Hus : Hid (us.length = l.length) := hus
   clear hels hus hown
   go_wp2_with fail
   go_ret
   have hus := Hus.out
   have ho2 := Hown.out
   rcases ho2.1.2 with ⟨h0, h1⟩ | ⟨g, cap2, cur, rfl, _, _, hn2, hm2, _⟩
   ·have hl0 : l = [] := List.eq_nil_of_length_eq_zero (by omega)
    subst hl0
    exact ⟨_, rfl, ⟨none, 0, h0, by simp, by simp, by simp, fun _ => rfl, .inl ⟨rfl, rfl⟩⟩, hb⟩
   ·have ho3 := ho2
    rw [hus] at ho3
    refine ⟨_, rfl, ?_, hb⟩
    try rw [hus]
    refine ⟨some ⟨g, 0, none⟩, cap2, rfl, by omega, hm2, hlen, (fun h => by cases h), .inr ⟨g, 0, rfl, ⟨(ownV_lt ho2).1, (ownV_lt ho2).2⟩, ?_, fun h => by cases h⟩⟩
    intro j hj
    exact ⟨_, ownV_four ho2 j (by omega), (HH.out j (by omega) hj).weak (fun b hS => ⟨hS.1, hS.2.1⟩) false id m (Nat.le_refl _)⟩
theorem copyX_of (m : Nat) (hm : ∀ (v : Value) (l : List Ex) (w : World), InL false All w m v l ->
   Calls prog 37 #[v] w fun e w' => ∃ u, e = .returned u /\ InL false (Rg w.heap.size w'.heap.size) w' m u l /\ Below w.heap.size w w') : Copies (m + 1) := by
 intro v c w h
 obtain ⟨o, i, s, l⟩ := c
 rw [in_iff] at h
 obtain ⟨lv, rfl, ho, hi, hs, hl⟩ := h
 obtain ⟨W0, hW0⟩ : ∃ W0, (w.alloc (.cells #[.int .i64 o, .int .i64 i, .string s, lv] 24)).alloc (.cells #[.int .i64 0, .int .i64 0, .string ⟨#[]⟩, .slice none 0 0] 24) = W0 := ⟨_, rfl⟩
 have hb0 : Below w.heap.size w W0 := by rw [<- hW0]; exact ((Below.refl _ w).alloc (Nat.le_refl _) _).alloc (by simp) _
 have hsz0 : W0.heap.size = w.heap.size + 2 := by rw [<- hW0]; simp
 have hx0 : W0.heap[w.heap.size]? = some (.cells #[.int .i64 o, .int .i64 i, .string s, lv] 24) := by
  rw [<- hW0, Below.heap_alloc _ _ _ (by simp), heap_alloc_new]
 have hx1 : W0.heap[w.heap.size + 1]? = some (.cells #[.int .i64 0, .int .i64 0, .string ⟨#[]⟩, .slice none 0 0] 24) := by
  have := heap_alloc_new (w.alloc (.cells #[.int .i64 o, .int .i64 i, .string s, lv] 24)) (.cells #[.int .i64 0, .int .i64 0, .string ⟨#[]⟩, .slice none 0 0] 24)
  rwa [hW0, World.size_alloc] at this
 have c35 := hm lv l W0 (hl.below hb0)
 obtain ⟨-, -, -, e3⟩ := four_box hx0
 go_enter func21, ntmps21
 go_wp2_with fail
 refine c35.mono ?_
 rintro e w2 ⟨lu, rfl, hl2, b2⟩
 have hy0 := (b2.block w.heap.size (by omega)).trans hx0
 have hy1 := (b2.block (w.heap.size + 1) (by omega)).trans hx1
 clear c35 hx0 hx1 hW0 e3
 have f3 := frozen_box hy0 3
 have hs2 := b2.size
 obtain ⟨d0, d1, d2, d3⟩ := four_box hy0
 obtain ⟨W2, hW2⟩ : ∃ W2, w2.setCell ⟨w.heap.size, 3, none⟩ lu = W2 := ⟨_, rfl⟩
 have hz0 : W2.heap[w.heap.size]? = some (.cells #[.int .i64 o, .int .i64 i, .string s, lu] 24 (0, 0)) := by rw [<- hW2, block_set hy0]; rfl
 have hz1 : W2.heap[w.heap.size + 1]? = some (.cells #[.int .i64 0, .int .i64 0, .string ⟨#[]⟩, .slice none 0 0] 24 (0, 0)) := by rw [<- hW2, Below.heap_setCell _ _ _ _ (by simp)]; exact hy1
 have hsz2 : W2.heap.size = w2.heap.size := by rw [<- hW2]; simp [World.setCell]
 have hb2 : Below w.heap.size w W2 := by rw [<- hW2]; exact (hb0.trans (b2.mono (by omega))).setCell (p := ⟨w.heap.size, 3, none⟩) (Nat.le_refl _) _
 have hl3 : InL false (Rg W0.heap.size w2.heap.size) W2 m lu l := hl2.keep fun b hS hb => by rw [<- hW2]; exact Below.heap_setCell _ _ _ _ (by have := hS.1; simp; omega)
 obtain ⟨al, cl, rfl, -⟩ := hl2
 clear hy0 hy1
 obtain ⟨k0, k1, k2, k3⟩ := four_box hz0
 obtain ⟨e0, e1, e2, e3⟩ := four_box hz1
 have g0 := frozen_box hz1 0
 have g1 := frozen_box hz1 1
 have g2 := frozen_box hz1 2
 have g3 := frozen_box hz1 3
 go_wp2_with fail
 obtain ⟨W3, hW3⟩ : ∃ W3, ((((W2.setCell ⟨w.heap.size + 1, 0, none⟩ (.int .i64 o)).setCell ⟨w.heap.size + 1, 1, none⟩ (.int .i64 i)).setCell
  ⟨w.heap.size + 1, 2, none⟩ (.string s)).setCell ⟨w.heap.size + 1, 3, none⟩ (.slice al l.length cl)) = W3 := ⟨_, rfl⟩
 rw [hW3]
 obtain ⟨q1, q2, q3, q4⟩ := set4 _ _ _ _ hz1 hW3
 refine bodyPost_ret (results_cell_row rfl _ W3 (w.heap.size + 1) 24 _ (0, 0) _ rfl q1 underlying24 rfl (by kernel_rfl)) rfl ?_
 refine ⟨_, rfl, ?_, q4 _ _ (by omega) hb2⟩
 rw [in_iff]
 refine ⟨_, rfl, ho, hi, hs, ?_⟩
 exact (hl3.keep fun b hS hb => q2 b (by have := hS.1; omega)).weak (m := m) (fun b hS => ⟨by have := hS.1; omega, by have := hS.2; omega⟩) false id m (Nat.le_refl _)
theorem copyAll : ∀ m, Copies m := by
 intro m
 induction m with
 | zero => intro v c w h; rw [XBase.In] at h; exact h.elim
 | succ m ih => exact copyX_of m (copyXs_of m ih)
end Go.Proofs.YthjbknncbhkinaaGreatDoor.XCp

/- A value spoilt, as the laws do with what was handed out: nothing else changes. -/
import Derived.Test.YtmoblfdepcjgfaaDoorPart
namespace Go.Proofs.YtmoblfdepcjgfaaDoor.Spoil
open Go.RowKit Go.Proofs.YtmoblfdepcjgfaaDoor.Base Go.Proofs.YtmoblfdepcjgfaaDoor.Fresh Go.Proofs.YtmoblfdepcjgfaaDoor.Copied Go.Proofs.YtmoblfdepcjgfaaDoor.Clone
set_option linter.unusedVariables false

/-- From w to w' at most the blocks from lo on, below hi, have changed. -/
def Out (lo hi : Nat) (w w' : World) : Prop := Below lo w w' ∧ w'.heap.size = w.heap.size ∧ ∀ b, hi ≤ b → w'.heap[b]? = w.heap[b]?
theorem Out.refl (lo hi : Nat) (w : World) : Out lo hi w w := ⟨Below.refl _ w, rfl, fun _ _ => rfl⟩
theorem Out.wide {lo hi lo' hi' : Nat} {w w' : World} (h : Out lo hi w w') (h1 : lo' ≤ lo) (h2 : hi ≤ hi') : Out lo' hi' w w' := ⟨h.1.mono h1, h.2.1, fun b hb => h.2.2 b (by omega)⟩
theorem Out.trans {lo hi : Nat} {w w1 w2 : World} (h : Out lo hi w w1) (h' : Out lo hi w1 w2) : Out lo hi w w2 := ⟨h.1.trans h'.1, h'.2.1.trans h.2.1, fun b hb => (h'.2.2 b hb).trans (h.2.2 b hb)⟩
theorem Out.set {lo hi g o : Nat} {w w' : World} (h : Out lo hi w w') (h1 : lo ≤ g) (h2 : g < hi) (x : Value) : Out lo hi w (w'.setCell ⟨g, o, none⟩ x) :=
  ⟨h.1.setCell (p := ⟨g, o, none⟩) h1 x, by simpa [World.setCell] using h.2.1, fun b hb => (Below.heap_setCell _ _ _ _ (by simp; omega)).trans (h.2.2 b hb)⟩
theorem Out.block {lo hi b : Nat} {w w' : World} (h : Out lo hi w w') (hb : b < lo ∨ hi ≤ b) : w'.heap[b]? = w.heap[b]? := by
  rcases hb with hb | hb
  · exact h.1.block b hb
  · exact h.2.2 b hb
theorem six_of {w w' : World} {g o : Nat} {u : Value} (h : Six w g o u) (hb : w'.heap[g]? = w.heap[g]?) : Six w' g o u :=
  (show Keep (fun b => b = g) w w' from fun b hS _ => by subst hS; exact hb).six rfl h
theorem row_of {w w' : World} {B : Nat} {e : TypeId} {s n : Nat} {v : Value} {xs : List Value} (h : w.ownsRow B e s v n xs) (hb : ∀ g, v.ownBlock = some g → w'.heap[g]? = w.heap[g]?) : w'.ownsRow B e s v n xs := by
  refine ⟨h.1, ?_⟩
  rcases h.2 with h2 | ⟨g, cap, cur, rfl, hg, hh, r⟩
  · exact .inl h2
  · exact .inr ⟨g, cap, cur, rfl, hg, (hb g rfl).trans hh, r⟩
set_option maxRecDepth 20000 in
theorem spoilT_c (v : Value) (n : List ByteArray) (lo hi : Nat) (w : World) (h : OwnT w lo v n) (hb : ∀ g, v.ownBlock = some g → g < hi) (hn : n.length * 16 ≤ 140737488351232) (hs : ∀ t ∈ n, t.size ≤ 140737488351232) :
    Calls Tryd.prog 52 #[v] w fun e w' => (∃ r, e = .returned r) ∧ Out lo hi w w' := by
  have hN : 0 ≤ n.length := Nat.zero_le _
  rcases h.2 with ⟨rfl, h0⟩ | ⟨g, cap, cur, rfl, hlo, hg, hnc, hm, hcs, htk⟩
  · go_enter Tryd.func52, Tryd.ntmps52
    go_wp2_with fail
    go_loopw [2] (fun i wr => i = .int .i64 0 ∧ wr = w) (fun _ _ => 0)
    case atStart => exact ⟨rfl, rfl⟩
    case round =>
      obtain ⟨rfl, rfl⟩ := hrel
      go_wp2_with fail
      go_end0
      exact ⟨⟨_, rfl⟩, Out.refl _ _ _⟩
  · have hghi := hb g rfl
    have hc0 : ∀ j (hj : j < n.length), cur[j]? = some (.string n[j]) := fun j hj => by
      have : (cur.toList.take (n.length * 1))[j]? = some (.string n[j]) := by rw [htk]; simp [hj]
      rw [List.getElem?_take_of_lt (by omega)] at this
      simpa using this
    clear h htk hb
    go_enter Tryd.func52, Tryd.ntmps52
    go_wp2_with fail
    go_loopw [2] (fun i wr => ∃ q : Nat, q ≤ n.length ∧ i = .int .i64 q ∧ Out lo hi w wr ∧ ∃ cur' : Array Value, wr.heap[g]? = some (.cells cur' 9 (0, 0)) ∧ ∀ j (hj : j < n.length), q ≤ j → cur'[j]? = some (.string n[j])) (fun i _ => n.length - (intOf i).toNat)
    case atStart => exact ⟨0, by omega, rfl, Out.refl _ _ _, cur, hg, fun j hj _ => hc0 j hj⟩
    case round =>
      obtain ⟨q, hq, rfl, hout, cur', hg', hc'⟩ := hrel
      by_cases hlt : q < n.length
      · have hcell : wr.cell? ⟨g, q, none⟩ = some (.string n[q]) := by
          have := hc' q hlt (Nat.le_refl _)
          simp [World.cell?, hg', this]
        have hfz := frozen_box hg' q
        have hsz := hs n[q] (List.getElem_mem hlt)
        obtain ⟨t, ht⟩ : ∃ t, n[q] = t := ⟨_, rfl⟩
        rw [ht] at hcell hsz
        go_wp2_with fail
        go_roundw
        case rel =>
          refine ⟨q + 1, by omega, by go_num, hout.set hlo hghi _, _, block_set hg' _, fun j hj hq2 => ?_⟩
          rw [Array.getElem?_setIfInBounds_ne (by omega)]
          exact hc' j hj (by omega)
        case measure => simp only [intOf]; omega
      · have hlt' : decide ((q : Int) < (n.length : Int)) = false := by simp; omega
        go_wp2_with fail
        go_end0
        exact ⟨⟨_, rfl⟩, hout⟩

def Spoils (m : Nat) : Prop := ∀ (w : World) (g o : Nat) (u : Value) (c : C) (lo hi : Nat), Six w g o u → w.frozen? ⟨g, o, none⟩ = false → Fr w m lo hi u c → (g < lo ∨ hi ≤ g) →
    Calls Tryd.prog 32 #[.pointer (some ⟨g, o, none⟩)] w fun e w' => (∃ r, e = .returned r) ∧ ∃ w1 z, Out lo hi w w1 ∧ w' = w1.setCell ⟨g, o, none⟩ (.int .i64 z)
set_option maxRecDepth 20000 in
theorem spoilVs_of (m : Nat) (hm : Spoils m) (w : World) (v : Value) (us : List Value) (l : List C) (a1 a2 hi : Nat) (cut : Nat → Nat) (h : OwnV w a1 v us) (hb : ∀ g, v.ownBlock = some g → g < a2) (hul : us.length = l.length)
    (hc0 : cut 0 = a2) (hcl : cut l.length ≤ hi) (hcm : ∀ j, j < l.length → cut j ≤ cut (j + 1)) (hln : l.length * 88 ≤ 140737488351232) (hel : ∀ j (h : j < us.length) (h' : j < l.length), Fr w m (cut j) (cut (j + 1)) us[j] l[j]) :
    Calls Tryd.prog 53 #[v] w fun e w' => (∃ r, e = .returned r) ∧ Out a1 hi w w' := by
  have hle := cut_le hcm
  rcases h.1.2 with ⟨rfl, h0⟩ | ⟨g, cap, cur, rfl, hlo, hg, hnc, hm', hcs, htk⟩
  · clear hle hcm hel hb
    go_enter Tryd.func53, Tryd.ntmps53
    go_wp2_with fail
    go_loopw [2] (fun i wr => i = .int .i64 0 ∧ wr = w) (fun _ _ => 0)
    case atStart => exact ⟨rfl, rfl⟩
    case round =>
      obtain ⟨rfl, rfl⟩ := hrel
      go_wp2_with fail
      go_end0
      exact ⟨⟨_, rfl⟩, Out.refl _ _ _⟩
  · have hga := hb g rfl
    have hsix := ownV_six h
    have HLE : Hid (∀ i j, i ≤ j → j ≤ l.length → cut i ≤ cut j) := hle
    have HM : Hid (Spoils m) := hm
    have hu1 : us.length ≤ l.length := by omega
    have hu2 : l.length ≤ us.length := by omega
    have hul' : Hid (us.length = l.length) := hul
    have HC0 : Hid (cut 0 = a2) := hc0
    clear h htk hb hle hcm hul hc0 hm
    go_enter Tryd.func53, Tryd.ntmps53
    go_wp2_with fail
    go_loopw [2] (fun i wr => ∃ q : Nat, q ≤ us.length ∧ i = .int .i64 q ∧ Out a1 hi w wr ∧ (∃ cur' : Array Value, wr.heap[g]? = some (.cells cur' 25 (0, 0))) ∧ (∀ j (hj : j < us.length), q ≤ j → Six wr g (0 + j * 6) us[j]) ∧ ∀ j (hj : j < us.length) (h' : j < l.length), q ≤ j → Fr wr m (cut j) (cut (j + 1)) us[j] l[j]) (fun i _ => us.length - (intOf i).toNat)
    case atStart => exact ⟨0, by omega, rfl, Out.refl _ _ _, ⟨cur, hg⟩, fun j hj _ => hsix j hj, fun j hj h' _ => hel j hj h'⟩
    case round =>
      obtain ⟨q, hq, rfl, hout, ⟨cur', hg'⟩, hs', hf'⟩ := hrel
      by_cases hlt : q < us.length
      · have hlt2 : q < l.length := by omega
        have e1 := HLE.out 0 q (by omega) (by omega)
        have e2 := HLE.out (q + 1) l.length (by omega) (by omega)
        have e3 := HLE.out q (q + 1) (by omega) (by omega)
        rw [HC0.out] at e1
        have hsq := hs' q hlt (Nat.le_refl _)
        rw [Nat.zero_add] at hsq
        have c32 := HM.out wr g (q * 6) us[q] l[q] (cut q) (cut (q + 1)) hsq (frozen_box hg' _) (hf' q hlt hlt2 (Nat.le_refl _)) (by omega)
        have HS : Hid (∀ j (hj : j < us.length), q ≤ j → Six wr g (0 + j * 6) us[j]) := hs'
        have HF : Hid (∀ j (hj : j < us.length) (h' : j < l.length), q ≤ j → Fr wr m (cut j) (cut (j + 1)) us[j] l[j]) := hf'
        clear hsq hs' hf' hsix hel
        go_wp2_with fail
        refine c32.mono ?_
        rintro e w2 ⟨⟨r, rfl⟩, w1, z, ho, rfl⟩
        have hg1 := (ho.block (b := g) (by omega)).trans hg'
        clear c32
        go_wp2_with fail
        go_roundw
        case rel =>
          refine ⟨q + 1, by omega, by go_num, (hout.trans (ho.wide (by omega) (by omega))).set hlo (by omega) _, ⟨_, block_set hg1 _⟩, fun j hj hj2 => ?_, fun j hj h' hj2 => ?_⟩
          · obtain ⟨v0, v1, v2, v3, v4, v5, e, c0, c1, c2, c3, c4, c5⟩ := six_of (HS.out j hj (by omega)) (ho.block (b := g) (by omega))
            have ne : ∀ x, x ≠ q * 6 → (⟨g, q * 6, none⟩ : Addr) ≠ ⟨g, x, none⟩ := fun x hx hh => hx (by simpa using (congrArg Addr.off hh).symm)
            exact ⟨v0, v1, v2, v3, v4, v5, e, (World.cell?_setCell_other _ _ _ _ (ne _ (by omega))).trans c0, (World.cell?_setCell_other _ _ _ _ (ne _ (by omega))).trans c1, (World.cell?_setCell_other _ _ _ _ (ne _ (by omega))).trans c2, (World.cell?_setCell_other _ _ _ _ (ne _ (by omega))).trans c3, (World.cell?_setCell_other _ _ _ _ (ne _ (by omega))).trans c4, (World.cell?_setCell_other _ _ _ _ (ne _ (by omega))).trans c5⟩
          · refine (HF.out j hj h' (by omega)).keep fun b hb _ => ?_
            have e4 := HLE.out (q + 1) j (by omega) (by omega)
            have hb1 := hb.1
            rw [Below.heap_setCell _ _ _ _ (by simp; omega)]
            exact ho.block (by omega)
        case measure => simp only [intOf]; omega
      · have hlt' : decide ((q : Int) < (us.length : Int)) = false := by simp; omega
        go_wp2_with fail
        go_end0
        exact ⟨⟨_, rfl⟩, hout⟩
set_option maxRecDepth 20000 in
theorem spoils : ∀ m, Spoils m := by
  intro m
  induction m with
  | zero => intro w g o u c lo hi _ _ h; rw [Fr] at h; exact h.elim
  | succ m ih =>
    intro w g o u c lo hi hsix hfz hfr hgo
    obtain ⟨k, b, i, s, n, l⟩ := c
    rw [Fr] at hfr
    obtain ⟨nv, lv, a1, a2, us, cut, h1, h2, rfl, hk, hi', hs, hn1, hn2, hl1, hT, hTb, hV, hVb, hus, hc0, hcl, hcm, hel⟩ := hfr
    have hle := cut_le hcm
    have e0 := hle 0 l.length (by omega) (Nat.le_refl _)
    have e1 := hle
    obtain ⟨v0, v1, v2, v3, v4, v5, e, k0, k1, k2, k3, k4, k5⟩ := id hsix
    simp only [Value.agg.injEq, Array.mk.injEq, List.cons.injEq, and_true] at e
    obtain ⟨rfl, rfl, rfl, rfl, rfl, rfl⟩ := e
    have c52 := spoilT_c nv n lo a1 w hT hTb hn1 hn2
    have C53 : Hid (∀ w2, Out lo a1 w w2 → Calls Tryd.prog 53 #[lv] w2 fun e w' => (∃ r, e = .returned r) ∧ Out a1 hi w2 w') := fun w2 ho => by
      refine spoilVs_of m ih w2 lv us l a1 a2 hi cut ⟨row_of hV.1 fun g hg => ho.block (.inr ?_), hV.2⟩ hVb hus hc0 hcl hcm hl1 fun j hj hj' => (hel j hj hj').keep fun b hb _ => ho.block (.inr ?_)
      · rcases hV.1.2 with ⟨rfl, _⟩ | ⟨g', cap, cur, rfl, hlo, _⟩
        · simp [Value.ownBlock] at hg
        · simp only [Value.ownBlock, Option.some.injEq] at hg; omega
      · have := hle 0 j (by omega) (by omega)
        have := hb.1
        omega
    have HS : Hid (Six w g o (.agg #[.int .i64 k, .bool b, .int .i64 i, .string s, nv, lv])) := hsix
    have hgo' : g < lo ∨ a1 ≤ g := by omega
    clear hT hTb hV hVb hel hle hsix
    go_enter Tryd.func32, Tryd.ntmps32
    go_wp2_with fail
    refine c52.mono ?_
    rintro e w2 ⟨⟨r, rfl⟩, ho2⟩
    obtain ⟨v0, v1, v2, v3, v4, v5, e, l0, l1, l2, l3, l4, l5⟩ := six_of HS.out (ho2.block (b := g) hgo')
    simp only [Value.agg.injEq, Array.mk.injEq, List.cons.injEq, and_true] at e
    obtain ⟨rfl, rfl, rfl, rfl, rfl, rfl⟩ := e
    clear c52 k0 k1 k2 k3 k4 k5
    have c53 := C53.out w2 ho2
    go_wp2_with fail
    refine c53.mono ?_
    rintro e w3 ⟨⟨r', rfl⟩, ho3⟩
    have hgo3 : g < a1 ∨ hi ≤ g := by omega
    have hblk := (ho3.block (b := g) hgo3).trans (ho2.block (b := g) hgo')
    obtain ⟨v0, v1, v2, v3, v4, v5, e, k0, k1, k2, k3, k4, k5⟩ := six_of HS.out hblk
    simp only [Value.agg.injEq, Array.mk.injEq, List.cons.injEq, and_true] at e
    obtain ⟨rfl, rfl, rfl, rfl, rfl, rfl⟩ := e
    have hfz3 : w3.frozen? ⟨g, o, none⟩ = false := by rw [← hfz]; simp [World.frozen?, hblk]
    clear c53 l0 l1 l2 l3 l4 l5
    go_wp2_with fail
    go_end0
    exact ⟨⟨_, rfl⟩, w3, _, (ho2.wide (Nat.le_refl _) (by omega)).trans (ho3.wide h1 (Nat.le_refl _)), rfl⟩
end Go.Proofs.YtmoblfdepcjgfaaDoor.Spoil

import Derived.Lib.ConvBytes
import Derived.Test.YtaiackmmmlhgbaaGreatPR02
import Derived.Test.YtaiackmmmlhgbaaGreatPR03
import Derived.Test.YtaiackmmmlhgbaaGreatPR05
import Derived.Test.YtaiackmmmlhgbaaGreatPR06
open Go.Proofs.Tryz
set_option linter.unusedVariables false
set_option maxRecDepth 20000
set_option maxHeartbeats 3200000
namespace Go.Proofs.YtaiackmmmlhgbaaGreat.YWr
open Go.RowKit Leb YPl
abbrev ptw (b : Nat) : Value := .pointer (some ⟨b, 0, none⟩)
abbrev pkF (c p : Int) : List PanicEntry := [{ v := .iface 52 (.agg #[.int .i64 c, .int .i64 p]), recovered := false }]
def Wr (K : Nat) (w : World) (B : Nat) (L : By) : Prop := K <= B /\ L.length <= 1052672 /\ ∃ v, w.heap[B]? = some (.cells #[v] 174 (0, 0)) /\ Own w K v L
theorem Wr.other {K : Nat} {w : World} {B : Nat} {v : Value} {L : By} (h : w.heap[B]? = some (.cells #[v] 174 (0, 0))) (ho : Own w K v L) : v.ownBlock ≠ some B := by
  intro hv
  rcases ho.2 with ⟨rfl, h0⟩ | ⟨g, cap, cur, rfl, hb, hh, hn, hm, _⟩
  · cases hv
  · obtain rfl : g = B := by simpa [Value.ownBlock] using hv
    rw [h] at hh
    simp at hh
theorem Wr.other2 {K : Nat} {w : World} {B : Nat} {u v : Value} {L : By} (h : w.heap[B]? = some (.cells #[u] 174 (0, 0))) (ho : Own w K v L) : v.ownBlock ≠ some B := by
  intro hv
  rcases ho.2 with ⟨rfl, h0⟩ | ⟨g, cap, cur, rfl, hb, hh, hn, hm, _⟩
  · cases hv
  · obtain rfl : g = B := by simpa [Value.ownBlock] using hv
    rw [h] at hh
    simp at hh
theorem Wr.lt {K : Nat} {w : World} {B : Nat} {L : By} (h : Wr K w B L) : B < w.heap.size := by
  obtain ⟨_, _, v, h3, _⟩ := h
  exact (Array.getElem?_eq_some_iff.1 h3).1
theorem own_below {w w' : World} {B : Nat} {v : Value} {L : By} (h : Own w B v L) (hb : Below w.heap.size w w') : Own w' B v L := by
  have hg : w.grownBy w' none := ⟨hb.os, hb.tape, hb.output, hb.size, fun k hk _ => hb.block k hk⟩
  cases hv : v.ownBlock with
  | none => exact h.kept hg (.inl hv)
  | some k => exact h.kept hg (.inr (by rw [hv]; simp))
theorem own_low {w : World} {B B' : Nat} {v : Value} {L : By} (h : Own w B v L) (hb : B' <= B) : Own w B' v L := by
  refine ⟨h.1, ?_⟩
  rcases h.2 with h2 | ⟨g, cap, cur, h2, h3, h4⟩
  · exact .inl h2
  · exact .inr ⟨g, cap, cur, h2, by omega, h4⟩
def rb (w : World) (B : Nat) : Option Nat := match w.heap[B]? with
  | some (.cells cs _ _) => (cs[0]?.getD (Value.bool false)).ownBlock
  | _ => none
theorem rb_box {w : World} {B : Nat} {v : Value} {t : TypeId} (h : w.heap[B]? = some (.cells #[v] t (0, 0))) : rb w B = v.ownBlock := by unfold rb; rw [h]; rfl
def Fr (B : Nat) (w w' : World) : Prop := w.heap.size <= w'.heap.size /\ (rb w' B = rb w B \/ ∃ k, rb w' B = some k /\ w.heap.size <= k) /\ ∀ k, k < w.heap.size -> k ≠ B -> rb w B ≠ some k -> w'.heap[k]? = w.heap[k]?
theorem Fr.refl (B : Nat) (w : World) : Fr B w w := ⟨Nat.le_refl _, .inl rfl, fun _ _ _ _ => rfl⟩
theorem Fr.trans {B : Nat} {a b c : World} (h : Fr B a b) (g : Fr B b c) : Fr B a c := by
  obtain ⟨h1, h2, h3⟩ := h
  obtain ⟨g1, g2, g3⟩ := g
  refine ⟨by omega, ?_, fun k hk hB hr => (g3 k (by omega) hB (fun e => ?_)).trans (h3 k hk hB hr)⟩
  · rcases g2 with g2 | ⟨k, g2, gk⟩
    · rw [g2]; exact h2
    · exact .inr ⟨k, g2, by omega⟩
  · rcases h2 with h2 | ⟨j, h2, hj⟩
    · exact hr (h2 ▸ e)
    · rw [h2] at e; cases e; omega
theorem Fr.of {B : Nat} {w w' : World} (hB : B < w.heap.size) (h : Below w.heap.size w w') : Fr B w w' := ⟨h.size, .inl (by unfold rb; rw [h.block B hB]), fun k hk _ _ => h.block k hk⟩
theorem Wr.own_lt {K : Nat} {w : World} {B : Nat} {L : By} (h : Wr K w B L) {k : Nat} (hk : rb w B = some k) : k < w.heap.size /\ k ≠ B := by
  obtain ⟨_, _, v, h3, h4⟩ := h
  rw [rb_box h3] at hk
  exact ⟨(World.ownsRow.lt h4 k hk).2, fun e => Wr.other h3 h4 (e ▸ hk)⟩
theorem Fr.box {K : Nat} {w w' : World} {B : Nat} {L : By} (h : Wr K w B L) {W : World} (hW : Below w.heap.size w W) (hf : Fr B W w') {k : Nat} (hk : w.heap.size <= k) (hkW : k < W.heap.size) : w'.heap[k]? = W.heap[k]? := by
  refine hf.2.2 k hkW (fun e => by have := h.lt; omega) (fun e => ?_)
  have e2 : rb W B = rb w B := by unfold rb; rw [hW.block B h.lt]
  have := (h.own_lt (e2 ▸ e)).1
  omega
def WP (K : Nat) (B : Nat) (L : By) (a : Pc) (w : World) (e : Ending) (w' : World) : Prop := Below K w w' /\ Fr B w w' /\ match a with
  | some Xs => e = .returned (.tuple #[]) /\ Wr K w' B (pts L Xs)
  | none => e = .panicked (pkF 2100 0)
theorem must_c (b : Bool) (w : World) : Calls prog 203 #[.bool b] w fun e w' => w' = w /\ e = if b then .returned (.tuple #[]) else .panicked (pkF 2100 0) := by
  cases b
  · go_enter func203, ntmps203
    go_wp2_with fail
    exact ⟨rfl, rfl, rfl⟩
  · go_enter func203, ntmps203
    go_wp2_with fail
    go_end0
    exact ⟨rfl, rfl⟩
theorem must_ok (w : World) : Calls prog 203 #[.bool true] w fun e w' => w' = w /\ e = .returned (.tuple #[]) := must_c true w
theorem must_no (w : World) : Calls prog 203 #[.bool false] w fun e w' => w' = w /\ e = .panicked (pkF 2100 0) := must_c false w
theorem full_c {K : Nat} {w : World} {B : Nat} {L : By} (h : Wr K w B L) :
    Calls prog 125 #[ptw B] w fun e w' => w' = w /\ e = .returned (.bool (decide (1048576 < L.length))) := by
  obtain ⟨hKB, hL, v, hB, ho⟩ := h
  have q0 : w.cell? ⟨B, 0, none⟩ = some v := by simp [World.cell?, hB]
  obtain ⟨a, cap, rfl⟩ : ∃ a cap, v = .slice a L.length cap := by obtain ⟨a, cap, h, -⟩ := ho.seen; exact ⟨a, cap, h⟩
  by_cases hl : 1048576 < L.length
  · have hl' : (1048576 : Int) < (L.length : Int) := by omega
    rw [decide_eq_true hl]
    clear hB ho
    go_enter func125, ntmps125
    go_wp2_with fail
    go_ret
    exact ⟨rfl, rfl⟩
  · have hl' : ¬ (1048576 : Int) < (L.length : Int) := by omega
    rw [decide_eq_false hl]
    clear hB ho
    go_enter func125, ntmps125
    go_wp2_with fail
    go_ret
    exact ⟨rfl, rfl⟩
theorem put_w {K : Nat} {w : World} {B : Nat} {L X : By} {xv : Value} (h : Wr K w B L) (hK : K <= w.heap.size) (hx : Seen w xv X) (hX : X.length <= 4096) :
    Calls prog 204 #[ptw B, xv] w fun e w' => Below K w w' /\ Fr B w w' /\ e = .returned (.tuple #[]) /\ Wr K w' B (pt L X) := by
  have cF := full_c h
  obtain ⟨hKB, hL, v, hB, ho⟩ := h
  have hBlt : B < w.heap.size := (Array.getElem?_eq_some_iff.1 hB).1
  have hne := Wr.other hB ho
  have q0 : w.cell? ⟨B, 0, none⟩ = some v := by simp [World.cell?, hB]
  have hfz := TBase.frozen_box hB 0
  by_cases hl : 1048576 < L.length
  · rw [decide_eq_true hl] at cF
    have HE : Hid (Wr K w B (pt L X)) := by show Wr _ _ _ _; unfold pt; rw [if_pos hl]; exact ⟨hKB, hL, v, hB, ho⟩
    clear hB ho
    go_enter func204, ntmps204
    go_wp2_with fail
    refine cF.mono ?_
    rintro e w1 ⟨rfl, rfl⟩
    go_wp2_with fail
    go_end0
    exact ⟨Below.refl _ _, Fr.refl _ _, rfl, HE.out⟩
  · rw [decide_eq_false hl] at cF
    obtain ⟨i0, hi, hz0, hz1, hz2⟩ := info_parts info5
    obtain ⟨a, cap, rfl⟩ : ∃ a cap, v = .slice a L.length cap := by obtain ⟨a, cap, h, -⟩ := ho.seen; exact ⟨a, cap, h⟩
    obtain ⟨ax, capx, rfl⟩ : ∃ a cap, xv = .slice a X.length cap := by obtain ⟨a, cap, h, -⟩ := hx; exact ⟨a, cap, h⟩
    have HB : Hid _ := hB
    clear hB
    go_enter func204, ntmps204
    go_wp2_with fail
    refine cF.mono ?_
    rintro e w1 ⟨rfl, rfl⟩
    go_wp2_with (first
      | (at_builtin; refine YAp.app_seen rfl _ _ 22 rfl K 5 i0 (.int .u8 0) 1 1 underlying22 hi hz0 hz1 hz2 rfl (by decide) _ _ _ rfl ho _ X.length _ (cellsL X) rfl (YAp.seen_src hx) (by rw [cellsL_length]; omega) (one_cells X) (by unfold maxLen; omega) (by omega) hK ?_))
    intro v' w2 hown hgrow hnw
    have hB2 := (hgrow.block B hBlt (fun e => hne e.symm)).trans HB.out
    have q2 : w2.cell? ⟨B, 0, none⟩ = some (.slice a L.length cap) := by simp [World.cell?, hB2]
    have f2 := TBase.frozen_box hB2 0
    have bel : Below K w1 w2 := (Below.refl _ _).grown hgrow hK (fun k hk => (World.ownsRow.lt ho k hk).1)
    have ho2 : Own w2 K v' (pt L X) := by unfold pt; rw [if_neg hl]; unfold Own; rw [cellsL_append, List.length_append]; exact hown
    obtain ⟨a', cap', rfl⟩ : ∃ a' cap', v' = .slice a' (pt L X).length cap' := by obtain ⟨x, y, h, -⟩ := ho2.seen; exact ⟨x, y, h⟩
    have hsz := hgrow.size
    have hlen := pt_len hX hL
    have HE : Hid (Below K w1 (w2.setCell ⟨B, 0, none⟩ (.slice a' (pt L X).length cap')) /\ Fr B w1 (w2.setCell ⟨B, 0, none⟩ (.slice a' (pt L X).length cap')) /\ Wr K (w2.setCell ⟨B, 0, none⟩ (.slice a' (pt L X).length cap')) B (pt L X)) := by
      refine ⟨bel.setCell (p := ⟨B, 0, none⟩) hKB _, ?_, hKB, hlen, .slice a' (pt L X).length cap', ?_, ?_⟩
      · have hB3 : (w2.setCell ⟨B, 0, none⟩ (.slice a' (pt L X).length cap')).heap[B]? = some (.cells #[.slice a' (pt L X).length cap'] 174 (0, 0)) := by simp [World.setCell, Array.getElem?_modify, hB2]
        refine ⟨by rw [World.size_setCell]; exact hsz, ?_, fun k hk hkB hr => ?_⟩
        · rw [rb_box hB3, rb_box HB.out]
          rcases hnw with h | h
          · exact .inl h
          · exact .inr ⟨_, h, Nat.le_refl _⟩
        · rw [Below.heap_setCell _ _ _ _ hkB]
          exact hgrow.block k hk (fun e => hr (by rw [rb_box HB.out]; exact e.symm))
      · simp [World.setCell, Array.getElem?_modify, hB2]
      · have hg : w2.grownBy (w2.setCell ⟨B, 0, none⟩ (.slice a' (pt L X).length cap')) (some B) := ⟨rfl, rfl, rfl, by simp, fun k hk hne => Below.heap_setCell _ _ _ _ (fun e => hne (by rw [e]))⟩
        exact ho2.kept hg (.inr (Wr.other2 hB2 ho2))
    clear hown ho hgrow bel ho2 hB2 hnw
    go_wp2_with fail
    go_end0
    exact ⟨HE.out.1, HE.out.2.1, rfl, HE.out.2.2⟩
end Go.Proofs.YtaiackmmmlhgbaaGreat.YWr
namespace Go.Proofs.YtaiackmmmlhgbaaGreat.YWo
open Go.RowKit Leb YPl YWr
theorem Wr.below {K B : Nat} {w w' : World} {L : By} (h : Wr K w B L) (hb : Below w.heap.size w w') : Wr K w' B L := by
  obtain ⟨h1, h2, v, h3, h4⟩ := h
  refine ⟨h1, h2, v, (hb.block B (Array.getElem?_eq_some_iff.1 h3).1).trans h3, ?_⟩
  have hg : w.grownBy w' none := ⟨hb.os, hb.tape, hb.output, hb.size, fun k hk _ => hb.block k hk⟩
  cases hv : v.ownBlock with
  | none => exact h4.kept hg (.inl hv)
  | some k => exact h4.kept hg (.inr (by rw [hv]; simp))
theorem own_one (w : World) (c : UInt8) : Own (w.alloc (.cells #[.int .u8 (c.toNat : Int)] 5)) w.heap.size (.slice (some ⟨w.heap.size, 0, none⟩) 1 1) [c] :=
  ⟨rfl, .inr ⟨w.heap.size, 1, #[.int .u8 (c.toNat : Int)], rfl, Nat.le_refl _, heap_alloc_new w _, Nat.le_refl _, by unfold maxLen; omega, rfl, rfl⟩⟩
theorem octet_c {K B : Nat} {w : World} {L : By} (x : Int) (h : Wr K w B L) (hK : K <= w.heap.size) :
    Calls prog 170 #[ptw B, .int .i64 x] w fun e w' => WP K B L (oct x) w e w' := by
  by_cases hx : 0 <= x /\ x <= 255
  · obtain ⟨h0, h1⟩ := hx
    obtain ⟨c, hc⟩ : ∃ c : UInt8, (c.toNat : Int) = x := ⟨UInt8.ofNat x.toNat, by rw [byte_of (by omega)]; omega⟩
    have ec : UInt8.ofNat x.toNat = c := UInt8.toNat_inj.1 (by rw [byte_of (by omega)]; omega)
    have HE : Hid (oct x = some [[c]]) := by show _ = _; unfold oct; rw [if_pos ⟨h0, h1⟩, ec]
    subst hc
    have bA : Below w.heap.size w (w.alloc (.cells #[.int .u8 (c.toNat : Int)] 5)) := (Below.refl _ w).alloc (Nat.le_refl _) _
    have cP := put_w (Wr.below h bA) (by simp; omega) (own_one w c).seen (by simp)
    have hm := must_ok w
    have hlt := h.lt
    clear h
    go_enter func170, ntmps170
    go_wp2_with fail
    refine hm.mono ?_
    rintro e w1 ⟨rfl, rfl⟩
    go_wp2_with fail
    refine cP.mono ?_
    rintro e w2 ⟨b2, s2, rfl, hW⟩
    go_wp2_with fail
    go_end0
    rw [HE.out]
    exact ⟨(bA.mono hK).trans b2, (Fr.of hlt bA).trans s2, rfl, hW⟩
  · have HE : Hid (oct x = none) := by show _ = _; unfold oct; rw [if_neg hx]
    have hm := must_no w
    clear h
    by_cases h0 : 0 <= x
    · have h1 : ¬ x <= 255 := fun h => hx ⟨h0, h⟩
      go_enter func170, ntmps170
      go_wp2_with fail
      refine hm.mono ?_
      rintro e w1 ⟨rfl, rfl⟩
      exact ⟨rfl, by rw [HE.out]; exact ⟨Below.refl _ _, Fr.refl _ _, rfl⟩⟩
    · go_enter func170, ntmps170
      go_wp2_with fail
      refine hm.mono ?_
      rintro e w1 ⟨rfl, rfl⟩
      exact ⟨rfl, by rw [HE.out]; exact ⟨Below.refl _ _, Fr.refl _ _, rfl⟩⟩
theorem count_c {K B : Nat} {w : World} {L : By} (lim : Nat) (hlim : lim <= 16384) (x : Int) (hxl : -9223372036854775808 <= x) (hxu : x <= 9223372036854775807) (h : Wr K w B L) (hK : K <= w.heap.size) :
    Calls prog 205 #[ptw B, .int .i64 lim, .int .i64 x] w fun e w' => WP K B L (cnt lim x) w e w' := by
  by_cases hx : 0 <= x /\ x <= lim
  · obtain ⟨h0, h1⟩ := hx
    have HE : Hid (cnt lim x = some [putL x.toNat]) := by show _ = _; unfold cnt; rw [if_pos ⟨h0, h1⟩]
    have hm := must_ok w
    have c1 := put_i x h0 (by omega) w
    have HW : Hid (Wr K w B L) := h
    have hl : (putL x.toNat).length <= 10 := putL_len (by omega)
    clear h
    go_enter func205, ntmps205
    go_wp2_with fail
    refine hm.mono ?_
    rintro e w1 ⟨rfl, rfl⟩
    go_wp2_with fail
    refine c1.mono ?_
    rintro e w2 ⟨v, rfl, ho, hb⟩
    have cP := put_w (Wr.below HW.out hb) (by have := hb.size; omega) ho.seen (by omega)
    have hs := hb.size
    have HB : Hid _ := hb
    obtain ⟨av, cv, rfl⟩ : ∃ a c, v = .slice a (putL x.toNat).length c := by obtain ⟨a, c, h, -⟩ := ho.seen; exact ⟨a, c, h⟩
    clear ho hb c1
    go_wp2_with fail
    refine cP.mono ?_
    rintro e w3 ⟨b3, s3, rfl, hW⟩
    go_wp2_with fail
    go_end0
    rw [HE.out]
    exact ⟨(HB.out.mono hK).trans b3, (Fr.of HW.out.lt HB.out).trans s3, rfl, hW⟩
  · have HE : Hid (cnt lim x = none) := by show _ = _; unfold cnt; rw [if_neg hx]
    have hm := must_no w
    clear h
    by_cases h0 : 0 <= x
    · have h1 : ¬ x <= (lim : Int) := fun h => hx ⟨h0, h⟩
      go_enter func205, ntmps205
      go_wp2_with fail
      refine hm.mono ?_
      rintro e w1 ⟨rfl, rfl⟩
      exact ⟨rfl, by rw [HE.out]; exact ⟨Below.refl _ _, Fr.refl _ _, rfl⟩⟩
    · go_enter func205, ntmps205
      go_wp2_with fail
      refine hm.mono ?_
      rintro e w1 ⟨rfl, rfl⟩
      exact ⟨rfl, by rw [HE.out]; exact ⟨Below.refl _ _, Fr.refl _ _, rfl⟩⟩
theorem whole_c {K B : Nat} {w : World} {L : By} (x : Int) (hxl : -9223372036854775808 <= x) (hxu : x <= 9223372036854775807) (h : Wr K w B L) (hK : K <= w.heap.size) :
    Calls prog 212 #[ptw B, .int .i64 x] w fun e w' => WP K B L (whl x) w e w' := by
  have c1 := puti_c x hxl hxu w
  have HW : Hid (Wr K w B L) := h
  have hl : (putL (zig x)).length <= 10 := putL_len (zig_lt hxl hxu)
  clear h
  go_enter func212, ntmps212
  go_wp2_with fail
  refine c1.mono ?_
  rintro e w2 ⟨v, rfl, ho, hb⟩
  have cP := put_w (Wr.below HW.out hb) (by have := hb.size; omega) ho.seen (by omega)
  have hs := hb.size
  have HB : Hid _ := hb
  obtain ⟨av, cv, rfl⟩ : ∃ a c, v = .slice a (putL (zig x)).length c := by obtain ⟨a, c, h, -⟩ := ho.seen; exact ⟨a, c, h⟩
  clear ho hb c1
  go_wp2_with fail
  refine cP.mono ?_
  rintro e w3 ⟨b3, s3, rfl, hW⟩
  go_wp2_with fail
  go_end0
  exact ⟨(HB.out.mono hK).trans b3, (Fr.of HW.out.lt HB.out).trans s3, rfl, hW⟩
theorem conv_c (w : World) (T : ByteArray) (hT : T.size <= 4096) : ∃ a n c W', (convert 9 22 (.string T)).run prog w = .ok (.slice a n c) W' /\ Below w.heap.size w W' /\ Seen W' (.slice a n c) T.data.toList := by
  refine ⟨_, _, _, _, Lib.run_convert_string_bytes w 9 22 5 T underlying9 underlying22 underlying5, ⟨rfl, rfl, rfl, ?_, fun k hk => Lib.bytesWorld_at_old w 5 T k hk⟩, ⟨_, grownCap w T.size 0 5, rfl, grownCap_ge _ _ _ _, grownCap_le_maxLen _ _ _ _ (by unfold maxLen; omega), (fun h => by cases h), fun g o s e j hj => ?_⟩⟩
  · rw [Lib.bytesWorld_size]; omega
  · cases e
    refine ⟨rfl, ?_⟩
    have h' : j < T.data.size := hj
    rw [Nat.zero_add, Lib.bytesWorld_cell w 5 T j hj]
    simp [Array.getElem?_eq_getElem h']
theorem text_c {K B : Nat} {w : World} {L : By} (s : ByteArray) (hs : s.size <= 140737488351232) (h : Wr K w B L) (hK : K <= w.heap.size) :
    Calls prog 172 #[ptw B, .string s] w fun e w' => WP K B L (txt s) w e w' := by
  have c1 := count_c 4096 (by omega) (s.size : Int) (by omega) (by omega) h hK
  by_cases hx : s.size <= 4096
  · have h1 : cnt 4096 (s.size : Int) = some [putL s.size] := by unfold cnt; rw [if_pos ⟨by omega, by omega⟩]; simp
    rw [h1] at c1
    clear h
    go_enter func172, ntmps172
    go_wp2_with fail
    refine c1.mono ?_
    rintro e w1 ⟨b1, s1, rfl, hW1⟩
    have t1 := s1.1
    have c2 := UOwn.valid_c s (by omega) w1
    have HW1 : Hid (Wr K w1 B (pts L [putL s.size])) := hW1
    have HB1 : Hid _ := b1
    clear hW1 b1 c1
    go_wp2_with fail
    refine c2.mono ?_
    rintro e w2 ⟨rfl, p, rfl⟩
    have bI : Hid (Below w1.heap.size w1 (w1.iter s p)) := (Below.refl _ w1).alloc (Nat.le_refl _) _
    clear c2
    by_cases hv : UBase.verr s = 0
    · have HE : Hid (txt s = some [putL s.size, s.data.toList]) := by show _ = _; unfold txt; rw [if_pos ⟨hx, hv⟩]
      have hm := must_ok (w1.iter s p)
      rw [hv]
      obtain ⟨a, n, c, W', hc, bc, hS⟩ := conv_c (w1.iter s p) s hx
      have k1 := bI.out.size
      have k2 := bc.size
      have cP := put_w (Wr.below (Wr.below HW1.out bI.out) bc) (by omega) hS (by simpa using hx)
      have HBC : Hid _ := bc
      clear bc hS
      go_wp2_with fail
      refine hm.mono ?_
      rintro e w3 ⟨rfl, rfl⟩
      go_wp2_with fail
      refine cP.mono ?_
      rintro e w4 ⟨b4, s4, rfl, hW4⟩
      go_wp2_with fail
      go_end0
      rw [HE.out]
      exact ⟨((HB1.out.trans (bI.out.mono (by omega))).trans (HBC.out.mono (by omega))).trans b4, ((s1.trans (Fr.of HW1.out.lt bI.out)).trans (Fr.of (Wr.below HW1.out bI.out).lt HBC.out)).trans s4, rfl, hW4⟩
    · have HE : Hid (txt s = none) := by show _ = _; unfold txt; rw [if_neg (fun h => hv h.2)]
      have hm := must_no (w1.iter s p)
      have hv1 : (((UBase.verr s : Nat) : Int) == 0) = false := by simp [hv]
      have k1 := bI.out.size
      go_wp2_with fail
      refine hm.mono ?_
      rintro e w3 ⟨rfl, rfl⟩
      exact ⟨rfl, by rw [HE.out]; exact ⟨HB1.out.trans (bI.out.mono (by omega)), s1.trans (Fr.of HW1.out.lt bI.out), rfl⟩⟩
  · have h1 : cnt 4096 (s.size : Int) = none := by unfold cnt; rw [if_neg (by omega)]
    have HE : Hid (txt s = none) := by show _ = _; unfold txt; rw [if_neg (fun h => hx h.1)]
    rw [h1] at c1
    clear h
    go_enter func172, ntmps172
    go_wp2_with fail
    refine c1.mono ?_
    rintro e w1 ⟨b1, s1, rfl⟩
    exact ⟨rfl, by rw [HE.out]; exact ⟨b1, s1, rfl⟩⟩
end Go.Proofs.YtaiackmmmlhgbaaGreat.YWo
namespace Go.Proofs.YtaiackmmmlhgbaaGreat.YRr
open Go.RowKit YPl
open TBase (T)
def Rr {α : Type} (n : Nat) (Ly : World -> Nat -> Nat -> α -> Prop) (K : Nat) (w : World) (v : Value) (l : List α) : Prop :=
  ∃ a cap, v = .slice a l.length cap /\ l.length <= cap /\ cap <= 9223372036854775807 /\ l.length <= 140737488351232 /\ (a = none -> cap = 0) /\ (l = [] \/ ∃ g o, a = some ⟨g, o, none⟩ /\ g < K /\ ∀ j (h : j < l.length), Ly w g (o + j * n) l[j])
theorem Rr.keep {α : Type} {n : Nat} {Ly Ly' : World -> Nat -> Nat -> α -> Prop} {K K' : Nat} {w w' : World} {v : Value} {l : List α} (h : Rr n Ly K w v l) (hK : K <= K') (hl : ∀ g o x, x ∈ l -> g < K -> Ly w g o x -> Ly' w' g o x) : Rr n Ly' K' w' v l := by
  obtain ⟨a, cap, h1, h2, h3, h4, h5, h6⟩ := h
  refine ⟨a, cap, h1, h2, h3, h4, h5, ?_⟩
  rcases h6 with h6 | ⟨g, o, ha, hg, hc⟩
  · exact .inl h6
  · exact .inr ⟨g, o, ha, by omega, fun j hj => hl _ _ _ (List.getElem_mem hj) hg (hc j hj)⟩
abbrev i64 (x : Int) : Prop := -9223372036854775808 <= x /\ x <= 9223372036854775807
def LyS (w : World) (g o : Nat) (s : ByteArray) : Prop := w.cell? ⟨g, o, none⟩ = some (.string s) /\ s.size <= 140737488351232
def LyI (w : World) (g o : Nat) (x : Int) : Prop := w.cell? ⟨g, o, none⟩ = some (.int .i64 x) /\ i64 x
def LyN (w : World) (g o : Nat) (x : Ins) : Prop := w.cell? ⟨g, o, none⟩ = some (.int .i64 x.1) /\ w.cell? ⟨g, o + 1, none⟩ = some (.int .i64 x.2) /\ i64 x.1 /\ i64 x.2
def LyA (w : World) (g o : Nat) (x : ByteArray × ByteArray) : Prop := w.cell? ⟨g, o, none⟩ = some (.string x.1) /\ w.cell? ⟨g, o + 1, none⟩ = some (.string x.2) /\ x.1.size <= 140737488351232 /\ x.2.size <= 140737488351232
def LyC (K : Nat) (w : World) (g o : Nat) (x : List Ins) : Prop := ∃ v, w.cell? ⟨g, o, none⟩ = some v /\ Rr 2 LyN K w v x
def LyO (K : Nat) (w : World) (g o : Nat) (x : Oq) : Prop := ∃ v, w.cell? ⟨g, o, none⟩ = some (.int .i64 x.k) /\ w.cell? ⟨g, o + 1, none⟩ = some (.int .i64 x.a) /\ w.cell? ⟨g, o + 2, none⟩ = some (.int .i64 x.b) /\ w.cell? ⟨g, o + 3, none⟩ = some (.int .i64 x.c) /\ w.cell? ⟨g, o + 4, none⟩ = some v /\ (i64 x.k /\ i64 x.a /\ i64 x.b /\ i64 x.c) /\ Rr 1 LyI K w v x.l
def LyB (K : Nat) (w : World) (g o : Nat) (x : Bk) : Prop := ∃ v u, w.cell? ⟨g, o, none⟩ = some (.int .i64 x.d) /\ w.cell? ⟨g, o + 1, none⟩ = some v /\ w.cell? ⟨g, o + 2, none⟩ = some u /\ i64 x.d /\ Rr 5 (LyO K) K w v x.o /\ Rr 1 LyI K w u x.u
theorem ck {K : Nat} {w w' : World} {g o : Nat} {u : Value} (hb : Below K w w') (hg : g < K) (h : w.cell? ⟨g, o, none⟩ = some u) : w'.cell? ⟨g, o, none⟩ = some u := (World.cell?_of_block (w := w) (hb.block g hg)).trans h
theorem LyS.below {K : Nat} {w w' : World} {g o : Nat} {x : ByteArray} (hb : Below K w w') (hg : g < K) (h : LyS w g o x) : LyS w' g o x := ⟨ck hb hg h.1, h.2⟩
theorem LyI.below {K : Nat} {w w' : World} {g o : Nat} {x : Int} (hb : Below K w w') (hg : g < K) (h : LyI w g o x) : LyI w' g o x := ⟨ck hb hg h.1, h.2⟩
theorem LyN.below {K : Nat} {w w' : World} {g o : Nat} {x : Ins} (hb : Below K w w') (hg : g < K) (h : LyN w g o x) : LyN w' g o x := ⟨ck hb hg h.1, ck hb hg h.2.1, h.2.2⟩
theorem LyA.below {K : Nat} {w w' : World} {g o : Nat} {x : ByteArray × ByteArray} (hb : Below K w w') (hg : g < K) (h : LyA w g o x) : LyA w' g o x := ⟨ck hb hg h.1, ck hb hg h.2.1, h.2.2⟩
theorem LyC.below {K : Nat} {w w' : World} {g o : Nat} {x : List Ins} (hb : Below K w w') (hg : g < K) (h : LyC K w g o x) : LyC K w' g o x := by
  obtain ⟨v, h1, h2⟩ := h
  exact ⟨v, ck hb hg h1, h2.keep (Nat.le_refl _) fun g o x _ hg h => h.below hb hg⟩
theorem LyO.below {K : Nat} {w w' : World} {g o : Nat} {x : Oq} (hb : Below K w w') (hg : g < K) (h : LyO K w g o x) : LyO K w' g o x := by
  obtain ⟨v, h1, h2, h3, h4, h5, h6, h7⟩ := h
  exact ⟨v, ck hb hg h1, ck hb hg h2, ck hb hg h3, ck hb hg h4, ck hb hg h5, h6, h7.keep (Nat.le_refl _) fun g o x _ hg h => h.below hb hg⟩
theorem LyB.below {K : Nat} {w w' : World} {g o : Nat} {x : Bk} (hb : Below K w w') (hg : g < K) (h : LyB K w g o x) : LyB K w' g o x := by
  obtain ⟨v, u, h1, h2, h3, h4, h5, h6⟩ := h
  exact ⟨v, u, ck hb hg h1, ck hb hg h2, ck hb hg h3, h4, h5.keep (Nat.le_refl _) fun g o x _ hg h => h.below hb hg, h6.keep (Nat.le_refl _) fun g o x _ hg h => h.below hb hg⟩
theorem LyC.up {K K' : Nat} {w : World} {g o : Nat} {x : List Ins} (hk : K <= K') (h : LyC K w g o x) : LyC K' w g o x := by
  obtain ⟨v, h1, h2⟩ := h
  exact ⟨v, h1, h2.keep hk fun g o x _ hg h => h⟩
theorem LyO.up {K K' : Nat} {w : World} {g o : Nat} {x : Oq} (hk : K <= K') (h : LyO K w g o x) : LyO K' w g o x := by
  obtain ⟨v, h1, h2, h3, h4, h5, h6, h7⟩ := h
  exact ⟨v, h1, h2, h3, h4, h5, h6, h7.keep hk fun g o x _ hg h => h⟩
theorem LyB.up {K K' : Nat} {w : World} {g o : Nat} {x : Bk} (hk : K <= K') (h : LyB K w g o x) : LyB K' w g o x := by
  obtain ⟨v, u, h1, h2, h3, h4, h5, h6⟩ := h
  exact ⟨v, u, h1, h2, h3, h4, h5.keep hk fun g o x _ hg h => h.up hk, h6.keep hk fun g o x _ hg h => h⟩
theorem cell_of {W : World} {B : Nat} {cs : Array Value} {t : TypeId} (h : W.heap[B]? = some (.cells cs t (0, 0))) (i : Nat) (v : Value) (hv : cs[i]? = some v) : W.cell? ⟨B, i, none⟩ = some v := by simp [World.cell?, h, hv]
theorem lis_step {α : Type} {f : α -> Pc} {l : List α} {q : Nat} (hq : q < l.length) {Xs : List By} (h : cat (some Xs) (lis f (l.drop q)) = lis f l) {Ys : List By} (hy : f l[q] = some Ys) : cat (some (Xs ++ Ys)) (lis f (l.drop (q + 1))) = lis f l := by
  rw [List.drop_eq_getElem_cons hq, lis, hy, <- cat_assoc] at h
  exact h
theorem lis_stop {α : Type} {f : α -> Pc} {l : List α} {q : Nat} (hq : q < l.length) {Xs : List By} (h : cat (some Xs) (lis f (l.drop q)) = lis f l) (hy : f l[q] = none) : lis f l = none := by
  rw [List.drop_eq_getElem_cons hq, lis, hy, cat_none] at h
  exact h.symm
theorem lis_end {α : Type} {f : α -> Pc} {l : List α} {Xs : List By} (h : cat (some Xs) (lis f (l.drop l.length)) = lis f l) : lis f l = some Xs := by
  rw [List.drop_length, lis, cat_nil'] at h
  exact h.symm
theorem cat_no (a : Pc) : cat a none = none := by cases a <;> rfl
end Go.Proofs.YtaiackmmmlhgbaaGreat.YRr
namespace Go.Proofs.YtaiackmmmlhgbaaGreat.YLa
open Go.RowKit YPl YWr YWo YRr
theorem wl_s {K B : Nat} {w : World} {L : By} (lim : Nat) (hlim : lim <= 16384) {v : Value} {l : List ByteArray} (f : ByteArray -> Pc) (h : Wr K w B L) (hK : K <= w.heap.size) (hv : Rr 1 LyS K w v l)
    (hone : Hid (∀ (x : ByteArray) (W : World) (M : By), x ∈ l -> Below K w W -> Wr K W B M -> K <= W.heap.size -> (x.size <= 140737488351232) -> Calls prog 172 #[ptw B, (.string x)] W fun e w' => WP K B M (f x) W e w')) :
    Calls prog 171 #[ptw B, .int .i64 lim, v, .func (.func 172) #[ptw B] #[]] w fun e w' => WP K B L (lst lim f l) w e w' := by
  obtain ⟨a, cap, rfl, hlc, hcm, hlb, hnil, hrow⟩ := hv
  have c1 := count_c lim hlim (l.length : Int) (by omega) (by omega) h hK
  have HR : Hid _ := hrow
  clear h hrow
  cases hcn : cnt lim (l.length : Int) with
  | none =>
    rw [hcn] at c1
    have HE : Hid (lst lim f l = none) := by show _ = _; unfold lst; rw [hcn, cat_none]
    go_enter func171, ntmps171
    go_wp2_with fail
    refine c1.mono ?_
    rintro e w1 ⟨b1, s1, rfl⟩
    exact ⟨rfl, by rw [HE.out]; exact ⟨b1, s1, rfl⟩⟩
  | some Cs =>
    rw [hcn] at c1
    have HE : Hid (lst lim f l = cat (some Cs) (lis f l)) := by show _ = _; unfold lst; rw [hcn]
    go_enter func171, ntmps171
    go_wp2_with fail
    refine c1.mono ?_
    rintro e w1 ⟨b1, s1, rfl, hW1⟩
    have HB1 : Hid _ := b1
    have HW1 : Hid _ := hW1
    clear b1 hW1 c1
    go_wp2_with fail
    go_loopw [17] (fun i wr => ∃ (q : Nat) (Xs : List By), i = .int .i64 q /\ q <= l.length /\ Hid (Below K w wr /\ Fr B w wr /\ Wr K wr B (pts (pts L Cs) Xs)) /\ Hid (cat (some Xs) (lis f (l.drop q)) = lis f l)) (fun i _ => l.length - (intOf i).toNat)
    case atStart => exact ⟨0, [], rfl, by omega, ⟨HB1.out, s1, HW1.out⟩, by show _ = _; rw [List.drop_zero, cat_nil]⟩
    case round =>
      obtain ⟨q, Xs, rfl, hq, HG, HS⟩ := hrel
      by_cases hlt : q < l.length
      · rcases HR.out with h0 | ⟨g, o, rfl, hg, hc⟩
        · rw [h0] at hlt; simp at hlt
        have he := LyS.below HG.out.1 hg (hc q hlt)
        rw [Nat.mul_one] at he
        obtain ⟨x, hx⟩ : ∃ x, l[q] = x := ⟨_, rfl⟩
        have hmem : x ∈ l := hx ▸ List.getElem_mem hlt
        rw [hx] at he
        obtain ⟨e0, k0⟩ := he
        have cx := hone.out x  wr _ hmem HG.out.1 HG.out.2.2 (by have := HG.out.2.1.1; omega) k0
        clear k0 hc
        go_wp2_with fail
        refine cx.mono ?_
        rintro e w2 ⟨b2, s2, hA⟩
        cases hfx : f x with
        | none =>
          rw [hfx] at hA
          obtain rfl := hA
          exact ⟨rfl, by rw [HE.out, lis_stop hlt HS.out (by rw [hx]; exact hfx), cat_no]; exact ⟨(HG.out.1.trans b2), (HG.out.2.1.trans s2), rfl⟩⟩
        | some Ys =>
          rw [hfx] at hA
          obtain ⟨rfl, hW2⟩ := hA
          have HG2 : Hid (Below K w w2 /\ Fr B w w2 /\ Wr K w2 B (pts (pts L Cs) (Xs ++ Ys))) := ⟨(HG.out.1.trans b2), (HG.out.2.1.trans s2), by rw [pts_app]; exact hW2⟩
          have HS2 : Hid _ := lis_step hlt HS.out (by rw [hx]; exact hfx)
          clear hW2 b2 cx HG HS
          go_wp2_with fail
          go_roundw
          case rel => exact ⟨q + 1, Xs ++ Ys, by go_num, by omega, HG2, HS2⟩
          case measure => simp only [intOf]; omega
      · obtain rfl : q = l.length := by omega
        go_wp2_with fail
        go_end0
        rw [HE.out, lis_end HS.out]
        exact ⟨HG.out.1, HG.out.2.1, rfl, by rw [pts_app]; exact HG.out.2.2⟩
end Go.Proofs.YtaiackmmmlhgbaaGreat.YLa

/- Code of an expression: Make. -/
import Derived.Test.YthjbknncbhkinaaGreatDoorNWr
import Derived.Test.YthjbknncbhkinaaGreatDoorNWv
import Derived.Test.YthjbknncbhkinaaGreatDoorNCk
import Derived.Test.YthjbknncbhkinaaGreatDoorNFr
namespace Go.Proofs.YthjbknncbhkinaaGreatDoor.NRd
open Go.RowKit Go.Proofs.YthjbknncbhkinaaGreatDoor.CPu Go.Proofs.YthjbknncbhkinaaGreatDoor.CBx Go.Proofs.YthjbknncbhkinaaGreatDoor.CIn Go.Proofs.YthjbknncbhkinaaGreatDoor.NWr
open Go.Proofs.YthjbknncbhkinaaGreatDoor.IBase (add_none below_drewN)
set_option linter.unusedVariables false

theorem tx_at {w : World} {B : Nat} {v : Value} {T : List ByteArray} (h : Ot w B v T) {j : Nat} (hj : j < T.length) : ∃ g cap, v = .slice (some ⟨g, 0, none⟩) T.length cap ∧ v.ownBlock = some g ∧ B ≤ g ∧ g < w.heap.size ∧ T.length ≤ cap ∧ cap ≤ 9223372036854775807 ∧ w.cell? ⟨g, j, none⟩ = some (.string T[j]) ∧ w.frozen? ⟨g, j, none⟩ = false := by
  have hh := h
  rcases hh.2 with ⟨_, e⟩ | ⟨g, cap, cur, rfl, hb, hc, hle, hm, hsz, htk⟩
  · omega
  · refine ⟨g, cap, rfl, rfl, hb, (World.ownsRow.lt h g rfl).2, hle, by unfold maxLen at hm; omega, ?_, World.ownsRow.frozenAt h j⟩
    rw [World.ownsRow.cellAt h j (by omega)]
    simp [hj]
theorem in_at {w : World} {B : Nat} {v : Value} {C : List Ins} (h : Oc w B v C) {j : Nat} (hj : j < C.length) : ∃ g cap, v = .slice (some ⟨g, 0, none⟩) C.length cap ∧ v.ownBlock = some g ∧ B ≤ g ∧ g < w.heap.size ∧ C.length ≤ cap ∧ cap ≤ 9223372036854775807 ∧ w.cell? ⟨g, j * 2, none⟩ = some (.int .i64 C[j].1) ∧ w.cell? ⟨g, j * 2 + 1, none⟩ = some (.int .i64 C[j].2) ∧ w.frozen? ⟨g, j * 2 + 1, none⟩ = false := by
  have hh := h
  rcases hh.2 with ⟨_, e⟩ | ⟨g, cap, cur, rfl, hb, hc, hle, hm, hsz, htk⟩
  · omega
  · obtain ⟨k1, k2⟩ := flat_get C j hj
    refine ⟨g, cap, rfl, rfl, hb, (World.ownsRow.lt h g rfl).2, hle, by unfold maxLen at hm; omega, ?_, ?_, World.ownsRow.frozenAt h _⟩
    · rw [World.ownsRow.cellAt h _ (by omega)]; exact k1
    · rw [World.ownsRow.cellAt h _ (by omega)]; exact k2
theorem oc_cx {w : World} {B K : Nat} {v : Value} {C : List Ins} (h : Oc w B v C) (hK : ∀ g, v.ownBlock = some g → g < K) : Cx K w v C := by
  obtain ⟨a, cap, e, h1, h2, h3⟩ := own_sh h
  refine ⟨a, cap, e, h1, h2, h3, ?_⟩
  by_cases h0 : C = []
  · exact .inl h0
  · right
    have hl : 0 < C.length := List.length_pos_iff.2 h0
    obtain ⟨g, c2, e2, hb, -⟩ := in_at h hl
    rw [e] at e2
    cases e2
    subst e
    refine ⟨g, 0, rfl, hK g hb, fun j hj => ?_⟩
    obtain ⟨g', c', e', -, -, -, -, -, k1, k2, -⟩ := in_at h hj
    cases e'
    rw [Nat.zero_add]
    exact ⟨k1, k2⟩
set_option maxRecDepth 20000 in
set_option maxHeartbeats 1600000 in
theorem sameT_c {w : World} {B B' : Nat} {u v : Value} {T : List ByteArray} (hu : Ot w B u T) (hv : Ot w B' v T) :
    Calls Tryz.prog 12 #[u, v] w fun e w' => e = .returned (.bool true) ∧ Below w.heap.size w w' := by
  have HR : Hid (Ot w B u T) := hu
  have HR' : Hid (Ot w B' v T) := hv
  obtain ⟨a, cap, rfl, h1, h2, -⟩ := own_sh hu
  obtain ⟨a', cap', rfl, h1', h2', -⟩ := own_sh hv
  clear hu hv
  go_enter Tryz.func12, Tryz.ntmps12
  go_wp2_with fail
  go_loopw [5] (fun i wr => ∃ q : Nat, i = .int .i64 q ∧ q ≤ T.length ∧ ∃ k, wr = w.drewN k) (fun i _ => T.length - (intOf i).toNat)
  case atStart => exact ⟨0, rfl, by omega, 0, rfl⟩
  case round =>
    obtain ⟨q, rfl, hq, kk, rfl⟩ := hrel
    by_cases hlt : q < T.length
    · obtain ⟨g, c2, e2, -, -, -, -, -, he, -⟩ := tx_at HR.out hlt
      obtain ⟨g', c3, e3, -, -, -, -, -, hf, -⟩ := tx_at HR'.out hlt
      cases e2
      cases e3
      obtain ⟨x, hx⟩ : ∃ x, T[q] = x := ⟨_, rfl⟩
      rw [hx] at he hf
      go_wp2_with fail
      go_quiet (fail)
      go_wp2_with fail
      go_roundw
      case rel => exact ⟨q + 1, by go_num, by omega, _, rfl⟩
      case measure => simp only [intOf]; omega
    · obtain rfl : q = T.length := by omega
      go_wp2_with fail
      go_ret
      exact ⟨rfl, below_drewN (Below.refl _ _)⟩
/-- Only one row has changed. -/
abbrev Gr (v : Value) (w w' : World) : Prop := w.grownBy w' v.ownBlock
theorem gr_refl (v : Value) (w : World) : Gr v w w := ⟨rfl, rfl, rfl, Nat.le_refl _, fun _ _ _ => rfl⟩
theorem gr_set {v : Value} {w w' : World} (h : Gr v w w') {g j : Nat} (hg : v.ownBlock = some g) (u : Value) : Gr v w (w'.setCell ⟨g, j, none⟩ u) :=
  ⟨h.os, h.tape, h.output, by simpa [World.setCell] using h.size, fun k hk hne => (Below.heap_setCell _ _ _ _ (fun e => hne (by rw [hg, e]))).trans (h.block k hk hne)⟩
theorem flat_set2 (C : List Ins) (j : Nat) (hj : j < C.length) (b : Int) : (flat C).set (j * 2 + 1) (.int .i64 b) = flat (C.set j (C[j].1, b)) := by
  induction C generalizing j with
  | nil => simp at hj
  | cons x C ih =>
    have e : ∀ (y : Ins) (L : List Ins), flat (y :: L) = [.int .i64 y.1, .int .i64 y.2] ++ flat L := fun y L => by simp [flat]
    cases j with
    | zero => rw [e]; simp [e]
    | succ j =>
      have hj' : j < C.length := by simpa using hj
      rw [e, List.set_append_right _ _ (by simp; omega)]
      simp only [List.length_cons, List.length_nil]
      rw [show (j + 1) * 2 + 1 - (0 + 1 + 1) = j * 2 + 1 by omega, ih j hj']
      simp [e]
theorem tld (t : ByteArray) : ((⟨#[126]⟩ : ByteArray) ++ t).size = t.size + 1 := by
  rw [ByteArray.size_append]
  have : (⟨#[126]⟩ : ByteArray).size = 1 := rfl
  omega
set_option maxRecDepth 20000 in
theorem spoilI_c {w : World} {B : Nat} {v : Value} {C : List Ins} (h : Oc w B v C) :
    Calls Tryz.prog 16 #[v] w fun e w' => (∃ r, e = .returned r) ∧ Gr v w w' := by
  obtain ⟨a, cap, hv, h1, h2, -⟩ := own_sh h
  have HO : Hid (Oc w B v C) := h
  obtain ⟨n, hn⟩ : ∃ n, C.length = n := ⟨_, rfl⟩
  have HN : Hid (C.length = n) := hn
  rw [hn] at hv h1
  subst hv
  clear h hn
  go_enter Tryz.func16, Tryz.ntmps16
  go_wp2_with fail
  go_loopw [2] (fun i wr => ∃ (q : Nat) (L : List Ins), q ≤ n ∧ i = .int .i64 q ∧ L.length = n ∧ Oc wr B (.slice a n cap) L ∧ Gr (.slice a n cap) w wr) (fun i _ => n - (intOf i).toNat)
  case atStart => exact ⟨0, C, by omega, rfl, HN.out, HO.out, gr_refl _ _⟩
  case round =>
    obtain ⟨q, L, hq, rfl, hL, ho, hm⟩ := hrel
    by_cases hlt : q < n
    · obtain ⟨g, c2, e, hgo, -, -, -, -, k1, k2, kf⟩ := in_at ho (j := q) (by omega)
      rw [hL] at e
      cases e
      have HS : Hid (∀ u, Oc (wr.setCell ⟨g, q * 2 + 1, none⟩ (.int .i64 u)) B (.slice (some ⟨g, 0, none⟩) n cap) (L.set q (L[q].1, u))) := by
        intro u
        have h0 := ho
        unfold Oc at h0 ⊢
        rw [hL] at h0
        have := (World.ownsRow.stored h0 (q * 2 + 1) (.int .i64 u)).1
        rw [flat_set2 L q (by omega)] at this
        have e2 : (L.set q (L[q].1, u)).length = n := by rw [List.length_set]; exact hL
        rw [e2]
        exact this
      have HM : Hid (Gr (.slice (some ⟨g, 0, none⟩) n cap) w wr) := hm
      clear ho hm hgo
      go_wp2_with fail
      go_roundw
      case rel => exact ⟨q + 1, _, by omega, by go_num, by rw [List.length_set]; exact hL, HS.out _, gr_set HM.out rfl _⟩
      case measure => simp only [intOf]; omega
    · have hlt' : decide ((q : Int) < (n : Int)) = false := by simp; omega
      go_wp2_with fail
      go_end0
      exact ⟨⟨_, rfl⟩, hm⟩
set_option maxRecDepth 20000 in
theorem spoilT_c {w : World} {B : Nat} {v : Value} {T : List ByteArray} (h : Ot w B v T) (hs : ∀ s ∈ T, s.size ≤ 140737488351232) :
    Calls Tryz.prog 17 #[v] w fun e w' => (∃ r, e = .returned r) ∧ Gr v w w' := by
  obtain ⟨a, cap, hv, h1, h2, -⟩ := own_sh h
  have HO : Hid (Ot w B v T) := h
  have HSZ : Hid (∀ s ∈ T, s.size ≤ 140737488351232) := hs
  obtain ⟨n, hn⟩ : ∃ n, T.length = n := ⟨_, rfl⟩
  have HN : Hid (T.length = n) := hn
  rw [hn] at hv h1
  subst hv
  clear h hn hs
  go_enter Tryz.func17, Tryz.ntmps17
  go_wp2_with fail
  go_loopw [2] (fun i wr => ∃ (q : Nat) (L : List ByteArray), q ≤ n ∧ i = .int .i64 q ∧ L.length = n ∧ Ot wr B (.slice a n cap) L ∧ Gr (.slice a n cap) w wr ∧ ∀ j (hj : j < L.length), q ≤ j → L[j].size ≤ 140737488351232) (fun i _ => n - (intOf i).toNat)
  case atStart => exact ⟨0, T, by omega, rfl, HN.out, HO.out, gr_refl _ _, fun j hj _ => HSZ.out _ (List.getElem_mem hj)⟩
  case round =>
    obtain ⟨q, L, hq, rfl, hL, ho, hm, hz⟩ := hrel
    by_cases hlt : q < n
    · obtain ⟨g, c2, e, hgo, -, -, -, -, k1, kf⟩ := tx_at ho (j := q) (by omega)
      rw [hL] at e
      cases e
      have HS : Hid (∀ u, Ot (wr.setCell ⟨g, q, none⟩ (.string u)) B (.slice (some ⟨g, 0, none⟩) n cap) (L.set q u)) := by
        intro u
        have h0 := ho
        unfold Ot at h0 ⊢
        rw [hL] at h0
        have := (World.ownsRow.stored h0 q (.string u)).1
        rw [List.length_set, List.map_set, hL]
        exact this
      have HM : Hid (Gr (.slice (some ⟨g, 0, none⟩) n cap) w wr) := hm
      have HZ : Hid (∀ j (hj : j < L.length), q ≤ j → L[j].size ≤ 140737488351232) := hz
      obtain ⟨t, ht⟩ : ∃ t, L[q] = t := ⟨_, rfl⟩
      have hts : t.size ≤ 140737488351232 := by rw [← ht]; exact hz _ (by omega) (Nat.le_refl _)
      rw [ht] at k1
      clear ho hm hgo hz
      go_wp2_with fail
      go_roundw
      case rel =>
        refine ⟨q + 1, _, by omega, by go_num, by rw [List.length_set]; exact hL, HS.out _, gr_set HM.out rfl _, fun j hj h1 => ?_⟩
        rw [List.length_set] at hj
        rw [List.getElem_set_ne (by omega)]
        exact HZ.out j hj (by omega)
      case measure => simp only [intOf]; omega
    · have hlt' : decide ((q : Int) < (n : Int)) = false := by simp; omega
      go_wp2_with fail
      go_end0
      exact ⟨⟨_, rfl⟩, hm⟩
end Go.Proofs.YthjbknncbhkinaaGreatDoor.NRd

namespace Go.Proofs.YthjbknncbhkinaaGreatDoor.NMk
open Go.RowKit Go.Proofs.YthjbknncbhkinaaGreatDoor.EPure Go.Proofs.YthjbknncbhkinaaGreatDoor.NWr Go.Proofs.YthjbknncbhkinaaGreatDoor.NWt Go.Proofs.YthjbknncbhkinaaGreatDoor.NRd Go.Proofs.YthjbknncbhkinaaGreatDoor.NFr
open Go.Proofs.YthjbknncbhkinaaGreatDoor.Base (nx)
open Go.Proofs.YthjbknncbhkinaaGreatDoor.CPu (Ins)
open Go.Proofs.YthjbknncbhkinaaGreatDoor.CIn (Oc)
open Go.Proofs.YthjbknncbhkinaaGreatDoor.NGe (gen sz Dp)
open Go.Proofs.YthjbknncbhkinaaGreatDoor.KSh (rsv rlf)
open Go.Proofs.YthjbknncbhkinaaGreatDoor.IBase (heap_alloc_new)
open Go.Proofs.YthjbknncbhkinaaGreatDoor.XBase (four_box two_box frozen_box In InL LAt)
set_option linter.unusedVariables false

theorem in_dp {r : Bool} {S : Nat → Prop} {w : World} : ∀ (m : Nat) (v : Value) (x : Ex), In r S w m v x → Dp m x := by
  intro m
  induction m with
  | zero => intro v x h; rw [In] at h; exact h
  | succ m ih =>
    rintro v ⟨o, i, s, l⟩ h
    rw [XBase.in_iff] at h
    obtain ⟨lv, -, -, -, -, a, cap, -, -, -, -, -, hL⟩ := h
    intro y hy
    obtain ⟨j, hj, rfl⟩ := List.getElem_of_mem hy
    obtain ⟨g, of, u, -, -, -, hi⟩ := XBase.elem_at hL hj
    exact ih _ _ hi
/-- Sizes and ranges. -/
def Sz : Nat → Ex → Prop
  | 0, _ => True
  | m + 1, .mk o i s l => (-9223372036854775808 ≤ o ∧ o ≤ 9223372036854775807) ∧ (-9223372036854775808 ≤ i ∧ i ≤ 9223372036854775807) ∧ s.size ≤ 140737488351232 ∧ ∀ y ∈ l, Sz m y
theorem in_sz {r : Bool} {S : Nat → Prop} {w : World} : ∀ (m : Nat) (v : Value) (x : Ex), In r S w m v x → Sz m x := by
  intro m
  induction m with
  | zero => intro v x h; trivial
  | succ m ih =>
    rintro v ⟨o, i, s, l⟩ h
    rw [XBase.in_iff] at h
    obtain ⟨lv, -, h1, h2, h3, a, cap, -, -, -, -, -, hL⟩ := h
    refine ⟨h1, h2, h3, fun y hy => ?_⟩
    obtain ⟨j, hj, rfl⟩ := List.getElem_of_mem hy
    obtain ⟨g, of, u, -, -, -, hi⟩ := XBase.elem_at hL hj
    exact ih _ _ hi
abbrev i64 (x : Int) : Prop := -9223372036854775808 ≤ x ∧ x ≤ 9223372036854775807
/-- What code holds is in range. -/
def Rn (X : NGe.Cd) : Prop := (∀ y ∈ X.1, i64 y.1 ∧ i64 y.2) ∧ ∀ s ∈ X.2, s.size ≤ 140737488351232
theorem gen_rn (lf : Int → Int → ByteArray → Bool) : ∀ (m : Nat) (x : Ex) (c t : Nat), NGe.Ok lf m x → Sz m x → c + 2 * sz m x ≤ 60000 → t + sz m x ≤ 60000 → Rn (gen m x c t) := by
  intro m
  induction m with
  | zero => intro x c t h; exact h.elim
  | succ m ih =>
    rintro ⟨o, i, s, l⟩ c t ⟨h1, h2, h3⟩ ⟨z1, z2, z3, z4⟩ hc ht
    have e : sz (m + 1) (.mk o i s l) = 1 + (l.map (sz m)).sum := rfl
    rw [e] at hc ht
    by_cases ho : o = 29 ∨ o = 30
    · have hk : l.length = 2 := by rw [NGe.kd_two ho] at h1; omega
      have es : (l.map (sz m)).sum = sz m (NGe.kid l 0) + sz m (NGe.kid l 1) := by rw [NGe.two_of hk]; simp [NGe.kid]
      have m0 := NGe.kid_mem (l := l) (j := 0) (by omega)
      have m1 := NGe.kid_mem (l := l) (j := 1) (by omega)
      have g0 := NGe.gen_len lf m (NGe.kid l 0) c t (h3 _ m0)
      have g1 := NGe.gen_len lf m (NGe.kid l 1) (c + (gen m (NGe.kid l 0) c t).1.length + 1) (t + (gen m (NGe.kid l 0) c t).2.length) (h3 _ m1)
      have a0 := ih (NGe.kid l 0) c t (h3 _ m0) (z4 _ m0) (by omega) (by omega)
      have a1 := ih (NGe.kid l 1) (c + (gen m (NGe.kid l 0) c t).1.length + 1) (t + (gen m (NGe.kid l 0) c t).2.length) (h3 _ m1) (z4 _ m1) (by omega) (by omega)
      have eg : gen (m + 1) (.mk o i s l) c t = NGe.logic (gen m) (o + 1) (NGe.kid l 0) (NGe.kid l 1) c t := by rw [gen, if_pos ho]
      rw [eg]
      unfold NGe.logic NGe.both2
      refine ⟨fun y hy => ?_, fun y hy => ?_⟩
      · simp only [List.mem_append, List.mem_cons, List.not_mem_nil, or_false] at hy
        rcases hy with hy | rfl | hy | rfl
        · exact a0.1 y hy
        · exact ⟨⟨by omega, by omega⟩, ⟨by simp only; omega, by simp only; omega⟩⟩
        · exact a1.1 y hy
        · exact ⟨⟨by simp, by simp⟩, ⟨by simp, by simp⟩⟩
      · rcases List.mem_append.1 hy with hy | hy
        · exact a0.2 y hy
        · exact a1.2 y hy
    by_cases ho3 : o = 31
    · have hk : l.length = 3 := by subst ho3; rw [NGe.kd_three] at h1; omega
      have es : (l.map (sz m)).sum = sz m (NGe.kid l 0) + sz m (NGe.kid l 1) + sz m (NGe.kid l 2) := by rw [NGe.three_of hk]; simp [NGe.kid]; omega
      have m0 := NGe.kid_mem (l := l) (j := 0) (by omega)
      have m1 := NGe.kid_mem (l := l) (j := 1) (by omega)
      have m2 := NGe.kid_mem (l := l) (j := 2) (by omega)
      have eg : gen (m + 1) (.mk o i s l) c t = NGe.choice (gen m) (NGe.kid l 0) (NGe.kid l 1) (NGe.kid l 2) c t := by rw [gen, if_neg ho, if_pos ho3]
      rw [eg]
      unfold NGe.choice NGe.choice2
      have g0 := NGe.gen_len lf m (NGe.kid l 0) c t (h3 _ m0)
      have a0 := ih (NGe.kid l 0) c t (h3 _ m0) (z4 _ m0) (by omega) (by omega)
      obtain ⟨A, hA⟩ : ∃ A, gen m (NGe.kid l 0) c t = A := ⟨_, rfl⟩
      rw [hA] at g0 a0 ⊢
      have g1 := NGe.gen_len lf m (NGe.kid l 1) (c + A.1.length + 1) (t + A.2.length) (h3 _ m1)
      have a1 := ih (NGe.kid l 1) (c + A.1.length + 1) (t + A.2.length) (h3 _ m1) (z4 _ m1) (by omega) (by omega)
      obtain ⟨B, hB⟩ : ∃ B, gen m (NGe.kid l 1) (c + A.1.length + 1) (t + A.2.length) = B := ⟨_, rfl⟩
      rw [hB] at g1 a1 ⊢
      have g2 := NGe.gen_len lf m (NGe.kid l 2) (c + A.1.length + 1 + B.1.length + 1) (t + A.2.length + B.2.length) (h3 _ m2)
      have a2 := ih (NGe.kid l 2) (c + A.1.length + 1 + B.1.length + 1) (t + A.2.length + B.2.length) (h3 _ m2) (z4 _ m2) (by omega) (by omega)
      obtain ⟨D, hD⟩ : ∃ D, gen m (NGe.kid l 2) (c + A.1.length + 1 + B.1.length + 1) (t + A.2.length + B.2.length) = D := ⟨_, rfl⟩
      rw [hD] at g2 a2 ⊢
      unfold NGe.three
      refine ⟨fun y hy => ?_, fun y hy => ?_⟩
      · simp only [List.mem_append, List.mem_cons] at hy
        rcases hy with hy | rfl | hy | rfl | hy
        · exact a0.1 y hy
        · exact ⟨⟨by simp, by simp⟩, ⟨by simp only; omega, by simp only; omega⟩⟩
        · exact a1.1 y hy
        · exact ⟨⟨by simp, by simp⟩, ⟨by simp only; omega, by simp only; omega⟩⟩
        · exact a2.1 y hy
      · rcases List.mem_append.1 hy with hy | hy
        · rcases List.mem_append.1 hy with hy | hy
          · exact a0.2 y hy
          · exact a1.2 y hy
        · exact a2.2 y hy
    have eg : gen (m + 1) (.mk o i s l) c t = NGe.leaf o i s t (NGe.row (gen m) l c t) := by rw [gen, if_neg ho, if_neg ho3]
    have hr : ∀ (l : List Ex) (c t : Nat), (∀ y ∈ l, NGe.Ok lf m y) → (∀ y ∈ l, Sz m y) → c + 2 * (l.map (sz m)).sum ≤ 60000 → t + (l.map (sz m)).sum ≤ 60000 → Rn (NGe.row (gen m) l c t) := by
      intro l
      induction l with
      | nil => intro c t _ _ _ _; exact ⟨by simp [NGe.row], by simp [NGe.row]⟩
      | cons x r ihr =>
        intro c t h hz hc ht
        simp only [List.map_cons, List.sum_cons] at hc ht
        have gx := NGe.gen_len lf m x c t (h x (by simp))
        have ax := ih x c t (h x (by simp)) (hz x (by simp)) (by omega) (by omega)
        have ar := ihr (c + (gen m x c t).1.length) (t + (gen m x c t).2.length) (fun y hy => h y (by simp [hy])) (fun y hy => hz y (by simp [hy])) (by omega) (by omega)
        refine ⟨fun y hy => ?_, fun y hy => ?_⟩
        · simp only [NGe.row] at hy
          rcases List.mem_append.1 hy with hy | hy
          · exact ax.1 y hy
          · exact ar.1 y hy
        · simp only [NGe.row] at hy
          rcases List.mem_append.1 hy with hy | hy
          · exact ax.2 y hy
          · exact ar.2 y hy
    have a := hr l c t h3 z4 (by omega) (by omega)
    have hrl := NWv.row_len lf m l c t h3
    rw [eg]
    unfold NGe.leaf
    refine ⟨fun y hy => ?_, fun y hy => ?_⟩
    · rcases List.mem_append.1 hy with hy | hy
      · exact a.1 y hy
      · simp only [List.mem_cons, List.not_mem_nil, or_false] at hy
        subst hy
        refine ⟨z1, ?_⟩
        simp only [NGe.opd]
        split
        · omega
        · exact z2
    · rcases List.mem_append.1 hy with hy | hy
      · exact a.2 y hy
      · unfold NGe.tx at hy
        split at hy
        · simp at hy; subst hy; exact z3
        · simp at hy
/-- May code be made? -/
def mkO (x : Ex) : Bool := rsv x && KHs.hs 9223372036854775808 [x]
theorem hs_lw {x : Ex} : ∀ (n : Nat) (l : List Ex) (m : Nat), SizeOf.sizeOf l ≤ n → (∀ y ∈ l, Sz m y ∧ Dp m y) → KHs.hs 9223372036854775808 l = !lw l := by
  intro n
  induction n with
  | zero =>
    intro l m h
    cases l with
    | nil => intro _; rw [KHs.hs_nil, lw_nil]; rfl
    | cons x t => exact absurd h (by simp)
  | succ n ih =>
    intro l m h hz
    cases l with
    | nil => rw [KHs.hs_nil, lw_nil]; rfl
    | cons x t =>
      obtain ⟨o, i, s, k⟩ := x
      have hx := hz _ (List.mem_cons_self ..)
      cases m with
      | zero => exact hx.2.elim
      | succ m =>
        obtain ⟨⟨z1, z2, z3, z4⟩, d⟩ := hx
        have h1 := ih k m (by simp at h; omega) (fun y hy => ⟨z4 y hy, d y hy⟩)
        have h2 := ih t (m + 1) (by simp at h; omega) (fun y hy => hz y (by simp [hy]))
        rw [KHs.hs, lw, h1, h2]
        have h3 : decide (9223372036854775808 ≤ i) = false := by simp; omega
        rw [h3]
        cases (o == 6) <;> cases decide (i < 0) <;> cases lw k <;> cases lw t <;> rfl
theorem mk_cerr {m : Nat} {x : Ex} (hz : Sz m x) (hd : Dp m x) : cerr x = if mkO x = true then 0 else 1108 := by
  unfold cerr mkO
  rw [hs_lw (x := x) _ [x] m (Nat.le_refl _) (by simp; exact ⟨hz, hd⟩)]
  cases rsv x <;> cases lw [x] <;> rfl
theorem mk_ok {m : Nat} {x : Ex} (hd : Dp m x) (h : mkO x = true) : NGe.Ok rlf m x ∧ sz m x ≤ 1024 := by
  unfold mkO rsv at h
  rw [Bool.and_eq_true] at h
  have h1 : 0 ≤ SBe.bhL rlf [x] 1024 := by simpa using h.1
  have := NGe.bh_ok rlf m x 1024 hd h1
  exact ⟨this.1, by omega⟩
theorem own_base {w : World} {B B' : Nat} {e : TypeId} {s n : Nat} {v : Value} {xs : List Value} (h : w.ownsRow B e s v n xs) (hB : B' ≤ B) : w.ownsRow B' e s v n xs := by
  refine ⟨h.1, ?_⟩
  rcases h.2 with h2 | ⟨g, cap, cur, hv, hg, r⟩
  · exact .inl h2
  · exact .inr ⟨g, cap, cur, hv, by omega, r⟩
/-- What Make answers. -/
def MkA (B : Nat) (w' : World) (m : Nat) (x : Ex) (cv tv : Value) : Prop := Oc w' B cv (gen m x 0 0).1 ∧ Ot w' B tv (gen m x 0 0).2 ∧ ∀ g, cv.ownBlock = some g → tv.ownBlock ≠ some g
set_option maxRecDepth 20000 in
set_option maxHeartbeats 1600000 in
theorem make_no {m : Nat} {w : World} {v : Value} {x : Ex} (hin : In false (fun _ => True) w m v x) (h : mkO x = false) :
    Calls Tryz.prog 8 #[v] w fun e w' => e = .returned (.tuple #[.slice none 0 0, .slice none 0 0, .int .i64 1108]) ∧ Below w.heap.size w w' := by
  obtain ⟨m', lv, rfl, rfl, -, -, -, hL⟩ := hin.shape
  obtain ⟨a, cap, rfl, -⟩ := hL
  obtain ⟨W0, hW0⟩ : ∃ W0, w.alloc (.cells #[.int .i64 x.o, .int .i64 x.i, .string x.s, .slice a x.l.length cap] 24) = W0 := ⟨_, rfl⟩
  have b0 : Below w.heap.size w W0 := by rw [← hW0]; exact (Below.refl _ w).alloc (Nat.le_refl _) _
  have q1 : W0.heap[w.heap.size]? = some (.cells #[.int .i64 x.o, .int .i64 x.i, .string x.s, .slice a x.l.length cap] 24 (0, 0)) := by rw [← hW0]; exact heap_alloc_new w _
  obtain ⟨v0, v1, v2, v3⟩ := four_box q1
  have c1 := KSh.resolved_c (hin.below b0)
  have HX : Hid (W0.heap[w.heap.size]? = some (.cells #[.int .i64 x.o, .int .i64 x.i, .string x.s, .slice a x.l.length cap] 24 (0, 0))) := q1
  have HB0 : Hid (Below w.heap.size w W0) := b0
  have HIN : Hid _ := hin.below b0
  unfold mkO at h
  obtain ⟨R, hR⟩ : ∃ R, rsv x = R := ⟨_, rfl⟩
  rw [hR] at c1 h
  clear hR q1 b0 hin
  cases R with
  | false =>
    clear h
    go_enter Tryz.func8, Tryz.ntmps8
    go_wp2_with fail
    (try rw [hW0])
    refine c1.mono ?_
    rintro e W1 ⟨rfl, b1⟩
    have HB1 : Hid (Below W0.heap.size W0 W1) := b1
    clear c1 b1
    go_wp2_with fail
    go_ret3
    exact ⟨rfl, nx HB0.out HB1.out⟩
  | true =>
    have hh : KHs.hs (9223372036854775807 + 1) [x] = false := by simpa using h
    have HL : Hid (∀ W1, Below W0.heap.size W0 W1 → Calls Tryz.prog 28 #[.agg #[.int .i64 x.o, .int .i64 x.i, .string x.s, .slice a x.l.length cap], .int .i64 9223372036854775807] W1 fun e w' => e = .returned (.bool false) ∧ Below W1.heap.size W1 w') := by
      intro W1 h1
      have := KHs.placed_all _ W1 _ x 9223372036854775807 (HIN.out.below h1)
      rw [hh] at this
      exact this
    clear hh h
    go_enter Tryz.func8, Tryz.ntmps8
    go_wp2_with fail
    (try rw [hW0])
    refine c1.mono ?_
    rintro e W1 ⟨rfl, b1⟩
    have HB1 : Hid (Below W0.heap.size W0 W1) := b1
    have cL := HL.out W1 b1
    have xr := (b1.block w.heap.size (Array.getElem?_eq_some_iff.1 HX.out).1).trans HX.out
    obtain ⟨v0, v1, v2, v3⟩ := four_box xr
    clear c1 b1 xr
    go_wp2_with fail
    refine cL.mono ?_
    rintro e W2 ⟨rfl, b2⟩
    have HB2 : Hid (Below W1.heap.size W1 W2) := b2
    clear cL b2
    go_wp2_with fail
    go_ret3
    exact ⟨rfl, nx (nx HB0.out HB1.out) HB2.out⟩
set_option maxRecDepth 20000 in
set_option maxHeartbeats 1600000 in
theorem make_ok {K m : Nat} {w : World} {v : Value} {x : Ex} (hin : In false (fun b => b < K) w m v x) (hK : K ≤ w.heap.size) (h : mkO x = true) :
    Calls Tryz.prog 8 #[v] w fun e w' => ∃ cv tv, e = .returned (.tuple #[cv, tv, .int .i64 0]) ∧ MkA w.heap.size w' m x cv tv ∧ Below w.heap.size w w' := by
  have hdp := in_dp m v x hin
  obtain ⟨hok, hsz⟩ := mk_ok hdp h
  obtain ⟨m', lv, e0, rfl, -, -, -, hL⟩ := hin.shape
  obtain ⟨a, cap, rfl, -⟩ := hL
  obtain ⟨W0, hW0⟩ : ∃ W0, w.alloc (.cells #[.int .i64 x.o, .int .i64 x.i, .string x.s, .slice a x.l.length cap] 24) = W0 := ⟨_, rfl⟩
  have b0 : Below w.heap.size w W0 := by rw [← hW0]; exact (Below.refl _ w).alloc (Nat.le_refl _) _
  have q1 : W0.heap[w.heap.size]? = some (.cells #[.int .i64 x.o, .int .i64 x.i, .string x.s, .slice a x.l.length cap] 24 (0, 0)) := by rw [← hW0]; exact heap_alloc_new w _
  obtain ⟨v0, v1, v2, v3⟩ := four_box q1
  have hin1 := hin.below b0
  have hinT : In false (fun _ => True) W0 m (.agg #[.int .i64 x.o, .int .i64 x.i, .string x.s, .slice a x.l.length cap]) x := hin1.weak (fun _ _ => trivial) false id m (Nat.le_refl _)
  unfold mkO at h
  rw [Bool.and_eq_true] at h
  have c1 := KSh.resolved_c hinT
  rw [h.1] at c1
  have hh : KHs.hs (9223372036854775807 + 1) [x] = true := h.2
  have HX : Hid (W0.heap[w.heap.size]? = some (.cells #[.int .i64 x.o, .int .i64 x.i, .string x.s, .slice a x.l.length cap] 24 (0, 0))) := q1
  have HB0 : Hid (Below w.heap.size w W0) := b0
  have HL : Hid (∀ W1, Below W0.heap.size W0 W1 → Calls Tryz.prog 28 #[.agg #[.int .i64 x.o, .int .i64 x.i, .string x.s, .slice a x.l.length cap], .int .i64 9223372036854775807] W1 fun e w' => e = .returned (.bool true) ∧ Below W1.heap.size W1 w') := by
    intro W1 h1
    have := KHs.placed_all _ W1 _ x 9223372036854775807 (hinT.below h1)
    rw [hh] at this
    exact this
  have HIN : Hid (In false (fun b => b < K) W0 m (.agg #[.int .i64 x.o, .int .i64 x.i, .string x.s, .slice a x.l.length cap]) x) := hin1
  have HOK : Hid (NGe.Ok rlf m x) := hok
  clear q1 b0 hin hin1 hinT hh h hdp hok
  go_enter Tryz.func8, Tryz.ntmps8
  go_wp2_with fail
  (try rw [hW0])
  refine c1.mono ?_
  rintro e W1 ⟨rfl, b1⟩
  have HB1 : Hid (Below W0.heap.size W0 W1) := b1
  have cL := HL.out W1 b1
  have xr := (b1.block w.heap.size (Array.getElem?_eq_some_iff.1 HX.out).1).trans HX.out
  have HX1 : Hid _ := xr
  obtain ⟨v0, v1, v2, v3⟩ := four_box xr
  clear c1 b1 xr
  go_wp2_with fail
  refine cL.mono ?_
  rintro e W2 ⟨rfl, b2⟩
  have HB2 : Hid (Below W1.heap.size W1 W2) := b2
  have hB02 : Below w.heap.size w W2 := nx (nx HB0.out HB1.out) b2
  have x2 := (b2.block w.heap.size (Array.getElem?_eq_some_iff.1 HX1.out).1).trans HX1.out
  obtain ⟨W3, hW3⟩ : ∃ W3, W2.alloc (.cells #[.slice none 0 0, .slice none 0 0] 54) = W3 := ⟨_, rfl⟩
  have b3 : Below W2.heap.size W2 W3 := by rw [← hW3]; exact (Below.refl _ W2).alloc (Nat.le_refl _) _
  have q3 : W3.heap[W2.heap.size]? = some (.cells #[.slice none 0 0, .slice none 0 0] 54 (0, 0)) := by rw [← hW3]; exact heap_alloc_new W2 _
  have hwb : Wb W3 W2.heap.size (.slice none 0 0) (.slice none 0 0) [] [] := ⟨q3, World.ownsRow_nil _ _ _ _, World.ownsRow_nil _ _ _ _, fun g e => by cases e⟩
  have hz := HB0.out.size
  have hz2 := hB02.size
  have x3 := (b3.block w.heap.size (by have := (Array.getElem?_eq_some_iff.1 x2).1; exact this)).trans x2
  have hin3 : In false (fun b => b < K) W3 m (.agg #[.int .i64 x.o, .int .i64 x.i, .string x.s, .slice a x.l.length cap]) x := HIN.out.keep (w' := W3) (fun b hb hl => by
    have h1 := HB1.out.block b hl
    have h2 := HB2.out.block b (Nat.lt_of_lt_of_le hl HB1.out.size)
    have h3 := b3.block b (Nat.lt_of_lt_of_le hl (Nat.le_trans HB1.out.size HB2.out.size))
    exact h3.trans (h2.trans h1))
  have cW := NWv.write_all rlf m W3 W2.heap.size K _ _ _ [] [] x hwb (by omega) hin3 HOK.out (by simp; omega) (by simp; omega)
  have HBB : Hid (Below w.heap.size w W3) := nx hB02 b3
  obtain ⟨y0, y1, y2, y3⟩ := four_box x3
  obtain ⟨v0, v1, v2, v3⟩ := four_box x2
  clear cL b2 HX1 HX hB02 b3 q3 x2 x3 hwb hin3
  go_wp2_with fail
  (try rw [hW3])
  refine cW.mono ?_
  rintro e W4 ⟨rfl, cv, tv, wb, kw⟩
  rw [List.nil_append, List.nil_append] at wb
  have HWB : Hid (Wb W4 W2.heap.size cv tv (gen m x 0 0).1 (gen m x 0 0).2) := wb
  have HKW : Hid (Below w.heap.size w W4) := HBB.out.trans (kw.below.mono (by omega))
  obtain ⟨k0, k1, -, -⟩ := wb.cells
  clear cW wb kw v0 v1 v2 v3 y0 y1 y2 y3
  go_wp2_with fail
  go_region_held3 (fun w' => w'.cell? ⟨W2.heap.size, 0, none⟩ = some cv ∧ w'.cell? ⟨W2.heap.size, 1, none⟩ = some tv) (go_keep) (fail)
  go_wp2_with fail
  go_ret3
  exact ⟨cv, tv, rfl, ⟨own_base HWB.out.own (by omega), own_base HWB.out.tex (by omega), HWB.out.ne⟩, HKW.out.drew⟩
end Go.Proofs.YthjbknncbhkinaaGreatDoor.NMk

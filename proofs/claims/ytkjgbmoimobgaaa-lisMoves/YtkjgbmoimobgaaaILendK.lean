/- Rows of keys lent, kept, compared: contracts of SameKeys, LendKeys, KeptKeys. -/
import Derived.Test.YtkjgbmoimobgaaaIPlace
namespace Go.Proofs.Ytkjgbmoimobgaaa.ILendK
open Go.RowKit Go.Proofs.Ytkjgbmoimobgaaa.IPure Go.Proofs.Ytkjgbmoimobgaaa.IBase Go.Proofs.Ytkjgbmoimobgaaa.IKey Go.Proofs.Ytkjgbmoimobgaaa.IKrow Go.Proofs.Ytkjgbmoimobgaaa.IAw Go.Proofs.Ytkjgbmoimobgaaa.IKeys Go.Proofs.Ytkjgbmoimobgaaa.IPlace
set_option linter.unusedVariables false

set_option maxRecDepth 20000 in
set_option maxHeartbeats 800000 in
theorem sameK_c {w : World} {v u : Value} {L : List Ky} (hv : Kx w v L) (hu : Kx w u L) (hk : OkL L) :
    Calls Try.prog 28 #[v, u] w fun e w' => e = .returned (.bool true) ∧ Below w.heap.size w w' := by
  obtain ⟨a, cap, rfl, hl, hm, hnil, hL⟩ := hv
  obtain ⟨a2, cap2, rfl, hl2, hm2, hnil2, hM⟩ := hu
  obtain ⟨n, hnn⟩ : ∃ n, L.length = n := ⟨_, rfl⟩
  have HN : Hid (L.length = n) := hnn
  have HO : Hid (OkL L) := hk
  have hn := hk.2
  rw [hnn] at hl hl2 hn ⊢
  clear hk hnn hnil hnil2
  go_enter Try.func28, Try.ntmps28
  go_wp2_with fail
  go_loopw [5] (fun i wr => ∃ q : Nat, i = .int .i64 (q : Nat) ∧ q ≤ n ∧ Below w.heap.size w wr) (fun i _ => n - (intOf i).toNat)
  case atStart => exact ⟨0, rfl, by omega, Below.refl _ _⟩
  case round =>
    obtain ⟨q, rfl, hq, hb⟩ := hrel
    by_cases hlt : q < n
    · rcases hL with rfl | ⟨g, o, rfl, hc⟩
      · have := HN.out; simp at this; omega
      rcases hM with rfl | ⟨g2, o2, rfl, hc2⟩
      · have := HN.out; simp at this; omega
      have hlq : q < L.length := by rw [HN.out]; exact hlt
      obtain ⟨d0, d1, d2⟩ := (hc q hlq).below hb
      obtain ⟨e0, e1, e2⟩ := (hc2 q hlq).below hb
      have hxo := HO.out.1 L[q] (List.getElem_mem _)
      clear hc hc2
      generalize L[q] = x at *
      have heq : ∀ w, (binOp .neq 44 (.agg #[.int .i64 x.1, .int .i64 x.2.1, .string x.2.2]) (.agg #[.int .i64 x.1, .int .i64 x.2.1, .string x.2.2])).run Try.prog w = .ok (.bool (!decide (x = x))) w := fun w => bin_ne hxo hxo w
      have hgd := fun xo yo => guard_keys .neq xo yo x.1 x.2.1 x.1 x.2.1 x.2.2 x.2.2
      rw [decide_eq_true rfl] at heq
      clear hxo
      obtain ⟨x0, x1, x2⟩ := x
      dsimp only at d0 d1 d2 e0 e1 e2 heq hgd
      go_wp2_with fail
      go_quiet (fail)
      go_wp2_with fail
      go_roundw
      case rel => exact ⟨q + 1, by go_num, by omega, below_drewN hb⟩
      case measure => simp only [intOf]; omega
    · obtain rfl : q = n := by omega
      have hnlt : decide ((q : Int) < (q : Int)) = false := by simp
      clear hL hM
      go_wp2_with fail
      go_ret
      exact ⟨rfl, hb⟩
def room : Ky := (-7, 0, ⟨#[]⟩)
theorem ok_room : Ok room := ⟨by decide, by decide, by decide⟩
/-- A row that was lent: with marked room behind it. -/
def Lk (w : World) (v : Value) (L : List Ky) : Prop := ∃ g cap, v = .slice (some ⟨g, 0, none⟩) L.length cap ∧ L.length + 2 ≤ cap ∧ cap ≤ 9223372036854775807 ∧
  (∀ j (h : j < L.length), Three w g (0 + j * 3) L[j]) ∧ Three w g (L.length * 3) room ∧ Three w g ((L.length + 1) * 3) room
theorem Lk.kx {w : World} {v : Value} {L : List Ky} (h : Lk w v L) : Kx w v L := by
  obtain ⟨g, cap, rfl, h1, h2, h3, -⟩ := h
  exact ⟨_, cap, rfl, by omega, h2, (fun h => by cases h), .inr ⟨g, 0, rfl, h3⟩⟩
theorem Lk.below {w w' : World} {v : Value} {L : List Ky} (h : Lk w v L) (hb : Below w.heap.size w w') : Lk w' v L := by
  obtain ⟨g, cap, rfl, h1, h2, h3, h4, h5⟩ := h
  exact ⟨g, cap, rfl, h1, h2, fun j hj => (h3 j hj).below hb, h4.below hb, h5.below hb⟩
theorem lendK_c {w : World} {v : Value} {L : List Ky} (hv : Kx w v L) (hn : L.length + 2 ≤ 4398046511104) :
    Calls Try.prog 15 #[v] w fun e w' => ∃ u, e = .returned u ∧ Lk w' u L ∧ Below w.heap.size w w' := by
  obtain ⟨i0, hi, hz0, hz1, hz2⟩ := info_parts infoK
  have c1 := copyK_c hv (by omega)
  obtain ⟨a, cap, rfl, hl, hm, hnil, hL⟩ := hv
  clear hL hnil
  go_enter Try.func15, Try.ntmps15
  go_wp2_with (first
    | (go_at_call 21; refine c1.mono ?_; clear c1; rintro e w1 ⟨u, rfl, ho, hb⟩)
    | (at_builtin; refine wpList_append_own _ rfl _ _ 28 rfl w.heap.size 44 i0 (.agg #[.int .i64 0, .int .i64 0, .string ⟨#[]⟩]) 3 32 Try.underlying28 hi hz0 hz1 hz2 rfl (by decide) _ _ _ rfl (World.ownsRow.alloc ho _) ⟨w1.heap.size, 0, none⟩ 2 2 (flatK [room, room]) rfl rfl (new_cells w1 _ 44) (one_keys [room, room]) (by simp [maxLen]; omega) (by omega) (by have := hb.size; simp; omega) ?_))
  intro v' w2 hown' hgrow hnn
  have hb3 := (hb.alloc hb.size (.cells (flatK [room, room]).toArray 44)).grown hgrow (by have := hb.size; simp; omega) (fun k hk => (World.ownsRow.lt ho k hk).1)
  have ho2 : Ok3 w2 w.heap.size v' (L ++ [room, room]) := by
    unfold Ok3
    rw [flatK_append, List.length_append]
    exact hown'
  obtain ⟨a2, cap2, e2, hl2, hm2, -, hL2⟩ := ho2.kx
  have hL3 : ∃ g, a2 = some ⟨g, 0, none⟩ ∧ ∀ j (h : j < (L ++ [room, room]).length), Three w2 g (0 + j * 3) (L ++ [room, room])[j] := by
    have h0 := ho2
    rcases ho2.2 with ⟨_, e⟩ | ⟨g, c, cur, e, _⟩
    · simp at e
    · rw [e] at e2
      cases e2
      refine ⟨g, rfl, fun j hj => ?_⟩
      rw [e] at h0
      obtain ⟨k1, k2, k3⟩ := flatK_get (L ++ [room, room]) j hj
      have c1 := World.ownsRow.cells (g := g) h0 rfl _ _ k1
      have c2 := World.ownsRow.cells (g := g) h0 rfl _ _ k2
      have c3 := World.ownsRow.cells (g := g) h0 rfl _ _ k3
      rw [add_none] at c1 c2 c3
      exact ⟨c1, c2, c3⟩
  obtain ⟨g, rfl, hcs⟩ := hL3
  have hx : Lk w2 (.slice (some ⟨g, 0, none⟩) L.length cap2) L := by
    refine ⟨g, cap2, rfl, by simpa using hl2, hm2, fun j hj => ?_, ?_, ?_⟩
    · have := hcs j (by simp; omega)
      rwa [List.getElem_append_left hj] at this
    · have := hcs L.length (by simp)
      rw [List.getElem_append_right (by omega)] at this
      simpa using this
    · have := hcs (L.length + 1) (by simp)
      rw [List.getElem_append_right (by omega)] at this
      simpa using this
  have hcap : L.length + 2 ≤ cap2 := by simpa using hl2
  have hlen : (L ++ [room, room]).length = L.length + 2 := by simp
  rw [hlen] at e2
  subst e2
  clear hown' hgrow ho hb hnn ho2 hl2 hcs hL2
  go_wp2_with fail
  go_ret
  exact ⟨_, rfl, hx, hb3⟩
set_option maxRecDepth 20000 in
set_option maxHeartbeats 800000 in
theorem keptK_c {w : World} {u v : Value} {L : List Ky} (hu : Lk w u L) (hv : Kx w v L) (hk : OkL L) (hn : L.length + 2 ≤ 4398046511104) :
    Calls Try.prog 19 #[u, v] w fun e w' => e = .returned (.bool true) ∧ Below w.heap.size w w' := by
  have c1 := sameK_c hu.kx hv hk
  obtain ⟨g, cap, rfl, h1, h2, h5, h6, h7⟩ := hu
  obtain ⟨a2, cap2, rfl, hl2, hm2, hnil2, hM⟩ := hv
  obtain ⟨n, hnn⟩ : ∃ n, L.length = n := ⟨_, rfl⟩
  rw [hnn] at h1 h6 h7 hl2 hn c1 ⊢
  have H6 : Hid (Three w g (n * 3) room) := h6
  have H7 : Hid (Three w g ((n + 1) * 3) room) := h7
  have heq : ∀ w, (binOp .eql 44 (.agg #[.int .i64 (-7), .int .i64 0, .string ⟨#[]⟩]) (.agg #[.int .i64 (-7), .int .i64 0, .string ⟨#[]⟩])).run Try.prog w = .ok (.bool (decide (room = room))) w := fun w => bin_eq ok_room ok_room w
  rw [decide_eq_true rfl] at heq
  have hgd := fun xo yo => guard_keys .eql xo yo (-7) 0 (-7) 0 ⟨#[]⟩ ⟨#[]⟩
  clear hM hnil2 h5 hnn h6 h7
  go_enter Try.func19, Try.ntmps19
  go_wp2_with (first | (go_at_call 28; refine c1.mono ?_; clear c1; rintro e w1 ⟨rfl, b1⟩; obtain ⟨p0, p1, p2⟩ := H6.out.below b1; obtain ⟨q0, q1, q2⟩ := H7.out.below b1; dsimp only [room] at p0 p1 p2 q0 q1 q2))
  go_ret
  exact ⟨rfl, b1⟩
end Go.Proofs.Ytkjgbmoimobgaaa.ILendK

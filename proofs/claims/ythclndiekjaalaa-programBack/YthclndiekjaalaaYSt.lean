/- Trees that hold the same are the same; programs that hold the same are the same. -/
import Derived.Test.YthclndiekjaalaaTRow
import Derived.Deep.RegionWith
import Derived.Test.YthclndiekjaalaaYSp
import Derived.Test.YthclndiekjaalaaYEn
namespace Go.Proofs.Ythclndiekjaalaa.TKept
open Go.RowKit Go.Proofs.Ythclndiekjaalaa.TBase
set_option linter.unusedVariables false

theorem sameA_c (u v : Value) (L : List (ByteArray × ByteArray)) (w : World) (hu : Ax false All w u L) (hv : Ax false All w v L) :
    Calls Try.prog 87 #[u, v] w fun e w' => e = .returned (.bool true) ∧ Below w.heap.size w w' := by
  obtain ⟨a, cap, rfl, hlc, hm, hlen, hsz, hnil, hN⟩ := hu
  obtain ⟨a', cap', rfl, hlc', hm', hlen', hsz', hnil', hN'⟩ := hv
  clear hsz hsz' hlen'
  go_enter Try.func87, Try.ntmps87
  go_wp2_with fail
  go_loopw [5] (fun i wr => ∃ q : Nat, q ≤ L.length ∧ i = .int .i64 q ∧ Below w.heap.size w wr) (fun i _ => L.length - (intOf i).toNat)
  case atStart => exact ⟨0, by omega, rfl, Below.refl _ _⟩
  case round =>
    obtain ⟨q, hq, rfl, hb⟩ := hrel
    by_cases hlt : q < L.length
    · obtain ⟨g, o, rfl, -, hc, hd⟩ := attr_at hN hlt
      obtain ⟨g', o', rfl, -, hc', hd'⟩ := attr_at hN' hlt
      have hc := below_cell hc hb
      have hc' := below_cell hc' hb
      have hd := below_cell hd hb
      have hd' := below_cell hd' hb
      have hb' := hb.drew
      generalize L[q].1 = x at *
      generalize L[q].2 = y at *
      clear hN hN'
      go_wp2_with fail
      go_region
      all_goals go_wp2_with fail
      all_goals go_roundw
      all_goals first
        | (case rel => exact ⟨q + 1, by omega, by go_num, hb'⟩)
        | (case measure => simp only [intOf]; omega)
    · have hlt' : decide ((q : Int) < (L.length : Int)) = false := by simp; omega
      go_wp2_with fail
      go_ret
      exact ⟨rfl, hb⟩
/-- No attributes, no kids: the lists at the marked room. -/
theorem ax_nil (w : World) : Ax false All w (.slice none 0 0) [] := ⟨none, 0, rfl, by simp, by simp, by simp, by simp, fun _ => rfl, .inl ⟨rfl, rfl⟩⟩
theorem inL_nil (w : World) (m : Nat) : InL false All w m (.slice none 0 0) [] := ⟨none, 0, rfl, by simp, by simp, by simp, fun _ => rfl, .inl ⟨rfl, rfl⟩⟩
theorem sameNil_c (w : World) : Calls Try.prog 25 #[.slice none 0 0, .slice none 0 0] w fun e w' => e = .returned (.bool true) ∧ Below w.heap.size w w' := by
  go_enter Try.func25, Try.ntmps25
  go_wp2_with fail
  go_loopw [5] (fun i wr => i = .int .i64 0 ∧ wr = w) (fun i _ => 0)
  case atStart => exact ⟨rfl, rfl⟩
  case round =>
    obtain ⟨rfl, rfl⟩ := hrel
    go_wp2_with fail
    go_ret
    exact ⟨rfl, Below.refl _ _⟩
theorem room_c (w : World) : Calls Try.prog 51 #[.agg #[.string ⟨#[126, 114, 111, 111, 109]⟩, .string ⟨#[]⟩, .slice none 0 0, .slice none 0 0], .agg #[.string ⟨#[126, 114, 111, 111, 109]⟩, .string ⟨#[]⟩, .slice none 0 0, .slice none 0 0]] w
    fun e w' => e = .returned (.bool true) ∧ Below w.heap.size w w' := by
  obtain ⟨W0, hW0⟩ : ∃ W0, (w.alloc (.cells #[.string ⟨#[126, 114, 111, 111, 109]⟩, .string ⟨#[]⟩, .slice none 0 0, .slice none 0 0] 53)).alloc (.cells #[.string ⟨#[126, 114, 111, 111, 109]⟩, .string ⟨#[]⟩, .slice none 0 0, .slice none 0 0] 53) = W0 := ⟨_, rfl⟩
  have hb0 : Below w.heap.size w W0 := by rw [← hW0]; exact ((Below.refl _ w).alloc (Nat.le_refl _) _).alloc (by simp) _
  have hsz0 : W0.heap.size = w.heap.size + 2 := by rw [← hW0]; simp
  have hx0 : W0.heap[w.heap.size]? = some (.cells #[.string ⟨#[126, 114, 111, 111, 109]⟩, .string ⟨#[]⟩, .slice none 0 0, .slice none 0 0] 53) := by
    rw [← hW0, Below.heap_alloc _ _ _ (by simp), heap_alloc_new]
  have hx1 : W0.heap[w.heap.size + 1]? = some (.cells #[.string ⟨#[126, 114, 111, 111, 109]⟩, .string ⟨#[]⟩, .slice none 0 0, .slice none 0 0] 53) := by
    have := heap_alloc_new (w.alloc (.cells #[.string ⟨#[126, 114, 111, 111, 109]⟩, .string ⟨#[]⟩, .slice none 0 0, .slice none 0 0] 53)) (.cells #[.string ⟨#[126, 114, 111, 111, 109]⟩, .string ⟨#[]⟩, .slice none 0 0, .slice none 0 0] 53)
    rwa [hW0, World.size_alloc] at this
  have c1 := sameA_c _ _ [] W0 (ax_nil W0) (ax_nil W0)
  obtain ⟨d0, d1, d2, d3⟩ := four_box hx0
  obtain ⟨e0, e1, e2, e3⟩ := four_box hx1
  go_enter Try.func51, Try.ntmps51
  go_wp2_with fail
  refine c1.mono ?_
  rintro e w1 ⟨rfl, b1⟩
  have k3 := (four_box ((b1.block w.heap.size (by omega)).trans hx0)).2.2.2
  have j3 := (four_box ((b1.block (w.heap.size + 1) (by omega)).trans hx1)).2.2.2
  have c2 := sameNil_c w1
  clear c1 hx0 hx1 hW0
  go_wp2_with fail
  refine c2.mono ?_
  rintro e w2 ⟨rfl, b2⟩
  go_wp2_with fail
  go_ret
  exact ⟨rfl, nx (nx hb0 b1) b2⟩
theorem four_room {w : World} {g o : Nat} (h : Four w g o room4) : w.cell? ⟨g, o, none⟩ = some (.string ⟨#[126, 114, 111, 111, 109]⟩) ∧ w.cell? ⟨g, o + 1, none⟩ = some (.string ⟨#[]⟩) ∧ w.cell? ⟨g, o + 2, none⟩ = some (.slice none 0 0) ∧ w.cell? ⟨g, o + 3, none⟩ = some (.slice none 0 0) := by
  obtain ⟨p0, p1, p2, p3, E, h⟩ := h
  simp only [room4, room, Value.agg.injEq, Array.mk.injEq, List.cons.injEq, and_true] at E
  obtain ⟨rfl, rfl, rfl, rfl⟩ := E
  exact h
end Go.Proofs.Ythclndiekjaalaa.TKept

namespace Go.Proofs.Ythclndiekjaalaa.YSt
open Go.RowKit Go.Proofs.Ythclndiekjaalaa.TBase Go.Proofs.Ythclndiekjaalaa.TKept
set_option linter.unusedVariables false

def Sms (m : Nat) : Prop := ∀ (u v : Value) (c : T) (w : World), In false All w m u c → In false All w m v c →
    Calls Try.prog 51 #[u, v] w fun e w' => e = .returned (.bool true) ∧ Below w.heap.size w w'
set_option maxRecDepth 20000 in
theorem sames_of (m : Nat) (hm : Sms m) (u v : Value) (l : List T) (w : World) (hu : InL false All w m u l) (hv : InL false All w m v l) :
    Calls Try.prog 25 #[u, v] w fun e w' => e = .returned (.bool true) ∧ Below w.heap.size w w' := by
  obtain ⟨a, cap, rfl, hlc, hcm, hlen, hnil, hN⟩ := hu
  obtain ⟨a', cap', rfl, hlc', hm', -, hnil', hN'⟩ := hv
  go_enter Try.func25, Try.ntmps25
  go_wp2_with fail
  go_loopw [5] (fun i wr => ∃ q : Nat, q ≤ l.length ∧ i = .int .i64 q ∧ Below w.heap.size w wr) (fun i _ => l.length - (intOf i).toNat)
  case atStart => exact ⟨0, by omega, rfl, Below.refl _ _⟩
  case round =>
    obtain ⟨q, hq, rfl, hb⟩ := hrel
    by_cases hlt : q < l.length
    · obtain ⟨g, o, x, rfl, -, hx, hin⟩ := elem_at hN hlt
      obtain ⟨g', o', y, rfl, -, hy, hin'⟩ := elem_at hN' hlt
      have hd := (Below.refl wr.heap.size wr).drew
      have c18 := hm x y l[q] wr.drew ((hin.below hb).below hd) ((hin'.below hb).below hd)
      have hx := four_below hx hb
      have hy := four_below hy hb
      obtain ⟨x0, x1, x2, x3, rfl, d0, d1, d2, d3⟩ := hx
      obtain ⟨y0, y1, y2, y3, rfl, e0, e1, e2, e3⟩ := hy
      clear hN hN' hin hin' hm
      go_wp2_with fail
      go_region_with (go_at_call 51; refine c18.mono ?_; rintro e w1 ⟨rfl, b1⟩)
      all_goals go_wp2_with fail
      all_goals go_roundw
      all_goals first
        | (case rel => exact ⟨q + 1, by omega, by go_num, hb.drew.trans (b1.mono hb.size)⟩)
        | (case measure => simp only [intOf]; omega)
    · have hlt' : decide ((q : Int) < (l.length : Int)) = false := by simp; omega
      go_wp2_with fail
      go_ret
      exact ⟨rfl, hb⟩
set_option maxRecDepth 20000 in
theorem same_of (m : Nat) (hm : ∀ (u v : Value) (l : List T) (w : World), InL false All w m u l → InL false All w m v l → Calls Try.prog 25 #[u, v] w fun e w' => e = .returned (.bool true) ∧ Below w.heap.size w w') : Sms (m + 1) := by
  intro u v c w hu hv
  obtain ⟨g, s, n, l⟩ := c
  rw [in_iff] at hu hv
  obtain ⟨nv, lv, rfl, hg, hs, hn, hl⟩ := hu
  obtain ⟨nv', lv', rfl, -, -, hn', hl'⟩ := hv
  obtain ⟨W0, hW0⟩ : ∃ W0, (w.alloc (.cells #[.string g, .string s, nv, lv] 53)).alloc (.cells #[.string g, .string s, nv', lv'] 53) = W0 := ⟨_, rfl⟩
  have hb0 : Below w.heap.size w W0 := by rw [← hW0]; exact ((Below.refl _ w).alloc (Nat.le_refl _) _).alloc (by simp) _
  have hsz0 : W0.heap.size = w.heap.size + 2 := by rw [← hW0]; simp
  have hx0 : W0.heap[w.heap.size]? = some (.cells #[.string g, .string s, nv, lv] 53) := by
    rw [← hW0, Below.heap_alloc _ _ _ (by simp), heap_alloc_new]
  have hx1 : W0.heap[w.heap.size + 1]? = some (.cells #[.string g, .string s, nv', lv'] 53) := by
    have := heap_alloc_new (w.alloc (.cells #[.string g, .string s, nv, lv] 53)) (.cells #[.string g, .string s, nv', lv'] 53)
    rwa [hW0, World.size_alloc] at this
  have c50 := sameA_c nv nv' n W0 (hn.below hb0) (hn'.below hb0)
  obtain ⟨d0, d1, d2, d3⟩ := four_box hx0
  obtain ⟨e0, e1, e2, e3⟩ := four_box hx1
  go_enter Try.func51, Try.ntmps51
  go_wp2_with fail
  refine c50.mono ?_
  rintro e w1 ⟨rfl, b1⟩
  have k5 := (four_box ((b1.block w.heap.size (by omega)).trans hx0)).2.2.2
  have j5 := (four_box ((b1.block (w.heap.size + 1) (by omega)).trans hx1)).2.2.2
  have c51 := hm lv lv' l w1 ((hl.below hb0).below b1) ((hl'.below hb0).below b1)
  clear c50 hx0 hx1 hW0
  go_wp2_with fail
  refine c51.mono ?_
  rintro e w2 ⟨rfl, b2⟩
  go_wp2_with fail
  go_ret
  exact ⟨rfl, nx (nx hb0 b1) b2⟩
theorem smsAll : ∀ m, Sms m := by
  intro m
  induction m with
  | zero => intro u v c w h; rw [In] at h; exact h.elim
  | succ m ih => exact same_of m (sames_of m ih)
theorem same_t {S S' : Nat → Prop} {m m' : Nat} {u v : Value} {l : List T} {w : World} (hu : InL false S w m u l) (hv : InL false S' w m' v l) :
    Calls Try.prog 25 #[u, v] w fun e w' => e = .returned (.bool true) ∧ Below w.heap.size w w' :=
  sames_of (max m m') (smsAll _) u v l w (hu.weak (fun _ _ => trivial) false id _ (Nat.le_max_left _ _)) (hv.weak (fun _ _ => trivial) false id _ (Nat.le_max_right _ _))
open Go.Proofs.Ythclndiekjaalaa.YPl Go.Proofs.Ythclndiekjaalaa.YRr Go.Proofs.Ythclndiekjaalaa.YSm Go.Proofs.Ythclndiekjaalaa.YSp Go.Proofs.Ythclndiekjaalaa.YEn in
set_option maxRecDepth 20000 in
set_option maxHeartbeats 1600000 in
theorem same_pg {K m m' : Nat} {w : World} {u v : Value} {x : Pg} (hu : InPg K m w u x) (hv : InPg K m' w v x) (hK : K ≤ w.heap.size) :
    Calls Try.prog 12 #[u, v] w fun e w' => e = .returned (.bool true) ∧ Below w.heap.size w w' := by
  have hu0 := hu
  have hv0 := hv
  obtain ⟨a, n1, c1, b, n2, c2, c, n3, c3, d, n4, c4, rfl, -⟩ := hu0
  obtain ⟨a', n1', c1', b', n2', c2', c', n3', c3', d', n4', c4', rfl, -⟩ := hv0
  obtain ⟨A, hA⟩ : ∃ A, Obj.cells #[.slice a n1 c1, .slice b n2 c2, .slice c n3 c3, .slice d n4 c4] 27 (0, 0) = A := ⟨_, rfl⟩
  obtain ⟨B, hB⟩ : ∃ B, Obj.cells #[.slice a' n1' c1', .slice b' n2' c2', .slice c' n3' c3', .slice d' n4' c4'] 27 (0, 0) = B := ⟨_, rfl⟩
  obtain ⟨W0, hW0⟩ : ∃ W0, (w.alloc A).alloc B = W0 := ⟨_, rfl⟩
  have hb0 : Below w.heap.size w W0 := by rw [← hW0]; exact ((Below.refl _ w).alloc (Nat.le_refl _) _).alloc (by simp) _
  have hz0 : W0.heap.size = w.heap.size + 2 := by rw [← hW0]; simp
  have hx0 : W0.heap[w.heap.size]? = some A := by rw [← hW0, Below.heap_alloc _ _ _ (by simp), heap_alloc_new]
  have hx1 : W0.heap[w.heap.size + 1]? = some B := by
    have := heap_alloc_new (w.alloc A) B
    rwa [hW0, World.size_alloc] at this
  rw [← hA] at hx0
  rw [← hB] at hx1
  have parts : ∀ W, Below K w W → (Rr 1 LyS K W (.slice a n1 c1) x.t ∧ Rr 1 (LyC K) K W (.slice b n2 c2) x.c ∧ TBase.InL false (TVisit.Lo K) W m (.slice c n3 c3) x.s ∧ Rr 3 (LyB K) K W (.slice d n4 c4) x.b) ∧
      (Rr 1 LyS K W (.slice a' n1' c1') x.t ∧ Rr 1 (LyC K) K W (.slice b' n2' c2') x.c ∧ TBase.InL false (TVisit.Lo K) W m' (.slice c' n3' c3') x.s ∧ Rr 3 (LyB K) K W (.slice d' n4' c4') x.b) := by
    intro W hb
    constructor
    · obtain ⟨_, _, _, _, _, _, _, _, _, _, _, _, e, h⟩ := hu.below hb
      cases e
      exact h
    · obtain ⟨_, _, _, _, _, _, _, _, _, _, _, _, e, h⟩ := hv.below hb
      cases e
      exact h
  have HP : Hid _ := parts
  have HB : Hid _ := hb0
  have bK0 := hb0.mono hK
  have cT := same_s (parts W0 bK0).1.1 (parts W0 bK0).2.1 (Nat.le_trans hK hb0.size)
  have d0 := cell_of hx0 0 _ rfl
  have d1 := cell_of hx0 1 _ rfl
  have d2 := cell_of hx0 2 _ rfl
  have e0 := cell_of hx1 0 _ rfl
  have e1 := cell_of hx1 1 _ rfl
  have e2 := cell_of hx1 2 _ rfl
  have HX0 : Hid _ := hx0
  have HX1 : Hid _ := hx1
  clear hx0 hx1 hb0 hu hv parts
  go_enter Try.func12, Try.ntmps12
  go_wp2_with fail
  try rw [hA, hB]
  try rw [hW0]
  refine cT.mono ?_
  rintro e w1 ⟨rfl, k, rfl⟩
  have b1 : Below w.heap.size w (W0.drewN k) := bdn HB.out k
  have cC := same_c (HP.out _ (b1.mono hK)).1.2.1 (HP.out _ (b1.mono hK)).2.2.1 (Nat.le_trans hK b1.size)
  have HB1 : Hid _ := b1
  clear cT b1 bK0
  go_wp2_with fail
  refine cC.mono ?_
  rintro e w1 ⟨rfl, k', rfl⟩
  have b1 : Below w.heap.size w (W0.drewN (k + k')) := bdn HB.out _
  have cS := same_t (HP.out _ (b1.mono hK)).1.2.2.1 (HP.out _ (b1.mono hK)).2.2.2.1
  have HB2 : Hid _ := b1
  clear cC b1
  go_wp2_with fail
  refine cS.mono ?_
  rintro e W1 ⟨rfl, b2⟩
  have b1 : Below w.heap.size w W1 := HB2.out.trans (b2.mono HB2.out.size)
  have b3 : Below W0.heap.size W0 W1 := (bdn (Below.refl _ W0) _).trans b2
  have cB := same_bs (HP.out _ (b1.mono hK)).1.2.2.2 (HP.out _ (b1.mono hK)).2.2.2.2 (Nat.le_trans hK b1.size)
  have d3 := cell_of ((b3.block w.heap.size (by omega)).trans HX0.out) 3 _ rfl
  have e3 := cell_of ((b3.block (w.heap.size + 1) (by omega)).trans HX1.out) 3 _ rfl
  have HB3 : Hid _ := b1
  clear cS b1 b2 b3 d0 d1 d2 e0 e1 e2 hW0 hA hB
  go_wp2_with fail
  refine cB.mono ?_
  rintro e W2 ⟨rfl, b2⟩
  go_wp2_with fail
  go_ret
  exact ⟨rfl, HB3.out.trans (b2.mono HB3.out.size)⟩
end Go.Proofs.Ythclndiekjaalaa.YSt

/- Expressions reckoned: pair at the orders, at same, other and neg, at values that lie in memory. -/
import Derived.Test.YtpaigpijaifeoaaGreatDoorVEx
import Derived.Test.YtpaigpijaifeoaaGreatDoorVOr
import Derived.Test.YtpaigpijaifeoaaGreatDoorEq
import Derived.Test.YtpaigpijaifeoaaGreatDoorVPk
import Derived.Test.YtpaigpijaifeoaaGreatDoorVNg
import Derived.Test.YtpaigpijaifeoaaGreatDoorVBi
import Derived.Test.YtpaigpijaifeoaaGreatDoorVCa
import Derived.Test.YtpaigpijaifeoaaGreatDoorVPt
namespace Go.Proofs.YtpaigpijaifeoaaGreatDoor.VPq
open Go.RowKit Go.Proofs.YtpaigpijaifeoaaGreatDoor.Base Go.Proofs.YtpaigpijaifeoaaGreatDoor.EPure Go.Proofs.YtpaigpijaifeoaaGreatDoor.VPure Go.Proofs.YtpaigpijaifeoaaGreatDoor.VSm Go.Proofs.YtpaigpijaifeoaaGreatDoor.VIn Go.Proofs.YtpaigpijaifeoaaGreatDoor.VEx Go.Proofs.YtpaigpijaifeoaaGreatDoor.VOr
set_option linter.unusedVariables false

set_option maxRecDepth 20000 in
set_option maxHeartbeats 3200000 in
theorem pair_More (k1 : Int) (b1 : Bool) (i1 : Int) (s1 : ByteArray) (an1 : Option Addr) (ln1 cn1 : Nat) (al1 : Option Addr) (ll1 cl1 : Nat) (k2 : Int) (b2 : Bool) (i2 : Int) (s2 : ByteArray) (an2 : Option Addr) (ln2 cn2 : Nat) (al2 : Option Addr) (ll2 cl2 : Nat) (w : World) :
    Calls Tryz.prog 109 #[.int .i64 25, vl k1 b1 i1 s1 (.slice an1 ln1 cn1) (.slice al1 ll1 cl1), vl k2 b2 i2 s2 (.slice an2 ln2 cn2) (.slice al2 ll2 cl2)] w fun e w' => An w w' e (fun c : Bool => v0 2 c 0 ⟨#[]⟩) (bnd (ord k2 i2 s2 k1 i1 s1) fun c => .ok (decide (c < 0))) := by
  obtain ⟨W0, hW0, hs0, hb0, hp, hq, hr⟩ := two3 w #[.int .i64 k1, .bool b1, .int .i64 i1, .string s1, (.slice an1 ln1 cn1), (.slice al1 ll1 cl1)] #[.int .i64 k2, .bool b2, .int .i64 i2, .string s2, (.slice an2 ln2 cn2), (.slice al2 ll2 cl2)]
  have HR : Hid (W0.heap[w.heap.size + 2]? = some (.cells #[.int .i64 0, .bool false, .int .i64 0, .string ⟨#[]⟩, .slice none 0 0, .slice none 0 0] 26 (0, 0))) := hr
  have HB : Hid (Below w.heap.size w W0) := hb0
  obtain ⟨p0, p1, p2, p3, p4, p5⟩ := six_box hp
  obtain ⟨q0, q1, q2, q3, q4, q5⟩ := six_box hq
  have pf0 := frozen_box hp 0
  have pf1 := frozen_box hp 1
  have pf2 := frozen_box hp 2
  have pf3 := frozen_box hp 3
  have pf4 := frozen_box hp 4
  have pf5 := frozen_box hp 5
  obtain ⟨V1, hV1⟩ : ∃ V1, ((((((W0.setCell ⟨w.heap.size, 0, none⟩ (.int .i64 k2)).setCell ⟨w.heap.size, 1, none⟩ (.bool b2)).setCell ⟨w.heap.size, 2, none⟩ (.int .i64 i2)).setCell ⟨w.heap.size, 3, none⟩ (.string s2)).setCell ⟨w.heap.size, 4, none⟩ (.slice an2 ln2 cn2)).setCell ⟨w.heap.size, 5, none⟩ (.slice al2 ll2 cl2)) = V1 := ⟨_, rfl⟩
  obtain ⟨a1, a2, a3, a4⟩ := set6 _ _ _ _ _ _ hp hV1
  have hq1 := (a2 (w.heap.size + 1) (by omega)).trans hq
  have qf0 := frozen_box hq1 0
  have qf1 := frozen_box hq1 1
  have qf2 := frozen_box hq1 2
  have qf3 := frozen_box hq1 3
  have qf4 := frozen_box hq1 4
  have qf5 := frozen_box hq1 5
  obtain ⟨y0, y1, y2, y3, y4, y5⟩ := six_box hq1
  obtain ⟨V2, hV2⟩ : ∃ V2, ((((((V1.setCell ⟨w.heap.size + 1, 0, none⟩ (.int .i64 k1)).setCell ⟨w.heap.size + 1, 1, none⟩ (.bool b1)).setCell ⟨w.heap.size + 1, 2, none⟩ (.int .i64 i1)).setCell ⟨w.heap.size + 1, 3, none⟩ (.string s1)).setCell ⟨w.heap.size + 1, 4, none⟩ (.slice an1 ln1 cn1)).setCell ⟨w.heap.size + 1, 5, none⟩ (.slice al1 ll1 cl1)) = V2 := ⟨_, rfl⟩
  obtain ⟨c1, c2, c3, c4⟩ := set6 _ _ _ _ _ _ hq1 hV2
  have hp2 := (c2 w.heap.size (by omega)).trans a1
  obtain ⟨x0, x1, x2, x3, x4, x5⟩ := six_box hp2
  obtain ⟨z0, z1, z2, z3, z4, z5⟩ := six_box c1
  have HR2 : Hid (V2.heap[w.heap.size + 2]? = some (.cells #[.int .i64 0, .bool false, .int .i64 0, .string ⟨#[]⟩, .slice none 0 0, .slice none 0 0] 26 (0, 0))) := (c2 _ (by omega)).trans ((a2 _ (by omega)).trans hr)
  have hbv : Below w.heap.size w V2 := c4 _ _ (by omega) (a4 _ _ (Nat.le_refl _) hb0)
  have HBV : Hid (Below w.heap.size w V2) := hbv
  have hsv : V2.heap.size = w.heap.size + 3 := by rw [← hV2, ← hV1]; simp [hs0]
  clear a1 a2 a3 a4 c1 c2 c3 c4 hq1 hp2 hbv HR HB
  have HR := HR2
  have HB := HBV
  clear HR2 HBV
  have cI := order_c k2 b2 i2 s2 (.slice an2 ln2 cn2) (.slice al2 ll2 cl2) k1 b1 i1 s1 (.slice an1 ln1 cn1) (.slice al1 ll1 cl1) V2
  obtain ⟨U, hU⟩ : ∃ U, ord k2 i2 s2 k1 i1 s1 = U := ⟨_, rfl⟩
  rw [hU] at cI ⊢
  clear hp hq hb0 hr hU
  go_enter Tryz.func109, Tryz.ntmps109
  go_upto_if 37 with fail
  refine wp_cond_true (by rfl) ?_
  refine wp_exit ?_
  repeat (first | (with_reducible refine ex_then ?_) | (with_reducible refine ex_skip (by decide) ?_))
  refine ex_hit ?_
  refine ex_norm ?_
  apply_assumption
  try simp only [hW0]
  go_upto_region 36 with fail
  go_wp2_with fail
  try rw [hW0]
  try rw [hV1]
  try rw [hV2]
  refine cI.mono ?_
  intro e W1 hA
  clear cI
  cases U with
  | error c =>
    obtain ⟨rfl, hb1⟩ := hA
    exact ⟨rfl, rfl, HB.out.trans (hb1.mono HB.out.size)⟩
  | ok c =>
    obtain ⟨rfl, hb1⟩ := hA
    have HR1 : Hid (W1.heap[w.heap.size + 2]? = some (.cells #[.int .i64 0, .bool false, .int .i64 0, .string ⟨#[]⟩, .slice none 0 0, .slice none 0 0] 26 (0, 0))) := (hb1.block (w.heap.size + 2) (by omega)).trans HR.out
    have hs1 := hb1.size
    have HB1 : Hid (Below w.heap.size w W1) := HB.out.trans (hb1.mono HB.out.size)
    clear hb1 HR HB p0 p1 p2 p3 p4 p5 q0 q1 q2 q3 q4 q5 x0 x1 x2 x3 x4 x5 y0 y1 y2 y3 y4 y5 z0 z1 z2 z3 z4 z5 pf0 pf1 pf2 pf3 pf4 pf5 qf0 qf1 qf2 qf3 qf4 qf5
    obtain ⟨B, hB⟩ : ∃ B, decide (c < 0) = B := ⟨_, rfl⟩
    have cT := truth_c B
    go_wp2_with fail
    refine (cT _).mono ?_
    rintro e W2 ⟨rfl, hb2⟩
    clear cT
    have hr := (hb2.block (w.heap.size + 2) (by omega)).trans HR1.out
    have HB2 : Hid (Below w.heap.size w W2) := HB1.out.trans (hb2.mono HB1.out.size)
    clear hb2 HB1 HR1
    obtain ⟨r0, r1, r2, r3, r4, r5⟩ := six_box hr
    have rf0 := frozen_box hr 0
    have rf1 := frozen_box hr 1
    have rf2 := frozen_box hr 2
    have rf3 := frozen_box hr 3
    have rf4 := frozen_box hr 4
    have rf5 := frozen_box hr 5
    go_wp2_with fail
    obtain ⟨W9, hW9⟩ : ∃ W9, ((((((W2.setCell ⟨w.heap.size + 2, 0, none⟩ (.int .i64 2)).setCell ⟨w.heap.size + 2, 1, none⟩ (.bool B)).setCell ⟨w.heap.size + 2, 2, none⟩ (.int .i64 0)).setCell ⟨w.heap.size + 2, 3, none⟩ (.string ⟨#[]⟩)).setCell ⟨w.heap.size + 2, 4, none⟩ (.slice none 0 0)).setCell ⟨w.heap.size + 2, 5, none⟩ (.slice none 0 0)) = W9 := ⟨_, rfl⟩
    rw [hW9]
    obtain ⟨q1, q2, q3, q4⟩ := set6 _ _ _ _ _ _ hr hW9
    first | refine out_ret (results_cell_row rfl _ W9 (w.heap.size + 2) 26 _ (0, 0) _ rfl q1 Tryz.underlying26 rfl (by kernel_rfl)) rfl ?_ | refine bodyPost_ret (results_cell_row rfl _ W9 (w.heap.size + 2) 26 _ (0, 0) _ rfl q1 Tryz.underlying26 rfl (by kernel_rfl)) rfl ?_
    try subst hB
    exact ⟨rfl, q4 _ _ (by omega) HB2.out⟩
set_option maxRecDepth 20000 in
set_option maxHeartbeats 3200000 in
theorem pair_Least (k1 : Int) (b1 : Bool) (i1 : Int) (s1 : ByteArray) (an1 : Option Addr) (ln1 cn1 : Nat) (al1 : Option Addr) (ll1 cl1 : Nat) (k2 : Int) (b2 : Bool) (i2 : Int) (s2 : ByteArray) (an2 : Option Addr) (ln2 cn2 : Nat) (al2 : Option Addr) (ll2 cl2 : Nat) (w : World) :
    Calls Tryz.prog 109 #[.int .i64 26, vl k1 b1 i1 s1 (.slice an1 ln1 cn1) (.slice al1 ll1 cl1), vl k2 b2 i2 s2 (.slice an2 ln2 cn2) (.slice al2 ll2 cl2)] w fun e w' => An w w' e (fun c : Bool => v0 2 c 0 ⟨#[]⟩) (bnd (ord k2 i2 s2 k1 i1 s1) fun c => .ok (decide (c ≤ 0))) := by
  obtain ⟨W0, hW0, hs0, hb0, hp, hq, hr⟩ := two3 w #[.int .i64 k1, .bool b1, .int .i64 i1, .string s1, (.slice an1 ln1 cn1), (.slice al1 ll1 cl1)] #[.int .i64 k2, .bool b2, .int .i64 i2, .string s2, (.slice an2 ln2 cn2), (.slice al2 ll2 cl2)]
  have HR : Hid (W0.heap[w.heap.size + 2]? = some (.cells #[.int .i64 0, .bool false, .int .i64 0, .string ⟨#[]⟩, .slice none 0 0, .slice none 0 0] 26 (0, 0))) := hr
  have HB : Hid (Below w.heap.size w W0) := hb0
  obtain ⟨p0, p1, p2, p3, p4, p5⟩ := six_box hp
  obtain ⟨q0, q1, q2, q3, q4, q5⟩ := six_box hq
  have pf0 := frozen_box hp 0
  have pf1 := frozen_box hp 1
  have pf2 := frozen_box hp 2
  have pf3 := frozen_box hp 3
  have pf4 := frozen_box hp 4
  have pf5 := frozen_box hp 5
  obtain ⟨V1, hV1⟩ : ∃ V1, ((((((W0.setCell ⟨w.heap.size, 0, none⟩ (.int .i64 k2)).setCell ⟨w.heap.size, 1, none⟩ (.bool b2)).setCell ⟨w.heap.size, 2, none⟩ (.int .i64 i2)).setCell ⟨w.heap.size, 3, none⟩ (.string s2)).setCell ⟨w.heap.size, 4, none⟩ (.slice an2 ln2 cn2)).setCell ⟨w.heap.size, 5, none⟩ (.slice al2 ll2 cl2)) = V1 := ⟨_, rfl⟩
  obtain ⟨a1, a2, a3, a4⟩ := set6 _ _ _ _ _ _ hp hV1
  have hq1 := (a2 (w.heap.size + 1) (by omega)).trans hq
  have qf0 := frozen_box hq1 0
  have qf1 := frozen_box hq1 1
  have qf2 := frozen_box hq1 2
  have qf3 := frozen_box hq1 3
  have qf4 := frozen_box hq1 4
  have qf5 := frozen_box hq1 5
  obtain ⟨y0, y1, y2, y3, y4, y5⟩ := six_box hq1
  obtain ⟨V2, hV2⟩ : ∃ V2, ((((((V1.setCell ⟨w.heap.size + 1, 0, none⟩ (.int .i64 k1)).setCell ⟨w.heap.size + 1, 1, none⟩ (.bool b1)).setCell ⟨w.heap.size + 1, 2, none⟩ (.int .i64 i1)).setCell ⟨w.heap.size + 1, 3, none⟩ (.string s1)).setCell ⟨w.heap.size + 1, 4, none⟩ (.slice an1 ln1 cn1)).setCell ⟨w.heap.size + 1, 5, none⟩ (.slice al1 ll1 cl1)) = V2 := ⟨_, rfl⟩
  obtain ⟨c1, c2, c3, c4⟩ := set6 _ _ _ _ _ _ hq1 hV2
  have hp2 := (c2 w.heap.size (by omega)).trans a1
  obtain ⟨x0, x1, x2, x3, x4, x5⟩ := six_box hp2
  obtain ⟨z0, z1, z2, z3, z4, z5⟩ := six_box c1
  have HR2 : Hid (V2.heap[w.heap.size + 2]? = some (.cells #[.int .i64 0, .bool false, .int .i64 0, .string ⟨#[]⟩, .slice none 0 0, .slice none 0 0] 26 (0, 0))) := (c2 _ (by omega)).trans ((a2 _ (by omega)).trans hr)
  have hbv : Below w.heap.size w V2 := c4 _ _ (by omega) (a4 _ _ (Nat.le_refl _) hb0)
  have HBV : Hid (Below w.heap.size w V2) := hbv
  have hsv : V2.heap.size = w.heap.size + 3 := by rw [← hV2, ← hV1]; simp [hs0]
  clear a1 a2 a3 a4 c1 c2 c3 c4 hq1 hp2 hbv HR HB
  have HR := HR2
  have HB := HBV
  clear HR2 HBV
  have cI := order_c k2 b2 i2 s2 (.slice an2 ln2 cn2) (.slice al2 ll2 cl2) k1 b1 i1 s1 (.slice an1 ln1 cn1) (.slice al1 ll1 cl1) V2
  obtain ⟨U, hU⟩ : ∃ U, ord k2 i2 s2 k1 i1 s1 = U := ⟨_, rfl⟩
  rw [hU] at cI ⊢
  clear hp hq hb0 hr hU
  go_enter Tryz.func109, Tryz.ntmps109
  go_upto_if 41 with fail
  refine wp_cond_true (by rfl) ?_
  refine wp_exit ?_
  repeat (first | (with_reducible refine ex_then ?_) | (with_reducible refine ex_skip (by decide) ?_))
  refine ex_hit ?_
  refine ex_norm ?_
  apply_assumption
  try simp only [hW0]
  go_upto_region 38 with fail
  go_wp2_with fail
  try rw [hW0]
  try rw [hV1]
  try rw [hV2]
  refine cI.mono ?_
  intro e W1 hA
  clear cI
  cases U with
  | error c =>
    obtain ⟨rfl, hb1⟩ := hA
    exact ⟨rfl, rfl, HB.out.trans (hb1.mono HB.out.size)⟩
  | ok c =>
    obtain ⟨rfl, hb1⟩ := hA
    have HR1 : Hid (W1.heap[w.heap.size + 2]? = some (.cells #[.int .i64 0, .bool false, .int .i64 0, .string ⟨#[]⟩, .slice none 0 0, .slice none 0 0] 26 (0, 0))) := (hb1.block (w.heap.size + 2) (by omega)).trans HR.out
    have hs1 := hb1.size
    have HB1 : Hid (Below w.heap.size w W1) := HB.out.trans (hb1.mono HB.out.size)
    clear hb1 HR HB p0 p1 p2 p3 p4 p5 q0 q1 q2 q3 q4 q5 x0 x1 x2 x3 x4 x5 y0 y1 y2 y3 y4 y5 z0 z1 z2 z3 z4 z5 pf0 pf1 pf2 pf3 pf4 pf5 qf0 qf1 qf2 qf3 qf4 qf5
    obtain ⟨B, hB⟩ : ∃ B, decide (c ≤ 0) = B := ⟨_, rfl⟩
    have cT := truth_c B
    go_wp2_with fail
    refine (cT _).mono ?_
    rintro e W2 ⟨rfl, hb2⟩
    clear cT
    have hr := (hb2.block (w.heap.size + 2) (by omega)).trans HR1.out
    have HB2 : Hid (Below w.heap.size w W2) := HB1.out.trans (hb2.mono HB1.out.size)
    clear hb2 HB1 HR1
    obtain ⟨r0, r1, r2, r3, r4, r5⟩ := six_box hr
    have rf0 := frozen_box hr 0
    have rf1 := frozen_box hr 1
    have rf2 := frozen_box hr 2
    have rf3 := frozen_box hr 3
    have rf4 := frozen_box hr 4
    have rf5 := frozen_box hr 5
    go_wp2_with fail
    obtain ⟨W9, hW9⟩ : ∃ W9, ((((((W2.setCell ⟨w.heap.size + 2, 0, none⟩ (.int .i64 2)).setCell ⟨w.heap.size + 2, 1, none⟩ (.bool B)).setCell ⟨w.heap.size + 2, 2, none⟩ (.int .i64 0)).setCell ⟨w.heap.size + 2, 3, none⟩ (.string ⟨#[]⟩)).setCell ⟨w.heap.size + 2, 4, none⟩ (.slice none 0 0)).setCell ⟨w.heap.size + 2, 5, none⟩ (.slice none 0 0)) = W9 := ⟨_, rfl⟩
    rw [hW9]
    obtain ⟨q1, q2, q3, q4⟩ := set6 _ _ _ _ _ _ hr hW9
    first | refine out_ret (results_cell_row rfl _ W9 (w.heap.size + 2) 26 _ (0, 0) _ rfl q1 Tryz.underlying26 rfl (by kernel_rfl)) rfl ?_ | refine bodyPost_ret (results_cell_row rfl _ W9 (w.heap.size + 2) 26 _ (0, 0) _ rfl q1 Tryz.underlying26 rfl (by kernel_rfl)) rfl ?_
    try subst hB
    exact ⟨rfl, q4 _ _ (by omega) HB2.out⟩
end Go.Proofs.YtpaigpijaifeoaaGreatDoor.VPq

namespace Go.Proofs.YtpaigpijaifeoaaGreatDoor.VPs
open Go.RowKit Go.Proofs.YtpaigpijaifeoaaGreatDoor.Base Go.Proofs.YtpaigpijaifeoaaGreatDoor.EPure Go.Proofs.YtpaigpijaifeoaaGreatDoor.VPure Go.Proofs.YtpaigpijaifeoaaGreatDoor.VSm Go.Proofs.YtpaigpijaifeoaaGreatDoor.VIn Go.Proofs.YtpaigpijaifeoaaGreatDoor.VEx Go.Proofs.YtpaigpijaifeoaaGreatDoor.VOr
set_option linter.unusedVariables false

set_option maxRecDepth 20000 in
set_option maxHeartbeats 3200000 in
theorem pair_Same (k1 : Int) (b1 : Bool) (i1 : Int) (s1 : ByteArray) (n1 l1 : Value) (k2 : Int) (b2 : Bool) (i2 : Int) (s2 : ByteArray) (n2 l2 : Value) (w : World) (S : Bool) (cS : ∀ W : World, Below w.heap.size w W → Calls Tryz.prog 146 #[vl k1 b1 i1 s1 n1 l1, vl k2 b2 i2 s2 n2 l2] W fun e w' => e = .returned (.bool S) ∧ Below W.heap.size W w') :
    Calls Tryz.prog 109 #[.int .i64 27, vl k1 b1 i1 s1 n1 l1, vl k2 b2 i2 s2 n2 l2] w fun e w' => e = .returned (v0 2 (S) 0 ⟨#[]⟩) ∧ Below w.heap.size w w' := by
  obtain ⟨W0, hW0, hs0, hb0, hp, hq, hr⟩ := two3 w #[.int .i64 k1, .bool b1, .int .i64 i1, .string s1, n1, l1] #[.int .i64 k2, .bool b2, .int .i64 i2, .string s2, n2, l2]
  have HR : Hid (W0.heap[w.heap.size + 2]? = some (.cells #[.int .i64 0, .bool false, .int .i64 0, .string ⟨#[]⟩, .slice none 0 0, .slice none 0 0] 26 (0, 0))) := hr
  have HB : Hid (Below w.heap.size w W0) := hb0
  obtain ⟨p0, p1, p2, p3, p4, p5⟩ := six_box hp
  obtain ⟨q0, q1, q2, q3, q4, q5⟩ := six_box hq
  have cI := cS W0 hb0
  clear hp hq hb0 hr cS
  have cT := truth_c
  cases S with
  | false =>
    go_enter Tryz.func109, Tryz.ntmps109
    go_upto_if 43 with fail
    refine wp_cond_false (by rfl) ?_
    refine wp_skip ?_
    refine ex_norm ?_
    apply_assumption
    refine wp_exit ?_
    repeat (first | (with_reducible refine ex_then ?_) | (with_reducible refine ex_skip (by decide) ?_))
    refine ex_hit ?_
    try (refine ex_norm ?_)
    apply_assumption
    try simp only [hW0]
    go_wp2_with fail
    try rw [hW0]
    refine cI.mono ?_
    rintro e W1 ⟨rfl, hb1⟩
    clear cI
    have HR1 : Hid (W1.heap[w.heap.size + 2]? = some (.cells #[.int .i64 0, .bool false, .int .i64 0, .string ⟨#[]⟩, .slice none 0 0, .slice none 0 0] 26 (0, 0))) := (hb1.block (w.heap.size + 2) (by omega)).trans HR.out
    have hs1 := hb1.size
    have HB1 : Hid (Below w.heap.size w W1) := HB.out.trans (hb1.mono HB.out.size)
    clear hb1 HR HB p0 p1 p2 p3 p4 p5 q0 q1 q2 q3 q4 q5
    go_wp2_with fail
    refine (cT _ _).mono ?_
    rintro e W2 ⟨rfl, hb2⟩
    clear cT
    have hr := (hb2.block (w.heap.size + 2) (by omega)).trans HR1.out
    have HB2 : Hid (Below w.heap.size w W2) := HB1.out.trans (hb2.mono HB1.out.size)
    clear hb2 HB1 HR1
    obtain ⟨r0, r1, r2, r3, r4, r5⟩ := six_box hr
    have rf0 := frozen_box hr 0
    have rf1 := frozen_box hr 1
    have rf2 := frozen_box hr 2
    have rf3 := frozen_box hr 3
    have rf4 := frozen_box hr 4
    have rf5 := frozen_box hr 5
    go_wp2_with fail
    obtain ⟨W9, hW9⟩ : ∃ W9, ((((((W2.setCell ⟨w.heap.size + 2, 0, none⟩ (.int .i64 2)).setCell ⟨w.heap.size + 2, 1, none⟩ (.bool false)).setCell ⟨w.heap.size + 2, 2, none⟩ (.int .i64 0)).setCell ⟨w.heap.size + 2, 3, none⟩ (.string ⟨#[]⟩)).setCell ⟨w.heap.size + 2, 4, none⟩ (.slice none 0 0)).setCell ⟨w.heap.size + 2, 5, none⟩ (.slice none 0 0)) = W9 := ⟨_, rfl⟩
    rw [hW9]
    obtain ⟨q1, q2, q3, q4⟩ := set6 _ _ _ _ _ _ hr hW9
    refine bodyPost_ret (results_cell_row rfl _ W9 (w.heap.size + 2) 26 _ (0, 0) _ rfl q1 Tryz.underlying26 rfl (by kernel_rfl)) rfl ?_
    try subst hB
    exact ⟨rfl, q4 _ _ (by omega) HB2.out⟩
  | true =>
    go_enter Tryz.func109, Tryz.ntmps109
    go_upto_if 43 with fail
    refine wp_cond_false (by rfl) ?_
    refine wp_skip ?_
    refine ex_norm ?_
    apply_assumption
    refine wp_exit ?_
    repeat (first | (with_reducible refine ex_then ?_) | (with_reducible refine ex_skip (by decide) ?_))
    refine ex_hit ?_
    try (refine ex_norm ?_)
    apply_assumption
    try simp only [hW0]
    go_wp2_with fail
    try rw [hW0]
    refine cI.mono ?_
    rintro e W1 ⟨rfl, hb1⟩
    clear cI
    have HR1 : Hid (W1.heap[w.heap.size + 2]? = some (.cells #[.int .i64 0, .bool false, .int .i64 0, .string ⟨#[]⟩, .slice none 0 0, .slice none 0 0] 26 (0, 0))) := (hb1.block (w.heap.size + 2) (by omega)).trans HR.out
    have hs1 := hb1.size
    have HB1 : Hid (Below w.heap.size w W1) := HB.out.trans (hb1.mono HB.out.size)
    clear hb1 HR HB p0 p1 p2 p3 p4 p5 q0 q1 q2 q3 q4 q5
    go_wp2_with fail
    refine (cT _ _).mono ?_
    rintro e W2 ⟨rfl, hb2⟩
    clear cT
    have hr := (hb2.block (w.heap.size + 2) (by omega)).trans HR1.out
    have HB2 : Hid (Below w.heap.size w W2) := HB1.out.trans (hb2.mono HB1.out.size)
    clear hb2 HB1 HR1
    obtain ⟨r0, r1, r2, r3, r4, r5⟩ := six_box hr
    have rf0 := frozen_box hr 0
    have rf1 := frozen_box hr 1
    have rf2 := frozen_box hr 2
    have rf3 := frozen_box hr 3
    have rf4 := frozen_box hr 4
    have rf5 := frozen_box hr 5
    go_wp2_with fail
    obtain ⟨W9, hW9⟩ : ∃ W9, ((((((W2.setCell ⟨w.heap.size + 2, 0, none⟩ (.int .i64 2)).setCell ⟨w.heap.size + 2, 1, none⟩ (.bool true)).setCell ⟨w.heap.size + 2, 2, none⟩ (.int .i64 0)).setCell ⟨w.heap.size + 2, 3, none⟩ (.string ⟨#[]⟩)).setCell ⟨w.heap.size + 2, 4, none⟩ (.slice none 0 0)).setCell ⟨w.heap.size + 2, 5, none⟩ (.slice none 0 0)) = W9 := ⟨_, rfl⟩
    rw [hW9]
    obtain ⟨q1, q2, q3, q4⟩ := set6 _ _ _ _ _ _ hr hW9
    refine bodyPost_ret (results_cell_row rfl _ W9 (w.heap.size + 2) 26 _ (0, 0) _ rfl q1 Tryz.underlying26 rfl (by kernel_rfl)) rfl ?_
    try subst hB
    exact ⟨rfl, q4 _ _ (by omega) HB2.out⟩
set_option maxRecDepth 20000 in
set_option maxHeartbeats 3200000 in
theorem pair_Other (k1 : Int) (b1 : Bool) (i1 : Int) (s1 : ByteArray) (n1 l1 : Value) (k2 : Int) (b2 : Bool) (i2 : Int) (s2 : ByteArray) (n2 l2 : Value) (w : World) (S : Bool) (cS : ∀ W : World, Below w.heap.size w W → Calls Tryz.prog 146 #[vl k1 b1 i1 s1 n1 l1, vl k2 b2 i2 s2 n2 l2] W fun e w' => e = .returned (.bool S) ∧ Below W.heap.size W w') :
    Calls Tryz.prog 109 #[.int .i64 28, vl k1 b1 i1 s1 n1 l1, vl k2 b2 i2 s2 n2 l2] w fun e w' => e = .returned (v0 2 (!S) 0 ⟨#[]⟩) ∧ Below w.heap.size w w' := by
  obtain ⟨W0, hW0, hs0, hb0, hp, hq, hr⟩ := two3 w #[.int .i64 k1, .bool b1, .int .i64 i1, .string s1, n1, l1] #[.int .i64 k2, .bool b2, .int .i64 i2, .string s2, n2, l2]
  have HR : Hid (W0.heap[w.heap.size + 2]? = some (.cells #[.int .i64 0, .bool false, .int .i64 0, .string ⟨#[]⟩, .slice none 0 0, .slice none 0 0] 26 (0, 0))) := hr
  have HB : Hid (Below w.heap.size w W0) := hb0
  obtain ⟨p0, p1, p2, p3, p4, p5⟩ := six_box hp
  obtain ⟨q0, q1, q2, q3, q4, q5⟩ := six_box hq
  have cI := cS W0 hb0
  clear hp hq hb0 hr cS
  have cT := truth_c
  cases S with
  | false =>
    go_enter Tryz.func109, Tryz.ntmps109
    go_upto_if 43 with fail
    refine wp_cond_false (by rfl) ?_
    refine wp_skip ?_
    refine ex_norm ?_
    apply_assumption
    refine wp_exit ?_
    repeat (first | (with_reducible refine ex_then ?_) | (with_reducible refine ex_skip (by decide) ?_))
    refine ex_hit ?_
    try (refine ex_norm ?_)
    apply_assumption
    try simp only [hW0]
    go_wp2_with fail
    try rw [hW0]
    refine cI.mono ?_
    rintro e W1 ⟨rfl, hb1⟩
    clear cI
    have HR1 : Hid (W1.heap[w.heap.size + 2]? = some (.cells #[.int .i64 0, .bool false, .int .i64 0, .string ⟨#[]⟩, .slice none 0 0, .slice none 0 0] 26 (0, 0))) := (hb1.block (w.heap.size + 2) (by omega)).trans HR.out
    have hs1 := hb1.size
    have HB1 : Hid (Below w.heap.size w W1) := HB.out.trans (hb1.mono HB.out.size)
    clear hb1 HR HB p0 p1 p2 p3 p4 p5 q0 q1 q2 q3 q4 q5
    go_wp2_with fail
    refine (cT _ _).mono ?_
    rintro e W2 ⟨rfl, hb2⟩
    clear cT
    have hr := (hb2.block (w.heap.size + 2) (by omega)).trans HR1.out
    have HB2 : Hid (Below w.heap.size w W2) := HB1.out.trans (hb2.mono HB1.out.size)
    clear hb2 HB1 HR1
    obtain ⟨r0, r1, r2, r3, r4, r5⟩ := six_box hr
    have rf0 := frozen_box hr 0
    have rf1 := frozen_box hr 1
    have rf2 := frozen_box hr 2
    have rf3 := frozen_box hr 3
    have rf4 := frozen_box hr 4
    have rf5 := frozen_box hr 5
    go_wp2_with fail
    obtain ⟨W9, hW9⟩ : ∃ W9, ((((((W2.setCell ⟨w.heap.size + 2, 0, none⟩ (.int .i64 2)).setCell ⟨w.heap.size + 2, 1, none⟩ (.bool true)).setCell ⟨w.heap.size + 2, 2, none⟩ (.int .i64 0)).setCell ⟨w.heap.size + 2, 3, none⟩ (.string ⟨#[]⟩)).setCell ⟨w.heap.size + 2, 4, none⟩ (.slice none 0 0)).setCell ⟨w.heap.size + 2, 5, none⟩ (.slice none 0 0)) = W9 := ⟨_, rfl⟩
    rw [hW9]
    obtain ⟨q1, q2, q3, q4⟩ := set6 _ _ _ _ _ _ hr hW9
    refine bodyPost_ret (results_cell_row rfl _ W9 (w.heap.size + 2) 26 _ (0, 0) _ rfl q1 Tryz.underlying26 rfl (by kernel_rfl)) rfl ?_
    try subst hB
    exact ⟨rfl, q4 _ _ (by omega) HB2.out⟩
  | true =>
    go_enter Tryz.func109, Tryz.ntmps109
    go_upto_if 43 with fail
    refine wp_cond_false (by rfl) ?_
    refine wp_skip ?_
    refine ex_norm ?_
    apply_assumption
    refine wp_exit ?_
    repeat (first | (with_reducible refine ex_then ?_) | (with_reducible refine ex_skip (by decide) ?_))
    refine ex_hit ?_
    try (refine ex_norm ?_)
    apply_assumption
    try simp only [hW0]
    go_wp2_with fail
    try rw [hW0]
    refine cI.mono ?_
    rintro e W1 ⟨rfl, hb1⟩
    clear cI
    have HR1 : Hid (W1.heap[w.heap.size + 2]? = some (.cells #[.int .i64 0, .bool false, .int .i64 0, .string ⟨#[]⟩, .slice none 0 0, .slice none 0 0] 26 (0, 0))) := (hb1.block (w.heap.size + 2) (by omega)).trans HR.out
    have hs1 := hb1.size
    have HB1 : Hid (Below w.heap.size w W1) := HB.out.trans (hb1.mono HB.out.size)
    clear hb1 HR HB p0 p1 p2 p3 p4 p5 q0 q1 q2 q3 q4 q5
    go_wp2_with fail
    refine (cT _ _).mono ?_
    rintro e W2 ⟨rfl, hb2⟩
    clear cT
    have hr := (hb2.block (w.heap.size + 2) (by omega)).trans HR1.out
    have HB2 : Hid (Below w.heap.size w W2) := HB1.out.trans (hb2.mono HB1.out.size)
    clear hb2 HB1 HR1
    obtain ⟨r0, r1, r2, r3, r4, r5⟩ := six_box hr
    have rf0 := frozen_box hr 0
    have rf1 := frozen_box hr 1
    have rf2 := frozen_box hr 2
    have rf3 := frozen_box hr 3
    have rf4 := frozen_box hr 4
    have rf5 := frozen_box hr 5
    go_wp2_with fail
    obtain ⟨W9, hW9⟩ : ∃ W9, ((((((W2.setCell ⟨w.heap.size + 2, 0, none⟩ (.int .i64 2)).setCell ⟨w.heap.size + 2, 1, none⟩ (.bool false)).setCell ⟨w.heap.size + 2, 2, none⟩ (.int .i64 0)).setCell ⟨w.heap.size + 2, 3, none⟩ (.string ⟨#[]⟩)).setCell ⟨w.heap.size + 2, 4, none⟩ (.slice none 0 0)).setCell ⟨w.heap.size + 2, 5, none⟩ (.slice none 0 0)) = W9 := ⟨_, rfl⟩
    rw [hW9]
    obtain ⟨q1, q2, q3, q4⟩ := set6 _ _ _ _ _ _ hr hW9
    refine bodyPost_ret (results_cell_row rfl _ W9 (w.heap.size + 2) 26 _ (0, 0) _ rfl q1 Tryz.underlying26 rfl (by kernel_rfl)) rfl ?_
    try subst hB
    exact ⟨rfl, q4 _ _ (by omega) HB2.out⟩
end Go.Proofs.YtpaigpijaifeoaaGreatDoor.VPs

namespace Go.Proofs.YtpaigpijaifeoaaGreatDoor.Same
open Go.RowKit Go.Proofs.YtpaigpijaifeoaaGreatDoor.Base Go.Proofs.YtpaigpijaifeoaaGreatDoor.Eq
set_option linter.unusedVariables false

def SameIs (m : Nat) : Prop := ∀ (u v : Value) (c d : C) (w : World), In false All w m u c → In false All w m v d →
    Calls Tryz.prog 146 #[u, v] w fun e w' => e = .returned (.bool (same c d)) ∧ Below w.heap.size w w'
set_option maxRecDepth 20000 in
set_option maxHeartbeats 800000 in
theorem eqF_of (m : Nat) (hm : SameIs m) (u v : Value) (L M : List C) (w : World) (hu : InL false All w m u L) (hv : InL false All w m v M) :
    Calls Tryz.prog 178 #[u, v, .func (.func 146) #[] #[]] w fun e w' => e = .returned (.bool (sameL L M)) ∧ Below w.heap.size w w' := by
  obtain ⟨a, cap, rfl, hlc, hcm, hlen, hnil, hN⟩ := hu.out
  obtain ⟨a', cap', rfl, hlc', hm', hlen', hnil', hN'⟩ := hv.out
  clear hu hv
  by_cases hne : L.length = M.length
  · have HI := sameL_iff hne
    generalize sameL L M = R at *
    have hne' : ((L.length : Int) != (M.length : Int)) = false := by simp; omega
    have HH : Hid (R = true ↔ ∀ j (h1 : j < L.length) (h2 : j < M.length), same L[j] M[j] = true) := HI
    have hle1 : L.length ≤ M.length := by omega
    have hle2 : M.length ≤ L.length := by omega
    clear HI hne
    go_enter Tryz.func178, Tryz.ntmps178
    go_wp2_with fail
    go_loopw [17] (fun i wr => ∃ q : Nat, q ≤ L.length ∧ i = .int .i64 q ∧ (∀ j (h1 : j < L.length) (h2 : j < M.length), j < q → same L[j] M[j] = true) ∧ Below w.heap.size w wr) (fun i _ => L.length - (intOf i).toNat)
    case atStart => exact ⟨0, by omega, rfl, fun j _ _ h => by omega, Below.refl _ _⟩
    case round =>
      obtain ⟨q, hq, rfl, hall, hb⟩ := hrel
      by_cases hlt : q < L.length
      · have hlt2 : q < M.length := by omega
        obtain ⟨g, o, x, rfl, -, hx, hin⟩ := elem_at hN hlt
        obtain ⟨g', o', y, rfl, -, hy, hin'⟩ := elem_at hN' hlt2
        have hx := six_below hx hb
        have hy := six_below hy hb
        obtain ⟨x0, x1, x2, x3, x4, x5, rfl, d0, d1, d2, d3, d4, d5⟩ := hx
        obtain ⟨y0, y1, y2, y3, y4, y5, rfl, e0, e1, e2, e3, e4, e5⟩ := hy
        obtain ⟨a1, n1, c1, a2, n2, c2, rfl, rfl, rfl, rfl, rfl, rfl⟩ := hin.kinds
        obtain ⟨p1, q1, r1, p2, q2, r2, rfl, rfl, rfl, rfl, rfl, rfl⟩ := hin'.kinds
        generalize L[q].k = kk, L[q].b = bb, L[q].i = ii, L[q].s = ss, M[q].k = kk', M[q].b = bb', M[q].i = ii', M[q].s = ss' at *
        have hg' : g' < wr.heap.size := cell_lt e0
        have hb2 : Below wr.heap.size wr ((wr.alloc (.cells #[.int .i64 kk, .bool bb, .int .i64 ii, .string ss, .slice a1 n1 c1, .slice a2 n2 c2] 26)).alloc (.cells #[.int .i64 kk', .bool bb', .int .i64 ii', .string ss', .slice p1 q1 r1, .slice p2 q2 r2] 26)) := ((Below.refl _ wr).alloc (Nat.le_refl _) _).alloc (by simp) _
        have c20 := hm _ _ L[q] M[q] _ ((hin.below hb).below hb2) ((hin'.below hb).below hb2)
        have HA : Hid (∀ j (h1 : j < L.length) (h2 : j < M.length), j < q → same L[j] M[j] = true) := hall
        obtain ⟨x, hx⟩ : ∃ x, same L[q] M[q] = x := ⟨_, rfl⟩
        have HX : Hid (same L[q] M[q] = x) := hx
        rw [hx] at c20
        clear hN hN' hall hx hin hin' hm
        go_wp2_with fail
        refine c20.mono ?_
        rintro e w1 ⟨rfl, b1⟩
        have hb3 := nx (nx hb hb2) b1
        clear hb2 b1 c20
        cases x with
        | true =>
          go_wp2_with fail
          go_roundw
          case rel =>
            refine ⟨q + 1, by omega, by go_num, fun j h1 h2 hj => ?_, hb3⟩
            by_cases e : j = q
            · subst e
              exact HX.out
            · exact HA.out j h1 h2 (by omega)
          case measure => simp only [intOf]; omega
        | false =>
          have hR : R = false := false_of fun h => by
            have := HH.out.1 h q hlt hlt2
            rw [HX.out] at this
            cases this
          subst hR
          go_wp2_with fail
          go_ret
          exact ⟨rfl, hb3⟩
      · have hlt' : decide ((q : Int) < (L.length : Int)) = false := by simp; omega
        have hR : R = true := HH.out.2 fun j h1 h2 => hall j h1 h2 (by omega)
        subst hR
        clear hall
        go_wp2_with fail
        go_ret
        exact ⟨rfl, hb⟩
  · rw [sameL_len hne]
    have hne' : ((L.length : Int) != (M.length : Int)) = true := by simp; omega
    go_enter Tryz.func178, Tryz.ntmps178
    go_wp2_with fail
    go_ret
    exact ⟨rfl, Below.refl _ _⟩
set_option maxRecDepth 20000 in
set_option maxHeartbeats 800000 in
theorem same_of (m : Nat) (hm : ∀ (u v : Value) (L M : List C) (w : World), InL false All w m u L → InL false All w m v M →
      Calls Tryz.prog 178 #[u, v, .func (.func 146) #[] #[]] w fun e w' => e = .returned (.bool (sameL L M)) ∧ Below w.heap.size w w') : SameIs (m + 1) := by
  intro u v c d w hu hv
  obtain ⟨k, b, i, s, n, l⟩ := c
  obtain ⟨k', b', i', s', n', l'⟩ := d
  rw [in_iff] at hu hv
  obtain ⟨nv, lv, rfl, -, -, -, hn, hl⟩ := hu
  obtain ⟨nv', lv', rfl, -, -, -, hn', hl'⟩ := hv
  obtain ⟨W0, hW0⟩ : ∃ W0, (w.alloc (.cells #[.int .i64 k, .bool b, .int .i64 i, .string s, nv, lv] 26)).alloc (.cells #[.int .i64 k', .bool b', .int .i64 i', .string s', nv', lv'] 26) = W0 := ⟨_, rfl⟩
  have hb0 : Below w.heap.size w W0 := by rw [← hW0]; exact ((Below.refl _ w).alloc (Nat.le_refl _) _).alloc (by simp) _
  have hsz0 : W0.heap.size = w.heap.size + 2 := by rw [← hW0]; simp
  have hx0 : W0.heap[w.heap.size]? = some (.cells #[.int .i64 k, .bool b, .int .i64 i, .string s, nv, lv] 26) := by
    rw [← hW0, Below.heap_alloc _ _ _ (by simp), heap_alloc_new]
  have hx1 : W0.heap[w.heap.size + 1]? = some (.cells #[.int .i64 k', .bool b', .int .i64 i', .string s', nv', lv'] 26) := by
    have := heap_alloc_new (w.alloc (.cells #[.int .i64 k, .bool b, .int .i64 i, .string s, nv, lv] 26)) (.cells #[.int .i64 k', .bool b', .int .i64 i', .string s', nv', lv'] 26)
    rwa [hW0, World.size_alloc] at this
  obtain ⟨d0, d1, d2, d3, d4, d5⟩ := six_box hx0
  obtain ⟨e0, e1, e2, e3, e4, e5⟩ := six_box hx1
  by_cases hk : ¬ k = k'
  · have hk' : (k != k') = true := by simp [hk]
    have e : same (.mk k b i s n l) (.mk k' b' i' s' n' l') = false := by simp [same, hk]
    rw [e]
    clear e
    go_enter Tryz.func146, Tryz.ntmps146
    go_wp2_with fail
    go_ret
    exact ⟨rfl, hb0⟩
  have hk : k = k' := Decidable.of_not_not hk
  subst hk
  by_cases h2 : k = 2
  · subst h2
    have e : same (.mk 2 b i s n l) (.mk 2 b' i' s' n' l') = (b == b') := by simp [same]
    rw [e]
    clear e
    go_enter Tryz.func146, Tryz.ntmps146
    go_wp2_with fail
    go_ret
    exact ⟨rfl, hb0⟩
  by_cases h3 : k = 3
  · subst h3
    have e : same (.mk 3 b i s n l) (.mk 3 b' i' s' n' l') = (i == i') := by simp [same]
    rw [e]
    clear e
    go_enter Tryz.func146, Tryz.ntmps146
    go_wp2_with fail
    go_ret
    exact ⟨rfl, hb0⟩
  by_cases h4 : k = 4
  · subst h4
    have e : same (.mk 4 b i s n l) (.mk 4 b' i' s' n' l') = (s.toList == s'.toList) := by simp [same, eqB]
    rw [e]
    clear e
    go_enter Tryz.func146, Tryz.ntmps146
    go_wp2_with fail
    go_ret
    exact ⟨rfl, hb0⟩
  have h2' : (k == 2) = false := by simp [h2]
  have h3' : (k == 3) = false := by simp [h3]
  have h4' : (k == 4) = false := by simp [h4]
  by_cases h5 : k = 5
  · subst h5
    have e : same (.mk 5 b i s n l) (.mk 5 b' i' s' n' l') = sameL l l' := by simp [same]
    rw [e]
    have c42 := hm lv lv' l l' W0 (hl.below hb0) (hl'.below hb0)
    generalize sameL l l' = R at *
    clear e hm hx0 hx1
    go_enter Tryz.func146, Tryz.ntmps146
    go_wp2_with (first | (go_at_call 178; refine c42.mono ?_; rintro e w1 ⟨rfl, b1⟩))
    go_ret
    exact ⟨rfl, nx hb0 b1⟩
  have h5' : (k == 5) = false := by simp [h5]
  by_cases h6 : k = 6
  · subst h6
    have e : same (.mk 6 b i s n l) (.mk 6 b' i' s' n' l') = (eqN n n' && sameL l l') := by simp [same]
    rw [e]
    have c43 := eqT_c nv nv' n n' W0 (hn.below hb0) (hn'.below hb0)
    generalize eqN n n' = T at *
    have hm := fun w h1 h2 => hm lv lv' l l' w h1 h2
    generalize sameL l l' = R at *
    clear e
    go_enter Tryz.func146, Tryz.ntmps146
    go_wp2_with fail
    refine c43.mono ?_
    rintro e w1 ⟨rfl, b1⟩
    have k5 := (six_box ((b1.block w.heap.size (by omega)).trans hx0)).2.2.2.2.2
    have j5 := (six_box ((b1.block (w.heap.size + 1) (by omega)).trans hx1)).2.2.2.2.2
    have c42 := hm w1 ((hl.below hb0).below b1) ((hl'.below hb0).below b1)
    clear c43 hx0 hx1 hW0 hm
    cases T with
    | false =>
      go_wp2_with fail
      go_ret
      exact ⟨rfl, nx hb0 b1⟩
    | true =>
      go_wp2_with (first | (go_at_call 178; refine c42.mono ?_; rintro e w2 ⟨rfl, b2⟩))
      go_ret
      exact ⟨by simp, nx (nx hb0 b1) b2⟩
  have h6' : (k == 6) = false := by simp [h6]
  have e : same (.mk k b i s n l) (.mk k b' i' s' n' l') = true := by simp [same, h2, h3, h4, h5, h6]
  rw [e]
  clear e
  go_enter Tryz.func146, Tryz.ntmps146
  go_wp2_with fail
  go_ret
  exact ⟨rfl, hb0⟩
theorem sames : ∀ m, SameIs m := by
  intro m
  induction m with
  | zero => intro u v c d w h; rw [In] at h; exact h.elim
  | succ m ih => exact same_of m (eqF_of m ih)
theorem same_c {m m' : Nat} {u v : Value} {c d : C} {w : World} (hu : In false All w m u c) (hv : In false All w m' v d) :
    Calls Tryz.prog 146 #[u, v] w fun e w' => e = .returned (.bool (same c d)) ∧ Below w.heap.size w w' :=
  sames (max m m') u v c d w (hu.weak (fun _ h => h) false id _ (Nat.le_max_left _ _)) (hv.weak (fun _ h => h) false id _ (Nat.le_max_right _ _))
end Go.Proofs.YtpaigpijaifeoaaGreatDoor.Same

namespace Go.Proofs.YtpaigpijaifeoaaGreatDoor.VPo
open Go.RowKit Go.Proofs.YtpaigpijaifeoaaGreatDoor.Base Go.Proofs.YtpaigpijaifeoaaGreatDoor.EPure Go.Proofs.YtpaigpijaifeoaaGreatDoor.VPure Go.Proofs.YtpaigpijaifeoaaGreatDoor.VSm Go.Proofs.YtpaigpijaifeoaaGreatDoor.VIn Go.Proofs.YtpaigpijaifeoaaGreatDoor.VEx Go.Proofs.YtpaigpijaifeoaaGreatDoor.VOr
set_option linter.unusedVariables false

set_option maxRecDepth 20000 in
set_option maxHeartbeats 3200000 in
theorem pair_Less (k1 : Int) (b1 : Bool) (i1 : Int) (s1 : ByteArray) (n1 l1 : Value) (k2 : Int) (b2 : Bool) (i2 : Int) (s2 : ByteArray) (n2 l2 : Value) (w : World) :
    Calls Tryz.prog 109 #[.int .i64 23, vl k1 b1 i1 s1 n1 l1, vl k2 b2 i2 s2 n2 l2] w fun e w' => An w w' e (fun c : Bool => v0 2 c 0 ⟨#[]⟩) (bnd (ord k1 i1 s1 k2 i2 s2) fun c => .ok (decide (c < 0))) := by
  obtain ⟨W0, hW0, hs0, hb0, hp, hq, hr⟩ := two3 w #[.int .i64 k1, .bool b1, .int .i64 i1, .string s1, n1, l1] #[.int .i64 k2, .bool b2, .int .i64 i2, .string s2, n2, l2]
  have HR : Hid (W0.heap[w.heap.size + 2]? = some (.cells #[.int .i64 0, .bool false, .int .i64 0, .string ⟨#[]⟩, .slice none 0 0, .slice none 0 0] 26 (0, 0))) := hr
  have HB : Hid (Below w.heap.size w W0) := hb0
  obtain ⟨p0, p1, p2, p3, p4, p5⟩ := six_box hp
  obtain ⟨q0, q1, q2, q3, q4, q5⟩ := six_box hq
  have cI := order_c k1 b1 i1 s1 n1 l1 k2 b2 i2 s2 n2 l2 W0
  obtain ⟨U, hU⟩ : ∃ U, ord k1 i1 s1 k2 i2 s2 = U := ⟨_, rfl⟩
  rw [hU] at cI ⊢
  clear hp hq hb0 hr hU
  go_enter Tryz.func109, Tryz.ntmps109
  go_upto_if 39 with fail
  refine wp_cond_true (by rfl) ?_
  refine wp_exit ?_
  repeat (first | (with_reducible refine ex_then ?_) | (with_reducible refine ex_skip (by decide) ?_))
  refine ex_hit ?_
  refine ex_norm ?_
  apply_assumption
  refine wp_mono (Q := Out ?outB) ?outM (out_mono ?outR ?outP)
  case outR => intro a w h; (repeat (first | (with_reducible refine rt_then ?_) | (with_reducible refine rt_blk ?_))); exact h
  case outP => intro c a w h; (repeat (first | (with_reducible refine pn_then ?_) | (with_reducible refine pn_blk ?_))); exact h
  try simp only [hW0]
  go_wp2_with fail
  try rw [hW0]
  refine cI.mono ?_
  intro e W1 hA
  clear cI
  cases U with
  | error c =>
    obtain ⟨rfl, hb1⟩ := hA
    exact ⟨rfl, rfl, HB.out.trans (hb1.mono HB.out.size)⟩
  | ok c =>
    obtain ⟨rfl, hb1⟩ := hA
    have HR1 : Hid (W1.heap[w.heap.size + 2]? = some (.cells #[.int .i64 0, .bool false, .int .i64 0, .string ⟨#[]⟩, .slice none 0 0, .slice none 0 0] 26 (0, 0))) := (hb1.block (w.heap.size + 2) (by omega)).trans HR.out
    have hs1 := hb1.size
    have HB1 : Hid (Below w.heap.size w W1) := HB.out.trans (hb1.mono HB.out.size)
    clear hb1 HR HB p0 p1 p2 p3 p4 p5 q0 q1 q2 q3 q4 q5
    obtain ⟨B, hB⟩ : ∃ B, decide (c < 0) = B := ⟨_, rfl⟩
    have cT := truth_c B
    go_wp2_with fail
    refine (cT _).mono ?_
    rintro e W2 ⟨rfl, hb2⟩
    clear cT
    have hr := (hb2.block (w.heap.size + 2) (by omega)).trans HR1.out
    have HB2 : Hid (Below w.heap.size w W2) := HB1.out.trans (hb2.mono HB1.out.size)
    clear hb2 HB1 HR1
    obtain ⟨r0, r1, r2, r3, r4, r5⟩ := six_box hr
    have rf0 := frozen_box hr 0
    have rf1 := frozen_box hr 1
    have rf2 := frozen_box hr 2
    have rf3 := frozen_box hr 3
    have rf4 := frozen_box hr 4
    have rf5 := frozen_box hr 5
    go_wp2_with fail
    obtain ⟨W9, hW9⟩ : ∃ W9, ((((((W2.setCell ⟨w.heap.size + 2, 0, none⟩ (.int .i64 2)).setCell ⟨w.heap.size + 2, 1, none⟩ (.bool B)).setCell ⟨w.heap.size + 2, 2, none⟩ (.int .i64 0)).setCell ⟨w.heap.size + 2, 3, none⟩ (.string ⟨#[]⟩)).setCell ⟨w.heap.size + 2, 4, none⟩ (.slice none 0 0)).setCell ⟨w.heap.size + 2, 5, none⟩ (.slice none 0 0)) = W9 := ⟨_, rfl⟩
    rw [hW9]
    obtain ⟨q1, q2, q3, q4⟩ := set6 _ _ _ _ _ _ hr hW9
    first | refine out_ret (results_cell_row rfl _ W9 (w.heap.size + 2) 26 _ (0, 0) _ rfl q1 Tryz.underlying26 rfl (by kernel_rfl)) rfl ?_ | refine bodyPost_ret (results_cell_row rfl _ W9 (w.heap.size + 2) 26 _ (0, 0) _ rfl q1 Tryz.underlying26 rfl (by kernel_rfl)) rfl ?_
    try subst hB
    exact ⟨rfl, q4 _ _ (by omega) HB2.out⟩
set_option maxRecDepth 20000 in
set_option maxHeartbeats 3200000 in
theorem pair_Most (k1 : Int) (b1 : Bool) (i1 : Int) (s1 : ByteArray) (n1 l1 : Value) (k2 : Int) (b2 : Bool) (i2 : Int) (s2 : ByteArray) (n2 l2 : Value) (w : World) :
    Calls Tryz.prog 109 #[.int .i64 24, vl k1 b1 i1 s1 n1 l1, vl k2 b2 i2 s2 n2 l2] w fun e w' => An w w' e (fun c : Bool => v0 2 c 0 ⟨#[]⟩) (bnd (ord k1 i1 s1 k2 i2 s2) fun c => .ok (decide (c ≤ 0))) := by
  obtain ⟨W0, hW0, hs0, hb0, hp, hq, hr⟩ := two3 w #[.int .i64 k1, .bool b1, .int .i64 i1, .string s1, n1, l1] #[.int .i64 k2, .bool b2, .int .i64 i2, .string s2, n2, l2]
  have HR : Hid (W0.heap[w.heap.size + 2]? = some (.cells #[.int .i64 0, .bool false, .int .i64 0, .string ⟨#[]⟩, .slice none 0 0, .slice none 0 0] 26 (0, 0))) := hr
  have HB : Hid (Below w.heap.size w W0) := hb0
  obtain ⟨p0, p1, p2, p3, p4, p5⟩ := six_box hp
  obtain ⟨q0, q1, q2, q3, q4, q5⟩ := six_box hq
  have cI := order_c k1 b1 i1 s1 n1 l1 k2 b2 i2 s2 n2 l2 W0
  obtain ⟨U, hU⟩ : ∃ U, ord k1 i1 s1 k2 i2 s2 = U := ⟨_, rfl⟩
  rw [hU] at cI ⊢
  clear hp hq hb0 hr hU
  go_enter Tryz.func109, Tryz.ntmps109
  go_upto_if 43 with fail
  refine wp_cond_true (by rfl) ?_
  refine wp_exit ?_
  repeat (first | (with_reducible refine ex_then ?_) | (with_reducible refine ex_skip (by decide) ?_))
  refine ex_hit ?_
  refine ex_norm ?_
  apply_assumption
  refine wp_mono (Q := Out ?outB) ?outM (out_mono ?outR ?outP)
  case outR => intro a w h; (repeat (first | (with_reducible refine rt_then ?_) | (with_reducible refine rt_blk ?_))); exact h
  case outP => intro c a w h; (repeat (first | (with_reducible refine pn_then ?_) | (with_reducible refine pn_blk ?_))); exact h
  try simp only [hW0]
  go_wp2_with fail
  try rw [hW0]
  refine cI.mono ?_
  intro e W1 hA
  clear cI
  cases U with
  | error c =>
    obtain ⟨rfl, hb1⟩ := hA
    exact ⟨rfl, rfl, HB.out.trans (hb1.mono HB.out.size)⟩
  | ok c =>
    obtain ⟨rfl, hb1⟩ := hA
    have HR1 : Hid (W1.heap[w.heap.size + 2]? = some (.cells #[.int .i64 0, .bool false, .int .i64 0, .string ⟨#[]⟩, .slice none 0 0, .slice none 0 0] 26 (0, 0))) := (hb1.block (w.heap.size + 2) (by omega)).trans HR.out
    have hs1 := hb1.size
    have HB1 : Hid (Below w.heap.size w W1) := HB.out.trans (hb1.mono HB.out.size)
    clear hb1 HR HB p0 p1 p2 p3 p4 p5 q0 q1 q2 q3 q4 q5
    obtain ⟨B, hB⟩ : ∃ B, decide (c ≤ 0) = B := ⟨_, rfl⟩
    have cT := truth_c B
    go_wp2_with fail
    refine (cT _).mono ?_
    rintro e W2 ⟨rfl, hb2⟩
    clear cT
    have hr := (hb2.block (w.heap.size + 2) (by omega)).trans HR1.out
    have HB2 : Hid (Below w.heap.size w W2) := HB1.out.trans (hb2.mono HB1.out.size)
    clear hb2 HB1 HR1
    obtain ⟨r0, r1, r2, r3, r4, r5⟩ := six_box hr
    have rf0 := frozen_box hr 0
    have rf1 := frozen_box hr 1
    have rf2 := frozen_box hr 2
    have rf3 := frozen_box hr 3
    have rf4 := frozen_box hr 4
    have rf5 := frozen_box hr 5
    go_wp2_with fail
    obtain ⟨W9, hW9⟩ : ∃ W9, ((((((W2.setCell ⟨w.heap.size + 2, 0, none⟩ (.int .i64 2)).setCell ⟨w.heap.size + 2, 1, none⟩ (.bool B)).setCell ⟨w.heap.size + 2, 2, none⟩ (.int .i64 0)).setCell ⟨w.heap.size + 2, 3, none⟩ (.string ⟨#[]⟩)).setCell ⟨w.heap.size + 2, 4, none⟩ (.slice none 0 0)).setCell ⟨w.heap.size + 2, 5, none⟩ (.slice none 0 0)) = W9 := ⟨_, rfl⟩
    rw [hW9]
    obtain ⟨q1, q2, q3, q4⟩ := set6 _ _ _ _ _ _ hr hW9
    first | refine out_ret (results_cell_row rfl _ W9 (w.heap.size + 2) 26 _ (0, 0) _ rfl q1 Tryz.underlying26 rfl (by kernel_rfl)) rfl ?_ | refine bodyPost_ret (results_cell_row rfl _ W9 (w.heap.size + 2) 26 _ (0, 0) _ rfl q1 Tryz.underlying26 rfl (by kernel_rfl)) rfl ?_
    try subst hB
    exact ⟨rfl, q4 _ _ (by omega) HB2.out⟩
end Go.Proofs.YtpaigpijaifeoaaGreatDoor.VPo

namespace Go.Proofs.YtpaigpijaifeoaaGreatDoor.VPm
open Go.RowKit Go.Proofs.YtpaigpijaifeoaaGreatDoor.Base Go.Proofs.YtpaigpijaifeoaaGreatDoor.EPure Go.Proofs.YtpaigpijaifeoaaGreatDoor.VPure Go.Proofs.YtpaigpijaifeoaaGreatDoor.VSm Go.Proofs.YtpaigpijaifeoaaGreatDoor.VIn Go.Proofs.YtpaigpijaifeoaaGreatDoor.VJn Go.Proofs.YtpaigpijaifeoaaGreatDoor.VRs Go.Proofs.YtpaigpijaifeoaaGreatDoor.VPk
set_option linter.unusedVariables false

theorem an_boo {K m : Nat} {w w' : World} {e : Ending} {x : Except Nat Int} {f : Int → Bool} (h : An w w' e (fun c : Bool => v0 2 c 0 ⟨#[]⟩) (bnd x fun c => .ok (f c))) : VR K (m + 1) w (bnd x fun c => .ok (booC (f c))) e w' := by
  cases x with
  | error c => exact ⟨h.2, h.1⟩
  | ok c => exact ⟨h.2, _, h.1, in_boo _ _ _ _⟩
theorem pair23 : PairOk 23 := by
  intro K m w va vb a b hK hT hva hvb hwf
  obtain ⟨an, ln, cn, al, ll, cl, rfl⟩ := in_shape hva
  obtain ⟨bn, mn, dn, bl, ml, dl, rfl⟩ := in_shape hvb
  exact (VPo.pair_Less _ _ _ _ _ _ _ _ _ _ _ _ w).mono fun e w' h => an_boo h
theorem pair24 : PairOk 24 := by
  intro K m w va vb a b hK hT hva hvb hwf
  obtain ⟨an, ln, cn, al, ll, cl, rfl⟩ := in_shape hva
  obtain ⟨bn, mn, dn, bl, ml, dl, rfl⟩ := in_shape hvb
  exact (VPo.pair_Most _ _ _ _ _ _ _ _ _ _ _ _ w).mono fun e w' h => an_boo h
theorem pair25 : PairOk 25 := by
  intro K m w va vb a b hK hT hva hvb hwf
  obtain ⟨an, ln, cn, al, ll, cl, rfl⟩ := in_shape hva
  obtain ⟨bn, mn, dn, bl, ml, dl, rfl⟩ := in_shape hvb
  exact (VPq.pair_More _ _ _ _ _ _ _ _ _ _ _ _ _ _ _ _ _ _ _ _ w).mono fun e w' h => an_boo h
theorem pair26 : PairOk 26 := by
  intro K m w va vb a b hK hT hva hvb hwf
  obtain ⟨an, ln, cn, al, ll, cl, rfl⟩ := in_shape hva
  obtain ⟨bn, mn, dn, bl, ml, dl, rfl⟩ := in_shape hvb
  exact (VPq.pair_Least _ _ _ _ _ _ _ _ _ _ _ _ _ _ _ _ _ _ _ _ w).mono fun e w' h => an_boo h
theorem in_any {K m : Nat} {w : World} {v : Value} {c : C} (h : Base.In false (fun b => b < K) w m v c) : Base.In false All w m v c := h.weak (fun _ _ => trivial) false id _ (Nat.le_refl _)
theorem pair27 : PairOk 27 := by
  intro K m w va vb a b hK hT hva hvb hwf
  obtain ⟨an, ln, cn, al, ll, cl, rfl⟩ := in_shape hva
  obtain ⟨bn, mn, dn, bl, ml, dl, rfl⟩ := in_shape hvb
  exact (VPs.pair_Same _ _ _ _ _ _ _ _ _ _ _ _ w (Eq.same a b) fun W hW => Same.same_c ((in_any hva).below hW) ((in_any hvb).below hW)).mono fun e w' h => ⟨h.2, _, h.1, in_boo _ _ _ _⟩
theorem pair28 : PairOk 28 := by
  intro K m w va vb a b hK hT hva hvb hwf
  obtain ⟨an, ln, cn, al, ll, cl, rfl⟩ := in_shape hva
  obtain ⟨bn, mn, dn, bl, ml, dl, rfl⟩ := in_shape hvb
  exact (VPs.pair_Other _ _ _ _ _ _ _ _ _ _ _ _ w (Eq.same a b) fun W hW => Same.same_c ((in_any hva).below hW) ((in_any hvb).below hW)).mono fun e w' h => ⟨h.2, _, h.1, in_boo _ _ _ _⟩
theorem pair10 : PairOk 10 := by
  intro K m w va vb a b hK hT hva hvb hwf
  obtain ⟨an, ln, cn, al, ll, cl, rfl⟩ := in_shape hva
  obtain ⟨bn, mn, dn, bl, ml, dl, rfl⟩ := in_shape hvb
  have ha := in_rng hva
  refine (VNg.pair_Neg _ _ _ _ _ _ _ _ _ _ _ _ _ _ _ _ _ _ _ _ w (wh 16 0 a.i).1 (wh 16 0 a.i).2 (fun _ W => ?_)).mono ?_
  · exact WhA.sub 0 a.i (by omega) (by omega) ha.1 ha.2 W
  · intro e w' h
    exact an_vr (fun c hc => by rw [tw_ok hc]; exact wh_rng (by decide)) h
theorem pair7 : PairOk 7 := by
  intro K m w va vb a b hK hT hva hvb hwf
  exact VPt.pair7 hK hva hvb hwf.1
theorem pair8 : PairOk 8 := by
  intro K m w va vb a b hK hT hva hvb hwf
  exact VPt.pair8 hK hva hvb hwf.1
theorem pair11 : PairOk 11 := by
  intro K m w va vb a b hK hT hva hvb hwf
  obtain ⟨an, ln, cn, al, ll, cl, rfl⟩ := in_shape hva
  obtain ⟨bn, mn, dn, bl, ml, dl, rfl⟩ := in_shape hvb
  refine (VBi.pair_11 _ _ _ _ _ _ _ _ _ _ _ _ w).mono fun e w' h => ?_
  have h : An w w' e (fun c : Bool => v0 2 c 0 ⟨#[]⟩) (notT a.k a.b) := h
  show VR K (m + 1) w (mapB (notT a.k a.b)) e w'
  revert h
  generalize notT a.k a.b = x
  intro h
  cases x with
  | error c => exact ⟨h.2, h.1⟩
  | ok c => exact ⟨h.2, _, h.1, in_boo _ _ _ _⟩
theorem tx_ok {k1 k2 x c : Int} (h : twX k1 k2 x = .ok c) : c = x := by
  unfold twX at h
  by_cases h1 : k1 = 3
  · rw [if_pos h1] at h
    by_cases h2 : k2 = 3
    · rw [if_pos h2] at h; injection h with h; exact h.symm
    · rw [if_neg h2] at h; cases h
  · rw [if_neg h1] at h; cases h
theorem pair20 : PairOk 20 := by
  intro K m w va vb a b hK hT hva hvb hwf
  obtain ⟨an, ln, cn, al, ll, cl, rfl⟩ := in_shape hva
  obtain ⟨bn, mn, dn, bl, ml, dl, rfl⟩ := in_shape hvb
  exact (VBi.pair_20 _ _ _ _ _ _ _ _ _ _ _ _ w).mono fun e w' h => an_vr (fun c hc => by rw [tx_ok hc]; exact VBi.bit_rng _ _ _) h
theorem pair21 : PairOk 21 := by
  intro K m w va vb a b hK hT hva hvb hwf
  obtain ⟨an, ln, cn, al, ll, cl, rfl⟩ := in_shape hva
  obtain ⟨bn, mn, dn, bl, ml, dl, rfl⟩ := in_shape hvb
  exact (VBi.pair_21 _ _ _ _ _ _ _ _ _ _ _ _ w).mono fun e w' h => an_vr (fun c hc => by rw [tx_ok hc]; exact VBi.bit_rng _ _ _) h
theorem pair22 : PairOk 22 := by
  intro K m w va vb a b hK hT hva hvb hwf
  obtain ⟨an, ln, cn, al, ll, cl, rfl⟩ := in_shape hva
  obtain ⟨bn, mn, dn, bl, ml, dl, rfl⟩ := in_shape hvb
  exact (VBi.pair_22 _ _ _ _ _ _ _ _ _ _ _ _ w).mono fun e w' h => an_vr (fun c hc => by rw [tx_ok hc]; exact VBi.bit_rng _ _ _) h
/-- At a call's numbers. -/
theorem pair9 : PairOk 9 := by
  intro K m w va vb a b hK hT hva hvb hwf
  show Calls Tryz.prog 109 #[.int .i64 9, va, vb] w fun e w' => VR K (m + 1) w (cal a b.i) e w'
  have ha := in_any hva
  have hs := ha.shape
  obtain ⟨m', nv, lv, -, rfl, -, hir, hsz, hn1, hl1⟩ := hva.shape
  obtain ⟨an, cn, rfl, -⟩ := hn1.out
  obtain ⟨al, cl, rfl, -, -, hl, -⟩ := hl1.out
  obtain ⟨bn, mn, dn, bl, ml, dl, rfl⟩ := in_shape hvb
  obtain ⟨k2, b2, i2, s2, n2, l2⟩ := b
  simp only [C.k, C.b, C.i, C.s]
  have tI : ∀ n : Int, ∀ c, tunI n a.k a.i = .ok c → -9223372036854775808 ≤ c ∧ c ≤ 9223372036854775807 := fun n c hc => by
    unfold tunI at hc
    by_cases h : a.k = 3
    · rw [if_pos h] at hc; injection hc with hc; rw [← hc]; exact VTo.tun_rng _ _
    · rw [if_neg h] at hc; cases hc
  by_cases g1 : i2 = 1
  · subst g1
    refine (VCa.pair_9i _ _ _ _ _ _ _ _ _ _ _ _ w (lenI a.k a.s a.l.length) (fun W _ => VCa.call_1 _ _ _ _ _ _ _ _ _ _ _ _ _ _ _ _ _ _ _ W)).mono fun e w' h => an_vr (fun c hc => ?_) h
    unfold lenI at hc
    by_cases h4 : a.k = 4
    · rw [if_pos h4] at hc; injection hc with hc; omega
    · rw [if_neg h4] at hc
      by_cases h5 : a.k = 5 ∨ a.k = 6
      · rw [if_pos h5] at hc; injection hc with hc; omega
      · rw [if_neg h5] at hc; cases hc
  by_cases g2 : i2 = 2
  · subst g2
    refine (VCa.pair_9s _ _ _ _ _ _ _ _ _ _ _ _ w (txt a) (fun W hW => VCa.call_2 _ _ _ _ _ _ _ _ _ _ _ _ _ _ _ _ _ _ _ W (ha.below hW) (hT.below hW))).mono fun e w' h => ?_
    have hle : ∀ x, txt a = .ok x → x.size ≤ 140737488351232 := fun x hx => txt_le ha hx
    show VR K (m + 1) w (mapS (txt a)) e w'
    revert h hle
    generalize txt a = x
    intro h hle
    cases x with
    | error c => exact ⟨h.2, h.1⟩
    | ok c => exact ⟨h.2, _, h.1, in_str _ _ _ (hle c rfl)⟩
  by_cases g3 : i2 = 3
  · subst g3
    exact (VCa.pair_9i _ _ _ _ _ _ _ _ _ _ _ _ w (tunI 3 a.k a.i) (fun W _ => VCa.call_3 _ _ _ _ _ _ _ _ _ _ _ _ _ _ _ _ _ _ _ W)).mono fun e w' h => an_vr (tI 3) h
  by_cases g4 : i2 = 4
  · subst g4
    exact (VCa.pair_9i _ _ _ _ _ _ _ _ _ _ _ _ w (tunI 4 a.k a.i) (fun W _ => VCa.call_4 _ _ _ _ _ _ _ _ _ _ _ _ _ _ _ _ _ _ _ W)).mono fun e w' h => an_vr (tI 4) h
  by_cases g5 : i2 = 5
  · subst g5
    exact (VCa.pair_9i _ _ _ _ _ _ _ _ _ _ _ _ w (tunI 5 a.k a.i) (fun W _ => VCa.call_5 _ _ _ _ _ _ _ _ _ _ _ _ _ _ _ _ _ _ _ W)).mono fun e w' h => an_vr (tI 5) h
  by_cases g6 : i2 = 6
  · subst g6
    exact (VCa.pair_9i _ _ _ _ _ _ _ _ _ _ _ _ w (tunI 6 a.k a.i) (fun W _ => VCa.call_6 _ _ _ _ _ _ _ _ _ _ _ _ _ _ _ _ _ _ _ W)).mono fun e w' h => an_vr (tI 6) h
  by_cases g7 : i2 = 7
  · subst g7
    exact (VCa.pair_9i _ _ _ _ _ _ _ _ _ _ _ _ w (tunI 7 a.k a.i) (fun W _ => VCa.call_7 _ _ _ _ _ _ _ _ _ _ _ _ _ _ _ _ _ _ _ W)).mono fun e w' h => an_vr (tI 7) h
  have et : tunI 8 a.k a.i = tunI i2 a.k a.i := by
    unfold tunI tun
    rw [if_neg g3, if_neg g4, if_neg g5, if_neg g6, if_neg g7]
    rfl
  have ec : cal a i2 = mapI (tunI i2 a.k a.i) := by unfold cal; rw [if_neg g1, if_neg g2]
  rw [ec, ← et]
  exact (VCa.pair_9i _ _ _ _ _ _ _ _ _ _ _ _ w (tunI 8 a.k a.i) (fun W _ => VCa.call_8 _ _ _ _ _ _ _ _ _ _ _ _ _ _ _ _ _ _ _ _ W g1 g2 g3 g4 g5 g6 g7)).mono fun e w' h => an_vr (tI 8) h
end Go.Proofs.YtpaigpijaifeoaaGreatDoor.VPm

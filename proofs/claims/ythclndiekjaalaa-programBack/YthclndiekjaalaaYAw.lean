/- awake. -/
import Derived.Test.YthclndiekjaalaaYEn
import Derived.Test.YthclndiekjaalaaYAk
import Derived.Test.YthclndiekjaalaaYDc
import Derived.Test.YthclndiekjaalaaUSmall
namespace Go.Proofs.Ythclndiekjaalaa.YEd
open Go.RowKit Go.Proofs.Ythclndiekjaalaa.Leb Go.Proofs.Ythclndiekjaalaa.YPl Go.Proofs.Ythclndiekjaalaa.YWr Go.Proofs.Ythclndiekjaalaa.YWo Go.Proofs.Ythclndiekjaalaa.YRr Go.Proofs.Ythclndiekjaalaa.YTr Go.Proofs.Ythclndiekjaalaa.YEn
set_option linter.unusedVariables false

/-- What Encode answers. -/
def EA (a : Except Nat By) (w : World) (e : Ending) (w' : World) : Prop := Below w.heap.size w w' ∧ match a with
  | .ok X => ∃ p n c, e = .returned (.tuple #[.slice p n c, .int .i64 0]) ∧ Own w' w.heap.size (.slice p n c) X
  | .error q => e = .returned (.tuple #[.slice none 0 0, .int .i64 (q : Nat)])
set_option maxRecDepth 20000 in
set_option maxHeartbeats 3200000 in
theorem encode_c {K m : Nat} {w : World} {v : Value} (x : Pg) (hI : InPg K m w v x) (hK : K ≤ w.heap.size) :
    Calls Try.prog 9 #[v] w fun e w' => EA (enc x) w e w' := by
  have hmf : ∀ (fn : Fn) (first cap : Array Value) (w : World), (Instr.makeFunc fn first cap).run Try.prog w = .ok (.func fn first cap) w := fun _ _ _ _ => rfl
  have hI0 := hI
  obtain ⟨a, n1, c1, b, n2, c2, c, n3, c3, d, n4, c4, rfl, -⟩ := hI0
  obtain ⟨W0, hW0⟩ : ∃ W, w.alloc (.cells #[.slice a n1 c1, .slice b n2 c2, .slice c n3 c3, .slice d n4 c4] 27) = W := ⟨_, rfl⟩
  have b0 : Below w.heap.size w W0 := by rw [← hW0]; exact (Below.refl _ w).alloc (Nat.le_refl _) _
  have s0 : w.heap.size < W0.heap.size := by rw [← hW0]; simp
  have g0 : W0.heap[w.heap.size]? = some (.cells #[.slice a n1 c1, .slice b n2 c2, .slice c n3 c3, .slice d n4 c4] 27 (0, 0)) := by rw [← hW0]; exact heap_alloc_new w _
  have cC := caught_c (X := w.heap.size) (w := W0) (a := enc x) fun W hb => clos_c ((hb.block _ s0).trans g0) ((hI.below (b0.mono hK)).below (hb.mono (by have := b0.size; omega))) (by have := b0.size; have := hb.size; omega)
  have HB0 : Hid _ := b0
  clear hI b0 g0
  go_enter Try.func9, Try.ntmps9
  go_wp2_with fail
  try rw [hW0]
  refine cC.mono ?_
  rintro e W1 ⟨b1, hA⟩
  have HB1 : Hid (Below w.heap.size w W1) := HB0.out.trans (b1.mono HB0.out.size)
  have HS1 : Hid (w.heap.size ≤ W0.heap.size) := Nat.le_of_lt s0
  clear cC b1 hW0
  cases hE : enc x with
  | error q =>
    rw [hE] at hA
    obtain rfl := hA
    go_wp2_with fail
    go_region
    go_wp2_with fail
    go_ret2
    rw [hE]
    exact ⟨(HB1.out.alloc HB1.out.size _).drew, rfl⟩
  | ok Y =>
    rw [hE] at hA
    obtain ⟨p, n, c, rfl, ho⟩ := hA
    have HO : Hid _ := ho
    clear ho
    go_wp2_with fail
    go_region
    go_wp2_with fail
    go_ret2
    rw [hE]
    exact ⟨(HB1.out.alloc HB1.out.size _).drew, _, _, _, rfl, YWr.own_below (YWr.own_low HO.out HS1.out) ((Below.refl _ _).alloc (Nat.le_refl _) _).drew⟩
end Go.Proofs.Ythclndiekjaalaa.YEd

namespace Go.Proofs.Ythclndiekjaalaa.YAw
open Go.RowKit Go.Proofs.Ythclndiekjaalaa.Leb Go.Proofs.Ythclndiekjaalaa.YPl Go.Proofs.Ythclndiekjaalaa.YRd Go.Proofs.Ythclndiekjaalaa.YWr Go.Proofs.Ythclndiekjaalaa.YRr Go.Proofs.Ythclndiekjaalaa.YRs Go.Proofs.Ythclndiekjaalaa.YRb Go.Proofs.Ythclndiekjaalaa.YRl Go.Proofs.Ythclndiekjaalaa.YRp Go.Proofs.Ythclndiekjaalaa.YDe Go.Proofs.Ythclndiekjaalaa.YDf Go.Proofs.Ythclndiekjaalaa.YAk
set_option linter.unusedVariables false

theorem inpg0 (w : World) : YEn.InPg 0 0 w p0 ⟨[], [], [], []⟩ :=
  ⟨_, _, _, _, _, _, _, _, _, _, _, _, rfl, ⟨none, 0, rfl, by simp, by omega, by simp, fun _ => rfl, .inl rfl⟩, ⟨none, 0, rfl, by simp, by omega, by simp, fun _ => rfl, .inl rfl⟩, ⟨none, 0, rfl, by simp, by omega, by simp, fun _ => rfl, .inl ⟨rfl, rfl⟩⟩, ⟨none, 0, rfl, by simp, by omega, by simp, fun _ => rfl, .inl rfl⟩⟩
theorem own_lit (w : World) (L : By) (hl : L.length ≤ 4096) : Own (w.alloc (.cells (cellsL L).toArray 5)) w.heap.size (.slice (some ⟨w.heap.size, 0, none⟩) L.length L.length) L :=
  ⟨by simp [cellsL_length], .inr ⟨w.heap.size, L.length, (cellsL L).toArray, rfl, Nat.le_refl _, heap_alloc_new w _, Nat.le_refl _, by unfold maxLen; omega, by simp [cellsL_length], by simpa [cellsL_length] using List.take_of_length_le (by rw [cellsL_length]; omega)⟩⟩
set_option maxRecDepth 20000 in
set_option maxHeartbeats 1600000 in
theorem texts_a {w : World} {g o g2 cap cap2 : Nat} (h1 : w.cell? ⟨g, o, none⟩ = some (.string ⟨#[97]⟩)) (h2 : w.cell? ⟨g2, 0, none⟩ = some (.string ⟨#[97]⟩)) (hc : 1 ≤ cap) :
    Calls Try.prog 18 #[.slice (some ⟨g, o, none⟩) 1 cap, .slice (some ⟨g2, 0, none⟩) 1 cap2] w fun e w' => e = .returned (.bool true) ∧ Below w.heap.size w w' := by
  go_enter Try.func18, Try.ntmps18
  go_wp2_with fail
  go_loopw [5] (fun i wr => (i = .int .i64 0 ∧ wr = w) ∨ (i = .int .i64 1 ∧ ∃ k, wr = w.drewN k)) (fun i _ => 1 - (intOf i).toNat)
  case atStart => exact .inl ⟨rfl, rfl⟩
  case round =>
    rcases hrel with ⟨rfl, rfl⟩ | ⟨rfl, k, rfl⟩
    · go_wp2_with fail
      go_quiet (fail)
      go_wp2_with fail
      go_roundw
      case rel => exact .inr ⟨rfl, _, rfl⟩
      case measure => decide
    · go_wp2_with fail
      go_ret
      exact ⟨rfl, TAttrs.drewN_below (Below.refl _ _) _⟩
theorem below_own {w w' : World} {B : Nat} {v : Value} {L : By} (h : Own w B v L) (hb : Below w.heap.size w w') : Own w' B v L := YWr.own_below h hb
set_option maxRecDepth 20000 in
set_option maxHeartbeats 6400000 in
theorem awake_c (w : World) : Calls Try.prog 7 #[] w fun e w' => e = .returned (.bool true) ∧ Below w.heap.size w w' := by
  have cE := YEd.encode_c (w := w) ⟨[], [], [], []⟩ (inpg0 w) (Nat.zero_le _)
  rw [enc_0] at cE
  have cN : ∀ (x : Int) (W : World), Calls Try.prog 10 #[.int .i64 x] W fun e w' => e = .returned (.int .i64 x) ∧ w' = W := fun x W => num_c x W
  go_enter Try.func7, Try.ntmps7
  go_wp2_with fail
  refine cE.mono ?_
  rintro e W1 ⟨b1, pa, pn, pc, rfl, ho⟩
  have HO : Hid (Own W1 w.heap.size (.slice pa pn pc) [1, 0, 0, 0, 0]) := ho
  have HB1 : Hid (Below w.heap.size w W1) := b1
  clear cE ho b1
  obtain ⟨W2, hW2⟩ : ∃ W, W1.alloc (.cells #[.int .u8 1, .int .u8 0, .int .u8 0, .int .u8 0] 5) = W := ⟨_, rfl⟩
  have b2 : Below W1.heap.size W1 W2 := by rw [← hW2]; exact (Below.refl _ W1).alloc (Nat.le_refl _) _
  have s2 : W1.heap.size < W2.heap.size := by rw [← hW2]; simp
  have o2 : Own W2 W1.heap.size (.slice (some ⟨W1.heap.size, 0, none⟩) 4 4) [1, 0, 0, 0] := by rw [← hW2]; exact own_lit W1 [1, 0, 0, 0] (by simp)
  have cD := YDc.decode_c o2.seen (fun g hg => by cases hg; exact s2)
  rw [dec_4] at cD
  have HB2 : Hid (Below W1.heap.size W1 W2) := b2
  clear b2 o2
  go_wp2_with fail
  try rw [hW2]
  refine cD.mono ?_
  rintro e W3 ⟨b3, rfl⟩
  have HB3 : Hid (Below w.heap.size w W3 ∧ Below W1.heap.size W1 W3) := ⟨HB1.out.trans ((HB2.out.trans (b3.mono HB2.out.size)).mono HB1.out.size), HB2.out.trans (b3.mono HB2.out.size)⟩
  clear cD b3 hW2
  obtain ⟨W4, hW4⟩ : ∃ W, W3.alloc (.cells #[.slice none 0 0, .slice none 0 0, .slice none 0 0, .slice none 0 0] 27) = W := ⟨_, rfl⟩
  have n4 : W4.heap[W3.heap.size]? = some (.cells #[.slice none 0 0, .slice none 0 0, .slice none 0 0, .slice none 0 0] 27 (0, 0)) := by rw [← hW4]; exact heap_alloc_new W3 _
  have hWs : (((W4.setCell ⟨W3.heap.size, 0, none⟩ (.slice none 0 0)).setCell ⟨W3.heap.size, 1, none⟩ (.slice none 0 0)).setCell ⟨W3.heap.size, 2, none⟩ (.slice none 0 0)).setCell ⟨W3.heap.size, 3, none⟩ (.slice none 0 0) = W4 := by rw [← hW4]; exact TPure.box4 _ _ _ _ _ _ _ _ _ _
  have b4 : Below W3.heap.size W3 W4 := by rw [← hW4]; exact (Below.refl _ W3).alloc (Nat.le_refl _) _
  have a0 := cell_of n4 0 _ rfl
  have a1 := cell_of n4 1 _ rfl
  have a2 := cell_of n4 2 _ rfl
  have a3 := cell_of n4 3 _ rfl
  have f0 := TBase.frozen_box n4 0
  have f1 := TBase.frozen_box n4 1
  have f2 := TBase.frozen_box n4 2
  have f3 := TBase.frozen_box n4 3
  obtain ⟨W5, hW5⟩ : ∃ W, W4.alloc (.cells #[.int .u8 1, .int .u8 1, .int .u8 1, .int .u8 97, .int .u8 0, .int .u8 0, .int .u8 0] 5) = W := ⟨_, rfl⟩
  have b5 : Below W4.heap.size W4 W5 := by rw [← hW5]; exact (Below.refl _ W4).alloc (Nat.le_refl _) _
  have s4 : W4.heap.size = W3.heap.size + 1 := by rw [← hW4]; simp
  have s5 : W4.heap.size < W5.heap.size := by rw [← hW5]; simp
  have o5 : Own W5 W4.heap.size (.slice (some ⟨W4.heap.size, 0, none⟩) 7 7) ba := by rw [← hW5]; exact own_lit W4 ba (by simp)
  have cD2 := YDc.decode_c o5.seen (fun g hg => by cases hg; exact s5)
  rw [dec_a, s4] at cD2
  have HB5 : Hid (Below W3.heap.size W3 W5) := b4.trans (b5.mono b4.size)
  clear b4 b5 o5 n4 s5
  go_wp2_with fail
  try rw [hWs]
  try rw [hW5]
  refine cD2.mono ?_
  rintro e W6 ⟨b6, v, rfl, hv⟩
  obtain ⟨t0, tn, tc, x0, xn, xc, y0, yn, yc, z0, zn, zc, rfl, hT, -⟩ := hv
  obtain ⟨ta, cap, hte, hc1, -, -, -, hrow⟩ := hT
  cases hte
  rcases hrow with h0 | ⟨g, o, rfl, -, hcell⟩
  · cases h0
  have hcl : W6.cell? ⟨g, o, none⟩ = some (.string ⟨#[97]⟩) := (hcell 0 (by simp)).1
  have HB6 : Hid (Below w.heap.size w W6 ∧ Below W1.heap.size W1 W6) := by
    have k := HB5.out.trans (b6.mono HB5.out.size)
    have l3 := HB3.out.1.size
    have l31 := HB3.out.2.size
    exact ⟨HB3.out.1.trans (k.mono l3), HB3.out.2.trans (k.mono l31)⟩
  clear cD2 b6 hcell hW5 hWs hW4 a0 a1 a2 a3 f0 f1 f2 f3
  obtain ⟨Wz, hWz⟩ : ∃ W, W6.alloc (.cells #[.slice none 0 0, .slice none 0 0, .slice none 0 0, .slice none 0 0] 27) = W := ⟨_, rfl⟩
  obtain ⟨W7, hW7⟩ : ∃ W, W6.alloc (.cells #[.slice (some ⟨g, o, none⟩) 1 tc, .slice x0 xn xc, .slice y0 yn yc, .slice z0 zn zc] 27) = W := ⟨_, rfl⟩
  have nz : Wz.heap[W6.heap.size]? = some (.cells #[.slice none 0 0, .slice none 0 0, .slice none 0 0, .slice none 0 0] 27 (0, 0)) := by rw [← hWz]; exact heap_alloc_new W6 _
  have hWs : (((Wz.setCell ⟨W6.heap.size, 0, none⟩ (.slice (some ⟨g, o, none⟩) 1 tc)).setCell ⟨W6.heap.size, 1, none⟩ (.slice x0 xn xc)).setCell ⟨W6.heap.size, 2, none⟩ (.slice y0 yn yc)).setCell ⟨W6.heap.size, 3, none⟩ (.slice z0 zn zc) = W7 := by rw [← hWz, ← hW7]; exact TPure.box4 _ _ _ _ _ _ _ _ _ _
  have n7 : W7.heap[W6.heap.size]? = some (.cells #[.slice (some ⟨g, o, none⟩) 1 tc, .slice x0 xn xc, .slice y0 yn yc, .slice z0 zn zc] 27 (0, 0)) := by rw [← hW7]; exact heap_alloc_new W6 _
  have b7 : Below W6.heap.size W6 W7 := by rw [← hW7]; exact (Below.refl _ W6).alloc (Nat.le_refl _) _
  have s7 : W7.heap.size = W6.heap.size + 1 := by rw [← hW7]; simp
  have a0 := cell_of nz 0 _ rfl
  have a1 := cell_of nz 1 _ rfl
  have a2 := cell_of nz 2 _ rfl
  have a3 := cell_of nz 3 _ rfl
  have f0 := TBase.frozen_box nz 0
  have f1 := TBase.frozen_box nz 1
  have f2 := TBase.frozen_box nz 2
  have f3 := TBase.frozen_box nz 3
  obtain ⟨W8, hW8⟩ : ∃ W, W7.alloc (.cells #[.int .u8 1, .int .u8 0, .int .u8 0, .int .u8 0, .int .u8 0] 5) = W := ⟨_, rfl⟩
  have b8 : Below W7.heap.size W7 W8 := by rw [← hW8]; exact (Below.refl _ W7).alloc (Nat.le_refl _) _
  have s8 : W8.heap.size = W6.heap.size + 2 := by rw [← hW8]; simp [s7]
  have o8 : Own W8 W7.heap.size (.slice (some ⟨W7.heap.size, 0, none⟩) 5 5) [1, 0, 0, 0, 0] := by rw [← hW8]; exact own_lit W7 [1, 0, 0, 0, 0] (by simp)
  have b68 : Below W6.heap.size W6 W8 := b7.trans (b8.mono b7.size)
  have ob : Own W8 w.heap.size (.slice pa pn pc) [1, 0, 0, 0, 0] := below_own HO.out (HB6.out.2.trans (b68.mono HB6.out.2.size))
  have cS := same_c _ _ _ W8 ob.seen o8.seen
  rw [s7] at cS
  obtain ⟨W9, hW9⟩ : ∃ W, W8.alloc (.cells #[.string ⟨#[97]⟩] 9) = W := ⟨_, rfl⟩
  have b9 : Below W8.heap.size W8 W9 := by rw [← hW9]; exact (Below.refl _ W8).alloc (Nat.le_refl _) _
  have n9 : W9.heap[W8.heap.size]? = some (.cells #[.string ⟨#[97]⟩] 9 (0, 0)) := by rw [← hW9]; exact heap_alloc_new W8 _
  have k8 := cell_of ((b8.block W6.heap.size (by omega)).trans n7) 0 _ rfl
  have b69 : Below W6.heap.size W6 W9 := b68.trans (b9.mono b68.size)
  have cT := texts_a (w := W9) (g := g) (o := o) (g2 := W8.heap.size) (cap := tc) (cap2 := 1) (b69.cell (block_lt_of_cell hcl) |>.trans hcl) (cell_of n9 0 _ rfl) (by simpa using hc1)
  rw [s8] at cT
  have HB9 : Hid (Below w.heap.size w W9) := HB6.out.1.trans (b69.mono HB6.out.1.size)
  clear b7 b8 b9 b68 b69 nz n7 n9 o8 ob hW7 hcl hc1
  go_wp2_with fail
  try rw [hWs]
  refine (cN _ _).mono ?_
  rintro e w9 ⟨rfl, rfl⟩
  go_wp2_with fail
  try rw [hW8]
  refine cS.mono ?_
  rintro e w9 ⟨rfl, rfl⟩
  go_wp2_with fail
  refine (cN _ _).mono ?_
  rintro e w9 ⟨rfl, rfl⟩
  go_wp2_with fail
  refine (cN _ _).mono ?_
  rintro e w9 ⟨rfl, rfl⟩
  go_wp2_with fail
  try rw [hW9]
  refine cT.mono ?_
  rintro e WE ⟨rfl, bE⟩
  go_wp2_with fail
  go_ret
  exact ⟨rfl, HB9.out.trans (bE.mono HB9.out.size)⟩
end Go.Proofs.Ythclndiekjaalaa.YAw

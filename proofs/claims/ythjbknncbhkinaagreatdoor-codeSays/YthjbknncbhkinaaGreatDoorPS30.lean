import Derived.Test.YthjbknncbhkinaaGreatDoorPS17
import Derived.Test.YthjbknncbhkinaaGreatDoorPS19
open Go.Proofs.Tryz
set_option linter.unusedVariables false
set_option maxRecDepth 100000
set_option maxHeartbeats 3200000
namespace Go.Proofs.YthjbknncbhkinaaGreatDoor.VTo
open Go.RowKit Base VPure VSm Sums
theorem tun_rng (n x : Int) : -9223372036854775808 <= tun n x /\ tun n x <= 9223372036854775807 := by
 unfold tun
 repeat' split
 all_goals omega
theorem wrap_i8 (a : Int) : IntKind.i8.wrap a = (a + 128) % 256 - 128 := by
 simp only [IntKind.wrap, IntKind.bits, IntKind.signed, Bool.true_and, decide_eq_true_eq, Nat.reduceSub, Int.reducePow, ge_iff_le]
 split <;> omega
theorem wrap_u16 (a : Int) : IntKind.u16.wrap a = a % 65536 := by
 simp [IntKind.wrap, IntKind.bits, IntKind.signed]
theorem wrap_i16 (a : Int) : IntKind.i16.wrap a = (a + 32768) % 65536 - 32768 := by
 simp only [IntKind.wrap, IntKind.bits, IntKind.signed, Bool.true_and, decide_eq_true_eq, Nat.reduceSub, Int.reducePow, ge_iff_le]
 split <;> omega
theorem w64 {a : Int} (h : -9223372036854775808 <= a /\ a <= 9223372036854775807) : wrap64 a = a := by unfold wrap64; omega
theorem to_3 (a : Int) (w : World) :
  Calls prog 134 #[.int .i64 a, .int .i64 8, .bool true] w fun e w' => e = .returned (.tuple #[.int .i64 (tun 3 a), .int .i64 0]) /\ w' = w := by
 have e : tun 3 a = (a + 128) % 256 - 128 := rfl
 rw [e]
 clear e
 go_enter func134, ntmps134
 go_wp2_with fail
 go_ret2
 exact ⟨ret2 (by first | rfl | (rw [wrap_i8, w64 (by omega)]) | (rw [wrap_i16, w64 (by omega)]) | (rw [wrap_u16, w64 (by omega)]) | (rw [wrap_i32, w64 (by omega)]) | (unfold wrap32 wrap64; omega) | (unfold wrap32; omega) | (simp only [wrap_i8, wrap_i16, wrap_u16, wrap_i32]; first | rfl | (rw [w64 (by omega)]) | (unfold wrap64; omega))) rfl, rfl⟩
theorem to_4 (a : Int) (w : World) :
  Calls prog 134 #[.int .i64 a, .int .i64 8, .bool false] w fun e w' => e = .returned (.tuple #[.int .i64 (tun 4 a), .int .i64 0]) /\ w' = w := by
 have e : tun 4 a = a % 256 := rfl
 rw [e]
 clear e
 go_enter func134, ntmps134
 go_wp2_with fail
 go_ret2
 exact ⟨ret2 (by first | rfl | (rw [wrap_i8, w64 (by omega)]) | (rw [wrap_i16, w64 (by omega)]) | (rw [wrap_u16, w64 (by omega)]) | (rw [wrap_i32, w64 (by omega)]) | (unfold wrap32 wrap64; omega) | (unfold wrap32; omega) | (simp only [wrap_i8, wrap_i16, wrap_u16, wrap_i32]; first | rfl | (rw [w64 (by omega)]) | (unfold wrap64; omega))) rfl, rfl⟩
theorem to_5 (a : Int) (w : World) :
  Calls prog 134 #[.int .i64 a, .int .i64 16, .bool true] w fun e w' => e = .returned (.tuple #[.int .i64 (tun 5 a), .int .i64 0]) /\ w' = w := by
 have e : tun 5 a = (a + 32768) % 65536 - 32768 := rfl
 rw [e]
 clear e
 go_enter func134, ntmps134
 go_wp2_with fail
 go_ret2
 exact ⟨ret2 (by first | rfl | (rw [wrap_i8, w64 (by omega)]) | (rw [wrap_i16, w64 (by omega)]) | (rw [wrap_u16, w64 (by omega)]) | (rw [wrap_i32, w64 (by omega)]) | (unfold wrap32 wrap64; omega) | (unfold wrap32; omega) | (simp only [wrap_i8, wrap_i16, wrap_u16, wrap_i32]; first | rfl | (rw [w64 (by omega)]) | (unfold wrap64; omega))) rfl, rfl⟩
theorem to_6 (a : Int) (w : World) :
  Calls prog 134 #[.int .i64 a, .int .i64 16, .bool false] w fun e w' => e = .returned (.tuple #[.int .i64 (tun 6 a), .int .i64 0]) /\ w' = w := by
 have e : tun 6 a = a % 65536 := rfl
 rw [e]
 clear e
 go_enter func134, ntmps134
 go_wp2_with fail
 go_ret2
 exact ⟨ret2 (by first | rfl | (rw [wrap_i8, w64 (by omega)]) | (rw [wrap_i16, w64 (by omega)]) | (rw [wrap_u16, w64 (by omega)]) | (rw [wrap_i32, w64 (by omega)]) | (unfold wrap32 wrap64; omega) | (unfold wrap32; omega) | (simp only [wrap_i8, wrap_i16, wrap_u16, wrap_i32]; first | rfl | (rw [w64 (by omega)]) | (unfold wrap64; omega))) rfl, rfl⟩
theorem to_7 (a : Int) (w : World) :
  Calls prog 134 #[.int .i64 a, .int .i64 32, .bool true] w fun e w' => e = .returned (.tuple #[.int .i64 (tun 7 a), .int .i64 0]) /\ w' = w := by
 have e : tun 7 a = (a + 2147483648) % 4294967296 - 2147483648 := rfl
 rw [e]
 clear e
 go_enter func134, ntmps134
 go_wp2_with fail
 go_ret2
 exact ⟨ret2 (by first | rfl | (rw [wrap_i8, w64 (by omega)]) | (rw [wrap_i16, w64 (by omega)]) | (rw [wrap_u16, w64 (by omega)]) | (rw [wrap_i32, w64 (by omega)]) | (unfold wrap32 wrap64; omega) | (unfold wrap32; omega) | (simp only [wrap_i8, wrap_i16, wrap_u16, wrap_i32]; first | rfl | (rw [w64 (by omega)]) | (unfold wrap64; omega))) rfl, rfl⟩
theorem to_8 (a : Int) (w : World) :
  Calls prog 134 #[.int .i64 a, .int .i64 32, .bool false] w fun e w' => e = .returned (.tuple #[.int .i64 (tun 8 a), .int .i64 0]) /\ w' = w := by
 have e : tun 8 a = a % 4294967296 := rfl
 rw [e]
 clear e
 go_enter func134, ntmps134
 go_wp2_with fail
 go_ret2
 exact ⟨ret2 (by first | rfl | (rw [wrap_i8, w64 (by omega)]) | (rw [wrap_i16, w64 (by omega)]) | (rw [wrap_u16, w64 (by omega)]) | (rw [wrap_i32, w64 (by omega)]) | (unfold wrap32 wrap64; omega) | (unfold wrap32; omega) | (simp only [wrap_i8, wrap_i16, wrap_u16, wrap_i32]; first | rfl | (rw [w64 (by omega)]) | (unfold wrap64; omega))) rfl, rfl⟩
theorem length_c (k : Int) (b : Bool) (i : Int) (s : ByteArray) (an : Option Addr) (ln cn : Nat) (al : Option Addr) (ll cl : Nat) (w : World) :
  Calls prog 132 #[vl k b i s (.slice an ln cn) (.slice al ll cl)] w fun e w' => An w w' e (Value.int .i64) (if k = 4 then .ok (s.size : Int) else if k = 5 \/ k = 6 then .ok (ll : Int) else .error 1101) := by
 obtain ⟨W0, hW0⟩ : ∃ W0, w.alloc (.cells #[.int .i64 k, .bool b, .int .i64 i, .string s, .slice an ln cn, .slice al ll cl] 46) = W0 := ⟨_, rfl⟩
 have hb0 : Below w.heap.size w W0 := by rw [<- hW0]; exact (Below.refl _ w).alloc (Nat.le_refl _) _
 have hp : W0.heap[w.heap.size]? = some (.cells #[.int .i64 k, .bool b, .int .i64 i, .string s, .slice an ln cn, .slice al ll cl] 46 (0, 0)) := by rw [<- hW0]; exact heap_alloc_new w _
 obtain ⟨p0, p1, p2, p3, p4, p5⟩ := six_box hp
 have HB : Hid (Below w.heap.size w W0) := hb0
 have cT := must_t W0
 have cF := must_f W0
 clear hp hb0
 by_cases h4 : k = 4
 ·rw [if_pos h4]
  subst h4
  go_enter func132, ntmps132
  go_wp2_with fail
  go_ret
  exact ⟨rfl, HB.out⟩
 rw [if_neg h4]
 have e4 : (k == 4) = false := by simp [h4]
 by_cases h5 : k = 5
 ·rw [if_pos (.inl h5)]
  subst h5
  clear h4 e4
  go_enter func132, ntmps132
  go_wp2_with fail
  try rw [hW0]
  refine cT.mono ?_
  rintro e W1 ⟨⟨v, rfl⟩, rfl⟩
  go_wp2_with fail
  go_ret
  exact ⟨rfl, HB.out⟩
 have e5 : (k == 5) = false := by simp [h5]
 by_cases h6 : k = 6
 ·rw [if_pos (.inr h6)]
  subst h6
  clear h4 e4 h5 e5
  go_enter func132, ntmps132
  go_wp2_with fail
  try rw [hW0]
  refine cT.mono ?_
  rintro e W1 ⟨⟨v, rfl⟩, rfl⟩
  go_wp2_with fail
  go_ret
  exact ⟨rfl, HB.out⟩
 have e6 : (k == 6) = false := by simp [h6]
 rw [if_neg (fun h => h.elim h5 h6)]
 clear h4 h5 h6
 go_enter func132, ntmps132
 go_wp2_with fail
 try rw [hW0]
 refine cF.mono ?_
 rintro e W1 ⟨rfl, rfl⟩
 exact ⟨rfl, rfl, HB.out⟩
end Go.Proofs.YthjbknncbhkinaaGreatDoor.VTo
namespace Go.Proofs.YthjbknncbhkinaaGreatDoor.MSt
open Tak
open Go.RowKit Base VSm VRs MBx MSe MDo
theorem settles_err {K m : Nat} {w : World} {M : Nat} {tv sv pv : Value} {q : List C} {c : C} (h : Mc K m w M tv sv pv (q ++ [c])) (hq : q.length <= 65536) {o a : Int} (hk : ¬ c.k = 2) :
  Calls prog 79 #[ptr M, .agg #[.int .i64 o, .int .i64 a]] w fun e w' => e = .panicked (pkE 1101) /\ Km M pv w w' := by
 obtain ⟨W0, hW0, b0, s0, x0⟩ := box1 w (.int .i64 o) (.int .i64 a)
 obtain ⟨i0, i1⟩ := two_box x0
 have b0d : Below w.heap.size w W0.drew := ⟨b0.os, b0.tape, b0.output, b0.size, b0.block⟩
 have cT := top_c (h.below b0d) hq
 have HH : Hid _ := h
 have HB0 : Hid _ := b0d
 have sD : W0.drew.heap.size = w.heap.size + 1 := s0
 have HS : Hid (∀ W, Below W0.drew.heap.size W0.drew W -> W.cell? ⟨w.heap.size, 0, none⟩ = some (.int .i64 o)) := fun W hW => below_cell (w := W0.drew) i0 hW
 have HK : Hid (¬ c.k = 2) := hk
 clear h b0 b0d x0 hk
 go_enter func79, ntmps79
 go_wp2_with fail
 try rw [hW0]
 refine wp_region_held_drew (S := fun w' => w'.cell? ⟨w.heap.size, 0, none⟩ = some (.int .i64 o)) (by kernel_rfl) (HS.out _ (Below.refl _ _)) (fun hHeld => ?_)
 refine tkH 0 rfl ?_; try simp only [ptH]
 refine tkH 3 rfl ?_; try simp only [ptH]
 refine tkH 4 rfl ?_; try simp only [ptH]
 refine tkH 5 rfl ?_; try simp only [ptH]
 refine rdH [1] ?_
 refine alH rfl fun K0 hK => ?_
 go_simp
 refine cT.mono ?_
 rintro e W1 ⟨u, rfl, hin, b1⟩
 obtain ⟨an, ln, cn, al, ll, cl, rfl⟩ := in_shape hin
 have cI := isTrue_c c.k c.b c.i c.s (.slice an ln cn) (.slice al ll cl) W1
 rw [if_neg HK.out] at cI
 have HB1 : Hid (Below w.heap.size w W1) := HB0.out.trans (b1.mono (by omega))
 have HS1 : Hid _ := HS.out W1 b1
 clear cT b1 hin
 go_wp2_with fail
 refine hK.out _ _ HS1.out (fun hHeld => ?_)
 clear hK K0
 try simp only [ptH]
 refine rdH [2] ?_
 refine alH rfl fun K0 hK => ?_
 go_simp
 refine cI.mono ?_
 rintro e W2 ⟨rfl, b2⟩
 exact ⟨rfl, rfl, Km.of_below (HB1.out.trans (b2.mono HB1.out.size)) (Nat.le_of_lt HH.out.lt)⟩
def SE (K m M : Nat) (tv sv pv : Value) (w : World) (q : List C) (c : C) (z : Bool) (e : Ending) (w' : World) : Prop := e = .returned (.bool z) /\ ∃ pv', Mc K m w' M tv sv pv' (if z = true then q ++ [c] else q) /\ Km M pv w w' /\ pv'.ownBlock = pv.ownBlock
theorem settles_ok {K m : Nat} {w : World} {M : Nat} {tv sv pv : Value} {q : List C} {c : C} (h : Mc K m w M tv sv pv (q ++ [c])) (hq : q.length <= 65536) {o a : Int} (hk : c.k = 2) :
  Calls prog 79 #[ptr M, .agg #[.int .i64 o, .int .i64 a]] w fun e w' => SE K m M tv sv pv w q c (c.b == (o == 31)) e w' := by
 obtain ⟨W0, hW0, b0, s0, x0⟩ := box1 w (.int .i64 o) (.int .i64 a)
 obtain ⟨i0, i1⟩ := two_box x0
 have b0d : Below w.heap.size w W0.drew := ⟨b0.os, b0.tape, b0.output, b0.size, b0.block⟩
 have cT := top_c (h.below b0d) hq
 have HH : Hid _ := h
 have HB0 : Hid _ := b0d
 have sD : W0.drew.heap.size = w.heap.size + 1 := s0
 have HS : Hid (∀ W, Below W0.drew.heap.size W0.drew W -> W.cell? ⟨w.heap.size, 0, none⟩ = some (.int .i64 o)) := fun W hW => below_cell (w := W0.drew) i0 hW
 have HK : Hid (c.k = 2) := hk
 obtain ⟨Z, hZ⟩ : ∃ Z, (o == 31) = Z := ⟨_, rfl⟩
 rw [hZ]
 obtain ⟨B, hB⟩ : ∃ B, c.b = B := ⟨_, rfl⟩
 rw [hB]
 have HCB : Hid (c.b = B) := hB
 clear h b0 b0d x0 hk hB
 go_enter func79, ntmps79
 go_wp2_with fail
 try rw [hW0]
 go_region_held3 (fun w' => w'.cell? ⟨w.heap.size, 0, none⟩ = some (.int .i64 o)) (go_keep) (first
  | (go_at_call 99; refine cT.mono ?_; rintro e W1 ⟨u, rfl, hin, b1⟩; obtain ⟨an, ln, cn, al, ll, cl, rfl⟩ := in_shape hin; have cI := isTrue_c c.k c.b c.i c.s (.slice an ln cn) (.slice al ll cl) W1; rw [if_pos HK.out, HCB.out] at cI; rw [HCB.out]; have HB1 : Hid (Below w.heap.size w W1) := HB0.out.trans (b1.mono (by omega)); have n1 := HS.out W1 b1)
  | (go_at_call 80; refine cI.mono ?_; rintro e W2 ⟨rfl, b2⟩; have HB2 : Hid (Below w.heap.size w W2) := HB1.out.trans (b2.mono HB1.out.size); have n2 := HS.out W2 (b1.trans (b2.mono b1.size))))
 have cK := take_c (HH.out.below HB2.out) hq
 clear cT cI b1 b2 hin HB1 HS
 cases B <;> cases Z
 ·have HE : Hid (∃ pv', Mc K m W2 M tv sv pv' (q ++ [c]) /\ Km M pv w W2 /\ pv'.ownBlock = pv.ownBlock) := ⟨pv, HH.out.below HB2.out, Km.of_below HB2.out (Nat.le_of_lt HH.out.lt), rfl⟩
  go_wp2_with fail
  go_ret
  exact ⟨rfl, HE.out⟩
 ·go_wp2_with fail
  refine cK.mono ?_
  rintro e W3 ⟨u3, pv3, rfl, hin3, m3, k3, e3⟩
  have HE : Hid (∃ pv', Mc K m W3 M tv sv pv' q /\ Km M pv w W3 /\ pv'.ownBlock = pv.ownBlock) := ⟨pv3, m3, (Km.of_below HB2.out (Nat.le_of_lt HH.out.lt)).trans k3 (.inl rfl), e3⟩
  clear cK hin3 m3 k3 e3
  go_wp2_with fail
  go_ret
  exact ⟨rfl, HE.out⟩
 ·go_wp2_with fail
  refine cK.mono ?_
  rintro e W3 ⟨u3, pv3, rfl, hin3, m3, k3, e3⟩
  have HE : Hid (∃ pv', Mc K m W3 M tv sv pv' q /\ Km M pv w W3 /\ pv'.ownBlock = pv.ownBlock) := ⟨pv3, m3, (Km.of_below HB2.out (Nat.le_of_lt HH.out.lt)).trans k3 (.inl rfl), e3⟩
  clear cK hin3 m3 k3 e3
  go_wp2_with fail
  go_ret
  exact ⟨rfl, HE.out⟩
 ·have HE : Hid (∃ pv', Mc K m W2 M tv sv pv' (q ++ [c]) /\ Km M pv w W2 /\ pv'.ownBlock = pv.ownBlock) := ⟨pv, HH.out.below HB2.out, Km.of_below HB2.out (Nat.le_of_lt HH.out.lt), rfl⟩
  go_wp2_with fail
  go_ret
  exact ⟨rfl, HE.out⟩
end Go.Proofs.YthjbknncbhkinaaGreatDoor.MSt

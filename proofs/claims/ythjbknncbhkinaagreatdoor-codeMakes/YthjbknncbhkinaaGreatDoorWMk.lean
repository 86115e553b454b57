/- The law CodeMakes gone through. -/
import Derived.Test.YthjbknncbhkinaaGreatDoorXBase
import Derived.Test.YthjbknncbhkinaaGreatDoorNMk
import Derived.Test.YthjbknncbhkinaaGreatDoorCAw
import Derived.Test.YthjbknncbhkinaaGreatDoorCCk
import Derived.Test.YthjbknncbhkinaaGreatDoorXLend
import Derived.Test.YthjbknncbhkinaaGreatDoorXKept
namespace Go.Proofs.YthjbknncbhkinaaGreatDoor.XSh
open Go.RowKit Go.Proofs.YthjbknncbhkinaaGreatDoor.EPure Go.Proofs.YthjbknncbhkinaaGreatDoor.XBase
open Go.Proofs.YthjbknncbhkinaaGreatDoor.Base (All heap_alloc_new)
set_option linter.unusedVariables false

def Dp (m : Nat) : Prop := ∀ (v : Value) (x : Ex) (left : Nat) (w : World), left ≤ 4096 → In false All w m v x →
    Calls Tryz.prog 25 #[v, .int .i64 left] w fun e w' => (∃ b, e = .returned (.bool b)) ∧ Below w.heap.size w w'
set_option maxRecDepth 20000 in
set_option maxHeartbeats 1600000 in
theorem dp_of (m : Nat) (ih : Dp m) : Dp (m + 1) := by
  intro v x left w hleft h
  obtain ⟨o, i, s, l⟩ := x
  rw [in_iff] at h
  obtain ⟨lv, rfl, ho, hi, hs, a, cap, rfl, hl, hcap, hlen, ha, hL⟩ := h
  have H : Hid (Dp m) := ih
  obtain ⟨W0, hW0⟩ : ∃ W0, w.alloc (.cells #[.int .i64 o, .int .i64 i, .string s, .slice a l.length cap] 24) = W0 := ⟨_, rfl⟩
  have b0 : Below w.heap.size w W0 := by rw [← hW0]; exact (Below.refl _ w).alloc (Nat.le_refl _) _
  have s0 : W0.heap.size = w.heap.size + 1 := by rw [← hW0]; simp
  have hx : W0.heap[w.heap.size]? = some (.cells #[.int .i64 o, .int .i64 i, .string s, .slice a l.length cap] 24 (0, 0)) := by rw [← hW0]; exact heap_alloc_new w _
  have HX : Hid (W0.heap[w.heap.size]? = some (.cells #[.int .i64 o, .int .i64 i, .string s, .slice a l.length cap] 24 (0, 0)) ∧ W0.heap.size = w.heap.size + 1 ∧ Below w.heap.size w W0) := ⟨hx, s0, b0⟩
  clear ih hx s0 b0
  by_cases h0 : left = 0
  · subst h0
    clear hL
    go_enter Tryz.func25, Tryz.ntmps25
    go_wp2_with fail
    go_ret
    exact ⟨⟨_, rfl⟩, HX.out.2.2⟩
  · have h0' : ((left : Int) == 0) = false := by simp; omega
    go_enter Tryz.func25, Tryz.ntmps25
    go_wp2_with fail
    clear hW0
    go_loopw [5] (fun i' wr => ∃ q : Nat, q ≤ l.length ∧ i' = .int .i64 q ∧ Below W0.heap.size W0 wr) (fun i' _ => l.length - (intOf i').toNat)
    case atStart => exact ⟨0, by omega, rfl, Below.refl _ _⟩
    case round =>
      obtain ⟨q, hq, rfl, hb⟩ := hrel
      have hbx := (hb.block w.heap.size (by have := HX.out.2.1; omega)).trans HX.out.1
      obtain ⟨y0, y1, y2, y3⟩ := four_box hbx
      have hbw : Below w.heap.size w wr := HX.out.2.2.trans (hb.mono (by have := HX.out.2.1; omega))
      have HB : Hid (Below W0.heap.size W0 wr ∧ Below w.heap.size w wr) := ⟨hb, hbw⟩
      clear hbx
      by_cases hlt : q < l.length
      · obtain ⟨g, o', u, rfl, -, hu, hin⟩ := elem_at hL hlt
        have hu := four_below hu hbw
        have c1 := H.out u l[q] (left - 1) wr (by omega) (hin.below hbw)
        obtain ⟨v0, v1, v2, v3, rfl, d0, d1, d2, d3⟩ := hu
        have en : ((left - 1 : Nat) : Int) = (left : Int) - 1 := by omega
        rw [en] at c1
        clear hb hbw hL hin en
        go_wp2_with fail
        refine c1.mono ?_
        rintro e W1 ⟨⟨b, rfl⟩, b1⟩
        have HB1 : Hid (Below W0.heap.size W0 W1) := HB.out.1.trans (b1.mono HB.out.1.size)
        clear c1 b1 y0 y1 y2 y3 d0 d1 d2 d3
        cases b with
        | true =>
          go_wp2_with fail
          go_roundw
          case rel => exact ⟨q + 1, by omega, by go_num, HB1.out⟩
          case measure => simp only [intOf]; omega
        | false =>
          go_wp2_with fail
          go_ret
          exact ⟨⟨_, rfl⟩, HX.out.2.2.trans (HB1.out.mono (by have := HX.out.2.1; omega))⟩
      · have d : decide ((q : Int) < (l.length : Int)) = false := by simp; omega
        clear hL hb hbw
        go_wp2_with fail
        go_ret
        exact ⟨⟨_, rfl⟩, HB.out.2⟩
theorem dp : ∀ m, Dp m
  | 0 => by intro v x left w _ h; rw [In] at h; exact h.elim
  | m + 1 => dp_of m (dp m)
set_option maxRecDepth 20000 in
theorem shallow_c {m : Nat} {v : Value} {x : Ex} {w : World} (h : In false All w m v x) :
    Calls Tryz.prog 5 #[v] w fun e w' => (∃ b, e = .returned (.bool b)) ∧ Below w.heap.size w w' := by
  obtain ⟨m', lv, rfl, rfl, ho, hi, hs, hL⟩ := h.shape
  obtain ⟨a, cap, rfl, -⟩ := hL
  obtain ⟨W0, hW0⟩ : ∃ W0, w.alloc (.cells #[.int .i64 x.o, .int .i64 x.i, .string x.s, .slice a x.l.length cap] 24) = W0 := ⟨_, rfl⟩
  have b0 : Below w.heap.size w W0 := by rw [← hW0]; exact (Below.refl _ w).alloc (Nat.le_refl _) _
  have c1 := dp (m' + 1) _ x 4096 W0 (by omega) (h.below b0)
  have hx : W0.heap[w.heap.size]? = some (.cells #[.int .i64 x.o, .int .i64 x.i, .string x.s, .slice a x.l.length cap] 24 (0, 0)) := by rw [← hW0]; exact heap_alloc_new w _
  obtain ⟨y0, y1, y2, y3⟩ := four_box hx
  have HB : Hid (Below w.heap.size w W0) := b0
  clear b0 h hx
  go_enter Tryz.func5, Tryz.ntmps5
  go_wp2_with fail
  refine c1.mono ?_
  rintro e W1 ⟨⟨b, rfl⟩, b1⟩
  have HB1 : Hid (Below w.heap.size w W1) := HB.out.trans (b1.mono HB.out.size)
  clear c1 b1
  go_wp2_with fail
  go_ret
  exact ⟨⟨_, rfl⟩, HB1.out⟩
end Go.Proofs.YthjbknncbhkinaaGreatDoor.XSh

namespace Go.Proofs.YthjbknncbhkinaaGreatDoor.WMk
open Go.RowKit Go.Proofs.YthjbknncbhkinaaGreatDoor.EPure Go.Proofs.YthjbknncbhkinaaGreatDoor.NWr Go.Proofs.YthjbknncbhkinaaGreatDoor.NRd Go.Proofs.YthjbknncbhkinaaGreatDoor.NFr Go.Proofs.YthjbknncbhkinaaGreatDoor.NMk
open Go.Proofs.YthjbknncbhkinaaGreatDoor.Base (nx)
open Go.Proofs.YthjbknncbhkinaaGreatDoor.VJn (Tb)
open Go.Proofs.YthjbknncbhkinaaGreatDoor.CPu (Ins ck)
open Go.Proofs.YthjbknncbhkinaaGreatDoor.CBx (Cx)
open Go.Proofs.YthjbknncbhkinaaGreatDoor.CIn (Oc OkL)
open Go.Proofs.YthjbknncbhkinaaGreatDoor.NGe (gen sz Dp)
open Go.Proofs.YthjbknncbhkinaaGreatDoor.KSh (rsv rlf)
open Go.Proofs.YthjbknncbhkinaaGreatDoor.IBase (heap_alloc_new)
open Go.Proofs.YthjbknncbhkinaaGreatDoor.XBase (four_box two_box frozen_box In InL LAt Rg)
set_option linter.unusedVariables false

theorem later {W W' : World} {B : Nat} {o : Obj} (hx : W.heap[B]? = some o) (h : Below W.heap.size W W') : W'.heap[B]? = some o := (h.block B (Array.getElem?_eq_some_iff.1 hx).1).trans hx
theorem own_below {w w' : World} {B : Nat} {e : TypeId} {s n : Nat} {v : Value} {xs : List Value} (h : w.ownsRow B e s v n xs) (hb : Below w.heap.size w w') : w'.ownsRow B e s v n xs := own_keep h fun g hg => hb.block g (World.ownsRow.lt h g hg).2
theorem own_gr {u : Value} {w w' : World} {B : Nat} {e : TypeId} {s n : Nat} {v : Value} {xs : List Value} (h : w.ownsRow B e s v n xs) (hb : Gr u w w') (hn : ∀ g, v.ownBlock = some g → u.ownBlock ≠ some g) : w'.ownsRow B e s v n xs := own_keep h fun g hg => hb.block g (World.ownsRow.lt h g hg).2 fun e => hn g hg e.symm
theorem gr_below {u : Value} {w w' : World} {K : Nat} (h : Gr u w w') (hK : K ≤ w.heap.size) (hu : ∀ g, u.ownBlock = some g → K ≤ g) : Below K w w' := ⟨h.os, h.tape, h.output, h.size, fun k hk => h.block k (by omega) fun e => by have := hu k e.symm; omega⟩
theorem wf64 {x : Int} (h : i64 x) : (Lit.int .i64 x).wf = true := by
  have h1 : IntKind.i64.min = -9223372036854775808 := by rfl
  have h2 : IntKind.i64.max = 9223372036854775807 := by rfl
  simp only [Lit.wf, h1, h2, Bool.and_eq_true, decide_eq_true_eq]
  exact h
theorem and63 (n : Int) : bits .and .i64 n 63 = n % 64 := by
  have h : (BitVec.ofInt 64 63).toNat = 2 ^ 6 - 1 := by decide
  have key : (BitVec.ofInt 64 n &&& BitVec.ofInt 64 63).toNat = (n % ((2 ^ 64 : Nat) : Int)).toNat % 2 ^ 6 := by
    rw [BitVec.toNat_and, BitVec.toNat_ofInt, h, Nat.and_two_pow_sub_one_eq_mod]
  show IntKind.i64.wrap ((BitVec.ofInt 64 n &&& BitVec.ofInt 64 63).toNat : Nat) = n % 64
  rw [key, IntKind.wrap_i64]
  omega
theorem nil_c (w : World) (B : Nat) : Oc w B (.slice none 0 0) [] := World.ownsRow_nil _ _ _ _
theorem nil_t (w : World) (B : Nat) : Ot w B (.slice none 0 0) [] := World.ownsRow_nil _ _ _ _
theorem nil_ok : OkL [] := ⟨by simp, by simp⟩
theorem ok_of {C : List Ins} {T : List ByteArray} (h : Rn (C, T)) (hl : C.length + 2 ≤ 8796093022208) : OkL C := by
  refine ⟨fun x hx => ?_, hl⟩
  have := h.1 x hx
  exact ⟨wf64 this.1, wf64 this.2⟩
/-- What is known of what Make writes. -/
theorem facts {m : Nat} {x : Ex} (hd : Dp m x) (hz : Sz m x) (h : mkO x = true) : ∃ C T, gen m x 0 0 = (C, T) ∧ C.length ≤ 8192 ∧ 1 ≤ C.length ∧ OkL C ∧ (∀ s ∈ T, s.size ≤ 140737488351232) ∧ lw [x] = false ∧ ∀ d : Int, dm [x] ≤ d → ck C (T.length : Int) d = 0 := by
  obtain ⟨hok, hsz⟩ := mk_ok hd h
  have hl := NGe.gen_len rlf m x 0 0 hok
  have hr := gen_rn rlf m x 0 0 hok hz (by omega) (by omega)
  have hlw : lw [x] = false := by
    unfold mkO at h
    rw [Bool.and_eq_true] at h
    have := h.2
    rw [hs_lw (x := x) _ [x] m (Nat.le_refl _) (by simp; exact ⟨hz, hd⟩)] at this
    simpa using this
  refine ⟨(gen m x 0 0).1, (gen m x 0 0).2, rfl, by omega, hl.1, ok_of (T := (gen m x 0 0).2) hr (by omega), hr.2, hlw, fun d hdm => ?_⟩
  exact NCk.ck_gen rlf hok (NGe.hs_pl d m x (hs_dm d _ [x] (Nat.le_refl _) hlw hdm)) (by omega)
set_option maxRecDepth 20000 in
set_option maxHeartbeats 3200000 in
theorem walk {w : World} {v : Value} {m : Nat} {x : Ex} {more : Int} (hin : In false (fun _ => True) w m v x) (hT : Tb w) :
    Calls Tryz.prog 3 #[v, .int .i64 more] w fun e w' => e = .returned (.bool true) ∧ Below w.heap.size w w' := by
  have hdp := in_dp m v x hin
  have hsz := in_sz m v x hin
  obtain ⟨m', lv, -, rfl, -, -, -, hL⟩ := hin.shape
  obtain ⟨a, cap, rfl, -⟩ := hL
  obtain ⟨W0, hW0⟩ : ∃ W0, w.alloc (.cells #[.int .i64 x.o, .int .i64 x.i, .string x.s, .slice a x.l.length cap] 24) = W0 := ⟨_, rfl⟩
  have b0 : Below w.heap.size w W0 := by rw [← hW0]; exact (Below.refl _ w).alloc (Nat.le_refl _) _
  have q1 : W0.heap[w.heap.size]? = some (.cells #[.int .i64 x.o, .int .i64 x.i, .string x.s, .slice a x.l.length cap] 24 (0, 0)) := by rw [← hW0]; exact heap_alloc_new w _
  obtain ⟨v0, v1, v2, v3⟩ := four_box q1
  have c1 := XSh.shallow_c (hin.below b0)
  have HX : Hid (W0.heap[w.heap.size]? = some (.cells #[.int .i64 x.o, .int .i64 x.i, .string x.s, .slice a x.l.length cap] 24 (0, 0))) := q1
  have HB0 : Hid (Below w.heap.size w W0) := b0
  have HIN : Hid (In false (fun _ => True) W0 m (.agg #[.int .i64 x.o, .int .i64 x.i, .string x.s, .slice a x.l.length cap]) x) := hin.below b0
  have HT : Hid (Tb w) := hT
  have HDZ : Hid (Dp m x ∧ Sz m x) := ⟨hdp, hsz⟩
  clear q1 b0 hin hT hdp hsz
  go_enter Tryz.func3, Tryz.ntmps3
  go_wp2_with fail
  (try rw [hW0])
  refine c1.mono ?_
  rintro e W1 ⟨⟨sb, rfl⟩, b1⟩
  have HB1 : Hid (Below W0.heap.size W0 W1) := b1
  obtain ⟨v0, v1, v2, v3⟩ := four_box (later HX.out b1)
  clear c1
  cases sb with
  | false =>
    go_wp2_with fail
    go_ret
    exact ⟨rfl, nx HB0.out HB1.out⟩
  | true =>
    have c2 := fr_all m W1 _ x (HIN.out.below b1)
    suffices HF : ∀ F, fr [x] = F → _ from HF _ rfl
    intro F hF
    rw [hF] at c2
    clear b1
    go_wp2_with fail
    refine c2.mono ?_
    rintro e W2 ⟨rfl, b2⟩
    have HB2 : Hid (Below W0.heap.size W0 W2) := nx HB1.out b2
    obtain ⟨v0, v1, v2, v3⟩ := four_box (later HX.out HB2.out)
    clear c2
    cases F with
    | true =>
      go_wp2_with fail
      go_ret
      exact ⟨rfl, nx HB0.out HB2.out⟩
    | false =>
      have c3 := XLend.lend_c (HIN.out.below HB2.out)
      have HFR : Hid (fr [x] = false) := hF
      clear b2 hF
      go_wp2_with fail
      refine c3.mono ?_
      rintro e W3 ⟨u, rfl, hu, b3⟩
      have HU : Hid (In true (Rg W2.heap.size W3.heap.size) W3 m u x) := hu
      obtain ⟨m2, lv2, -, rfl, -, -, -, hL2⟩ := hu.shape
      obtain ⟨a2, cap2, rfl, -⟩ := hL2
      obtain ⟨W4, hW4⟩ : ∃ W4, W3.alloc (.cells #[.int .i64 x.o, .int .i64 x.i, .string x.s, .slice a2 x.l.length cap2] 24) = W4 := ⟨_, rfl⟩
      have b4 : Below W3.heap.size W3 W4 := by rw [← hW4]; exact (Below.refl _ W3).alloc (Nat.le_refl _) _
      have q4 : W4.heap[W3.heap.size]? = some (.cells #[.int .i64 x.o, .int .i64 x.i, .string x.s, .slice a2 x.l.length cap2] 24 (0, 0)) := by rw [← hW4]; exact heap_alloc_new W3 _
      obtain ⟨y0, y1, y2, y3⟩ := four_box q4
      have HB4 : Hid (Below W0.heap.size W0 W4) := nx (nx HB2.out b3) b4
      have HQ : Hid (W4.heap[W3.heap.size]? = some (.cells #[.int .i64 x.o, .int .i64 x.i, .string x.s, .slice a2 x.l.length cap2] 24 (0, 0))) := q4
      have HY : Hid (In true (Rg W2.heap.size W3.heap.size) W4 m (.agg #[.int .i64 x.o, .int .i64 x.i, .string x.s, .slice a2 x.l.length cap2]) x) := hu.below b4
      have h34 : W3.heap.size < W4.heap.size := (Array.getElem?_eq_some_iff.1 q4).1
      have HYK : Hid (In false (fun b => b < W3.heap.size) W4 m (.agg #[.int .i64 x.o, .int .i64 x.i, .string x.s, .slice a2 x.l.length cap2]) x) := (hu.below b4).weak (fun b hb => hb.2) false (fun h => by cases h) m (Nat.le_refl _)
      clear b3 b4 c3 q4 hu
      suffices HM : ∀ M, mkO x = M → _ from HM _ rfl
      intro M hM
      cases M with
      | false => 
        as_aux_lemma =>
          have c4 := make_no (HY.out.weak (fun _ _ => trivial) false (fun h => by cases h) m (Nat.le_refl _)) hM
          go_wp2_with fail
          refine c4.mono ?_
          rintro e W5 ⟨rfl, b5⟩
          obtain ⟨y0, y1, y2, y3⟩ := four_box (later HQ.out b5)
          have HB5 : Hid (Below W4.heap.size W4 W5) := b5
          have c5 := make_no ((HY.out.weak (fun _ _ => trivial) false (fun h => by cases h) m (Nat.le_refl _)).below b5) hM
          clear c4 b5
          go_wp2_with fail
          refine c5.mono ?_
          rintro e W6 ⟨rfl, b6⟩
          have HB6 : Hid (Below W4.heap.size W4 W6) := nx HB5.out b6
          have HB06 : Hid (Below W0.heap.size W0 W6) := nx HB4.out HB6.out
          obtain ⟨v0, v1, v2, v3⟩ := four_box (later HX.out HB06.out)
          obtain ⟨y0, y1, y2, y3⟩ := four_box (later HQ.out HB6.out)
          have c6 := code_c (HIN.out.below HB06.out)
          rw [mk_cerr HDZ.out.2 HDZ.out.1, hM] at c6
          simp only [Bool.false_eq_true, if_false] at c6
          clear c5 b6 hM
          go_wp2_with fail
          refine c6.mono ?_
          rintro e W7 ⟨rfl, b7⟩
          have HB7 : Hid (Below W4.heap.size W4 W7) := nx HB6.out b7
          have HB07 : Hid (Below W0.heap.size W0 W7) := nx HB06.out b7
          have cN := CAw.num_c 1108 W7
          have c8 := CIn.sameI_c (oc_cx (K := W7.heap.size) (nil_c W7 0) (fun g e => by cases e)) (oc_cx (K := W7.heap.size) (nil_c W7 0) (fun g e => by cases e)) (Nat.le_refl _) nil_ok
          clear c6 b7
          go_wp2_with fail
          refine cN.mono ?_
          rintro e w' ⟨rfl, rfl⟩
          go_wp2_with fail
          refine cN.mono ?_
          rintro e w' ⟨rfl, rfl⟩
          go_wp2_with fail
          refine c8.mono ?_
          rintro e W8 ⟨rfl, b8⟩
          have HB8 : Hid (Below W4.heap.size W4 W8) := nx HB7.out b8
          have HB08 : Hid (Below W0.heap.size W0 W8) := nx HB07.out b8
          have c9 := sameT_c (nil_t W8 0) (nil_t W8 0)
          clear cN c8 b8
          go_wp2_with fail
          refine c9.mono ?_
          rintro e W9 ⟨rfl, b9⟩
          have HB9 : Hid (Below W4.heap.size W4 W9) := nx HB8.out b9
          have HB09 : Hid (Below W0.heap.size W0 W9) := nx HB08.out b9
          obtain ⟨v0, v1, v2, v3⟩ := four_box (later HX.out HB09.out)
          obtain ⟨y0, y1, y2, y3⟩ := four_box (later HQ.out HB9.out)
          have c10 := XKept.kept_c (HY.out.below HB9.out) (HIN.out.below HB09.out)
          clear c9 b9
          go_wp2_with fail
          refine c10.mono ?_
          rintro e W10 ⟨rfl, b10⟩
          have HB010 : Hid (Below W0.heap.size W0 W10) := nx HB09.out b10
          have cA := CAw.awake_c W10 (HT.out.below (nx HB0.out HB010.out))
          clear c10 b10
          go_wp2_with fail
          refine cA.mono ?_
          rintro e W11 ⟨rfl, b11⟩
          have HB011 : Hid (Below W0.heap.size W0 W11) := nx HB010.out b11
          clear cA b11
          go_wp2_with fail
          go_ret
          exact ⟨rfl, nx HB0.out HB011.out⟩
      | true =>
        as_aux_lemma =>
          obtain ⟨C, T, hg, hC, hC1, hOk, hTs, hlw, hck⟩ := facts HDZ.out.1 HDZ.out.2 hM
          have c4 := make_ok HYK.out (Nat.le_of_lt h34) hM
          go_wp2_with fail
          refine c4.mono ?_
          rintro e W5 ⟨cv, tv, rfl, ⟨ho, ht, hne⟩, b5⟩
          rw [hg] at ho ht
          obtain ⟨y0, y1, y2, y3⟩ := four_box (later HQ.out b5)
          have HB5 : Hid (Below W4.heap.size W4 W5) := b5
          have HO5 : Hid (Oc W5 W4.heap.size cv C) := ho
          have HT5 : Hid (Ot W5 W4.heap.size tv T) := ht
          have HNE : Hid (∀ g, cv.ownBlock = some g → tv.ownBlock ≠ some g) := hne
          have c5 := make_ok (K := W4.heap.size) (w := W5) ((HYK.out.weak (fun b hb => Nat.lt_trans hb h34) false id m (Nat.le_refl _)).below b5) b5.size hM
          clear c4 b5 ho ht hne
          go_wp2_with fail
          refine c5.mono ?_
          rintro e W6 ⟨dv, uv, rfl, ⟨ho, ht, hne⟩, b6⟩
          rw [hg] at ho ht
          have HO6 : Hid (Oc W6 W5.heap.size dv C) := ho
          have HT6 : Hid (Ot W6 W5.heap.size uv T) := ht
          have H56 : Hid (Below W5.heap.size W5 W6) := b6
          have HB6 : Hid (Below W4.heap.size W4 W6) := nx HB5.out b6
          have HB06 : Hid (Below W0.heap.size W0 W6) := nx HB4.out HB6.out
          obtain ⟨v0, v1, v2, v3⟩ := four_box (later HX.out HB06.out)
          obtain ⟨y0, y1, y2, y3⟩ := four_box (later HQ.out HB6.out)
          have c6 := code_c (HIN.out.below HB06.out)
          rw [mk_cerr HDZ.out.2 HDZ.out.1, hM] at c6
          simp only [if_true] at c6
          clear c5 b6 hM ho ht hne hg
          go_wp2_with fail
          refine c6.mono ?_
          rintro e W7 ⟨rfl, b7⟩
          have H67 : Hid (Below W6.heap.size W6 W7) := b7
          have HB7 : Hid (Below W4.heap.size W4 W7) := nx HB6.out b7
          have HB07 : Hid (Below W0.heap.size W0 W7) := nx HB06.out b7
          have cN := CAw.num_c 0 W7
          have HO7 : Hid (Oc W7 W4.heap.size cv C) := own_below HO5.out (nx H56.out b7)
          have HT7 : Hid (Ot W7 W4.heap.size tv T) := own_below HT5.out (nx H56.out b7)
          have HP7 : Hid (Oc W7 W5.heap.size dv C) := own_below HO6.out b7
          have HU7 : Hid (Ot W7 W5.heap.size uv T) := own_below HT6.out b7
          have c8 := CIn.sameI_c (oc_cx (K := W7.heap.size) HO7.out (fun g e => (World.ownsRow.lt HO7.out g e).2)) (oc_cx (K := W7.heap.size) HP7.out (fun g e => (World.ownsRow.lt HP7.out g e).2)) (Nat.le_refl _) hOk
          clear c6 b7
          obtain ⟨ca, cc, hcv, hc1, hc2, -⟩ := own_sh HO7.out
          obtain ⟨ta, tc, htv, ht1, ht2, -⟩ := own_sh HT7.out
          obtain ⟨da, dc, hdv, hd1, hd2, -⟩ := own_sh HP7.out
          obtain ⟨ua, uc, huv, hu1, hu2, -⟩ := own_sh HU7.out
          subst hcv htv hdv huv
          go_wp2_with fail
          refine cN.mono ?_
          rintro e w' ⟨rfl, rfl⟩
          go_wp2_with fail
          refine cN.mono ?_
          rintro e w' ⟨rfl, rfl⟩
          go_wp2_with fail
          refine c8.mono ?_
          rintro e W8 ⟨rfl, b8⟩
          have H78 : Hid (Below W7.heap.size W7 W8) := b8
          have HB8 : Hid (Below W4.heap.size W4 W8) := nx HB7.out b8
          have HB08 : Hid (Below W0.heap.size W0 W8) := nx HB07.out b8
          have c9 := sameT_c (own_below HT7.out b8) (own_below HU7.out b8)
          clear cN c8 b8
          go_wp2_with fail
          refine c9.mono ?_
          rintro e W9 ⟨rfl, b9⟩
          have H79 : Hid (Below W7.heap.size W7 W9) := nx H78.out b9
          have HB9 : Hid (Below W4.heap.size W4 W9) := nx HB8.out b9
          have HB09 : Hid (Below W0.heap.size W0 W9) := nx HB08.out b9
          obtain ⟨v0, v1, v2, v3⟩ := four_box (later HX.out HB09.out)
          obtain ⟨y0, y1, y2, y3⟩ := four_box (later HQ.out HB9.out)
          have c10 := XKept.kept_c (HY.out.below HB9.out) (HIN.out.below HB09.out)
          clear c9 b9
          go_wp2_with fail
          refine c10.mono ?_
          rintro e W10 ⟨rfl, b10⟩
          have H710 : Hid (Below W7.heap.size W7 W10) := nx H79.out b10
          have HB010 : Hid (Below W0.heap.size W0 W10) := nx HB09.out b10
          have HP10 : Hid (Oc W10 W5.heap.size (.slice da C.length dc) C) := own_below HP7.out H710.out
          have c11 := CIn.copyI_c (oc_cx (K := W10.heap.size) HP10.out (fun g e => (World.ownsRow.lt HP10.out g e).2)) (Nat.le_refl _) (by omega)
          clear c10 b10
          go_wp2_with fail
          refine c11.mono ?_
          rintro e W11 ⟨kv, rfl, hk, b11⟩
          have HK11 : Hid (Oc W11 W10.heap.size kv C) := hk
          have H711 : Hid (Below W7.heap.size W7 W11) := nx H710.out b11
          have HB011 : Hid (Below W0.heap.size W0 W11) := nx HB010.out b11
          have HO11 : Hid (Oc W11 W4.heap.size (.slice ca C.length cc) C) := own_below HO7.out H711.out
          have c12 := spoilI_c HO11.out
          clear c11 b11 hk
          go_wp2_with fail
          refine c12.mono ?_
          rintro e W12 ⟨⟨r12, rfl⟩, g12⟩
          have hc5 : ∀ g, (Value.slice ca C.length cc).ownBlock = some g → W4.heap.size ≤ g ∧ g < W5.heap.size := fun g e => World.ownsRow.lt HO5.out g e
          have ht5 : ∀ g, (Value.slice ta T.length tc).ownBlock = some g → W4.heap.size ≤ g ∧ g < W5.heap.size := fun g e => World.ownsRow.lt HT5.out g e
          have hs4 : W4.heap.size ≤ W11.heap.size := by have := H711.out.size; have := HB7.out.size; omega
          have h411 : W0.heap.size ≤ W4.heap.size := HB4.out.size
          have h12 : Below W4.heap.size W11 W12 := gr_below g12 hs4 (fun g e => (hc5 g e).1)
          have HP12 : Hid (Oc W12 W5.heap.size (.slice da C.length dc) C) := own_gr (own_below HP7.out H711.out) g12 (fun g e e2 => by have h1 := (World.ownsRow.lt HP7.out g e).1; have h2 := (hc5 g e2).2; omega)
          have HK12 : Hid (Oc W12 W10.heap.size kv C) := own_gr HK11.out g12 (fun g e e2 => by have h1 := (World.ownsRow.lt HK11.out g e).1; have h2 := (hc5 g e2).2; have h3 := H56.out.size; have h4 := H67.out.size; have h5 := H710.out.size; omega)
          have HT12 : Hid (Ot W12 W4.heap.size (.slice ta T.length tc) T) := own_gr (own_below HT7.out H711.out) g12 (fun g e e2 => HNE.out g e2 e)
          have HB412 : Hid (Below W4.heap.size W11 W12) := h12
          have c13 := spoilT_c HT12.out hTs
          have HC5 : Hid (W4.heap.size ≤ W11.heap.size ∧ W0.heap.size ≤ W4.heap.size) := ⟨hs4, h411⟩
          have HD5 : Hid (∀ g, (Value.slice ta T.length tc).ownBlock = some g → W4.heap.size ≤ g ∧ g < W5.heap.size) := ht5
          clear c12 g12 h12 hc5 ht5 hs4 h411
          go_wp2_with fail
          refine c13.mono ?_
          rintro e W13 ⟨⟨r13, rfl⟩, g13⟩
          have h13 : Below W4.heap.size W12 W13 := gr_below g13 (by have := HB412.out.size; have := HC5.out.1; omega) (fun g e => (HD5.out g e).1)
          have HP13 : Hid (Oc W13 W5.heap.size (.slice da C.length dc) C) := own_gr HP12.out g13 (fun g e e2 => by have h1 := (World.ownsRow.lt HP12.out g e).1; have h2 := (HD5.out g e2).2; omega)
          have HK13 : Hid (Oc W13 W10.heap.size kv C) := own_gr HK12.out g13 (fun g e e2 => by have h1 := (World.ownsRow.lt HK12.out g e).1; have h2 := (HD5.out g e2).2; have h3 := H56.out.size; have h4 := H67.out.size; have h5 := H710.out.size; omega)
          have HB013 : Hid (Below W0.heap.size W0 W13) := HB011.out.trans ((HB412.out.trans h13).mono HC5.out.2)
          obtain ⟨v0, v1, v2, v3⟩ := four_box (later HX.out HB013.out)
          have c14 := dm_all m W13 _ x (HIN.out.below HB013.out) HFR.out hlw
          have hd0 := dm_pos [x]
          have hd1' := dm_le _ [x] (Nat.le_refl _) HFR.out
          have hck1 := hck (dm [x]) (Int.le_refl _)
          have HCK : Hid (∀ d : Int, dm [x] ≤ d → ck C (T.length : Int) d = 0) := hck
          obtain ⟨dp, hdp⟩ : ∃ dp, dm [x] = dp := ⟨_, rfl⟩
          rw [hdp] at c14 hd0 hd1' hck1 HCK
          clear c13 g13 h13 hck hdp
          go_wp2_with fail
          refine c14.mono ?_
          rintro e W14 ⟨rfl, b14⟩
          have H1314 : Hid (Below W13.heap.size W13 W14) := b14
          have HP14 : Hid (Oc W14 W5.heap.size (.slice da C.length dc) C) := own_below HP13.out b14
          have c15 := CCk.check_c (oc_cx (K := W14.heap.size) HP14.out (fun g e => (World.ownsRow.lt HP14.out g e).2)) (Nat.le_refl _) (T.length : Int) dp
          rw [hck1] at c15
          clear c14 b14
          go_wp2_with fail
          refine c15.mono ?_
          rintro e W15 ⟨rfl, b15⟩
          have H1315 : Hid (Below W13.heap.size W13 W15) := nx H1314.out b15
          have HP15 : Hid (Oc W15 W5.heap.size (.slice da C.length dc) C) := own_below HP14.out b15
          clear c15 b15
          go_wp2_with fail
          have hck2 := HCK.out (dp + more % 64) (by omega)
          have hwm : wrap64 (dp + bits BinOp.and IntKind.i64 more 63) = dp + more % 64 := by
            rw [and63]
            unfold wrap64
            omega
          rw [hwm]
          have c16 := CCk.check_c (oc_cx (K := W15.heap.size) HP15.out (fun g e => (World.ownsRow.lt HP15.out g e).2)) (Nat.le_refl _) (T.length : Int) (dp + more % 64)
          rw [hck2] at c16
          refine c16.mono ?_
          rintro e W16 ⟨rfl, b16⟩
          have H1316 : Hid (Below W13.heap.size W13 W16) := nx H1315.out b16
          have HP16 : Hid (Oc W16 W5.heap.size (.slice da C.length dc) C) := own_below HP15.out b16
          have HK16 : Hid (Oc W16 W10.heap.size kv C) := own_below HK13.out H1316.out
          have c17 := CIn.sameI_c (oc_cx (K := W16.heap.size) HP16.out (fun g e => (World.ownsRow.lt HP16.out g e).2)) (oc_cx (K := W16.heap.size) HK16.out (fun g e => (World.ownsRow.lt HK16.out g e).2)) (Nat.le_refl _) hOk
          clear c16 b16 hwm hck2
          go_wp2_with fail
          refine c17.mono ?_
          rintro e W17 ⟨rfl, b17⟩
          have H1317 : Hid (Below W13.heap.size W13 W17) := nx H1316.out b17
          have cN2 := CAw.num_c 0 W17
          have cA := CAw.awake_c W17 (HT.out.below (nx HB0.out (nx HB013.out H1317.out)))
          have hC8 : (C.length : Int) ≤ 8192 := by omega
          clear c17 b17
          go_wp2_with fail
          refine cN2.mono ?_
          rintro e w' ⟨rfl, rfl⟩
          go_wp2_with fail
          refine cN2.mono ?_
          rintro e w' ⟨rfl, rfl⟩
          go_wp2_with fail
          refine cA.mono ?_
          rintro e W18 ⟨rfl, b18⟩
          have H1318 : Hid (Below W13.heap.size W13 W18) := nx H1317.out b18
          clear cA cN2 b18
          go_wp2_with fail
          go_ret
          exact ⟨rfl, nx HB0.out (nx HB013.out H1318.out)⟩
end Go.Proofs.YthjbknncbhkinaaGreatDoor.WMk

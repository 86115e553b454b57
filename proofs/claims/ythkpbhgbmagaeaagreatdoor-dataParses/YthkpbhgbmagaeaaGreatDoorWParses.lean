/- For every row of bytes the law DataParses returns true; conditions: the tables of the library hold what they are laid with. -/
import Derived.Test.YthkpbhgbmagaeaaGreatDoorLMem
import Derived.Test.YthkpbhgbmagaeaaGreatDoorP08
import Derived.Test.YthkpbhgbmagaeaaGreatDoorP37
import Derived.Test.YthkpbhgbmagaeaaGreatDoorP43
import Derived.Test.YthkpbhgbmagaeaaGreatDoorP33
namespace Go.Proofs.YthkpbhgbmagaeaaGreatDoor.WParses
open Go.RowKit Go.Proofs.YthkpbhgbmagaeaaGreatDoor.Base Go.Proofs.YthkpbhgbmagaeaaGreatDoor.UBase Go.Proofs.YthkpbhgbmagaeaaGreatDoor.Spec Go.Proofs.YthkpbhgbmagaeaaGreatDoor.Own Go.Proofs.YthkpbhgbmagaeaaGreatDoor.Byts Go.Proofs.YthkpbhgbmagaeaaGreatDoor.Rdr Go.Proofs.YthkpbhgbmagaeaaGreatDoor.Prs Go.Proofs.YthkpbhgbmagaeaaGreatDoor.Aw Go.Proofs.YthkpbhgbmagaeaaGreatDoor.FBy Go.Proofs.YthkpbhgbmagaeaaGreatDoor.LMem Go.Proofs.YthkpbhgbmagaeaaGreatDoor.SpoF
set_option linter.unusedVariables false

def rc : Except F C → C
  | .ok c => c
  | .error _ => .mk 0 false 0 ⟨#[]⟩ [] []
def rp : Except F C → Nat
  | .ok _ => 0
  | .error x => x.2
def rf : Except F C → Nat
  | .ok _ => 0
  | .error x => x.1
theorem pout_all {w w' : World} {X : Except F C} {e : Ending} (h : Pout w X e w') : ∃ u, e = .returned (.tuple #[u, .int .i64 (rp X : Nat), .int .i64 (rf X : Nat)]) ∧ Fs w' 24 (Rg w.heap.size w'.heap.size) u (rc X) ∧ Below w.heap.size w w' := by
  obtain ⟨hb, h⟩ := h
  cases X with
  | ok c =>
    obtain ⟨u, rfl, hu⟩ := h
    exact ⟨u, rfl, hu, hb⟩
  | error x => exact ⟨_, h, Fs.plain _ 23 _ _ _ _ _ (by decide) (by decide) (by decide), hb⟩
theorem six_at {w : World} {B : Nat} {v0 v1 v2 v3 v4 v5 : Value} {t : TypeId} (h : w.heap[B]? = some (.cells #[v0, v1, v2, v3, v4, v5] t (0, 0))) : Six w B 0 (.agg #[v0, v1, v2, v3, v4, v5]) := by
  obtain ⟨c0, c1, c2, c3, c4, c5⟩ := six_box h
  exact ⟨_, _, _, _, _, _, rfl, c0, c1, c2, c3, c4, c5⟩
theorem in_of {w : World} {m : Nat} {S : Nat → Prop} {u : Value} {c : C} (h : Fs w m S u c) : In false All w m u c := h.in.weak (fun _ _ => trivial) false id m (Nat.le_refl _)
set_option maxRecDepth 40000 in
set_option maxHeartbeats 6400000 in
theorem walk {v : Value} {s : ByteArray} {w : World} (h : Byt w w.heap.size v s) (hl : s.size ≤ 140737488351232) (ht : T6 w) : Calls Tryz.prog 3 #[v] w fun e w' => e = .returned (.bool true) ∧ Below w.heap.size w w' := by
  have HB : Hid (∀ w', Below w.heap.size w w' → Byt w' w'.heap.size v s) := fun w' hb => byt_below h hb
  have HT : Hid (∀ w', Below w.heap.size w w' → T6 w') := fun w' hb => ht.later hb
  have HL : Hid (s.size ≤ 140737488351232) := hl
  have cL := lendB_c h hl
  obtain ⟨cc, hcc⟩ : ∃ cc, rc (prs s) = cc := ⟨_, rfl⟩
  obtain ⟨p, hp⟩ : ∃ p, rp (prs s) = p := ⟨_, rfl⟩
  obtain ⟨q, hq⟩ : ∃ q, rf (prs s) = q := ⟨_, rfl⟩
  have HP : Hid (∀ w' e w'', Pout w' (prs s) e w'' → ∃ u, e = .returned (.tuple #[u, .int .i64 (p : Nat), .int .i64 (q : Nat)]) ∧ Fs w'' 24 (Rg w'.heap.size w''.heap.size) u cc ∧ Below w'.heap.size w' w'') := fun w' e w'' hh => by
    have := pout_all hh
    rwa [hcc, hp, hq] at this
  clear hcc hp hq ht hl
  obtain ⟨ck, cb, ci, cs, cn, cl⟩ := cc
  obtain ⟨a, cap0, rfl, -⟩ := h
  have HN : Hid (s.size = s.size) := rfl
  obtain ⟨N, hN⟩ : ∃ N, s.size = N := ⟨_, rfl⟩
  rw [hN] at HB cL ⊢
  have HNN : Hid (s.size = N) := hN
  clear hN
  go_enter Tryz.func3, Tryz.ntmps3
  go_wp2_with fail
  refine cL.mono ?_
  rintro e w1 ⟨g, cap, rfl, hL, b1⟩
  have s1 := b1.size
  have cP := parse_any hL.byt (HT.out w1 b1)
  have HL1 : Hid (Lent w1 w.heap.size g cap s) := hL
  rw [HNN.out] at cP
  clear cL hL
  go_wp2_with fail
  refine cP.mono ?_
  intro e w2 hp2
  obtain ⟨u1, rfl, fs1, b2⟩ := HP.out w1 e w2 hp2
  obtain ⟨an1, ln1, cn1, al1, ll1, cl1, rfl⟩ := Val.fs_shape fs1
  clear cP hp2
  go_wp2_with fail
  obtain ⟨W2, hW2⟩ : ∃ W2, w2.alloc (.cells #[.int .i64 ck, .bool cb, .int .i64 ci, .string cs, .slice an1 ln1 cn1, .slice al1 ll1 cl1] 27) = W2 := ⟨_, rfl⟩
  have bx1 : W2.heap[w2.heap.size]? = some (.cells #[.int .i64 ck, .bool cb, .int .i64 ci, .string cs, .slice an1 ln1 cn1, .slice al1 ll1 cl1] 27 (0, 0)) := by rw [← hW2]; exact heap_alloc_new w2 _
  have b2' : Below w2.heap.size w2 W2 := by rw [← hW2]; exact (Below.refl _ w2).alloc (Nat.le_refl _) _
  have z2 : W2.heap.size = w2.heap.size + 1 := by rw [← hW2]; simp
  have s2 := b2.size
  rw [hW2]
  clear hW2
  have bW2 : Below w.heap.size w W2 := b1.trans ((b2.mono s1).trans (b2'.mono (by omega)))
  have HL2 : Hid (Lent W2 w.heap.size g cap s) := (HL1.out.keep b2).keep b2'
  have cP := parse_any HL2.out.byt (HT.out W2 bW2)
  rw [HNN.out] at cP
  go_wp2_with fail
  refine cP.mono ?_
  intro e w3 hp3
  obtain ⟨u2, rfl, fs2, b3⟩ := HP.out W2 e w3 hp3
  obtain ⟨an2, ln2, cn2, al2, ll2, cl2, rfl⟩ := Val.fs_shape fs2
  clear cP hp3
  go_wp2_with fail
  obtain ⟨W3, hW3⟩ : ∃ W3, w3.alloc (.cells #[.int .i64 ck, .bool cb, .int .i64 ci, .string cs, .slice an2 ln2 cn2, .slice al2 ll2 cl2] 27) = W3 := ⟨_, rfl⟩
  have bx2 : W3.heap[w3.heap.size]? = some (.cells #[.int .i64 ck, .bool cb, .int .i64 ci, .string cs, .slice an2 ln2 cn2, .slice al2 ll2 cl2] 27 (0, 0)) := by rw [← hW3]; exact heap_alloc_new w3 _
  have b3' : Below w3.heap.size w3 W3 := by rw [← hW3]; exact (Below.refl _ w3).alloc (Nat.le_refl _) _
  have z3 : W3.heap.size = w3.heap.size + 1 := by rw [← hW3]; simp
  have s3 := b3.size
  rw [hW3]
  clear hW3
  have bW3 : Below w.heap.size w W3 := bW2.trans ((b3.mono (by omega)).trans (b3'.mono (by omega)))
  have cR := RPar.rparse_c (a := a) (cap := cap0) (w := W3) (s := s) (RVsl.rvs 24 1 rfl) (fun w' hb => by
    have := conv_byt (HB.out w' (bW3.trans (hb.mono (by omega))))
    rw [HNN.out]
    exact this)
  rw [HNN.out] at cR
  go_wp2_with fail
  refine cR.mono ?_
  intro e w4 hp4
  obtain ⟨u3, rfl, fs3, b4⟩ := HP.out W3 e w4 hp4
  obtain ⟨an3, ln3, cn3, al3, ll3, cl3, rfl⟩ := Val.fs_shape fs3
  clear cR hp4
  obtain ⟨W4, hW4⟩ : ∃ W4, w4.alloc (.cells #[.int .i64 ck, .bool cb, .int .i64 ci, .string cs, .slice an3 ln3 cn3, .slice al3 ll3 cl3] 27) = W4 := ⟨_, rfl⟩
  have bx3 : W4.heap[w4.heap.size]? = some (.cells #[.int .i64 ck, .bool cb, .int .i64 ci, .string cs, .slice an3 ln3 cn3, .slice al3 ll3 cl3] 27 (0, 0)) := by rw [← hW4]; exact heap_alloc_new w4 _
  have b4' : Below w4.heap.size w4 W4 := by rw [← hW4]; exact (Below.refl _ w4).alloc (Nat.le_refl _) _
  have z4 : W4.heap.size = w4.heap.size + 1 := by rw [← hW4]; simp
  have s4 := b4.size
  have bW4 : Below w.heap.size w W4 := bW3.trans ((b4.mono (by omega)).trans (b4'.mono (by omega)))
  have b34 : Below W3.heap.size W3 W4 := b4.trans (b4'.mono (by omega))
  have b24 : Below W2.heap.size W2 W4 := b3.trans ((b3'.mono (by omega)).trans (b34.mono (by omega)))
  have bx1' : W4.heap[w2.heap.size]? = _ := (b24.block _ (by omega)).trans bx1
  have bx2' : W4.heap[w3.heap.size]? = _ := (b34.block _ (by omega)).trans bx2
  have fs1' := (fs1.below b2').below b24
  have fs2' := (fs2.below b3').below b34
  have fs3' := fs3.below b4'
  have HL4 : Hid (Lent W4 w.heap.size g cap s) := HL2.out.keep b24
  have cS := SameV.sameV_c 24 _ _ _ W4 (in_of fs1') (in_of fs3')
  obtain ⟨x0, x1, x2, x3, x4, x5⟩ := six_box bx1'
  obtain ⟨y0, y1, y2, y3, y4, y5⟩ := six_box bx3
  have e1 : ((q : Int) == (q : Int)) = true := by simp
  have e2 : ((p : Int) == (p : Int)) = true := by simp
  have H1 : Hid (Fs W4 24 (Rg w1.heap.size w2.heap.size) (.agg #[.int .i64 ck, .bool cb, .int .i64 ci, .string cs, .slice an1 ln1 cn1, .slice al1 ll1 cl1]) (.mk ck cb ci cs cn cl)) := fs1'
  have H2 : Hid (Fs W4 24 (Rg W2.heap.size w3.heap.size) (.agg #[.int .i64 ck, .bool cb, .int .i64 ci, .string cs, .slice an2 ln2 cn2, .slice al2 ll2 cl2]) (.mk ck cb ci cs cn cl)) := fs2'
  have H3 : Hid (Fs W4 24 (Rg W3.heap.size w4.heap.size) (.agg #[.int .i64 ck, .bool cb, .int .i64 ci, .string cs, .slice an3 ln3 cn3, .slice al3 ll3 cl3]) (.mk ck cb ci cs cn cl)) := fs3'
  have X1 : Hid (W4.heap[w2.heap.size]? = some (.cells #[.int .i64 ck, .bool cb, .int .i64 ci, .string cs, .slice an1 ln1 cn1, .slice al1 ll1 cl1] 27 (0, 0))) := bx1'
  have X2 : Hid (W4.heap[w3.heap.size]? = some (.cells #[.int .i64 ck, .bool cb, .int .i64 ci, .string cs, .slice an2 ln2 cn2, .slice al2 ll2 cl2] 27 (0, 0))) := bx2'
  have X3 : Hid (W4.heap[w4.heap.size]? = some (.cells #[.int .i64 ck, .bool cb, .int .i64 ci, .string cs, .slice an3 ln3 cn3, .slice al3 ll3 cl3] 27 (0, 0))) := bx3
  have HW4 : Hid (w4.alloc (.cells #[.int .i64 ck, .bool cb, .int .i64 ci, .string cs, .slice an3 ln3 cn3, .slice al3 ll3 cl3] 27) = W4) := hW4
  clear bx1 bx2 bx3 bx1' bx2' fs1 fs2 fs3 fs1' fs2' fs3' b2' b3' b4' b24 b34 b1 b2 b3 b4 HL1 HL2 bW2 bW3 hW4
  go_wp2_with fail
  rw [HW4.out]
  clear HW4
  go_wp2_with (first | (go_at_call 7; refine (num_c _ _).mono ?_; rintro e w' ⟨rfl, rfl⟩))
  refine cS.mono ?_
  rintro e w5 ⟨rfl, b5⟩
  have s5 := b5.size
  have bW5 : Below w.heap.size w w5 := bW4.trans (b5.mono (by omega))
  have cK := keptB_c (HL4.out.keep b5) (HB.out w5 bW5) HL.out
  rw [HNN.out] at cK
  clear cS x0 x1 x2 x3 x4 x5 y0 y1 y2 y3 y4 y5
  go_wp2_with fail
  refine cK.mono ?_
  rintro e w5' ⟨rfl, rfl⟩
  clear cK
  have x1' := (b5.block w2.heap.size (by omega)).trans X1.out
  have cX := spoilsF 24 w5' w2.heap.size 0 _ _ w1.heap.size (Rg w1.heap.size w2.heap.size) (six_at x1') (frozen_box x1' 0) (H1.out.below b5) (fun b hb => hb.1) (fun hb => by have := hb.2; omega)
  clear x1'
  go_wp2_with fail
  refine cX.mono ?_
  rintro e w6 ⟨⟨r, rfl⟩, w6', z, ho, hw6⟩
  have blk : ∀ b, ¬ Rg w1.heap.size w2.heap.size b → b ≠ w2.heap.size → w6.heap[b]? = w5'.heap[b]? := fun b hb hne => by
    rw [hw6, Below.heap_setCell _ _ _ _ (by simpa using hne)]
    exact ho.block hb
  have bW6 : Below w.heap.size w w6 := by
    rw [hw6]
    exact (bW5.trans (ho.1.mono s1)).setCell (p := ⟨w2.heap.size, 0, none⟩) (show w.heap.size ≤ w2.heap.size from Nat.le_trans s1 s2) _
  have s6 : w6.heap.size = w5'.heap.size := by rw [hw6]; simpa [World.setCell] using ho.2.1
  have x2' := (blk w3.heap.size (fun hb => by have := hb.2; omega) (by omega)).trans ((b5.block w3.heap.size (by omega)).trans X2.out)
  have x3' := (blk w4.heap.size (fun hb => by have := hb.2; omega) (by omega)).trans ((b5.block w4.heap.size (by omega)).trans X3.out)
  have f2 := (H2.out.below b5).keep (w' := w6) (fun b hb _ => blk b (fun h9 => by have := h9.2; have := hb.1; omega) (by have := hb.1; omega))
  have f3 := (H3.out.below b5).keep (w' := w6) (fun b hb _ => blk b (fun h9 => by have := h9.2; have := hb.1; omega) (by have := hb.1; omega))
  have cS2 := SameV.sameV_c 24 _ _ _ w6 (in_of f2) (in_of f3)
  obtain ⟨x0, x1, x2, x3, x4, x5⟩ := six_box x2'
  obtain ⟨y0, y1, y2, y3, y4, y5⟩ := six_box x3'
  clear cX blk hw6 ho x2' x3' f2 f3 H1 H2 H3 X1 X2 X3
  go_wp2_with fail
  refine cS2.mono ?_
  rintro e w7 ⟨rfl, b7⟩
  have bW7 : Below w.heap.size w w7 := bW6.trans (b7.mono (by omega))
  have cA := AwV.awake_c w7 (HT.out w7 bW7)
  clear cS2 x0 x1 x2 x3 x4 x5 y0 y1 y2 y3 y4 y5
  go_wp2_with fail
  refine cA.mono ?_
  rintro e w8 ⟨rfl, b8⟩
  have bW8 : Below w.heap.size w w8 := bW7.trans (b8.mono bW7.size)
  clear cA
  go_wp2_with fail
  go_ret
  exact ⟨rfl, bW8⟩
end Go.Proofs.YthkpbhgbmagaeaaGreatDoor.WParses

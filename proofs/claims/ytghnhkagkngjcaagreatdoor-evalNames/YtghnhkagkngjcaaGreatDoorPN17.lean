import Derived.BigQuiet
import Derived.Deep.LoopGhost
import Derived.Deep.RegionWith
import Derived.LoopN
import Derived.LoopTactic
import Derived.Test.YtghnhkagkngjcaaGreatDoorPN16
set_option linter.unusedVariables false
set_option maxRecDepth 20000
set_option maxHeartbeats 3200000
namespace Go.Proofs.YtghnhkagkngjcaaGreatDoor.ELw
open Go.RowKit Base UBase EPure ERd ESk ETk EChr ECh ESc EAdv EDn EGx EBt EPa EPt ELs ELv
open XBase (four_box frozen_box Rg)
def lvk (s : ByteArray) (k : Nat) (q : P) : A Ex → A Ex
 | .error e => .error e
 | .ok (l, g1) => more s k q (2 * s.size + 2) l g1
def mrk1 (s : ByteArray) (k : Nat) (q : P) (f : Nat) (o : Int) (l : Ex) : A Ex → A Ex
 | .error e => .error e
 | .ok (r, g2) => more s k q f (nd o [l, r]) g2
def mrk (s : ByteArray) (k : Nat) (q : P) (f : Nat) (o : Int) (l : Ex) : Except F Sr → A Ex
 | .error e => .error e
 | .ok g1 => mrk1 s k q f o l (q g1)
theorem more_some {s : ByteArray} {k : Nat} {q : P} {f : Nat} {l : Ex} {g : Sr} {o : Int} (h : opOf g.tk (lvs.getD k []) = some o) : more s k q (f + 1) l g = mrk s k q f o l (adv s g.a g.r) := by
 rw [more, h]
 unfold mrk mrk1
 rfl
theorem more_none {s : ByteArray} {k : Nat} {q : P} {f : Nat} {l : Ex} {g : Sr} (h : opOf g.tk (lvs.getD k []) = none) : more s k q (f + 1) l g = .ok (l, g) := by
 rw [more, h]
theorem row_at (S : Nat → ByteArray) (O : Nat → Int) (W : World) : ∀ i : Nat, i < 4 → (Instr.index 100 (.agg #[.string (S 0), .int .i64 (O 0), .string (S 1), .int .i64 (O 1), .string (S 2), .int .i64 (O 2), .string (S 3), .int .i64 (O 3)]) (.int .i64 (i : Int))).run Tryz.prog W = .ok (.agg #[.string (S i), .int .i64 (O i)]) W
 | 0, _ => rfl
 | 1, _ => rfl
 | 2, _ => rfl
 | 3, _ => rfl
 | i + 4, h => absurd h (by omega)
theorem lv_at {W : World} {L k : Nat} (h : W.heap[L]? = some (.cells lvc.toArray 101 (0, 0))) (hk : k < 11) :
  (W.cell? ⟨L, k * 8, none⟩ = some (.string (pS k 0)) ∧ W.cell? ⟨L, k * 8 + 1, none⟩ = some (.int .i64 (pO k 0)) ∧ W.cell? ⟨L, k * 8 + 2, none⟩ = some (.string (pS k 1)) ∧ W.cell? ⟨L, k * 8 + 3, none⟩ = some (.int .i64 (pO k 1))) ∧
  W.cell? ⟨L, k * 8 + 4, none⟩ = some (.string (pS k 2)) ∧ W.cell? ⟨L, k * 8 + 5, none⟩ = some (.int .i64 (pO k 2)) ∧ W.cell? ⟨L, k * 8 + 6, none⟩ = some (.string (pS k 3)) ∧ W.cell? ⟨L, k * 8 + 7, none⟩ = some (.int .i64 (pO k 3)) := by
 have e : ∀ j, W.cell? ⟨L, j, none⟩ = lvc[j]? := fun j => by unfold World.cell?; rw [h]; simp
 have h0 := lv_cell k hk 0 (by omega)
 have h1 := lv_cell k hk 1 (by omega)
 have h2 := lv_cell k hk 2 (by omega)
 have h3 := lv_cell k hk 3 (by omega)
 simp only [e]
 exact ⟨⟨h0.1, h0.2, h1.1, h1.2⟩, h2.1, h2.2, h3.1, h3.2⟩
theorem is_s {t : Tk} {x : ByteArray} {b : Bool} (hb : is t x.data.toList = b) (w : World) :
  Calls Tryz.prog 79 #[.agg #[.int .i64 t.k, .string t.t, .int .i64 t.n, .int .i64 t.a], .string x] w fun e w' => e = .returned (.bool b) ∧ Below w.heap.size w w' := by
 have := is_b hb w
 exact this
theorem level_more {w : World} {R : Nat} {s : ByteArray} {g : Sr} {k n : Nat} {q : P} (hk : k < 11) (hn : n ≤ 100) (hQ : LvI s (k + 1) n q) (hD : Dn s q) (h : Es w R s g.a g.r g.tk) (ho : SrOk s g) :
  Calls Tryz.prog 78 #[ptr R, .int .i64 k, .int .i64 n] w fun e w' => PR w w' R s e (lvk s k q (q g)) := by
 have hRlt := h.er.lt
 have G0 := Gx.start h ho
 obtain ⟨W0, hW0⟩ : ∃ W0, w.alloc (.cells #[.int .i64 0, .int .i64 0, .string ⟨#[]⟩, .slice none 0 0] 24) = W0 := ⟨_, rfl⟩
 rw [hW0] at G0
 obtain ⟨X, hX⟩ : ∃ X, q g = X := ⟨_, rfl⟩
 rw [hX]
 have HX : Hid (q g = X) := hX
 obtain ⟨U, hU⟩ : ∃ U, lvk s k q X = U := ⟨_, rfl⟩
 rw [hU]
 have HU : Hid (lvk s k q X = U) := hU
 have e11 : ((k : Int) == 11) = false := by simp; omega
 unfold ptr
 clear hU hX
 go_enter Tryz.func78, Tryz.ntmps78
 go_wp2_with fail
 go_step3
 apply wp_seq_k; intro K1 hK1
 apply wp_region_lit
 refine wpList_plain rfl fun K hK => ?_
 go_simp
 refine (levels_c W0).mono ?_
 rintro e W1 ⟨rfl, b1⟩
 refine hK _ _ ?_
 clear hK K
 refine plainly rfl (some 7) rfl (.pointer (some ⟨W1.heap.size, 0, none⟩)) (W1.alloc (.cells lvz.toArray 101)) (by kernel_rfl) ?_
 refine wpList_store_row rfl 101 (.tmp 7) (.tmp 11) rfl W1.heap.size lvc.toArray (by kernel_rfl) (by kernel_rfl) 101 lvz.toArray (heap_alloc_new W1 _) (by kernel_rfl) (by kernel_rfl) (by kernel_rfl) ?_
 apply wpList_nil
 refine hK1 _ _ ?_
 clear hK1 K1
 have hb : ((W1.alloc (.cells lvz.toArray 101)).setRow W1.heap.size lvc.toArray).heap[W1.heap.size]? = some (.cells lvc.toArray 101 (0, 0)) := setRow_heap _ W1.heap.size lvz.toArray lvc.toArray 101 (0, 0) (heap_alloc_new W1 _)
 have b2 : Below W1.heap.size W1 ((W1.alloc (.cells lvz.toArray 101)).setRow W1.heap.size lvc.toArray) := ((Below.refl _ W1).alloc (Nat.le_refl _) _).trans ⟨rfl, rfl, rfl, by simp [World.setRow], fun k hk => setRow_other _ W1.heap.size k _ (by omega)⟩
 revert hb b2
 generalize ((W1.alloc (.cells lvz.toArray 101)).setRow W1.heap.size lvc.toArray) = W2
 intro hb b2
 have G2 := G0.below hRlt (nx b1 b2)
 have hL1 : w.heap.size < W1.heap.size := by have := G0.lt; have := b1.size; omega
 have hL2 := (Array.getElem?_eq_some_iff.1 hb).1
 obtain ⟨L, hL⟩ : ∃ L, W1.heap.size = L := ⟨_, rfl⟩
 rw [hL] at hb hL1 hL2 ⊢
 try simp only [Act.put, zD, zE, zF]
 have cS := hQ W2 R g G2.es G2.ok
 rw [HX.out] at cS
 unfold ptr at cS
 have hl2 := G2.lt
 clear h G0 hW0 b1 b2 hL
 go_wp2_with fail
 refine cS.mono ?_
 intro e W4 hN
 clear cS
 cases X with
 | error f =>
  obtain ⟨K4, rfl⟩ := hN
  have hU : Except.error f = U := HU.out
  subst hU
  exact ⟨rfl, G2.kr.trans K4, rfl⟩
 | ok p =>
  obtain ⟨x0, g1⟩ := p
  obtain ⟨K4, ⟨m0, a0, c0, rfl, hin0⟩, E4⟩ := hN
  have G4 := G2.step hRlt K4 E4 (hD _ _ _ G2.ok HX.out).1
  have hb4 := (K4.other L (by omega) hL2).trans hb
  obtain ⟨W5, hW5⟩ : ∃ W5, W4.alloc (.cells #[.int .i64 x0.o, .int .i64 x0.i, .string x0.s, .slice a0 x0.l.length c0] 24) = W5 := ⟨_, rfl⟩
  have P5 : Pa w W5 R s g1 x0 W4.heap.size W2.heap.size := Pa.start G4 hRlt hin0 G2.lt K4.below.size hW5
  have hb5 : W5.heap[L]? = some (.cells lvc.toArray 101 (0, 0)) := by rw [← hW5]; exact (Below.heap_alloc _ _ _ (by have := K4.below.size; omega)).trans hb4
  obtain ⟨B, hB⟩ : ∃ B, W4.heap.size = B := ⟨_, rfl⟩
  obtain ⟨lo, hlo⟩ : ∃ lo, W2.heap.size = lo := ⟨_, rfl⟩
  have HP5 : Hid (Pa w W5 R s g1 x0 B lo) := by rw [← hB, ← hlo]; exact P5
  have HBE : Hid (W4.heap.size = B) := hB
  have HLB : Hid (w.heap.size < L ∧ L < lo) := by rw [← hlo]; exact ⟨hL1, hL2⟩
  have HB5 : Hid (W5.heap[L]? = some (.cells lvc.toArray 101 (0, 0))) := hb5
  have HU1 : Hid (more s k q (2 * s.size + 2) x0 g1 = U) := HU.out
  clear P5 G4 K4 E4 hin0 G2 HU hlo hB hb hb4 hb5 hL1 hL2 hl2
  go_wp2_with fail
  rw [HBE.out]
  clear hW5
  go_step3
  go_wp2_with fail
  go_loopg [] (mu s g1) (fun G wr => ∃ (g' : Sr) (x : Ex) (f : Nat), mu s g' = G ∧ Pa w wr R s g' x B lo ∧ wr.heap[L]? = some (.cells lvc.toArray 101 (0, 0)) ∧ more s k q f x g' = U ∧ mu s g' < f)
  case atStart => exact ⟨g1, x0, _, rfl, HP5.out, HB5.out, HU1.out, by have := EPw.mu_le s g1; omega⟩
  case round =>
   clear HP5 HU1 HX HB5
   obtain ⟨g', x, f, hG, hP, hLb, hm, hf⟩ := hrel
   obtain ⟨f, rfl⟩ : ∃ f', f = f' + 1 := ⟨f - 1, by omega⟩
   obtain ⟨⟨r0, r1, r2, r3⟩, r4, r5, r6, r7⟩ := lv_at hLb hk
   obtain ⟨S, hS⟩ : ∃ S, pS k = S := ⟨_, rfl⟩
   obtain ⟨O, hO⟩ : ∃ O, pO k = O := ⟨_, rfl⟩
   rw [hS] at r0 r2 r4 r6
   rw [hO] at r1 r3 r5 r7
   have HSE : Hid (pS k = S) := hS
   have HOE : Hid (pO k = O) := hO
   have HPA : Hid (Pa w wr R s g' x B lo) := hP
   have HLB2 : Hid (wr.heap[L]? = some (.cells lvc.toArray 101 (0, 0))) := hLb
   have HMR : Hid (more s k q (f + 1) x g' = U) := hm
   have dk : decide ((k : Int) < 11) = true := by simp; omega
   clear hS hO hP hLb hm
   go_wp2_with fail
   obtain ⟨wo, rfl⟩ : ∃ wo, wo = wr := ⟨wr, rfl⟩
   go_loopg [25] 4 (fun g2 v wy => ∃ i : Nat, i + g2 = 4 ∧ v = .int .i64 i ∧ Pa w wy R s g' x B lo ∧ wy.heap[L]? = some (.cells lvc.toArray 101 (0, 0)) ∧ opOf g'.tk ((pd k).drop i) = opOf g'.tk (pd k))
   case atStart => exact ⟨0, by omega, rfl, HPA.out, HLB2.out, rfl⟩
   case round =>
    obtain ⟨i, hg2, rfl, hP, hLy, hop⟩ := hrel
    have HOP : Hid (opOf g'.tk ((pd k).drop i) = opOf g'.tk (pd k)) := hop
    have HPY : Hid (Pa w wr R s g' x B lo) := hP
    have HLY : Hid (wr.heap[L]? = some (.cells lvc.toArray 101 (0, 0))) := hLy
    have HPD : Hid (opOf g'.tk (pd k) = opOf g'.tk (lvs.getD k [])) := opOf_pd hP.gx.ok.t.sg k
    clear hop r0 r1 r2 r3 r4 r5 r6 r7 hP hLy HPA HLB2
    by_cases hi4 : i < 4
    ·have d4 : decide ((i : Int) < 4) = true := by simp; omega
     have hidx := row_at S O wr i hi4
     obtain ⟨si, hsi⟩ : ∃ si, S i = si := ⟨_, rfl⟩
     obtain ⟨oi, hoi⟩ : ∃ oi, O i = oi := ⟨_, rfl⟩
     have HDR : Hid ((pd k).drop i = (si.data.toList, oi) :: (pd k).drop (i + 1)) := by
      show _ = _
      rw [pd_drop hk hi4, HSE.out, HOE.out, hsi, hoi]
     have hor : 0 ≤ oi ∧ oi ≤ 31 := by rw [← hoi, ← HOE.out]; exact pO_rg k hk i hi4
     rw [hsi, hoi] at hidx
     obtain ⟨W7, hW7⟩ : ∃ W7, wr.alloc (.cells #[.string si, .int .i64 oi] 99) = W7 := ⟨_, rfl⟩
     have b7 : Below wr.heap.size wr W7 := by rw [← hW7]; exact (Below.refl _ wr).alloc (Nat.le_refl _) _
     have q7 : W7.heap[wr.heap.size]? = some (.cells #[.string si, .int .i64 oi] 99 (0, 0)) := by rw [← hW7]; exact heap_alloc_new wr _
     have P7 := HPY.out.below hRlt b7
     obtain ⟨k3, k4, k5, k6⟩ := Es.cells P7.gx.es
     obtain ⟨t0, t1⟩ := XBase.two_box q7
     have hT7 := (Array.getElem?_eq_some_iff.1 q7).1
     obtain ⟨T, hT⟩ : ∃ T, wr.heap.size = T := ⟨_, rfl⟩
     have hBT : B < T := by rw [← hT]; exact HPY.out.lt
     have hRB : R < B := by have := HPY.out.lo1; have := HPY.out.lo2; omega
     have HLT : Hid (L < T) := by
      rw [← hT]
      exact (Array.getElem?_eq_some_iff.1 HLY.out).1
     have hL7 := (b7.block L (by rw [hT]; exact HLT.out)).trans HLY.out
     rw [hT] at q7 t0 t1 hT7
     have HTE : Hid (wr.heap.size = T) := hT
     have HQ7 : Hid (W7.heap[T]? = some (.cells #[.string si, .int .i64 oi] 99 (0, 0))) := q7
     have HP7 : Hid (Pa w W7.drew R s g' x B lo) := P7.below hRlt (Below.refl _ W7).drew
     have HL7 : Hid (W7.heap[L]? = some (.cells lvc.toArray 101 (0, 0))) := hL7
     clear hsi hoi b7 P7 q7 hL7 hT
     cases hbi : is g'.tk si.data.toList with
     | false =>
      have cI := is_s hbi W7.drew
      have HOP2 : Hid (opOf g'.tk ((pd k).drop (i + 1)) = opOf g'.tk (pd k)) := by
       show _ = _
       rw [← HOP.out, HDR.out, opOf, if_neg (by simp [hbi])]
      clear hbi
      go_wp2_with fail
      rw [HTE.out]
      clear hW7
      go_region_held3 (fun w' => (w'.cell? ⟨R, 3, none⟩ = some (.int .i64 g'.tk.k) ∧ w'.cell? ⟨R, 4, none⟩ = some (.string g'.tk.t) ∧ w'.cell? ⟨R, 5, none⟩ = some (.int .i64 g'.tk.n) ∧ w'.cell? ⟨R, 6, none⟩ = some (.int .i64 g'.tk.a)) ∧ w'.cell? ⟨T, 0, none⟩ = some (.string si)) (go_keep) (first | (go_at_call 79; refine cI.mono ?_; rintro e W8 ⟨rfl, b8⟩; have P8 := HP7.out.below hRlt b8; obtain ⟨v3, v4, v5, v6⟩ := Es.cells P8.gx.es; have q8 := (b8.block T (show T < W7.heap.size by omega)).trans HQ7.out; obtain ⟨v7, v8⟩ := XBase.two_box q8) | fail)
      all_goals
       rename_i hHeld
       clear hHeld v3 v4 v5 v6 v7 v8
       have hL8 := (b8.block L (by have := HLT.out; show L < W7.heap.size; omega)).trans HL7.out
       clear cI
       go_wp2_with fail
       go_roundg (3 - i)
       case rel => exact ⟨i + 1, by omega, by go_num, P8, hL8, HOP2.out⟩
       case measure => omega
     | true =>
      have cI := is_s hbi W7.drew
      have hkk := is_k hbi
      have HOS : Hid (opOf g'.tk (lvs.getD k []) = some oi) := by
       show _ = _
       rw [← HPD.out, ← HOP.out, HDR.out, opOf, if_pos hbi]
      obtain ⟨X, hX⟩ : ∃ X, adv s g'.a g'.r = X := ⟨_, rfl⟩
      have HX1 : Hid (adv s g'.a g'.r = X) := hX
      have HU2 : Hid (mrk s k q f oi x X = U) := by
       show _ = _
       rw [← HMR.out, more_some HOS.out, hX]
      clear hbi hX
      go_wp2_with fail
      rw [HTE.out]
      clear hW7
      go_region_held3 (fun w' => (w'.cell? ⟨R, 3, none⟩ = some (.int .i64 g'.tk.k) ∧ w'.cell? ⟨R, 4, none⟩ = some (.string g'.tk.t) ∧ w'.cell? ⟨R, 5, none⟩ = some (.int .i64 g'.tk.n) ∧ w'.cell? ⟨R, 6, none⟩ = some (.int .i64 g'.tk.a)) ∧ w'.cell? ⟨T, 0, none⟩ = some (.string si)) (go_keep) (first | (go_at_call 79; refine cI.mono ?_; rintro e W8 ⟨rfl, b8⟩; have P8 := HP7.out.below hRlt b8; obtain ⟨v3, v4, v5, v6⟩ := Es.cells P8.gx.es; have q8 := (b8.block T (show T < W7.heap.size by omega)).trans HQ7.out; obtain ⟨v7, v8⟩ := XBase.two_box q8) | fail)
      all_goals
       rename_i hHeld
       clear hHeld v3 v4 v5 v6 v7 v8
       have hL8 := (b8.block L (by have := HLT.out; show L < W7.heap.size; omega)).trans HL7.out
       have hs8 : W7.heap.size ≤ W8.heap.size := b8.size
       have cA := adv_c P8.gx.es P8.gx.ok.r
       rw [HX1.out] at cA
       unfold ptr at cA
       clear cI k3 k4 k5 k6 t0 t1 b8
       go_wp2_with fail
       refine cA.mono ?_
       intro e W9 hA
       clear cA
       cases X with
       | error fe =>
        obtain ⟨K9, rfl⟩ := hA
        have hU : Except.error fe = U := HU2.out
        subst hU
        exact ⟨rfl, P8.gx.kr.trans K9, rfl⟩
       | ok g2 =>
        obtain ⟨K9, ⟨z, rfl⟩, E9⟩ := hA
        obtain ⟨ho2, hm2⟩ := adv_mu P8.gx.ok hkk HX1.out
        have P9 := P8.step hRlt K9 E9 ho2
        have hs9 := K9.below.size
        have q9 := (K9.other T (by omega) (by omega)).trans q8
        have hL9 := (K9.other L (by have := HLB.out; omega) (by have := HLT.out; omega)).trans hL8
        have P9d : Pa w W9.drew R s g2 x B lo := P9.below hRlt (Below.refl _ W9).drew
        have cQ := hQ W9.drew R g2 P9d.gx.es P9d.gx.ok
        obtain ⟨Y, hY⟩ : ∃ Y, q g2 = Y := ⟨_, rfl⟩
        have HY : Hid (q g2 = Y) := hY
        have HPR2 : Hid (mrk1 s k q f oi x Y = U) := by
         show _ = _
         rw [← hY]
         exact HU2.out
        rw [hY, show ((k + 1 : Nat) : Int) = (k : Int) + 1 from by omega] at cQ
        unfold ptr at cQ
        obtain ⟨mx, ax, cx, hbx, -⟩ := P9.row
        obtain ⟨j0, j1, j2, j3⟩ := four_box hbx
        obtain ⟨j4, j5⟩ := XBase.two_box q9
        have hwk : IntKind.i64.wrap ((k : Int) + 1) = (k : Int) + 1 := by rw [IntKind.wrap_i64]; omega
        have hB9 := P9.lt
        have hT9 : T < W9.heap.size := by omega
        have HP9 : Hid (Pa w W9.drew R s g2 x B lo) := P9d
        have HBX : Hid (W9.heap[B]? = some (.cells #[.int .i64 x.o, .int .i64 x.i, .string x.s, .slice ax x.l.length cx] 24 (0, 0))) := hbx
        have HQ9 : Hid (W9.heap[T]? = some (.cells #[.string si, .int .i64 oi] 99 (0, 0))) := q9
        have HL9 : Hid (W9.heap[L]? = some (.cells lvc.toArray 101 (0, 0))) := hL9
        clear K9 E9 P8 P9 P9d hY hbx q8 q9 hL8 hL9 hs8 hs9 HU2
        cases Y with
        | error fe =>
         have hU : Except.error fe = U := HPR2.out
         subst hU
         go_wp2_with fail
         refine wp_region_held_drew (S := (fun w' => (w'.cell? ⟨B, 0, none⟩ = some (.int .i64 x.o) ∧ w'.cell? ⟨B, 1, none⟩ = some (.int .i64 x.i) ∧ w'.cell? ⟨B, 2, none⟩ = some (.string x.s) ∧ w'.cell? ⟨B, 3, none⟩ = some (.slice ax x.l.length cx)) ∧ w'.cell? ⟨T, 1, none⟩ = some (.int .i64 oi))) (by kernel_rfl) ?_ (fun hHeld => ?_)
         ·exact ⟨four_box (show W9.drew.heap[B]? = _ from HBX.out), (XBase.two_box (show W9.drew.heap[T]? = _ from HQ9.out)).2⟩
         refine wpAnyH_take (i := 0) (v := ?_) rfl (by kernel_rfl) (by kernel_rfl) (by kernel_rfl) (fun _ _ _ h => h) (Or.inl ⟨by rfl, ?_⟩) (by assumption) ?_
         rotate_left 1
         ·intro w hSw; (try dsimp only at hSw); go_simp; first | done | with_reducible rfl
         try simp only [Act.put, zA, zB, zD, zE, zF]
         refine wpAnyH_take (i := 1) (v := ?_) rfl (by kernel_rfl) (by kernel_rfl) (by kernel_rfl) (fun _ _ _ h => h) (Or.inl ⟨by rfl, ?_⟩) (by assumption) ?_
         rotate_left 1
         ·intro w hSw; (try dsimp only at hSw); go_simp; first | done | with_reducible rfl
         try simp only [Act.put, zA, zB, zC, zD, zE, zF]
         refine wpAnyH_take (i := 2) (v := ?_) rfl (by kernel_rfl) (by kernel_rfl) (by kernel_rfl) (fun _ _ _ h => h) (Or.inl ⟨by rfl, ?_⟩) (by assumption) ?_
         rotate_left 1
         ·intro w hSw; (try dsimp only at hSw); go_simp; first | done | with_reducible rfl
         try simp only [Act.put, zA, zB, zC, zD, zE, zF]
         refine wpAnyH_take (i := 3) (v := ?_) rfl (by kernel_rfl) (by kernel_rfl) (by kernel_rfl) (fun _ _ _ h => h) (Or.inl ⟨by rfl, ?_⟩) (by assumption) ?_
         rotate_left 1
         ·intro w hSw; (try dsimp only at hSw); go_simp; first | done | with_reducible rfl
         try simp only [Act.put, zA, zB, zC, zD, zE, zF]
         refine wpAnyH_take (i := 4) (v := ?_) rfl (by kernel_rfl) (by kernel_rfl) (by kernel_rfl) (fun _ _ _ h => h) (Or.inl ⟨by rfl, ?_⟩) (by assumption) ?_
         rotate_left 1
         ·intro w hSw; (try dsimp only at hSw); go_simp; first | done | with_reducible rfl
         try simp only [Act.put, zA, zB, zC, zD, zE, zF]
         refine wpAnyH_take (i := 5) (v := ?_) rfl (by kernel_rfl) (by kernel_rfl) (by kernel_rfl) (fun _ _ _ h => h) (Or.inl ⟨by rfl, ?_⟩) (by assumption) ?_
         rotate_left 1
         ·intro w hSw; (try dsimp only at hSw); go_simp; first | done | with_reducible rfl
         try simp only [Act.put, zA, zB, zC, zD, zE, zF]
         refine wpAnyH_take (i := 6) (v := ?_) rfl (by kernel_rfl) (by kernel_rfl) (by kernel_rfl) (fun _ _ _ h => h) (Or.inl ⟨by rfl, ?_⟩) (by assumption) ?_
         rotate_left 1
         ·intro w hSw; (try dsimp only at hSw); go_simp; first | done | with_reducible rfl
         try simp only [Act.put, zA, zB, zC, zD, zE, zF]
         refine wpAnyH_ready (rs := [7]) (by kernel_rfl) (by simp) ?_
         refine AllReadyH.cons rfl (fun K hK => ?_) AllReadyH.nil
         go_simp
         try rw [hwk]
         refine cQ.mono ?_
         rintro e W10 ⟨K10, rfl⟩
         exact ⟨rfl, HP9.out.gx.kr.trans K10, rfl⟩
        | ok p =>
         obtain ⟨y, g3⟩ := p
         obtain ⟨ho3, hm3⟩ := hD _ _ _ HP9.out.gx.ok HY.out
         go_wp2_with fail
         refine wp_region_held_drew (S := (fun w' => w'.cell? ⟨T, 1, none⟩ = some (.int .i64 oi))) (by kernel_rfl) ?_ (fun hHeld => ?_)
         ·exact (XBase.two_box (show W9.drew.heap[T]? = _ from HQ9.out)).2
         refine wpAnyH_take (i := 0) (v := ?_) rfl (by kernel_rfl) (by kernel_rfl) (by kernel_rfl) (fun _ _ _ h => h) (Or.inl ⟨by rfl, ?_⟩) (by assumption) ?_
         rotate_left 1
         ·intro w hSw; (try dsimp only at hSw); go_simp; first | done | with_reducible rfl
         try simp only [Act.put, zA, zB, zD, zE, zF]
         refine wpAnyH_take (i := 1) (v := ?_) rfl (by kernel_rfl) (by kernel_rfl) (by kernel_rfl) (fun _ _ _ h => h) (Or.inl ⟨by rfl, ?_⟩) (by assumption) ?_
         rotate_left 1
         ·intro w hSw; (try dsimp only at hSw); go_simp; first | done | with_reducible rfl
         try simp only [Act.put, zA, zB, zC, zD, zE, zF]
         refine wpAnyH_take (i := 3) (v := ?_) rfl (by kernel_rfl) (by kernel_rfl) (by kernel_rfl) (fun _ _ _ h => h) (Or.inl ⟨by rfl, ?_⟩) (by assumption) ?_
         rotate_left 1
         ·intro w hSw; (try dsimp only at hSw); go_simp; first | done | with_reducible rfl
         try simp only [Act.put, zA, zB, zC, zD, zE, zF]
         refine wpAnyH_take (i := 4) (v := ?_) rfl (by kernel_rfl) (by kernel_rfl) (by kernel_rfl) (fun _ _ _ h => h) (Or.inl ⟨by rfl, ?_⟩) (by assumption) ?_
         rotate_left 1
         ·intro w hSw; (try dsimp only at hSw); go_simp; first | done | with_reducible rfl
         try simp only [Act.put, zA, zB, zC, zD, zE, zF]
         refine wpAnyH_take (i := 5) (v := ?_) rfl (by kernel_rfl) (by kernel_rfl) (by kernel_rfl) (fun _ _ _ h => h) (Or.inl ⟨by rfl, ?_⟩) (by assumption) ?_
         rotate_left 1
         ·intro w hSw; (try dsimp only at hSw); go_simp; first | done | with_reducible rfl
         try simp only [Act.put, zA, zB, zC, zD, zE, zF]
         refine wpAnyH_take (i := 6) (v := ?_) rfl (by kernel_rfl) (by kernel_rfl) (by kernel_rfl) (fun _ _ _ h => h) (Or.inl ⟨by rfl, ?_⟩) (by assumption) ?_
         rotate_left 1
         ·intro w hSw; (try dsimp only at hSw); go_simp; first | done | with_reducible rfl
         try simp only [Act.put, zA, zB, zC, zD, zE, zF]
         refine wpAnyH_ready (rs := [2, 7]) (by kernel_rfl) (by simp) ?_
         refine AllReadyH.cons rfl (fun K hK => ?_) (AllReadyH.cons rfl (fun K hK => ?_) AllReadyH.nil)
         ·obtain ⟨v0, v1, v2, v3⟩ := four_box (show W9.drew.heap[B]? = _ from HBX.out)
          go_simp
          refine hK.out _ _ ?_ (fun hHeld => ?_)
          ·exact (XBase.two_box (show W9.drew.heap[T]? = _ from HQ9.out)).2
          clear hK K
          try simp only [Act.put, zA, zB, zC, zD, zE, zF]
          refine wpAnyH_ready (rs := [7]) (by kernel_rfl) (by simp) ?_
          refine AllReadyH.cons rfl (fun K hK => ?_) AllReadyH.nil
          go_simp
          try rw [hwk]
          refine cQ.mono ?_
          rintro e W10 ⟨K10, ⟨my, ay, cy, rfl, hiny⟩, E10⟩
          have P10 := HP9.out.step hRlt K10 E10 ho3
          have hb10 := (K10.other B (by omega) hB9).trans HBX.out
          have hq10 := (K10.other T (by omega) hT9).trans HQ9.out
          obtain ⟨i0, i1, i2, i3⟩ := four_box hb10
          obtain ⟨j8, j9⟩ := XBase.two_box hq10
          refine hK.out _ _ ?_ (fun hHeld => ?_)
          ·exact j9
          clear hK K
          try simp only [Act.put, zA, zB, zC, zD, zE, zF]
          refine wpAnyH_ready (rs := [8]) (by kernel_rfl) (by simp) ?_
          refine AllReadyH.cons rfl (fun K hK => ?_) AllReadyH.nil
          obtain ⟨W11, hW11⟩ : ∃ W11, W10.alloc (.cells #[.int .i64 x.o, .int .i64 x.i, .string x.s, .slice ax x.l.length cx, .int .i64 y.o, .int .i64 y.i, .string y.s, .slice ay y.l.length cy] 24) = W11 := ⟨_, rfl⟩
          have hb11 : W11.heap[B]? = some (.cells #[.int .i64 x.o, .int .i64 x.i, .string x.s, .slice ax x.l.length cx] 24 (0, 0)) := (by rw [← hW11]; exact (Below.heap_alloc _ _ _ P10.lt).trans hb10)
          have hs11 : B < W11.heap.size := (by rw [← hW11]; have := P10.lt; simp; omega)
          have hq11 : W11.heap[T]? = some (.cells #[.string si, .int .i64 oi] 99 (0, 0)) := (by rw [← hW11]; exact (Below.heap_alloc _ _ _ (by have := K10.below.size; have h99 : W9.drew.heap.size = W9.heap.size := rfl; omega)).trans hq10)
          obtain ⟨n4, n5⟩ := XBase.two_box hq11
          have cN := node_c oi (some ⟨W10.heap.size, 0, none⟩) 2 2 W11
          go_simp
          refine hK.out _ _ ?_ (fun hHeld => ?_)
          ·exact n5
          clear hK K
          try simp only [Act.put, zA, zB, zC, zD, zE, zF]
          refine wpAnyH_ready (rs := [9]) (by kernel_rfl) (by simp) ?_
          refine AllReadyH.cons rfl (fun K hK => ?_) AllReadyH.nil
          go_simp
          refine cN.mono ?_
          rintro e W12 ⟨rfl, b12⟩
          have hb12 := (b12.block B hs11).trans hb11
          obtain ⟨h0, h1, h2, h3⟩ := four_box hb12
          have f0 := XBase.frozen_box hb12 0
          have f1 := XBase.frozen_box hb12 1
          have f2 := XBase.frozen_box hb12 2
          have f3 := XBase.frozen_box hb12 3
          have hq12 := (b12.block T (by rw [← hW11]; have := K10.below.size; have h99 : W9.drew.heap.size = W9.heap.size := rfl; simp; omega)).trans hq11
          obtain ⟨l8, l9⟩ := XBase.two_box hq12
          refine hK.out _ _ ?_ (fun hHeld => ?_)
          ·exact l9
          clear hK K
          try simp only [Act.put, zA, zB, zC, zD, zE, zF]
          refine wpAnyH_ready (rs := [10]) (by kernel_rfl) (by simp) ?_
          refine AllReadyH.cons rfl (fun K hK => ?_) AllReadyH.nil
          obtain ⟨W13, hW13⟩ : ∃ W13, ((((W12.setCell ⟨B, 0, none⟩ (.int .i64 oi)).setCell ⟨B, 1, none⟩ (.int .i64 0)).setCell ⟨B, 2, none⟩ (.string ⟨#[]⟩)).setCell ⟨B, 3, none⟩ (.slice (some ⟨W10.heap.size, 0, none⟩) 2 2)) = W13 := ⟨_, rfl⟩
          have hne13 : ∀ z, z ≠ B → W13.heap[z]? = W12.heap[z]? := fun z hne => by rw [← hW13, Below.heap_setCell _ _ _ _ hne, Below.heap_setCell _ _ _ _ hne, Below.heap_setCell _ _ _ _ hne, Below.heap_setCell _ _ _ _ hne]
          go_simp
          try rw [hW13]
          refine hK.out _ _ ?_ (fun hHeld => ?_)
          ·exact (XBase.two_box ((hne13 T (by omega)).trans hq12)).2
          clear hK K
          try simp only [Act.put, zA, zB, zC, zD, zE, zF]
          refine wpAnyH_done (by kernel_rfl) ?_ _
          have P13 := Pa.two (o := oi) P10 hRlt (by omega) hb10 hiny (show B < W9.heap.size from hB9) hW11 b12 hW13
          have hL13 : W13.heap[L]? = some (.cells lvc.toArray 101 (0, 0)) := by
           have hne : L ≠ B := by have := HLB.out; have := HP9.out.lo2; omega
           have hs10 := K10.below.size
           have h910 : W9.drew.heap.size = W9.heap.size := rfl
           have hLT := HLT.out
           rw [hne13 L hne]
           refine (b12.block L (by rw [← hW11]; simp; omega)).trans ?_
           rw [← hW11]
           exact (Below.heap_alloc _ _ _ (by omega)).trans ((K10.other L (by have := HLB.out; omega) (by omega)).trans HL9.out)
          have HP13 : Hid (Pa w W13 R s g3 (nd oi [x, y]) B lo) := P13
          have HL13 : Hid (W13.heap[L]? = some (.cells lvc.toArray 101 (0, 0))) := hL13
          clear P13 P10 K10 E10 cQ hb10 hb11 hb12 b12 hW13 hW11 hiny cN hL13 hq10 hq11 hq12 hHeld hne13
          go_wp2_with fail
          go_roundg (mu s g3)
          case rel => exact ⟨g3, nd oi [x, y], f, rfl, HP13.out, HL13.out, HPR2.out, by omega⟩
          case measure => omega
         ·skip
          go_simp
          try rw [hwk]
          refine cQ.mono ?_
          rintro e W10 ⟨K10, ⟨my, ay, cy, rfl, hiny⟩, E10⟩
          have P10 := HP9.out.step hRlt K10 E10 ho3
          have hb10 := (K10.other B (by omega) hB9).trans HBX.out
          have hq10 := (K10.other T (by omega) hT9).trans HQ9.out
          obtain ⟨i0, i1, i2, i3⟩ := four_box hb10
          obtain ⟨j8, j9⟩ := XBase.two_box hq10
          refine hK.out _ _ ?_ (fun hHeld => ?_)
          ·exact j9
          clear hK K
          try simp only [Act.put, zA, zB, zC, zD, zE, zF]
          refine wpAnyH_ready (rs := [2]) (by kernel_rfl) (by simp) ?_
          refine AllReadyH.cons rfl (fun K hK => ?_) AllReadyH.nil
          go_simp
          refine hK.out _ _ ?_ (fun hHeld => ?_)
          ·exact j9
          clear hK K
          try simp only [Act.put, zA, zB, zC, zD, zE, zF]
          refine wpAnyH_ready (rs := [8]) (by kernel_rfl) (by simp) ?_
          refine AllReadyH.cons rfl (fun K hK => ?_) AllReadyH.nil
          obtain ⟨W11, hW11⟩ : ∃ W11, W10.alloc (.cells #[.int .i64 x.o, .int .i64 x.i, .string x.s, .slice ax x.l.length cx, .int .i64 y.o, .int .i64 y.i, .string y.s, .slice ay y.l.length cy] 24) = W11 := ⟨_, rfl⟩
          have hb11 : W11.heap[B]? = some (.cells #[.int .i64 x.o, .int .i64 x.i, .string x.s, .slice ax x.l.length cx] 24 (0, 0)) := (by rw [← hW11]; exact (Below.heap_alloc _ _ _ P10.lt).trans hb10)
          have hs11 : B < W11.heap.size := (by rw [← hW11]; have := P10.lt; simp; omega)
          have hq11 : W11.heap[T]? = some (.cells #[.string si, .int .i64 oi] 99 (0, 0)) := (by rw [← hW11]; exact (Below.heap_alloc _ _ _ (by have := K10.below.size; have h99 : W9.drew.heap.size = W9.heap.size := rfl; omega)).trans hq10)
          obtain ⟨n4, n5⟩ := XBase.two_box hq11
          have cN := node_c oi (some ⟨W10.heap.size, 0, none⟩) 2 2 W11
          go_simp
          refine hK.out _ _ ?_ (fun hHeld => ?_)
          ·exact n5
          clear hK K
          try simp only [Act.put, zA, zB, zC, zD, zE, zF]
          refine wpAnyH_ready (rs := [9]) (by kernel_rfl) (by simp) ?_
          refine AllReadyH.cons rfl (fun K hK => ?_) AllReadyH.nil
          go_simp
          refine cN.mono ?_
          rintro e W12 ⟨rfl, b12⟩
          have hb12 := (b12.block B hs11).trans hb11
          obtain ⟨h0, h1, h2, h3⟩ := four_box hb12
          have f0 := XBase.frozen_box hb12 0
          have f1 := XBase.frozen_box hb12 1
          have f2 := XBase.frozen_box hb12 2
          have f3 := XBase.frozen_box hb12 3
          have hq12 := (b12.block T (by rw [← hW11]; have := K10.below.size; have h99 : W9.drew.heap.size = W9.heap.size := rfl; simp; omega)).trans hq11
          obtain ⟨l8, l9⟩ := XBase.two_box hq12
          refine hK.out _ _ ?_ (fun hHeld => ?_)
          ·exact l9
          clear hK K
          try simp only [Act.put, zA, zB, zC, zD, zE, zF]
          refine wpAnyH_ready (rs := [10]) (by kernel_rfl) (by simp) ?_
          refine AllReadyH.cons rfl (fun K hK => ?_) AllReadyH.nil
          obtain ⟨W13, hW13⟩ : ∃ W13, ((((W12.setCell ⟨B, 0, none⟩ (.int .i64 oi)).setCell ⟨B, 1, none⟩ (.int .i64 0)).setCell ⟨B, 2, none⟩ (.string ⟨#[]⟩)).setCell ⟨B, 3, none⟩ (.slice (some ⟨W10.heap.size, 0, none⟩) 2 2)) = W13 := ⟨_, rfl⟩
          have hne13 : ∀ z, z ≠ B → W13.heap[z]? = W12.heap[z]? := fun z hne => by rw [← hW13, Below.heap_setCell _ _ _ _ hne, Below.heap_setCell _ _ _ _ hne, Below.heap_setCell _ _ _ _ hne, Below.heap_setCell _ _ _ _ hne]
          go_simp
          try rw [hW13]
          refine hK.out _ _ ?_ (fun hHeld => ?_)
          ·exact (XBase.two_box ((hne13 T (by omega)).trans hq12)).2
          clear hK K
          try simp only [Act.put, zA, zB, zC, zD, zE, zF]
          refine wpAnyH_done (by kernel_rfl) ?_ _
          have P13 := Pa.two (o := oi) P10 hRlt (by omega) hb10 hiny (show B < W9.heap.size from hB9) hW11 b12 hW13
          have hL13 : W13.heap[L]? = some (.cells lvc.toArray 101 (0, 0)) := by
           have hne : L ≠ B := by have := HLB.out; have := HP9.out.lo2; omega
           have hs10 := K10.below.size
           have h910 : W9.drew.heap.size = W9.heap.size := rfl
           have hLT := HLT.out
           rw [hne13 L hne]
           refine (b12.block L (by rw [← hW11]; simp; omega)).trans ?_
           rw [← hW11]
           exact (Below.heap_alloc _ _ _ (by omega)).trans ((K10.other L (by have := HLB.out; omega) (by omega)).trans HL9.out)
          have HP13 : Hid (Pa w W13 R s g3 (nd oi [x, y]) B lo) := P13
          have HL13 : Hid (W13.heap[L]? = some (.cells lvc.toArray 101 (0, 0))) := hL13
          clear P13 P10 K10 E10 cQ hb10 hb11 hb12 b12 hW13 hW11 hiny cN hL13 hq10 hq11 hq12 hHeld hne13
          go_wp2_with fail
          go_roundg (mu s g3)
          case rel => exact ⟨g3, nd oi [x, y], f, rfl, HP13.out, HL13.out, HPR2.out, by omega⟩
          case measure => omega
    ·have d4 : decide ((i : Int) < 4) = false := by simp; omega
     have HON : Hid (opOf g'.tk (lvs.getD k []) = none) := by
      show _ = _
      rw [← HPD.out, ← HOP.out, List.drop_eq_nil_of_le (by rw [pd_len k hk]; omega)]
      rfl
     have hU : Except.ok (x, g') = U := by rw [← HMR.out, more_none HON.out]
     subst hU
     have P4 := HPY.out
     obtain ⟨mx, ax, cx, hbx, -⟩ := P4.row
     obtain ⟨j0, j1, j2, j3⟩ := four_box hbx
     obtain ⟨d0, d1, d2, d3⟩ := four_box P4.gx.box
     have f0 := XBase.frozen_box P4.gx.box 0
     have f1 := XBase.frozen_box P4.gx.box 1
     have f2 := XBase.frozen_box P4.gx.box 2
     have f3 := XBase.frozen_box P4.gx.box 3
     obtain ⟨W5, hW5⟩ : ∃ W5, ((((wr.setCell ⟨w.heap.size, 0, none⟩ (.int .i64 x.o)).setCell ⟨w.heap.size, 1, none⟩ (.int .i64 x.i)).setCell ⟨w.heap.size, 2, none⟩ (.string x.s)).setCell ⟨w.heap.size, 3, none⟩ (.slice ax x.l.length cx)) = W5 := ⟨_, rfl⟩
     obtain ⟨p1, p2⟩ := Pa.fin P4 hRlt hbx hW5
     obtain ⟨y0, y1, y2, y3⟩ := four_box p1
     have HP2 : Hid (PR w W5 R s (.returned (.agg #[.int .i64 x.o, .int .i64 x.i, .string x.s, .slice ax x.l.length cx])) (.ok (x, g'))) := p2
     clear p1 p2 P4 hbx
     go_wp2_with fail
     try rw [Exit.noGoto_ret]
     refine bodyPost_ret (v := .agg #[.int .i64 x.o, .int .i64 x.i, .string x.s, .slice ax x.l.length cx]) (by simp [results, Tryz.results78, go_sem, y0, y1, y2, y3]) rfl ?_
     exact HP2.out
theorem level_c {s : ByteArray} {n : Nat} {S : P} (hn : n ≤ 100) (hS : SgI s n S) (hD : Dn s S) : ∀ j, j ≤ 11 → LvI s (11 - j) n (lev s S j) := by
 intro j
 induction j with
 | zero =>
  intro _ w R g h ho
  exact level_sign hS hD h ho
 | succ j ih =>
  intro hj w R g h ho
  have hq := ih (by omega)
  rw [show 11 - j = (10 - j) + 1 by omega] at hq
  have := level_more (k := 10 - j) (by omega) hn hq (lev_dn hD j) h ho
  rw [show 11 - (j + 1) = 10 - j by omega]
  refine this.mono ?_
  intro e w'
  rw [lev]
  dsimp only
  generalize lev s S j g = X
  cases X <;> exact id
end Go.Proofs.YtghnhkagkngjcaaGreatDoor.ELw
namespace Go.Proofs.YtghnhkagkngjcaaGreatDoor.PPl
open Go.RowKit Base EPure ELs ELv ELw
open XBase (four_box two_box frozen_box Rg)
def kd (o : Int) : Int := if 1 ≤ o ∧ o ≤ 6 then 0 else if o = 7 ∨ o = 9 ∨ o = 10 ∨ o = 11 then 1 else if o = 8 ∨ (12 ≤ o ∧ o ≤ 30) then 2 else if o = 31 then 3 else -1
theorem ret_int {k : IntKind} {a b : Int} (h : a = b) : Ending.returned (.int k a) = .returned (.int k b) := by rw [h]
def lvl (o : Int) : Int := if o = 31 then -1 else if o = 10 ∨ o = 11 then 11 else if o = 30 then 0 else if o = 29 then 1 else if o = 27 ∨ o = 28 then 2 else if 23 ≤ o ∧ o ≤ 26 then 3 else if o = 22 then 4 else if o = 21 then 5 else if o = 20 then 6 else if o = 18 ∨ o = 19 then 7 else if o = 17 then 8 else if o = 15 ∨ o = 16 then 9 else if 12 ≤ o ∧ o ≤ 14 then 10 else 12
def sgo (o : Int) : List UInt8 := if o = 30 then [124, 124] else if o = 29 then [38, 38] else if o = 27 then [61, 61] else if o = 28 then [33, 61] else if o = 23 then [60] else if o = 24 then [60, 61] else if o = 25 then [62] else if o = 26 then [62, 61] else if o = 22 then [124] else if o = 21 then [94] else if o = 20 then [38] else if o = 18 then [60, 60] else if o = 19 then [62, 62] else if o = 17 then [126] else if o = 15 then [43] else if o = 16 then [45] else if o = 12 then [42] else if o = 13 then [47] else if o = 14 then [37] else []
theorem hit : ∀ k, k < 11 → ∀ i, i < 4 → pO k i ≠ 0 → lvl (pO k i) = k ∧ (⟨(sgo (pO k i)).toArray⟩ : ByteArray) = pS k i := by decide
theorem where_is : ∀ n : Nat, n < 31 → 12 ≤ n → ∃ k, k < 11 ∧ ∃ i, i < 4 ∧ pO k i = (n : Int) := by decide
theorem no_hit {o : Int} (h1 : 1 ≤ o) (h2 : o ≤ 31) (h3 : o ≠ 31) (h4 : o ≠ 10) (h5 : o ≠ 11) (h : ∀ k, k < 11 → ∀ i, i < 4 → pO k i ≠ o) : lvl o = 12 ∧ sgo o = [] := by
 have h9 : o < 12 := by
  rcases Int.lt_or_le o 12 with h' | h'
  ·exact h'
  ·obtain ⟨k, hk, i, hi, e⟩ := where_is o.toNat (by omega) (by omega)
   exact (h k hk i hi (by rw [e]; omega)).elim
 unfold lvl sgo
 constructor
 ·repeat' rw [if_neg (by omega)]
 ·repeat' rw [if_neg (by omega)]
set_option maxRecDepth 40000 in
theorem tab_at (W : World) : ∀ k : Nat, k < 11 → (Instr.index 101 (.agg lvc.toArray) (.int .i64 (k : Int))).run Tryz.prog W = .ok (.agg #[.string (pS k 0), .int .i64 (pO k 0), .string (pS k 1), .int .i64 (pO k 1), .string (pS k 2), .int .i64 (pO k 2), .string (pS k 3), .int .i64 (pO k 3)]) W
 | 0, _ => by kernel_rfl
 | 1, _ => by kernel_rfl
 | 2, _ => by kernel_rfl
 | 3, _ => by kernel_rfl
 | 4, _ => by kernel_rfl
 | 5, _ => by kernel_rfl
 | 6, _ => by kernel_rfl
 | 7, _ => by kernel_rfl
 | 8, _ => by kernel_rfl
 | 9, _ => by kernel_rfl
 | 10, _ => by kernel_rfl
 | k + 11, h => absurd h (by omega)
theorem placeOf_c {o : Int} (h1 : 1 ≤ o) (h2 : o ≤ 31) (w : World) : Calls Tryz.prog 45 #[.int .i64 o] w fun e w' => e = .returned (.tuple #[.int .i64 (lvl o), .string ⟨(sgo o).toArray⟩]) ∧ Below w.heap.size w w' := by
 by_cases h31 : o = 31
 ·subst h31
  go_enter Tryz.func45, Tryz.ntmps45
  go_wp2_with fail
  go_ret2
  exact ⟨rfl, Below.refl _ _⟩
 have e31 : (o == 31) = false := by simp [h31]
 by_cases h10 : o = 10
 ·subst h10
  go_enter Tryz.func45, Tryz.ntmps45
  go_wp2_with fail
  go_ret2
  exact ⟨rfl, Below.refl _ _⟩
 have e10 : (o == 10) = false := by simp [h10]
 by_cases h11 : o = 11
 ·subst h11
  go_enter Tryz.func45, Tryz.ntmps45
  go_wp2_with fail
  go_ret2
  exact ⟨rfl, Below.refl _ _⟩
 have e11 : (o == 11) = false := by simp [h11]
 have HN : Hid (o ≠ 31 ∧ o ≠ 10 ∧ o ≠ 11) := ⟨h31, h10, h11⟩
 clear h31 h10 h11
 go_enter Tryz.func45, Tryz.ntmps45
 go_wp2_with fail
 refine (levels_c w).mono ?_
 rintro e W1 ⟨rfl, b1⟩
 go_wp2_with fail
 go_loopw [15] (fun v wr => ∃ k : Nat, v = .int .i64 k ∧ k ≤ 11 ∧ Below w.heap.size w wr ∧ ∀ k', k' < k → ∀ i, i < 4 → pO k' i ≠ o) (fun v _ => 11 - (intOf v).toNat)
 case atStart => exact ⟨0, rfl, by omega, b1, fun k' h => by omega⟩
 case round =>
  obtain ⟨k, rfl, hk, hb, hno⟩ := hrel
  have HNO : Hid (∀ k', k' < k → ∀ i, i < 4 → pO k' i ≠ o) := hno
  clear hno
  by_cases hk11 : k < 11
  ·have d11 : decide ((k : Int) < 11) = true := by simp; omega
   have hidx := tab_at wr k hk11
   obtain ⟨S, hS⟩ : ∃ S, pS k = S := ⟨_, rfl⟩
   obtain ⟨O, hO⟩ : ∃ O, pO k = O := ⟨_, rfl⟩
   have HSE : Hid (pS k = S) := hS
   have HOE : Hid (pO k = O) := hO
   rw [hS, hO] at hidx
   obtain ⟨W2, hW2⟩ : ∃ W2, wr.alloc (.cells #[.string (S 0), .int .i64 (O 0), .string (S 1), .int .i64 (O 1), .string (S 2), .int .i64 (O 2), .string (S 3), .int .i64 (O 3)] 100) = W2 := ⟨_, rfl⟩
   have b2 : Below w.heap.size w W2 := by rw [← hW2]; exact hb.alloc hb.size _
   have HB2 : Hid (Below w.heap.size w W2) := b2
   have q2 : W2.heap[wr.heap.size]? = some (.cells #[.string (S 0), .int .i64 (O 0), .string (S 1), .int .i64 (O 1), .string (S 2), .int .i64 (O 2), .string (S 3), .int .i64 (O 3)] 100 (0, 0)) := by rw [← hW2]; exact heap_alloc_new wr _
   have v0 : W2.cell? ⟨wr.heap.size, 0, none⟩ = some (.string (S 0)) := by simp [World.cell?, q2]
   have v1 : W2.cell? ⟨wr.heap.size, 1, none⟩ = some (.int .i64 (O 0)) := by simp [World.cell?, q2]
   have v2 : W2.cell? ⟨wr.heap.size, 2, none⟩ = some (.string (S 1)) := by simp [World.cell?, q2]
   have v3 : W2.cell? ⟨wr.heap.size, 3, none⟩ = some (.int .i64 (O 1)) := by simp [World.cell?, q2]
   have v4 : W2.cell? ⟨wr.heap.size, 4, none⟩ = some (.string (S 2)) := by simp [World.cell?, q2]
   have v5 : W2.cell? ⟨wr.heap.size, 5, none⟩ = some (.int .i64 (O 2)) := by simp [World.cell?, q2]
   have v6 : W2.cell? ⟨wr.heap.size, 6, none⟩ = some (.string (S 3)) := by simp [World.cell?, q2]
   have v7 : W2.cell? ⟨wr.heap.size, 7, none⟩ = some (.int .i64 (O 3)) := by simp [World.cell?, q2]
   clear hS hO b2 hb q2
   go_wp2_with fail
   obtain ⟨wo, rfl⟩ : ∃ wo, wo = wr := ⟨wr, rfl⟩
   clear hW2 v0 v1 v2 v3 v4 v5 v6 v7
   go_loopw [20] (fun v wy => ∃ i : Nat, v = .int .i64 i ∧ i ≤ 4 ∧ Below w.heap.size w wy ∧ ∀ i', i' < i → pO k i' ≠ o) (fun v _ => 4 - (intOf v).toNat)
   case atStart => exact ⟨0, rfl, by omega, HB2.out, fun i' h => by omega⟩
   case round =>
    obtain ⟨i, rfl, hi, hb, hni⟩ := hrel
    have HNI : Hid (∀ i', i' < i → pO k i' ≠ o) := hni
    clear hni
    by_cases hi4 : i < 4
    ·have d4 : decide ((i : Int) < 4) = true := by simp; omega
     have hidx2 := row_at S O wr i hi4
     obtain ⟨si, hsi⟩ : ∃ si, S i = si := ⟨_, rfl⟩
     obtain ⟨oi, hoi⟩ : ∃ oi, O i = oi := ⟨_, rfl⟩
     have HSI : Hid (pS k i = si ∧ pO k i = oi) := ⟨by rw [HSE.out, hsi], by rw [HOE.out, hoi]⟩
     rw [hsi, hoi] at hidx2
     obtain ⟨W3, hW3⟩ : ∃ W3, wr.alloc (.cells #[.string si, .int .i64 oi] 99) = W3 := ⟨_, rfl⟩
     have b3 : Below w.heap.size w W3 := by rw [← hW3]; exact hb.alloc hb.size _
     have q3 : W3.heap[wr.heap.size]? = some (.cells #[.string si, .int .i64 oi] 99 (0, 0)) := by rw [← hW3]; exact heap_alloc_new wr _
     obtain ⟨t0, t1⟩ := two_box q3
     have HB3 : Hid (Below w.heap.size w W3) := b3
     clear hsi hoi b3 hb q3
     by_cases ho : oi = o
     ·have eo : (oi == o) = true := by simp [ho]
      have HR : Hid (lvl o = k ∧ (⟨(sgo o).toArray⟩ : ByteArray) = si) := by
       have := hit k hk11 i hi4 (by rw [HSI.out.2]; omega)
       rw [HSI.out.1, HSI.out.2, ho] at this
       exact this
      clear ho
      go_wp2_with fail
      clear hW3
      go_quiet (fail)
      go_wp2_with fail
      go_ret2
      obtain ⟨e1, e2⟩ := HR.out
      rw [e1, e2]
      exact ⟨rfl, HB3.out.trans ⟨rfl, rfl, rfl, by simp, fun _ _ => by simp⟩⟩
     ·have eo : (oi == o) = false := by simp [ho]
      have HNI2 : Hid (∀ i', i' < i + 1 → pO k i' ≠ o) := by
       intro i' hi'
       by_cases e : i' = i
       ·rw [e, HSI.out.2]; exact ho
       ·exact HNI.out i' (by omega)
      clear ho
      go_wp2_with fail
      clear hW3
      go_roundw
      case rel => exact ⟨i + 1, by go_num, by omega, HB3.out, HNI2.out⟩
      case measure => simp only [intOf]; omega
    ·have d4 : decide ((i : Int) < 4) = false := by simp; omega
     have HNO2 : Hid (∀ k', k' < k + 1 → ∀ i, i < 4 → pO k' i ≠ o) := by
      intro k' hk' i' hi'
      by_cases e : k' = k
      ·rw [e]; exact HNI.out i' (by omega)
      ·exact HNO.out k' (by omega) i' hi'
     have HB4 : Hid (Below w.heap.size w wr) := hb
     clear hb
     go_wp2_with fail
     go_roundw
     case rel => exact ⟨k + 1, by go_num, by omega, HB4.out, HNO2.out⟩
     case measure => simp only [intOf]; omega
  ·have d11 : decide ((k : Int) < 11) = false := by simp; omega
   have HR : Hid (lvl o = 12 ∧ sgo o = []) := no_hit h1 h2 HN.out.1 HN.out.2.1 HN.out.2.2 fun k' hk' => HNO.out k' (by omega)
   have HB4 : Hid (Below w.heap.size w wr) := hb
   clear hb
   go_wp2_with fail
   go_ret2
   obtain ⟨e1, e2⟩ := HR.out
   rw [e1, e2]
   exact ⟨rfl, HB4.out⟩
end Go.Proofs.YtghnhkagkngjcaaGreatDoor.PPl

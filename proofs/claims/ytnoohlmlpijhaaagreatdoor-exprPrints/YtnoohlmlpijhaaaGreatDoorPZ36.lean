import Derived.Test.YtnoohlmlpijhaaaGreatDoorPZ23
import Derived.Test.YtnoohlmlpijhaaaGreatDoorPZ33
import Derived.Test.YtnoohlmlpijhaaaGreatDoorPZ34
import Derived.Test.YtnoohlmlpijhaaaGreatDoorPZ35
namespace Go.Proofs.YtnoohlmlpijhaaaGreatDoor.QPn
open Go.RowKit Go.Proofs.YtnoohlmlpijhaaaGreatDoor.UBase Go.Proofs.YtnoohlmlpijhaaaGreatDoor.EPure Go.Proofs.YtnoohlmlpijhaaaGreatDoor.ERg Go.Proofs.YtnoohlmlpijhaaaGreatDoor.EBk Go.Proofs.YtnoohlmlpijhaaaGreatDoor.QPd
open Go.Proofs.YtnoohlmlpijhaaaGreatDoor.XBase (In InL in_iff four_box)
open Go.Proofs.YtnoohlmlpijhaaaGreatDoor.Base (nx All heap_alloc_new)
open Go.Proofs.YtnoohlmlpijhaaaGreatDoor.PPr (pr gd gdL gdL_cons gd_of)
open Go.Proofs.YtnoohlmlpijhaaaGreatDoor.PMay (mayL)
set_option linter.unusedVariables false
theorem pr_all : ∀ m, Pr m
  | 0 => by intro v x w _ _ _ h; rw [In] at h; exact h.elim
  | m + 1 => by
    intro v x w hg hr hl h
    have hP := pr_all m
    have hU := un_of hP
    rcases shapes hg with ⟨a, b, c, ha, hb, hc, rfl⟩ | ⟨o, a, b, h1, h2, ha, hb, rfl⟩ | ⟨o, a, ho, ha, rfl⟩ | ⟨a, t, ht, ha, rfl⟩ | ⟨a, b, ha, hb, rfl⟩ | ⟨i, a, h1, h2, ha, rfl⟩ | ⟨i, hi, rfl⟩ | ⟨t, ht, rfl⟩ | ⟨t, ht, hc, rfl⟩ | ⟨o, ho, rfl⟩
    · obtain ⟨ra, hr⟩ := rg1 (rg_of hr).2
      obtain ⟨rb, hr⟩ := rg1 hr
      exact QPf.p31 hP hU ha ra hb rb hc (rg1 hr).1 hl h
    · obtain ⟨ra, hr⟩ := rg1 (rg_of hr).2
      exact QPo.pop hP hU h1 h2 ha ra hb (rg1 hr).1 hl h
    · have ra := (rg1 (rg_of hr).2).1
      rcases ho with rfl | rfl
      · exact QPs.p10 hP hU ha ra hl h
      · exact QPs.p11 hP hU ha ra hl h
    · exact QPf.p7 hP hU ht ha (rg1 (rg_of hr).2).1 hl h
    · obtain ⟨ra, hr⟩ := rg1 (rg_of hr).2
      exact QPf.p8 hP hU ha ra hb (rg1 hr).1 hl h
    · have ra := (rg1 (rg_of hr).2).1
      obtain ⟨n, rfl⟩ : ∃ n : Nat, i = (n : Int) + 1 := ⟨(i - 1).toNat, by omega⟩
      exact QPc.p9 hP hU (by omega) ha ra hl h
    · exact QPw.p4 hP hU hi hl h
    · exact QPw.p5 hP hU ht hl h
    · exact QPw.p6 hP hU hl h
    · rcases ho with rfl | rfl | rfl
      · exact QPw.p1 hP hU hl h
      · exact QPw.p2 hP hU hl h
      · exact QPw.p3 hP hU hl h
set_option maxRecDepth 20000 in
theorem rprint_c {m : Nat} {v : Value} {x : Ex} {w : World} (h : In false All w m v x) :
    Calls Tryz.prog 8 #[v] w fun e w' => e = .returned (.tuple #[.string ⟨(PPp.ptx x).toArray⟩, .int .i64 (PPp.pcd x)]) ∧ Below w.heap.size w w' := by
  have hrg := PLen.rg_of h
  obtain ⟨m', lv, rfl, rfl, ho, hi, hs, hL⟩ := h.shape
  obtain ⟨a, cap, rfl, -⟩ := hL
  obtain ⟨W0, hW0⟩ : ∃ W0, w.alloc (.cells #[.int .i64 x.o, .int .i64 x.i, .string x.s, .slice a x.l.length cap] 24) = W0 := ⟨_, rfl⟩
  have b0 : Below w.heap.size w W0 := by rw [← hW0]; exact (Below.refl _ w).alloc (Nat.le_refl _) _
  have s0 : W0.heap.size = w.heap.size + 1 := by rw [← hW0]; simp
  have hx : W0.heap[w.heap.size]? = some (.cells #[.int .i64 x.o, .int .i64 x.i, .string x.s, .slice a x.l.length cap] 24 (0, 0)) := by rw [← hW0]; exact heap_alloc_new w _
  have HX : Hid (W0.heap[w.heap.size]? = some (.cells #[.int .i64 x.o, .int .i64 x.i, .string x.s, .slice a x.l.length cap] 24 (0, 0)) ∧ W0.heap.size = w.heap.size + 1 ∧ Below w.heap.size w W0) := ⟨hx, s0, b0⟩
  obtain ⟨y0, y1, y2, y3⟩ := four_box hx
  have cM := QMn.may_c (h.below b0)
  have HI : Hid (In false All w (m' + 1) (.agg #[.int .i64 x.o, .int .i64 x.i, .string x.s, .slice a x.l.length cap]) x) := h
  clear hx b0 s0 h
  cases hm : (mayL [x] 512).1 with
  | false =>
    rw [hm] at cM
    rw [show PPp.ptx x = [] by unfold PPp.ptx; rw [hm]; rfl, show PPp.pcd x = 1003 by unfold PPp.pcd; rw [hm]; rfl]
    clear hm
    go_enter Tryz.func8, Tryz.ntmps8
    go_wp2_with fail
    refine cM.mono ?_
    rintro e W1 ⟨rfl, b1⟩
    have HB1 : Hid (Below w.heap.size w W1) := HX.out.2.2.trans (b1.mono (by have := HX.out.2.1; omega))
    clear cM b1 y0 y1 y2 y3
    go_wp2_with fail
    go_ret2
    exact ⟨rfl, HB1.out⟩
  | true =>
    rw [hm] at cM
    rw [show PPp.ptx x = pr (-1) x by unfold PPp.ptx; rw [if_pos hm], show PPp.pcd x = 0 by unfold PPp.pcd; rw [if_pos hm]]
    have hg := (gdL_cons.1 (gd_of _ [x] 512 (Nat.le_refl _) hm)).1
    have hl := PLen.pr_len hrg hm
    have HC : Hid (∀ W, Below w.heap.size w W → Calls Tryz.prog 23 #[.agg #[.int .i64 x.o, .int .i64 x.i, .string x.s, .slice a x.l.length cap]] W fun e w' => e = .returned (.string ⟨(pr (-1) x).toArray⟩) ∧ Below W.heap.size W w') := fun W hW => pr_all _ _ x W hg hrg hl (HI.out.below hW)
    clear hm hg hl
    go_enter Tryz.func8, Tryz.ntmps8
    go_wp2_with fail
    refine cM.mono ?_
    rintro e W1 ⟨rfl, b1⟩
    have hb1 : Below w.heap.size w W1 := HX.out.2.2.trans (b1.mono (by have := HX.out.2.1; omega))
    clear y0 y1 y2 y3
    obtain ⟨y0, y1, y2, y3⟩ := four_box ((b1.block w.heap.size (by have := HX.out.2.1; omega)).trans HX.out.1)
    have c2 := HC.out W1 hb1
    have HB1 : Hid (Below w.heap.size w W1) := hb1
    clear cM b1 hb1
    go_wp2_with fail
    refine c2.mono ?_
    rintro e W2 ⟨rfl, b2⟩
    have HB2 : Hid (Below w.heap.size w W2) := HB1.out.trans (b2.mono HB1.out.size)
    clear c2 b2
    go_wp2_with fail
    go_ret2
    exact ⟨rfl, HB2.out⟩
end Go.Proofs.YtnoohlmlpijhaaaGreatDoor.QPn

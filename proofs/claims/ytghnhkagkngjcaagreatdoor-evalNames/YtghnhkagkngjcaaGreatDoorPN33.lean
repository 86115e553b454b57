import Derived.Defers
import Derived.LoopTactic
import Derived.Maps.OwnSet
import Derived.Maps.Views
import Derived.Recover
import Derived.StringKeys
import Derived.Test.YtghnhkagkngjcaaGreatDoorPN23
import Derived.Test.YtghnhkagkngjcaaGreatDoorPN27
import Derived.Test.YtghnhkagkngjcaaGreatDoorPN28
import Derived.Test.YtghnhkagkngjcaaGreatDoorPN32
set_option linter.unusedVariables false
set_option maxRecDepth 20000
set_option maxHeartbeats 3200000
namespace Go.Proofs.YtghnhkagkngjcaaGreatDoor.VVa
open Go.RowKit Base EPure VPure VSm VIn VJn VRs VVr VPk VSe VLo VVl VVp
open PPr (gd gdL gdL_get)
def okOp (o : Int) : Prop := o = 1 ∨ o = 2 ∨ o = 3 ∨ o = 4 ∨ o = 5 ∨ o = 6 ∨ o = 29 ∨ o = 30 ∨ o = 12 ∨ o = 13 ∨ o = 14 ∨ o = 15 ∨ o = 16 ∨ o = 17 ∨ o = 18 ∨ o = 19 ∨ o = 23 ∨ o = 24 ∨ o = 25 ∨ o = 26 ∨ o = 27 ∨ o = 28 ∨ o = 10 ∨ o = 7 ∨ o = 8 ∨ o = 9 ∨ o = 11 ∨ o = 20 ∨ o = 21 ∨ o = 22 ∨ o = 31
theorem kids {Kk m n : Nat} {w : World} {Mb Eb : Nat} {ρ : ByteArray → Option C} {a : Option Addr} {cap : Nat} {l : List Ex} (hKk : Kk ≤ w.heap.size) (hl : gdL l) (ho : opsL okOp l) (hT : Tb w) (hB : Bd Kk (m + 1) w Mb Eb ρ) (hL : XBase.LAt false (fun b => b < Kk) w n a cap l)
  (ih : ∀ (w : World) (v : Value) (x : Ex), XBase.In false (fun b => b < Kk) w n v x → Kk ≤ w.heap.size → gd x → ops okOp x → Tb w → Bd Kk (m + 1) w Mb Eb ρ → Calls Tryz.prog 62 #[.agg #[clo Mb Eb], v] w fun e w' => VR Kk (m + 1) w (ev ρ x) e w')
  (j : Nat) (hj : j < l.length) : Kd Kk (m + 1) w Mb Eb ρ a j l[j] := by
 rcases hL with ⟨h, -⟩ | ⟨g, o0, rfl, hg, hk, -⟩
 ·subst h; simp at hj
 ·obtain ⟨u, hu, hin⟩ := hk j hj
  obtain ⟨n', lv, hn, hv, -, -, -, hlv⟩ := hin.shape
  obtain ⟨a', c', rfl, -⟩ := hlv
  obtain ⟨w0, w1, w2, w3, e, c0, c1, c2, c3⟩ := hu
  rw [hv] at e
  injection e with e
  simp only [Array.mk.injEq, List.cons.injEq, and_true] at e
  obtain ⟨rfl, rfl, rfl, rfl⟩ := e
  refine ⟨g, o0, (l[j]).o, (l[j]).i, (l[j]).s, a', (l[j]).l.length, c', rfl, Nat.lt_of_lt_of_le hg hKk, fun W hW => ⟨?_, ?_⟩⟩
  ·have kw : ∀ (q : Nat) (v : Value), w.cell? ⟨g, q, none⟩ = some v → W.cell? ⟨g, q, none⟩ = some v := fun q v h => (World.cell?_of_block (w := w) (hW.block g (Nat.lt_of_lt_of_le hg hKk))).trans h
   have e0 : o0 + 4 * j = o0 + j * 4 := by omega
   refine ⟨?_, ?_, ?_, ?_⟩
   ·rw [e0]; exact kw _ _ c0
   ·rw [show o0 + (4 * j + 1) = o0 + j * 4 + 1 by omega]; exact kw _ _ c1
   ·rw [show o0 + (4 * j + 2) = o0 + j * 4 + 2 by omega]; exact kw _ _ c2
   ·rw [show o0 + (4 * j + 3) = o0 + j * 4 + 3 by omega]; exact kw _ _ c3
  ·rw [hv] at hin
   exact ih W _ _ (XBase.In.keep (w := w) (w' := W) (fun b hb _ => hW.block b (Nat.lt_of_lt_of_le hb hKk)) hin) (Nat.le_trans hKk hW.size) (gdL_get hl hj) (opsL_get ho hj) (hT.below hW) (hB.below hW)
theorem two_of {o : Int} {l : List Ex} (h : (l.length : Int) = PPl.kd o) (ho : o = 29 ∨ o = 30 ∨ o = 12 ∨ o = 13 ∨ o = 14 ∨ o = 15 ∨ o = 16 ∨ o = 17 ∨ o = 18 ∨ o = 19 ∨ o = 23 ∨ o = 24 ∨ o = 25 ∨ o = 26 ∨ o = 27 ∨ o = 28 ∨ o = 8 ∨ o = 20 ∨ o = 21 ∨ o = 22) : l.length = 2 := by
 have : PPl.kd o = 2 := by rcases ho with rfl | rfl | rfl | rfl | rfl | rfl | rfl | rfl | rfl | rfl | rfl | rfl | rfl | rfl | rfl | rfl | rfl | rfl | rfl | rfl <;> decide
 omega
theorem value_all {Kk m : Nat} {Mb Eb : Nat} {ρ : ByteArray → Option C} (hρ : ∀ s c, ρ s = some c → wf c) : ∀ (n : Nat) (w : World) (v : Value) (x : Ex), XBase.In false (fun b => b < Kk) w n v x → Kk ≤ w.heap.size → gd x → ops okOp x → Tb w → Bd Kk (m + 1) w Mb Eb ρ →
  Calls Tryz.prog 62 #[.agg #[clo Mb Eb], v] w fun e w' => VR Kk (m + 1) w (ev ρ x) e w' := by
 intro n
 induction n with
 | zero => intro w v x h; rw [XBase.In] at h; exact h.elim
 | succ n ih =>
  intro w v x h hKk hg ho hT hB
  obtain ⟨o, i, s, l⟩ := x
  rw [XBase.in_iff] at h
  obtain ⟨lv, rfl, hor, hir, hs, a, cap, rfl, hlc, hcm, -, -, hL⟩ := h
  obtain ⟨hk, -, hgl⟩ := hg
  obtain ⟨hop, hol⟩ := ho
  have kd := fun j (hj : j < l.length) => kids (l := l) hKk hgl hol hT hB hL ih j hj
  have eg := fun j (hj : j < l.length) => evL_get ρ l j hj
  simp only [Ex.l, Ex.o] at hk hop
  rcases hop with rfl | rfl | rfl | rfl | rfl | rfl | hop
  ·exact value1 i s _
  ·exact value2 i s _
  ·exact value3 i s _
  ·exact value4 i s _ hir
  ·exact value5 i s _ hs
  ·exact value6 hKk hB i s _ hs
  have hwf : ∀ (x : Ex) (c : C), ev ρ x = .ok c → wf c := fun x c h => ev_wf hρ x c h
  by_cases h1' : o = 10 ∨ o = 11 ∨ o = 7 ∨ o = 9
  ·have h1 : l.length = 1 := by
    have : PPl.kd o = 1 := by rcases h1' with rfl | rfl | rfl | rfl <;> decide
    omega
   have k0 := kd 0 (by omega)
   have g0 := eg 0 (by omega)
   rcases h1' with rfl | rfl | rfl | rfl
   ·have e : ev ρ (.mk 10 i s l) = (bnd (ev ρ l[0]) fun a => bnd (.ok zerC) fun b => pr2 10 a b) := by rw [← g0]; rfl
    rw [e]
    exact value_pair hKk 10 i s hlc hcm hT (by omega) (by decide) VPm.pair10 (hwf _) k0 (fun W _ => VS0.second_zero i s _ (.inl rfl))
   ·have e : ev ρ (.mk 11 i s l) = (bnd (ev ρ l[0]) fun a => bnd (.ok zerC) fun b => pr2 11 a b) := by rw [← g0]; rfl
    rw [e]
    exact value_pair hKk 11 i s hlc hcm hT (by omega) (by decide) VPm.pair11 (hwf _) k0 (fun W _ => VS0.second_zero i s _ (.inr rfl))
   ·have e : ev ρ (.mk 7 i s l) = (bnd (ev ρ l[0]) fun a => bnd (.ok (strC s)) fun b => pr2 7 a b) := by rw [← g0]; rfl
    rw [e]
    exact value_pair hKk 7 i s hlc hcm hT (by omega) (by decide) VPm.pair7 (hwf _) k0 (fun W _ => VS0.second_text i s _ hs)
   ·have e : ev ρ (.mk 9 i s l) = (bnd (ev ρ l[0]) fun a => bnd (.ok (intC i)) fun b => pr2 9 a b) := by rw [← g0]; rfl
    rw [e]
    exact value_pair hKk 9 i s hlc hcm hT (by omega) (by decide) VPm.pair9 (hwf _) k0 (fun W _ => VS0.second_num i s _ hir)
  by_cases h31 : o = 31
  ·subst h31
   have h3 : l.length = 3 := by rw [show PPl.kd 31 = 3 from by decide] at hk; omega
   have k0 := kd 0 (by omega)
   have k1 := kd 1 (by omega)
   have k2 := kd 2 (by omega)
   have g0 := eg 0 (by omega)
   have g1 := eg 1 (by omega)
   have g2 := eg 2 (by omega)
   have e : ev ρ (.mk 31 i s l) = (bnd (bnd (ev ρ l[0]) isT) fun b => if b = true then ev ρ l[1] else ev ρ l[2]) := by rw [← g0, ← g1, ← g2]; rfl
   rw [e]
   exact value31 hKk i s hlc hcm (by omega) k0 k1 k2
  replace hop : o = 29 ∨ o = 30 ∨ o = 12 ∨ o = 13 ∨ o = 14 ∨ o = 15 ∨ o = 16 ∨ o = 17 ∨ o = 18 ∨ o = 19 ∨ o = 23 ∨ o = 24 ∨ o = 25 ∨ o = 26 ∨ o = 27 ∨ o = 28 ∨ o = 8 ∨ o = 20 ∨ o = 21 ∨ o = 22 := by omega
  have h2 := two_of hk hop
  have k0 := kd 0 (by omega)
  have k1 := kd 1 (by omega)
  have g0 := eg 0 (by omega)
  have g1 := eg 1 (by omega)
  have sc : ∀ o', o' ≠ 7 → o' ≠ 9 → o' ≠ 10 → o' ≠ 11 → ∀ W, Below w.heap.size w W → Calls Tryz.prog 90 #[.agg #[clo Mb Eb], xv o' i s (.slice a l.length cap)] W fun e w' => VR Kk (m + 1) W (ev ρ l[1]) e w' := fun o' n7 n9 n10 n11 W hW => second_c (Nat.le_trans hKk hW.size) o' i s hlc hcm (by omega) n7 n9 n10 n11 (k1.below hW)
  rcases hop with rfl | rfl | hop
  ·have e : ev ρ (.mk 29 i s l) = (bnd (bnd (ev ρ l[0]) isT) fun b => if b = false then .ok (booC false) else bnd (bnd (ev ρ l[1]) isT) fun c => .ok (booC c)) := by rw [← g0, ← g1]; rfl
   rw [e]
   exact value29 hKk i s hlc hcm (by omega) k0 k1
  ·have e : ev ρ (.mk 30 i s l) = (bnd (bnd (ev ρ l[0]) isT) fun b => if b = true then .ok (booC true) else bnd (bnd (ev ρ l[1]) isT) fun c => .ok (booC c)) := by rw [← g0, ← g1]; rfl
   rw [e]
   exact value30 hKk i s hlc hcm (by omega) k0 k1
  rcases hop with rfl | rfl | rfl | rfl | rfl | rfl | rfl | rfl | rfl | rfl | rfl | rfl | rfl | rfl | rfl | rfl | rfl | rfl
  ·have e : ev ρ (.mk 12 i s l) = (bnd (ev ρ l[0]) fun a => bnd (ev ρ l[1]) fun b => pr2 12 a b) := by rw [← g0, ← g1]; rfl
   rw [e]
   exact value_pair hKk 12 i s hlc hcm hT (by omega) (by decide) pair12 (hwf _) k0 (sc 12 (by decide) (by decide) (by decide) (by decide))
  ·have e : ev ρ (.mk 13 i s l) = (bnd (ev ρ l[0]) fun a => bnd (ev ρ l[1]) fun b => pr2 13 a b) := by rw [← g0, ← g1]; rfl
   rw [e]
   exact value_pair hKk 13 i s hlc hcm hT (by omega) (by decide) pair13 (hwf _) k0 (sc 13 (by decide) (by decide) (by decide) (by decide))
  ·have e : ev ρ (.mk 14 i s l) = (bnd (ev ρ l[0]) fun a => bnd (ev ρ l[1]) fun b => pr2 14 a b) := by rw [← g0, ← g1]; rfl
   rw [e]
   exact value_pair hKk 14 i s hlc hcm hT (by omega) (by decide) pair14 (hwf _) k0 (sc 14 (by decide) (by decide) (by decide) (by decide))
  ·have e : ev ρ (.mk 15 i s l) = (bnd (ev ρ l[0]) fun a => bnd (ev ρ l[1]) fun b => pr2 15 a b) := by rw [← g0, ← g1]; rfl
   rw [e]
   exact value_pair hKk 15 i s hlc hcm hT (by omega) (by decide) pair15 (hwf _) k0 (sc 15 (by decide) (by decide) (by decide) (by decide))
  ·have e : ev ρ (.mk 16 i s l) = (bnd (ev ρ l[0]) fun a => bnd (ev ρ l[1]) fun b => pr2 16 a b) := by rw [← g0, ← g1]; rfl
   rw [e]
   exact value_pair hKk 16 i s hlc hcm hT (by omega) (by decide) pair16 (hwf _) k0 (sc 16 (by decide) (by decide) (by decide) (by decide))
  ·have e : ev ρ (.mk 17 i s l) = (bnd (ev ρ l[0]) fun a => bnd (ev ρ l[1]) fun b => pr2 17 a b) := by rw [← g0, ← g1]; rfl
   rw [e]
   exact value_pair hKk 17 i s hlc hcm hT (by omega) (by decide) pair17 (hwf _) k0 (sc 17 (by decide) (by decide) (by decide) (by decide))
  ·have e : ev ρ (.mk 18 i s l) = (bnd (ev ρ l[0]) fun a => bnd (ev ρ l[1]) fun b => pr2 18 a b) := by rw [← g0, ← g1]; rfl
   rw [e]
   exact value_pair hKk 18 i s hlc hcm hT (by omega) (by decide) pair18 (hwf _) k0 (sc 18 (by decide) (by decide) (by decide) (by decide))
  ·have e : ev ρ (.mk 19 i s l) = (bnd (ev ρ l[0]) fun a => bnd (ev ρ l[1]) fun b => pr2 19 a b) := by rw [← g0, ← g1]; rfl
   rw [e]
   exact value_pair hKk 19 i s hlc hcm hT (by omega) (by decide) pair19 (hwf _) k0 (sc 19 (by decide) (by decide) (by decide) (by decide))
  ·have e : ev ρ (.mk 23 i s l) = (bnd (ev ρ l[0]) fun a => bnd (ev ρ l[1]) fun b => pr2 23 a b) := by rw [← g0, ← g1]; rfl
   rw [e]
   exact value_pair hKk 23 i s hlc hcm hT (by omega) (by decide) VPm.pair23 (hwf _) k0 (sc 23 (by decide) (by decide) (by decide) (by decide))
  ·have e : ev ρ (.mk 24 i s l) = (bnd (ev ρ l[0]) fun a => bnd (ev ρ l[1]) fun b => pr2 24 a b) := by rw [← g0, ← g1]; rfl
   rw [e]
   exact value_pair hKk 24 i s hlc hcm hT (by omega) (by decide) VPm.pair24 (hwf _) k0 (sc 24 (by decide) (by decide) (by decide) (by decide))
  ·have e : ev ρ (.mk 25 i s l) = (bnd (ev ρ l[0]) fun a => bnd (ev ρ l[1]) fun b => pr2 25 a b) := by rw [← g0, ← g1]; rfl
   rw [e]
   exact value_pair hKk 25 i s hlc hcm hT (by omega) (by decide) VPm.pair25 (hwf _) k0 (sc 25 (by decide) (by decide) (by decide) (by decide))
  ·have e : ev ρ (.mk 26 i s l) = (bnd (ev ρ l[0]) fun a => bnd (ev ρ l[1]) fun b => pr2 26 a b) := by rw [← g0, ← g1]; rfl
   rw [e]
   exact value_pair hKk 26 i s hlc hcm hT (by omega) (by decide) VPm.pair26 (hwf _) k0 (sc 26 (by decide) (by decide) (by decide) (by decide))
  ·have e : ev ρ (.mk 27 i s l) = (bnd (ev ρ l[0]) fun a => bnd (ev ρ l[1]) fun b => pr2 27 a b) := by rw [← g0, ← g1]; rfl
   rw [e]
   exact value_pair hKk 27 i s hlc hcm hT (by omega) (by decide) VPm.pair27 (hwf _) k0 (sc 27 (by decide) (by decide) (by decide) (by decide))
  ·have e : ev ρ (.mk 28 i s l) = (bnd (ev ρ l[0]) fun a => bnd (ev ρ l[1]) fun b => pr2 28 a b) := by rw [← g0, ← g1]; rfl
   rw [e]
   exact value_pair hKk 28 i s hlc hcm hT (by omega) (by decide) VPm.pair28 (hwf _) k0 (sc 28 (by decide) (by decide) (by decide) (by decide))
  ·have e : ev ρ (.mk 8 i s l) = (bnd (ev ρ l[0]) fun a => bnd (ev ρ l[1]) fun b => pr2 8 a b) := by rw [← g0, ← g1]; rfl
   rw [e]
   exact value_pair hKk 8 i s hlc hcm hT (by omega) (by decide) VPm.pair8 (hwf _) k0 (sc 8 (by decide) (by decide) (by decide) (by decide))
  ·have e : ev ρ (.mk 20 i s l) = (bnd (ev ρ l[0]) fun a => bnd (ev ρ l[1]) fun b => pr2 20 a b) := by rw [← g0, ← g1]; rfl
   rw [e]
   exact value_pair hKk 20 i s hlc hcm hT (by omega) (by decide) VPm.pair20 (hwf _) k0 (sc 20 (by decide) (by decide) (by decide) (by decide))
  ·have e : ev ρ (.mk 21 i s l) = (bnd (ev ρ l[0]) fun a => bnd (ev ρ l[1]) fun b => pr2 21 a b) := by rw [← g0, ← g1]; rfl
   rw [e]
   exact value_pair hKk 21 i s hlc hcm hT (by omega) (by decide) VPm.pair21 (hwf _) k0 (sc 21 (by decide) (by decide) (by decide) (by decide))
  ·have e : ev ρ (.mk 22 i s l) = (bnd (ev ρ l[0]) fun a => bnd (ev ρ l[1]) fun b => pr2 22 a b) := by rw [← g0, ← g1]; rfl
   rw [e]
   exact value_pair hKk 22 i s hlc hcm hT (by omega) (by decide) VPm.pair22 (hwf _) k0 (sc 22 (by decide) (by decide) (by decide) (by decide))
end Go.Proofs.YtghnhkagkngjcaaGreatDoor.VVa
namespace Go.Proofs.YtghnhkagkngjcaaGreatDoor.VRv
open Go.RowKit Base EPure VPure VSm VIn VJn VRs VVr VVa
open PPr (gd)
theorem wp_tmps {P : Program} {c : Code} {Q : Exit → Act → World → Prop} {T : Array Value} (L : Array Value) {w : World} (e : T = L) (h : c.wp P Q { tmps := L, defers := [] } w) : c.wp P Q { tmps := T, defers := [] } w := by
 subst e; exact h
theorem as_no (w : World) : (Instr.typeAssert .nilIface 20 47 true).run Tryz.prog w = .ok (.tuple #[.int .i64 0, .bool false]) w := by
 simp [Instr.typeAssert, run_underlying Tryz.underlying47, Tryz.zeroValue47]
theorem as_yes (v : Value) (w : World) : (Instr.typeAssert (.iface 47 v) 20 47 true).run Tryz.prog w = .ok (.tuple #[v, .bool true]) w := by
 simp [Instr.typeAssert, run_underlying Tryz.underlying47]
theorem catch_idle (p q : Addr) (w : World) :
  CallsD Tryz.prog 61 #[.pointer (some p), .pointer (some q)] .returning w fun e u' w' => e = .returned (.tuple #[]) ∧ u' = .returning ∧ w' = w := by
 refine callsD_of_wpS Tryz.func61 rfl fun c₀ cs hu => ?_
 apply wpS_seq
 apply wpS_region
 simp [wpOpsS, go_sem, recoverD, hu, Tryz.ntmps61, Exit.thenS, as_no]
 refine wpS_of_wp ?_
 refine wp_tmps (#[.pointer (some p), .pointer (some q), .int .i64 0, .bool false, .tuple #[.int .i64 0, .bool false], .nilIface, .tuple #[.int .i64 0, .bool false], .int .i64 0, .bool false, undef, undef, undef]) rfl ?_
 go_wp2
 cases c₀
 simp_all [bodyPostS, results, Tryz.results61]
theorem catch_fault (V M : Nat) (hVM : V ≠ M) (c0 : Int) (older : List PanicEntry) (w : World) (y0 y1 y2 y3 y4 y5 z0 : Value) (hV : w.heap[V]? = some (.cells #[y0, y1, y2, y3, y4, y5] 40 (0, 0))) (hM : w.heap[M]? = some (.cells #[z0] 47 (0, 0))) :
  CallsD Tryz.prog 61 #[.pointer (some ⟨V, 0, none⟩), .pointer (some ⟨M, 0, none⟩)] (.panicking ({ v := .iface 47 (.int .i64 c0), recovered := false } :: older)) w fun e u' w' => e = .returned (.tuple #[]) ∧
   u' = .panicking ({ v := .iface 47 (.int .i64 c0), recovered := true } :: older) ∧ w'.heap[V]? = some (.cells #[.int .i64 0, .bool false, .int .i64 0, .string ⟨#[]⟩, .slice none 0 0, .slice none 0 0] 40 (0, 0)) ∧
    w'.heap[M]? = some (.cells #[.int .i64 c0] 47 (0, 0)) ∧ ∀ n, n ≤ V → n ≤ M → Below n w w' := by
 obtain ⟨d0, d1, d2, d3, d4, d5⟩ := six_box hV
 have f0 := frozen_box hV 0
 have f1 := frozen_box hV 1
 have f2 := frozen_box hV 2
 have f3 := frozen_box hV 3
 have f4 := frozen_box hV 4
 have f5 := frozen_box hV 5
 have e0 : w.cell? ⟨M, 0, none⟩ = some z0 := by simp [World.cell?, hM]
 have g0 := frozen_box hM 0
 have n1 : V ≠ M := hVM
 have n2 : M ≠ V := hVM.symm
 refine callsD_of_wpS Tryz.func61 rfl fun c₀ cs hu => ?_
 apply wpS_seq
 apply wpS_region
 simp [wpOpsS, go_sem, recoverD, hu, Tryz.ntmps61, Exit.thenS, as_yes]
 refine wpS_of_wp ?_
 refine wp_tmps (L := #[.pointer (some ⟨V, 0, none⟩), .pointer (some ⟨M, 0, none⟩), .int .i64 c0, .bool true, .tuple #[.int .i64 c0, .bool true], .iface 47 (.int .i64 c0), .tuple #[.int .i64 c0, .bool true], .int .i64 c0, .bool true, undef, undef, undef]) ?e1 ?e2
 case e1 => simp [Array.replicate_succ]
 case e2 =>
  obtain ⟨W6, hW6⟩ : ∃ W6, ((((((w.setCell ⟨V, 0, none⟩ (.int .i64 0)).setCell ⟨V, 1, none⟩ (.bool false)).setCell ⟨V, 2, none⟩ (.int .i64 0)).setCell ⟨V, 3, none⟩ (.string ⟨#[]⟩)).setCell ⟨V, 4, none⟩ (.slice none 0 0)).setCell ⟨V, 5, none⟩ (.slice none 0 0)) = W6 := ⟨_, rfl⟩
  obtain ⟨q1, q2, q3, q4⟩ := set6 _ _ _ _ _ _ hV hW6
  have hM6 : W6.heap[M]? = some (.cells #[z0] 47 (0, 0)) := (q2 M n2).trans hM
  have m0 : W6.cell? ⟨M, 0, none⟩ = some z0 := by simp [World.cell?, hM6]
  have m1 := frozen_box hM6 0
  have HQ : Hid (_ ∧ _ ∧ _) := And.intro q1 (And.intro hM6 q4)
  clear hV hM q1 q2 q3 q4 hM6
  go_wp2_with fail
  refine ⟨rfl, _, rfl, .tuple #[], results_none rfl _ _ _, rfl, rfl, ?_, ?_, fun n h1 h2 => (HQ.out.2.2 _ n h1 (Below.refl _ _)).setCell (p := ⟨M, 0, none⟩) h2 _⟩
  ·rw [Below.heap_setCell _ _ _ _ n1]
   exact HQ.out.1
  ·simp [World.setCell, Array.getElem?_modify, HQ.out.2.1]
def RV (K m : Nat) (w : World) (a : Ans) (e : Ending) (w' : World) : Prop := Below w.heap.size w w' ∧ match a with
 | .ok c => ∃ u, e = .returned (.tuple #[u, .int .i64 0]) ∧ Base.In false (fun b => b < K) w' m u c
 | .error n => e = .returned (.tuple #[v0 0 false 0 ⟨#[]⟩, .int .i64 (n : Nat)])
theorem reckon_c {Kk m n : Nat} {w : World} {Mb Eb : Nat} {ρ : ByteArray → Option C} {o i : Int} {s : ByteArray} {lv : Value} {x : Ex} (hin : XBase.In false (fun b => b < Kk) w n (xv o i s lv) x) (hKk : Kk ≤ w.heap.size) (hρ : ∀ s c, ρ s = some c → wf c) (hg : gd x) (ho : ops okOp x) (hT : Tb w) (hB : Bd Kk (m + 1) w Mb Eb ρ) :
  Calls Tryz.prog 38 #[xv o i s lv, clo Mb Eb] w fun e w' => RV Kk (m + 1) w (ev ρ x) e w' := by
 have hmf : ∀ (fn : Fn) (first cap : Array Value) (w : World), (Instr.makeFunc fn first cap).run Tryz.prog w = .ok (.func fn first cap) w := fun _ _ _ _ => rfl
 obtain ⟨W, hW⟩ : ∃ W, ((w.alloc (.cells #[.int .i64 o, .int .i64 i, .string s, lv] 24)).alloc (.cells #[.int .i64 0, .bool false, .int .i64 0, .string ⟨#[]⟩, .slice none 0 0, .slice none 0 0] 40)).alloc (.cells #[.int .i64 0] 47) = W := ⟨_, rfl⟩
 have bW : Below w.heap.size w W := by rw [← hW]; exact (((Below.refl _ w).alloc (Nat.le_refl _) _).alloc (by simp) _).alloc (by simp <;> omega) _
 have sW : W.heap.size = w.heap.size + 3 := by rw [← hW]; simp
 have zX : W.heap[w.heap.size]? = some (.cells #[.int .i64 o, .int .i64 i, .string s, lv] 24 (0, 0)) := by rw [← hW, Below.heap_alloc _ _ _ (by simp <;> omega), Below.heap_alloc _ _ _ (by simp), heap_alloc_new]
 have zV : W.heap[w.heap.size + 1]? = some (.cells #[.int .i64 0, .bool false, .int .i64 0, .string ⟨#[]⟩, .slice none 0 0, .slice none 0 0] 40 (0, 0)) := by
  rw [← hW, Below.heap_alloc _ _ _ (by simp)]
  have := heap_alloc_new (w.alloc (.cells #[.int .i64 o, .int .i64 i, .string s, lv] 24)) (.cells #[.int .i64 0, .bool false, .int .i64 0, .string ⟨#[]⟩, .slice none 0 0, .slice none 0 0] 40)
  rwa [World.size_alloc] at this
 have zM : W.heap[w.heap.size + 2]? = some (.cells #[.int .i64 0] 47 (0, 0)) := by
  rw [← hW]
  have := heap_alloc_new ((w.alloc (.cells #[.int .i64 o, .int .i64 i, .string s, lv] 24)).alloc (.cells #[.int .i64 0, .bool false, .int .i64 0, .string ⟨#[]⟩, .slice none 0 0, .slice none 0 0] 40)) (.cells #[.int .i64 0] 47)
  rwa [World.size_alloc, World.size_alloc] at this
 obtain ⟨x0, x1, x2, x3⟩ := XBase.four_box zX
 have cV := value_all hρ n W _ x (XBase.In.keep (w := w) (w' := W) (fun b hb _ => bW.block b (Nat.lt_of_lt_of_le hb hKk)) hin) (by omega) hg ho (hT.below bW) (hB.below bW)
 have HB : Hid (Below w.heap.size w W) := bW
 have HV : Hid (W.heap[w.heap.size + 1]? = some (.cells #[.int .i64 0, .bool false, .int .i64 0, .string ⟨#[]⟩, .slice none 0 0, .slice none 0 0] 40 (0, 0))) := zV
 have HM : Hid (W.heap[w.heap.size + 2]? = some (.cells #[.int .i64 0] 47 (0, 0))) := zM
 generalize ev ρ x = U at *
 clear hin hg ho hT hB bW zX zV zM
 go_enter_defers Tryz.func38, Tryz.ntmps38
 go_wp2_with fail
 try rw [hW]
 refine cV.mono ?_
 rintro e W1 ⟨hb1, hA⟩
 have hs1 := hb1.size
 have v1 := (hb1.block (w.heap.size + 1) (by omega)).trans HV.out
 have m1 := (hb1.block (w.heap.size + 2) (by omega)).trans HM.out
 have HB1 : Hid (Below w.heap.size w W1) := HB.out.trans (hb1.mono HB.out.size)
 clear cV hb1 HV HM HB x0 x1 x2 x3 hW
 cases U with
 | error c =>
  obtain rfl := hA
  refine leaves_cons (f := 61) (args := #[.pointer (some ⟨w.heap.size + 1, 0, none⟩), .pointer (some ⟨w.heap.size + 2, 0, none⟩)]) (by simp) (by simp [go_sem]) ?_
  refine (catch_fault (w.heap.size + 1) (w.heap.size + 2) (by omega) (c : Nat) [] W1 _ _ _ _ _ _ _ v1 m1).mono ?_
  rintro e u' w5 ⟨rfl, rfl, r1, r2, r3⟩
  obtain ⟨c0, c1, c2, c3, c4, c5⟩ := six_box r1
  have q0 : w5.cell? ⟨w.heap.size + 2, 0, none⟩ = some (.int .i64 (c : Nat)) := by simp [World.cell?, r2]
  have HD : Hid (Below w.heap.size w w5) := HB1.out.trans (r3 _ (by omega) (by omega))
  simp [Leaves, settle, results, Tryz.results38, go_sem, c0, c1, c2, c3, c4, c5, q0]
  exact ⟨HD.out, rfl⟩
 | ok c =>
  obtain ⟨u, rfl, hin⟩ := hA
  obtain ⟨an, ln, cn, al, ll, cl, rfl⟩ := in_shape hin
  obtain ⟨r0, r1, r2, r3, r4, r5⟩ := six_box v1
  have rf0 := frozen_box v1 0
  have rf1 := frozen_box v1 1
  have rf2 := frozen_box v1 2
  have rf3 := frozen_box v1 3
  have rf4 := frozen_box v1 4
  have rf5 := frozen_box v1 5
  obtain ⟨W2, hW2⟩ : ∃ W2, ((((((W1.setCell ⟨w.heap.size + 1, 0, none⟩ (.int .i64 c.k)).setCell ⟨w.heap.size + 1, 1, none⟩ (.bool c.b)).setCell ⟨w.heap.size + 1, 2, none⟩ (.int .i64 c.i)).setCell ⟨w.heap.size + 1, 3, none⟩ (.string c.s)).setCell ⟨w.heap.size + 1, 4, none⟩ (.slice an ln cn)).setCell ⟨w.heap.size + 1, 5, none⟩ (.slice al ll cl)) = W2 := ⟨_, rfl⟩
  obtain ⟨q1, q2, q3, q4⟩ := set6 _ _ _ _ _ _ v1 hW2
  have m2 : W2.heap[w.heap.size + 2]? = some (.cells #[.int .i64 0] 47 (0, 0)) := (q2 _ (by omega)).trans m1
  have e0 : W2.cell? ⟨w.heap.size + 2, 0, none⟩ = some (.int .i64 0) := by simp [World.cell?, m2]
  have ef := frozen_box m2 0
  obtain ⟨W3, hW3⟩ : ∃ W3, W2.setCell ⟨w.heap.size + 2, 0, none⟩ (.int .i64 0) = W3 := ⟨_, rfl⟩
  have m3 : W3.heap[w.heap.size + 2]? = some (.cells #[.int .i64 0] 47 (0, 0)) := by rw [← hW3]; simp [World.setCell, Array.getElem?_modify, m2]
  have v3 : W3.heap[w.heap.size + 1]? = some (.cells #[.int .i64 c.k, .bool c.b, .int .i64 c.i, .string c.s, .slice an ln cn, .slice al ll cl] 40 (0, 0)) := by rw [← hW3, Below.heap_setCell _ _ _ _ (by simp)]; exact q1
  have b3 : ∀ n, n ≤ w.heap.size + 1 → Below n W1 W3 := fun n hn => by rw [← hW3]; exact (q4 _ _ hn (Below.refl _ _)).setCell (p := ⟨w.heap.size + 2, 0, none⟩) (by show n ≤ w.heap.size + 2; omega) _
  obtain ⟨c0, c1, c2, c3, c4, c5⟩ := six_box v3
  have p0 : W3.cell? ⟨w.heap.size + 2, 0, none⟩ = some (.int .i64 0) := by simp [World.cell?, m3]
  have HD : Hid (Below w.heap.size w W3) := HB1.out.trans (b3 _ (by omega))
  have HI : Hid (Base.In false (fun b => b < Kk) W3 (m + 1) (vl c.k c.b c.i c.s (.slice an ln cn) (.slice al ll cl)) c) := in_low hin (b3 _ (by omega))
  clear hin q1 q2 q3 q4 m2 m3 v3 b3 v1 m1
  go_wp2_with fail
  refine leaves_cons (f := 61) (args := #[.pointer (some ⟨w.heap.size + 1, 0, none⟩), .pointer (some ⟨w.heap.size + 2, 0, none⟩)]) (by simp) (by simp [go_sem]) ?_
  refine (catch_idle ⟨w.heap.size + 1, 0, none⟩ ⟨w.heap.size + 2, 0, none⟩ W3).mono ?_
  rintro e u' w5 ⟨rfl, rfl, rfl⟩
  simp [Leaves, settle, results, Tryz.results38, go_sem, c0, c1, c2, c3, c4, c5, p0]
  exact ⟨HD.out, _, rfl, HI.out⟩
end Go.Proofs.YtghnhkagkngjcaaGreatDoor.VRv
namespace Go.Proofs.YtghnhkagkngjcaaGreatDoor.VMp
open Go.RowKit Go.Maps Base EPure VPure VSm VIn VJn VRs VVr
abbrev Bn := ByteArray × C
def rho (bs : List Bn) (s : ByteArray) : Option C := bs.foldl (fun acc b => if b.1 = s then some b.2 else acc) none
theorem rho_nil (s : ByteArray) : rho [] s = none := rfl
theorem rho_snoc (bs : List Bn) (b : Bn) (s : ByteArray) : rho (bs ++ [b]) s = if b.1 = s then some b.2 else rho bs s := by
 unfold rho
 rw [List.foldl_append]
 rfl
abbrev ky (s : ByteArray) : Lit := .string s.data.toList
theorem ky_inj {s t : ByteArray} (h : ky s = ky t) : s = t := by
 injection h with h
 have : s.data = t.data := by rw [← Array.toArray_toList (xs := s.data), ← Array.toArray_toList (xs := t.data), h]
 cases s
 cases t
 simp at this
 rw [this]
theorem keyed : Keyed Tryz.prog 9 := string_keyed Tryz.underlying9
theorem key_of {s : ByteArray} (h : s.size ≤ 140737488351232) : keyOf Tryz.prog 9 (.string s) = some (ky s) := Go.WideMaps.keyOf_string_mk Tryz.underlying9 (by unfold maxLen; omega)
structure Mb {H : Type} (D : DataW H) (bs : List Bn) : Prop where
 tidy : Tidy D
 no : ∀ s, s.size ≤ 140737488351232 → rho bs s = none → Maps.has D (ky s) = false
 yes : ∀ s c, s.size ≤ 140737488351232 → rho bs s = some c → ∃ j, ∃ h : j < bs.length, bs[j].2 = c ∧ Maps.has D (ky s) = true ∧ ∀ z, D.atKey (ky s) z = .lit (.int .i64 (j : Nat))
theorem Mb.nil {H : Type} : Mb (.map [] : DataW H) [] := ⟨tidy_empty, fun s _ _ => by simp [Maps.has], fun s c _ h => by rw [rho_nil] at h; cases h⟩
theorem Mb.put {H : Type} {D : DataW H} {bs : List Bn} (h : Mb D bs) {b : Bn} (hb : b.1.size ≤ 140737488351232) : Mb (D.put (ky b.1) (.lit (.int .i64 (bs.length : Nat)))) (bs ++ [b]) := by
 have hk := keyed.key (key_of hb)
 refine ⟨h.tidy.put hk _, fun s hs hr => ?_, fun s c hs hr => ?_⟩
 ·rw [rho_snoc] at hr
  by_cases e : b.1 = s
  ·rw [if_pos e] at hr; cases hr
  ·rw [if_neg e] at hr
   rw [has_put_other (fun e2 => e (ky_inj e2).symm)]
   exact h.no s hs hr
 ·rw [rho_snoc] at hr
  by_cases e : b.1 = s
  ·rw [if_pos e] at hr
   injection hr with hr
   refine ⟨bs.length, by simp, by simp [hr], ?_, fun z => ?_⟩
   ·rw [← e, has_put_same h.tidy.isMap hk]
   ·rw [← e, atKey_put_same h.tidy.isMap hk]
  ·rw [if_neg e] at hr
   obtain ⟨j, hj, e1, e2, e3⟩ := h.yes s c hs hr
   refine ⟨j, by simp; omega, by rw [List.getElem_append_left hj]; exact e1, ?_, fun z => ?_⟩
   ·rw [has_put_other (fun e2 => e (ky_inj e2).symm)]; exact e2
   ·rw [atKey_put_other (fun e2 => e (ky_inj e2).symm)]; exact e3 z
def Bl (K m : Nat) (w : World) (v : Value) (bs : List Bn) : Prop :=
 ∃ a cap, v = .slice a bs.length cap ∧ bs.length ≤ cap ∧ cap ≤ 9223372036854775807 ∧ (a = none → cap = 0) ∧ bs.length ≤ 4398046511104 ∧ (∀ b ∈ bs, b.1.size ≤ 140737488351232) ∧ (bs = [] ∨ ∃ g o, a = some ⟨g, o, none⟩ ∧ g < K ∧
  ∀ j (h : j < bs.length), ∃ an ln cn al ll cl, w.cell? ⟨g, o + j * 7, none⟩ = some (.string bs[j].1) ∧ w.cell? ⟨g, o + j * 7 + 1, none⟩ = some (.int .i64 bs[j].2.k) ∧ w.cell? ⟨g, o + j * 7 + 2, none⟩ = some (.bool bs[j].2.b) ∧ w.cell? ⟨g, o + j * 7 + 3, none⟩ = some (.int .i64 bs[j].2.i) ∧
   w.cell? ⟨g, o + j * 7 + 4, none⟩ = some (.string bs[j].2.s) ∧ w.cell? ⟨g, o + j * 7 + 5, none⟩ = some (.slice an ln cn) ∧ w.cell? ⟨g, o + j * 7 + 6, none⟩ = some (.slice al ll cl) ∧ Base.In false (fun b => b < K) w m (vl bs[j].2.k bs[j].2.b bs[j].2.i bs[j].2.s (.slice an ln cn) (.slice al ll cl)) bs[j].2)
theorem Bl.low {K m : Nat} {w w' : World} {v : Value} {bs : List Bn} (h : Bl K m w v bs) (hb : Below K w w') : Bl K m w' v bs := by
 obtain ⟨a, cap, h1, h2, h3, h4, h5, h6, h7⟩ := h
 refine ⟨a, cap, h1, h2, h3, h4, h5, h6, ?_⟩
 rcases h7 with h7 | ⟨g, o, e, hg, hc⟩
 ·exact .inl h7
 ·refine .inr ⟨g, o, e, hg, fun j hj => ?_⟩
  obtain ⟨an, ln, cn, al, ll, cl, c0, c1, c2, c3, c4, c5, c6, hin⟩ := hc j hj
  have kw : ∀ (q : Nat) (v : Value), w.cell? ⟨g, q, none⟩ = some v → w'.cell? ⟨g, q, none⟩ = some v := fun q v h => (World.cell?_of_block (w := w) (hb.block g hg)).trans h
  exact ⟨an, ln, cn, al, ll, cl, kw _ _ c0, kw _ _ c1, kw _ _ c2, kw _ _ c3, kw _ _ c4, kw _ _ c5, kw _ _ c6, in_low hin hb⟩
theorem wf_nat {n : Nat} (h : n ≤ 4398046511104) : (Lit.int .i64 (n : Int)).wf = true := by
 simp [Lit.wf, IntKind.min, IntKind.max, IntKind.signed, IntKind.bits]
 omega
theorem make_map (n : Nat) (w : World) : (Instr.makeMap 68 (some (.int .i64 n))).run Tryz.prog w = .ok (.map (some w.heap.size)) (w.alloc (.map #[] 0)) := by
 simp [Instr.makeMap, go_sem]
theorem places_c {K m : Nat} {w : World} {v : Value} {bs : List Bn} (hv : Bl K m w v bs) (hK : K ≤ w.heap.size) :
  Calls Tryz.prog 37 #[v] w fun e w' => e = .returned (.map (some w.heap.size)) ∧ (∃ D : DataW Unit, w'.ownsMap Tryz.prog 9 (plainElem Tryz.prog 3) w.heap.size bs.length D ∧ Mb D bs) ∧ Below w.heap.size w w' := by
 obtain ⟨a, cap, rfl, hl, hm, hnil, hlen, hok, hL⟩ := hv
 obtain ⟨n, hnn⟩ : ∃ n, bs.length = n := ⟨_, rfl⟩
 rw [hnn] at hl hlen ⊢
 have hmk := make_map n
 have hm0 := World.ownsMap_made w Tryz.prog 9 (plainElem (H := Unit) Tryz.prog 3)
 have hb0 : Below w.heap.size w (w.alloc (.map #[] 0)) := (Below.refl _ w).alloc (Nat.le_refl _) _
 have hs0 : (w.alloc (.map #[] 0)).heap.size = w.heap.size + 1 := by simp
 have HK : Hid (K ≤ w.heap.size) := hK
 clear hK
 go_enter Tryz.func37, Tryz.ntmps37
 go_wp2_with fail
 generalize w.alloc (.map #[] 0) = w0 at *
 go_loopw [11] (fun i wr => ∃ q : Nat, i = .int .i64 q ∧ q ≤ n ∧ (∃ D : DataW Unit, wr.ownsMap Tryz.prog 9 (plainElem Tryz.prog 3) w.heap.size q D ∧ Mb D (bs.take q)) ∧ Below w.heap.size w wr ∧ w.heap.size + 1 ≤ wr.heap.size) (fun i _ => n - (intOf i).toNat)
 case atStart => exact ⟨0, rfl, by omega, ⟨_, hm0, by rw [List.take_zero]; exact Mb.nil⟩, hb0, by omega⟩
 case round =>
  obtain ⟨q, rfl, hq, ⟨D, hown, hD⟩, hb, hsz⟩ := hrel
  by_cases hlt : q < n
  ·rcases hL with rfl | ⟨g, o, rfl, hg, hc⟩
   ·simp at hnn; omega
   ·obtain ⟨an, ln, cn, al, ll, cl, c0, c1, c2, c3, c4, c5, c6, -⟩ := hc q (by omega)
    have kw : ∀ (q : Nat) (v : Value), w.cell? ⟨g, q, none⟩ = some v → wr.cell? ⟨g, q, none⟩ = some v := fun q v h => (World.cell?_of_block (w := w) (hb.block g (Nat.lt_of_lt_of_le hg HK.out))).trans h
    replace c0 := kw _ _ c0
    replace c1 := kw _ _ c1
    replace c2 := kw _ _ c2
    replace c3 := kw _ _ c3
    replace c4 := kw _ _ c4
    replace c5 := kw _ _ c5
    replace c6 := kw _ _ c6
    have hx := hok bs[q] (List.getElem_mem _)
    have hput := hD.put hx
    rw [List.length_take, show min q bs.length = q by omega, ← List.take_succ_eq_append_getElem] at hput
    have HM : Hid (Mb (D.put (ky bs[q].1) (.lit (.int .i64 (q : Nat)))) (bs.take (q + 1))) := hput
    have hkey := key_of hx
    have hwf := wf_nat (n := q) (by omega)
    generalize bs[q].2.k = vk at *
    generalize bs[q].2.b = vb at *
    generalize bs[q].2.i = vi at *
    generalize bs[q].2.s = vs at *
    generalize bs[q].1 = nm at *
    clear hc hok hput hx hD kw
    go_wp2_with (first
     | (at_mapUpdate; refine wpList_mapUpdate_own _ rfl _ _ _ 68 rfl 9 3 keyed Tryz.underlying68 (plainElem Tryz.prog 3) w.heap.size q D rfl (hown.alloc _) (by simp [maxLen]; omega) _ _ _ rfl rfl hkey (.lit (.int .i64 (q : Nat))) [] (plainElem_int Tryz.underlying3 hwf) ?_; intro w2 hown2 hg2))
    go_roundw
    case rel => exact ⟨q + 1, by go_num, by omega, ⟨_, hown2, HM.out⟩, (hb.alloc hb.size _).grown hg2 (by simp; omega) (fun k e => by cases e; exact Nat.le_refl _), by have := hg2.size; simp at this; omega⟩
    case measure => simp only [intOf]; omega
  ·obtain rfl : q = n := by omega
   have hnlt : decide ((q : Int) < (q : Int)) = false := by simp
   rw [← hnn, List.take_length] at hD
   have HD : Hid (Mb D bs) := hD
   have HO : Hid (wr.ownsMap Tryz.prog 9 (plainElem Tryz.prog 3) w.heap.size q D) := hown
   clear hL hok hD hown
   go_wp2_with fail
   go_ret
   exact ⟨rfl, ⟨D, HO.out, HD.out⟩, hb⟩
end Go.Proofs.YtghnhkagkngjcaaGreatDoor.VMp
namespace Go.Proofs.YtghnhkagkngjcaaGreatDoor.VBd
open Go.RowKit Go.Maps Base EPure VPure VSm VIn VJn VRs VVr VMp
theorem own_map_below {w w' : World} {b n : Nat} {D : DataW Unit} (h : w.ownsMap Tryz.prog 9 (plainElem Tryz.prog 3) b n D) (hb : Below w.heap.size w w') (hl : b < w.heap.size) : w'.ownsMap Tryz.prog 9 (plainElem Tryz.prog 3) b n D := by
 obtain ⟨es, c, h1, h2⟩ := h
 exact ⟨es, c, (hb.block b hl).trans h1, h2⟩
theorem bound_c {K m : Nat} {w : World} {Mq Eb M n : Nat} {D : DataW Unit} {v : Value} {bs : List Bn} (hM : w.heap[Mq]? = some (.cells #[.map (some M)] 68 (0, 0))) (hE : w.heap[Eb]? = some (.cells #[v] 44 (0, 0))) (hMl : M < w.heap.size) (hown : w.ownsMap Tryz.prog 9 (plainElem Tryz.prog 3) M n D) (hD : Mb D bs)
  (hv : Bl K m w v bs) (hK : K ≤ w.heap.size) : Bd K m w Mq Eb (rho bs) := by
 intro W hW o i s lv hs
 have hMw := (Array.getElem?_eq_some_iff.1 hM).1
 have hEw := (Array.getElem?_eq_some_iff.1 hE).1
 have hz3 : ∀ w, (zeroValue 3).run Tryz.prog w = .ok (.int .i64 0) w := Tryz.zeroValue3
 obtain ⟨W0, hW0⟩ : ∃ W0, (W.alloc (.cells #[.int .i64 o, .int .i64 i, .string s, lv] 24)).alloc (.cells #[.int .i64 0, .bool false, .int .i64 0, .string ⟨#[]⟩, .slice none 0 0, .slice none 0 0] 40) = W0 := ⟨_, rfl⟩
 have hs0 : W0.heap.size = W.heap.size + 2 := by rw [← hW0]; simp
 have hb0 : Below W.heap.size W W0 := by rw [← hW0]; exact ((Below.refl _ W).alloc (Nat.le_refl _) _).alloc (by simp) _
 have hx : W0.heap[W.heap.size]? = some (.cells #[.int .i64 o, .int .i64 i, .string s, lv] 24 (0, 0)) := by rw [← hW0, Below.heap_alloc _ _ _ (by simp), heap_alloc_new]
 have hr : W0.heap[W.heap.size + 1]? = some (.cells #[.int .i64 0, .bool false, .int .i64 0, .string ⟨#[]⟩, .slice none 0 0, .slice none 0 0] 40 (0, 0)) := by
  have := heap_alloc_new (W.alloc (.cells #[.int .i64 o, .int .i64 i, .string s, lv] 24)) (.cells #[.int .i64 0, .bool false, .int .i64 0, .string ⟨#[]⟩, .slice none 0 0, .slice none 0 0] 40)
  rw [World.size_alloc, hW0] at this
  exact this
 have hwW := hW.size
 have hbW0 : Below w.heap.size w W0 := hW.trans (hb0.mono hW.size)
 have hM0 : W0.cell? ⟨Mq, 0, none⟩ = some (.map (some M)) := by have := (hbW0.block Mq hMw).trans hM; simp [World.cell?, this]
 have hE0 : W0.cell? ⟨Eb, 0, none⟩ = some v := by have := (hbW0.block Eb hEw).trans hE; simp [World.cell?, this]
 obtain ⟨x0, x1, x2, x3⟩ := XBase.four_box hx
 have hown0 := own_map_below hown hbW0 hMl
 have hv0 := hv.low (hbW0.mono hK)
 have hkey := key_of hs
 have HR : Hid (W0.heap[W.heap.size + 1]? = some (.cells #[.int .i64 0, .bool false, .int .i64 0, .string ⟨#[]⟩, .slice none 0 0, .slice none 0 0] 40 (0, 0))) := hr
 have HB : Hid (Below W.heap.size W W0) := hb0
 obtain ⟨r0, r1, r2, r3, r4, r5⟩ := six_box hr
 have rf0 := frozen_box hr 0
 have rf1 := frozen_box hr 1
 have rf2 := frozen_box hr 2
 have rf3 := frozen_box hr 3
 have rf4 := frozen_box hr 4
 have rf5 := frozen_box hr 5
 cases hρ : rho bs s with
 | none =>
  have hhas := hD.no s hs hρ
  clear hx hr hb0 hbW0 hM hE hown hD hv hv0 hρ hE0
  obtain ⟨W9, hW9⟩ : ∃ W9, ((((((W0.setCell ⟨W.heap.size + 1, 0, none⟩ (.int .i64 0)).setCell ⟨W.heap.size + 1, 1, none⟩ (.bool false)).setCell ⟨W.heap.size + 1, 2, none⟩ (.int .i64 0)).setCell ⟨W.heap.size + 1, 3, none⟩ (.string ⟨#[]⟩)).setCell ⟨W.heap.size + 1, 4, none⟩ (.slice none 0 0)).setCell ⟨W.heap.size + 1, 5, none⟩ (.slice none 0 0)) = W9 := ⟨_, rfl⟩
  obtain ⟨q1, q2, q3, q4⟩ := set6 _ _ _ _ _ _ HR.out hW9
  obtain ⟨y0, y1, y2, y3, y4, y5⟩ := six_box q1
  have HQ : Hid (Below W.heap.size W W9) := q4 _ _ (by omega) HB.out
  clear q1 q2 q3 q4
  go_enter Tryz.func39, Tryz.ntmps39
  go_wp2_with (first | (at_lookup; refine wpList_lookup_own_ok_int _ rfl _ _ 68 rfl 9 3 .i64 keyed Tryz.underlying68 Tryz.underlying3 (hz3 _) M n D rfl hown0 _ _ rfl hkey ?_; intro cc hat hwc; rw [hhas]; clear hat))
  refine bodyPost_ret (v := .tuple #[vl 0 false 0 ⟨#[]⟩ (.slice none 0 0) (.slice none 0 0), .bool false]) (by simp [results, Tryz.results39, go_sem, y0, y1, y2, y3, y4, y5]) rfl ?_
  exact ⟨HQ.out, 0, false, 0, ⟨#[]⟩, none, 0, 0, none, 0, 0, rfl, fun c h => by cases h⟩
 | some c =>
  obtain ⟨j, hj, hjc, hhas, hat0⟩ := hD.yes s c hs hρ
  obtain ⟨a, cap, rfl, hl, hm, hnil, hlen, hok, hL⟩ := hv0
  rcases hL with h | ⟨g, o', rfl, hg, hc⟩
  ·subst h; simp at hj
  obtain ⟨an, ln, cn, al, ll, cl, c0, c1, c2, c3, c4, c5, c6, hin⟩ := hc j hj
  rw [hjc] at c1 c2 c3 c4 hin
  have b1 : (0 : Int) ≤ (j : Int) := by omega
  have b2 : (j : Int) < (bs.length : Int) := by omega
  have b3 : decide ((j : Int) < (bs.length : Int)) = true := decide_eq_true b2
  obtain ⟨W9, hW9⟩ : ∃ W9, ((((((W0.setCell ⟨W.heap.size + 1, 0, none⟩ (.int .i64 c.k)).setCell ⟨W.heap.size + 1, 1, none⟩ (.bool c.b)).setCell ⟨W.heap.size + 1, 2, none⟩ (.int .i64 c.i)).setCell ⟨W.heap.size + 1, 3, none⟩ (.string c.s)).setCell ⟨W.heap.size + 1, 4, none⟩ (.slice an ln cn)).setCell ⟨W.heap.size + 1, 5, none⟩ (.slice al ll cl)) = W9 := ⟨_, rfl⟩
  obtain ⟨q1, q2, q3, q4⟩ := set6 _ _ _ _ _ _ HR.out hW9
  obtain ⟨y0, y1, y2, y3, y4, y5⟩ := six_box q1
  have HQ : Hid (Below W.heap.size W W9) := q4 _ _ (by omega) HB.out
  have HI : Hid (Base.In false (fun b => b < K) W9 m (vl c.k c.b c.i c.s (.slice an ln cn) (.slice al ll cl)) c) := in_low hin (q4 _ _ (by omega) (Below.refl _ _))
  have HAT : Hid (∀ z : DataW Unit, D.atKey (ky s) z = .lit (.int .i64 (j : Nat))) := hat0
  clear hx hr hb0 hbW0 hM hE hown hD hv hρ hat0 hc hok hin hjc q1 q2 q3 q4 c0
  go_enter Tryz.func39, Tryz.ntmps39
  go_wp2_with (first | (at_lookup; refine wpList_lookup_own_ok_int _ rfl _ _ 68 rfl 9 3 .i64 keyed Tryz.underlying68 Tryz.underlying3 (hz3 _) M n D rfl hown0 _ _ rfl hkey ?_; intro cc hat hwc; rw [hhas]; obtain rfl : cc = (j : Int) := (by rw [HAT.out] at hat; simp at hat; exact hat.symm); clear hat))
  refine bodyPost_ret (v := .tuple #[vl c.k c.b c.i c.s (.slice an ln cn) (.slice al ll cl), .bool true]) (by simp [results, Tryz.results39, go_sem, y0, y1, y2, y3, y4, y5]) rfl ?_
  exact ⟨HQ.out, c.k, c.b, c.i, c.s, an, ln, cn, al, ll, cl, rfl, fun c' h => by injection h with h; subst h; exact HI.out⟩
end Go.Proofs.YtghnhkagkngjcaaGreatDoor.VBd

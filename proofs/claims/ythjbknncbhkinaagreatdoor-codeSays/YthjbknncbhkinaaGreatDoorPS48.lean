import Derived.Defers
import Derived.Recover
import Derived.Test.YthjbknncbhkinaaGreatDoorPS06
import Derived.Test.YthjbknncbhkinaaGreatDoorPS32
import Derived.Test.YthjbknncbhkinaaGreatDoorPS46
import Derived.Test.YthjbknncbhkinaaGreatDoorPS47
open Go.Proofs.Tryz
set_option linter.unusedVariables false
set_option maxRecDepth 20000
set_option maxHeartbeats 3200000
namespace Go.Proofs.YthjbknncbhkinaaGreatDoor.JVa
open Go.RowKit Base EPure JPure VJn VRs JVr VPk JSe JLo JVl JVp
open JPure (gd gdL gdL_get)
open VPure hiding evL
def okOp (o : Int) : Prop := o = 1 \/ o = 2 \/ o = 3 \/ o = 4 \/ o = 5 \/ o = 6 \/ o = 29 \/ o = 30 \/ o = 12 \/ o = 13 \/ o = 14 \/ o = 15 \/ o = 16 \/ o = 17 \/ o = 18 \/ o = 19 \/ o = 23 \/ o = 24 \/ o = 25 \/ o = 26 \/ o = 27 \/ o = 28 \/ o = 10 \/ o = 7 \/ o = 8 \/ o = 9 \/ o = 11 \/ o = 20 \/ o = 21 \/ o = 22 \/ o = 31
theorem kids {Kk m n : Nat} {w : World} {Pv : Value} {ρ : Int -> Option C} {a : Option Addr} {cap : Nat} {l : List Ex} (hKk : Kk <= w.heap.size) (hl : gdL l) (ho : opsL okOp l) (hT : Tb w) (hB : Bd Kk (m + 1) w Pv ρ) (hL : XBase.LAt false (fun b => b < Kk) w n a cap l)
  (ih : ∀ (w : World) (v : Value) (x : Ex), XBase.In false (fun b => b < Kk) w n v x -> Kk <= w.heap.size -> gd x -> ops okOp x -> Tb w -> Bd Kk (m + 1) w Pv ρ -> Calls prog 70 #[.agg #[clo Pv], v] w fun e w' => VR Kk (m + 1) w (ev ρ x) e w')
  (j : Nat) (hj : j < l.length) : Kd Kk (m + 1) w Pv ρ a j l[j] := by
 rcases hL with ⟨h, -⟩ | ⟨g, o0, rfl, hg, hk, -⟩
 ·subst h; simp at hj
 ·obtain ⟨u, hu, hin⟩ := hk j hj
  obtain ⟨n', lv, hn, hv, -, -, -, hlv⟩ := hin.shape
  obtain ⟨a', c', rfl, -⟩ := hlv
  obtain ⟨w0, w1, w2, w3, e, c0, c1, c2, c3⟩ := hu
  rw [hv] at e
  injection e with e
  simp only [Array.mk.injEq, List.cons.injEq, and_true] at e
  obtain ⟨rfl, rfl, rfl, rfl⟩ := e
  refine ⟨g, o0, (l[j]).o, (l[j]).i, (l[j]).s, a', (l[j]).l.length, c', rfl, Nat.lt_of_lt_of_le hg hKk, fun W hW => ⟨?_, ?_⟩⟩
  ·have kw : ∀ (q : Nat) (v : Value), w.cell? ⟨g, q, none⟩ = some v -> W.cell? ⟨g, q, none⟩ = some v := fun q v h => (World.cell?_of_block (w := w) (hW.block g (Nat.lt_of_lt_of_le hg hKk))).trans h
   have e0 : o0 + 4 * j = o0 + j * 4 := by omega
   refine ⟨?_, ?_, ?_, ?_⟩
   ·rw [e0]; exact kw _ _ c0
   ·rw [show o0 + (4 * j + 1) = o0 + j * 4 + 1 by omega]; exact kw _ _ c1
   ·rw [show o0 + (4 * j + 2) = o0 + j * 4 + 2 by omega]; exact kw _ _ c2
   ·rw [show o0 + (4 * j + 3) = o0 + j * 4 + 3 by omega]; exact kw _ _ c3
  ·rw [hv] at hin
   exact ih W _ _ (XBase.In.keep (w := w) (w' := W) (fun b hb _ => hW.block b (Nat.lt_of_lt_of_le hb hKk)) hin) (Nat.le_trans hKk hW.size) (gdL_get hl hj) (opsL_get ho hj) (hT.below hW) (hB.below hW)
theorem two_of {o : Int} {l : List Ex} (h : (l.length : Int) = SFit.kd o) (ho : o = 29 \/ o = 30 \/ o = 12 \/ o = 13 \/ o = 14 \/ o = 15 \/ o = 16 \/ o = 17 \/ o = 18 \/ o = 19 \/ o = 23 \/ o = 24 \/ o = 25 \/ o = 26 \/ o = 27 \/ o = 28 \/ o = 8 \/ o = 20 \/ o = 21 \/ o = 22) : l.length = 2 := by
 have : SFit.kd o = 2 := by rcases ho with rfl | rfl | rfl | rfl | rfl | rfl | rfl | rfl | rfl | rfl | rfl | rfl | rfl | rfl | rfl | rfl | rfl | rfl | rfl | rfl <;> decide
 omega
theorem value_all {Kk m : Nat} {Pv : Value} {ρ : Int -> Option C} (hρ : ∀ (j : Int) c, ρ j = some c -> wf c) : ∀ (n : Nat) (w : World) (v : Value) (x : Ex), XBase.In false (fun b => b < Kk) w n v x -> Kk <= w.heap.size -> gd x -> ops okOp x -> Tb w -> Bd Kk (m + 1) w Pv ρ ->
  Calls prog 70 #[.agg #[clo Pv], v] w fun e w' => VR Kk (m + 1) w (ev ρ x) e w' := by
 intro n
 induction n with
 | zero => intro w v x h; rw [XBase.In] at h; exact h.elim
 | succ n ih =>
  intro w v x h hKk hg ho hT hB
  obtain ⟨o, i, s, l⟩ := x
  rw [XBase.in_iff] at h
  obtain ⟨lv, rfl, hor, hir, hs, a, cap, rfl, hlc, hcm, -, -, hL⟩ := h
  obtain ⟨hk, -, hgl⟩ := hg
  obtain ⟨hop, hol⟩ := ho
  have kd := fun j (hj : j < l.length) => kids (l := l) hKk hgl hol hT hB hL ih j hj
  have eg := fun j (hj : j < l.length) => evL_get ρ l j hj
  simp only [Ex.l, Ex.o] at hk hop
  rcases hop with rfl | rfl | rfl | rfl | rfl | rfl | hop
  ·exact value1 i s _
  ·exact value2 i s _
  ·exact value3 i s _
  ·exact value4 i s _ hir
  ·exact value5 i s _ hs
  ·exact value6 hKk hB i s _ hs
  have hwf : ∀ (x : Ex) (c : C), ev ρ x = .ok c -> wf c := fun x c h => ev_wf hρ x c h
  by_cases h1' : o = 10 \/ o = 11 \/ o = 7 \/ o = 9
  ·have h1 : l.length = 1 := by
    have : SFit.kd o = 1 := by rcases h1' with rfl | rfl | rfl | rfl <;> decide
    omega
   have k0 := kd 0 (by omega)
   have g0 := eg 0 (by omega)
   rcases h1' with rfl | rfl | rfl | rfl
   ·have e : ev ρ (.mk 10 i s l) = (bnd (ev ρ l[0]) fun a => bnd (.ok zerC) fun b => pr2 10 a b) := by rw [<- g0]; rfl
    rw [e]
    exact value_pair hKk 10 i s hlc hcm hT (by omega) (by decide) VPm.pair10 (hwf _) k0 (fun W _ => JS0.second_zero i s _ (.inl rfl))
   ·have e : ev ρ (.mk 11 i s l) = (bnd (ev ρ l[0]) fun a => bnd (.ok zerC) fun b => pr2 11 a b) := by rw [<- g0]; rfl
    rw [e]
    exact value_pair hKk 11 i s hlc hcm hT (by omega) (by decide) VPm.pair11 (hwf _) k0 (fun W _ => JS0.second_zero i s _ (.inr rfl))
   ·have e : ev ρ (.mk 7 i s l) = (bnd (ev ρ l[0]) fun a => bnd (.ok (strC s)) fun b => pr2 7 a b) := by rw [<- g0]; rfl
    rw [e]
    exact value_pair hKk 7 i s hlc hcm hT (by omega) (by decide) VPm.pair7 (hwf _) k0 (fun W _ => JS0.second_text i s _ hs)
   ·have e : ev ρ (.mk 9 i s l) = (bnd (ev ρ l[0]) fun a => bnd (.ok (intC i)) fun b => pr2 9 a b) := by rw [<- g0]; rfl
    rw [e]
    exact value_pair hKk 9 i s hlc hcm hT (by omega) (by decide) VPm.pair9 (hwf _) k0 (fun W _ => JS0.second_num i s _ hir)
  by_cases h31 : o = 31
  ·subst h31
   have h3 : l.length = 3 := by rw [show SFit.kd 31 = 3 from by decide] at hk; omega
   have k0 := kd 0 (by omega)
   have k1 := kd 1 (by omega)
   have k2 := kd 2 (by omega)
   have g0 := eg 0 (by omega)
   have g1 := eg 1 (by omega)
   have g2 := eg 2 (by omega)
   have e : ev ρ (.mk 31 i s l) = (bnd (bnd (ev ρ l[0]) isT) fun b => if b = true then ev ρ l[1] else ev ρ l[2]) := by rw [<- g0, <- g1, <- g2]; rfl
   rw [e]
   exact value31 hKk i s hlc hcm (by omega) k0 k1 k2
  replace hop : o = 29 \/ o = 30 \/ o = 12 \/ o = 13 \/ o = 14 \/ o = 15 \/ o = 16 \/ o = 17 \/ o = 18 \/ o = 19 \/ o = 23 \/ o = 24 \/ o = 25 \/ o = 26 \/ o = 27 \/ o = 28 \/ o = 8 \/ o = 20 \/ o = 21 \/ o = 22 := by omega
  have h2 := two_of hk hop
  have k0 := kd 0 (by omega)
  have k1 := kd 1 (by omega)
  have g0 := eg 0 (by omega)
  have g1 := eg 1 (by omega)
  have sc : ∀ o', o' ≠ 7 -> o' ≠ 9 -> o' ≠ 10 -> o' ≠ 11 -> ∀ W, Below w.heap.size w W -> Calls prog 91 #[.agg #[clo Pv], xv o' i s (.slice a l.length cap)] W fun e w' => VR Kk (m + 1) W (ev ρ l[1]) e w' := fun o' n7 n9 n10 n11 W hW => second_c (Nat.le_trans hKk hW.size) o' i s hlc hcm (by omega) n7 n9 n10 n11 (k1.below hW)
  rcases hop with rfl | rfl | hop
  ·have e : ev ρ (.mk 29 i s l) = (bnd (bnd (ev ρ l[0]) isT) fun b => if b = false then .ok (booC false) else bnd (bnd (ev ρ l[1]) isT) fun c => .ok (booC c)) := by rw [<- g0, <- g1]; rfl
   rw [e]
   exact value29 hKk i s hlc hcm (by omega) k0 k1
  ·have e : ev ρ (.mk 30 i s l) = (bnd (bnd (ev ρ l[0]) isT) fun b => if b = true then .ok (booC true) else bnd (bnd (ev ρ l[1]) isT) fun c => .ok (booC c)) := by rw [<- g0, <- g1]; rfl
   rw [e]
   exact value30 hKk i s hlc hcm (by omega) k0 k1
  rcases hop with rfl | rfl | rfl | rfl | rfl | rfl | rfl | rfl | rfl | rfl | rfl | rfl | rfl | rfl | rfl | rfl | rfl | rfl
  ·have e : ev ρ (.mk 12 i s l) = (bnd (ev ρ l[0]) fun a => bnd (ev ρ l[1]) fun b => pr2 12 a b) := by rw [<- g0, <- g1]; rfl
   rw [e]
   exact value_pair hKk 12 i s hlc hcm hT (by omega) (by decide) pair12 (hwf _) k0 (sc 12 (by decide) (by decide) (by decide) (by decide))
  ·have e : ev ρ (.mk 13 i s l) = (bnd (ev ρ l[0]) fun a => bnd (ev ρ l[1]) fun b => pr2 13 a b) := by rw [<- g0, <- g1]; rfl
   rw [e]
   exact value_pair hKk 13 i s hlc hcm hT (by omega) (by decide) pair13 (hwf _) k0 (sc 13 (by decide) (by decide) (by decide) (by decide))
  ·have e : ev ρ (.mk 14 i s l) = (bnd (ev ρ l[0]) fun a => bnd (ev ρ l[1]) fun b => pr2 14 a b) := by rw [<- g0, <- g1]; rfl
   rw [e]
   exact value_pair hKk 14 i s hlc hcm hT (by omega) (by decide) pair14 (hwf _) k0 (sc 14 (by decide) (by decide) (by decide) (by decide))
  ·have e : ev ρ (.mk 15 i s l) = (bnd (ev ρ l[0]) fun a => bnd (ev ρ l[1]) fun b => pr2 15 a b) := by rw [<- g0, <- g1]; rfl
   rw [e]
   exact value_pair hKk 15 i s hlc hcm hT (by omega) (by decide) pair15 (hwf _) k0 (sc 15 (by decide) (by decide) (by decide) (by decide))
  ·have e : ev ρ (.mk 16 i s l) = (bnd (ev ρ l[0]) fun a => bnd (ev ρ l[1]) fun b => pr2 16 a b) := by rw [<- g0, <- g1]; rfl
   rw [e]
   exact value_pair hKk 16 i s hlc hcm hT (by omega) (by decide) pair16 (hwf _) k0 (sc 16 (by decide) (by decide) (by decide) (by decide))
  ·have e : ev ρ (.mk 17 i s l) = (bnd (ev ρ l[0]) fun a => bnd (ev ρ l[1]) fun b => pr2 17 a b) := by rw [<- g0, <- g1]; rfl
   rw [e]
   exact value_pair hKk 17 i s hlc hcm hT (by omega) (by decide) pair17 (hwf _) k0 (sc 17 (by decide) (by decide) (by decide) (by decide))
  ·have e : ev ρ (.mk 18 i s l) = (bnd (ev ρ l[0]) fun a => bnd (ev ρ l[1]) fun b => pr2 18 a b) := by rw [<- g0, <- g1]; rfl
   rw [e]
   exact value_pair hKk 18 i s hlc hcm hT (by omega) (by decide) pair18 (hwf _) k0 (sc 18 (by decide) (by decide) (by decide) (by decide))
  ·have e : ev ρ (.mk 19 i s l) = (bnd (ev ρ l[0]) fun a => bnd (ev ρ l[1]) fun b => pr2 19 a b) := by rw [<- g0, <- g1]; rfl
   rw [e]
   exact value_pair hKk 19 i s hlc hcm hT (by omega) (by decide) pair19 (hwf _) k0 (sc 19 (by decide) (by decide) (by decide) (by decide))
  ·have e : ev ρ (.mk 23 i s l) = (bnd (ev ρ l[0]) fun a => bnd (ev ρ l[1]) fun b => pr2 23 a b) := by rw [<- g0, <- g1]; rfl
   rw [e]
   exact value_pair hKk 23 i s hlc hcm hT (by omega) (by decide) VPm.pair23 (hwf _) k0 (sc 23 (by decide) (by decide) (by decide) (by decide))
  ·have e : ev ρ (.mk 24 i s l) = (bnd (ev ρ l[0]) fun a => bnd (ev ρ l[1]) fun b => pr2 24 a b) := by rw [<- g0, <- g1]; rfl
   rw [e]
   exact value_pair hKk 24 i s hlc hcm hT (by omega) (by decide) VPm.pair24 (hwf _) k0 (sc 24 (by decide) (by decide) (by decide) (by decide))
  ·have e : ev ρ (.mk 25 i s l) = (bnd (ev ρ l[0]) fun a => bnd (ev ρ l[1]) fun b => pr2 25 a b) := by rw [<- g0, <- g1]; rfl
   rw [e]
   exact value_pair hKk 25 i s hlc hcm hT (by omega) (by decide) VPm.pair25 (hwf _) k0 (sc 25 (by decide) (by decide) (by decide) (by decide))
  ·have e : ev ρ (.mk 26 i s l) = (bnd (ev ρ l[0]) fun a => bnd (ev ρ l[1]) fun b => pr2 26 a b) := by rw [<- g0, <- g1]; rfl
   rw [e]
   exact value_pair hKk 26 i s hlc hcm hT (by omega) (by decide) VPm.pair26 (hwf _) k0 (sc 26 (by decide) (by decide) (by decide) (by decide))
  ·have e : ev ρ (.mk 27 i s l) = (bnd (ev ρ l[0]) fun a => bnd (ev ρ l[1]) fun b => pr2 27 a b) := by rw [<- g0, <- g1]; rfl
   rw [e]
   exact value_pair hKk 27 i s hlc hcm hT (by omega) (by decide) VPm.pair27 (hwf _) k0 (sc 27 (by decide) (by decide) (by decide) (by decide))
  ·have e : ev ρ (.mk 28 i s l) = (bnd (ev ρ l[0]) fun a => bnd (ev ρ l[1]) fun b => pr2 28 a b) := by rw [<- g0, <- g1]; rfl
   rw [e]
   exact value_pair hKk 28 i s hlc hcm hT (by omega) (by decide) VPm.pair28 (hwf _) k0 (sc 28 (by decide) (by decide) (by decide) (by decide))
  ·have e : ev ρ (.mk 8 i s l) = (bnd (ev ρ l[0]) fun a => bnd (ev ρ l[1]) fun b => pr2 8 a b) := by rw [<- g0, <- g1]; rfl
   rw [e]
   exact value_pair hKk 8 i s hlc hcm hT (by omega) (by decide) VPm.pair8 (hwf _) k0 (sc 8 (by decide) (by decide) (by decide) (by decide))
  ·have e : ev ρ (.mk 20 i s l) = (bnd (ev ρ l[0]) fun a => bnd (ev ρ l[1]) fun b => pr2 20 a b) := by rw [<- g0, <- g1]; rfl
   rw [e]
   exact value_pair hKk 20 i s hlc hcm hT (by omega) (by decide) VPm.pair20 (hwf _) k0 (sc 20 (by decide) (by decide) (by decide) (by decide))
  ·have e : ev ρ (.mk 21 i s l) = (bnd (ev ρ l[0]) fun a => bnd (ev ρ l[1]) fun b => pr2 21 a b) := by rw [<- g0, <- g1]; rfl
   rw [e]
   exact value_pair hKk 21 i s hlc hcm hT (by omega) (by decide) VPm.pair21 (hwf _) k0 (sc 21 (by decide) (by decide) (by decide) (by decide))
  ·have e : ev ρ (.mk 22 i s l) = (bnd (ev ρ l[0]) fun a => bnd (ev ρ l[1]) fun b => pr2 22 a b) := by rw [<- g0, <- g1]; rfl
   rw [e]
   exact value_pair hKk 22 i s hlc hcm hT (by omega) (by decide) VPm.pair22 (hwf _) k0 (sc 22 (by decide) (by decide) (by decide) (by decide))
end Go.Proofs.YthjbknncbhkinaaGreatDoor.JVa
namespace Go.Proofs.YthjbknncbhkinaaGreatDoor.JRv
open Go.RowKit Base EPure JPure VSm VJn VRs JVr JVa
open JPure (gd)
open VPure hiding evL
theorem wp_tmps {P : Program} {c : Code} {Q : Exit -> Act -> World -> Prop} {T : Array Value} (L : Array Value) {w : World} (e : T = L) (h : c.wp P Q { tmps := L, defers := [] } w) : c.wp P Q { tmps := T, defers := [] } w := by
 subst e; exact h
theorem as_no (w : World) : (Instr.typeAssert .nilIface 20 29 true).run prog w = .ok (.tuple #[.int .i64 0, .bool false]) w := by
 simp [Instr.typeAssert, run_underlying underlying29, Tryz.zeroValue29]
theorem as_yes (v : Value) (w : World) : (Instr.typeAssert (.iface 29 v) 20 29 true).run prog w = .ok (.tuple #[v, .bool true]) w := by
 simp [Instr.typeAssert, run_underlying underlying29]
theorem catch_idle (p q : Addr) (w : World) :
  CallsD prog 78 #[.pointer (some p), .pointer (some q)] .returning w fun e u' w' => e = .returned (.tuple #[]) /\ u' = .returning /\ w' = w := by
 refine callsD_of_wpS func78 rfl fun c₀ cs hu => ?_
 apply wpS_seq
 apply wpS_region
 simp [wpOpsS, go_sem, recoverD, hu, ntmps78, Exit.thenS, as_no]
 refine wpS_of_wp ?_
 refine wp_tmps (#[.pointer (some p), .pointer (some q), .int .i64 0, .bool false, .tuple #[.int .i64 0, .bool false], .nilIface, .tuple #[.int .i64 0, .bool false], .int .i64 0, .bool false, undef, undef, undef]) rfl ?_
 go_wp2
 cases c₀
 simp_all [bodyPostS, results, results78]
theorem catch_fault (V M : Nat) (hVM : V ≠ M) (c0 : Int) (older : List PanicEntry) (w : World) (y0 y1 y2 y3 y4 y5 z0 : Value) (hV : w.heap[V]? = some (.cells #[y0, y1, y2, y3, y4, y5] 46 (0, 0))) (hM : w.heap[M]? = some (.cells #[z0] 29 (0, 0))) :
  CallsD prog 78 #[.pointer (some ⟨V, 0, none⟩), .pointer (some ⟨M, 0, none⟩)] (.panicking ({ v := .iface 29 (.int .i64 c0), recovered := false } :: older)) w fun e u' w' => e = .returned (.tuple #[]) /\
   u' = .panicking ({ v := .iface 29 (.int .i64 c0), recovered := true } :: older) /\ w'.heap[V]? = some (.cells #[.int .i64 0, .bool false, .int .i64 0, .string ⟨#[]⟩, .slice none 0 0, .slice none 0 0] 46 (0, 0)) /\
    w'.heap[M]? = some (.cells #[.int .i64 c0] 29 (0, 0)) /\ ∀ n, n <= V -> n <= M -> Below n w w' := by
 obtain ⟨d0, d1, d2, d3, d4, d5⟩ := six_box hV
 have f0 := frozen_box hV 0
 have f1 := frozen_box hV 1
 have f2 := frozen_box hV 2
 have f3 := frozen_box hV 3
 have f4 := frozen_box hV 4
 have f5 := frozen_box hV 5
 have e0 : w.cell? ⟨M, 0, none⟩ = some z0 := by simp [World.cell?, hM]
 have g0 := frozen_box hM 0
 have n1 : V ≠ M := hVM
 have n2 : M ≠ V := hVM.symm
 refine callsD_of_wpS func78 rfl fun c₀ cs hu => ?_
 apply wpS_seq
 apply wpS_region
 simp [wpOpsS, go_sem, recoverD, hu, ntmps78, Exit.thenS, as_yes]
 refine wpS_of_wp ?_
 refine wp_tmps (L := #[.pointer (some ⟨V, 0, none⟩), .pointer (some ⟨M, 0, none⟩), .int .i64 c0, .bool true, .tuple #[.int .i64 c0, .bool true], .iface 29 (.int .i64 c0), .tuple #[.int .i64 c0, .bool true], .int .i64 c0, .bool true, undef, undef, undef]) ?e1 ?e2
 case e1 => simp [Array.replicate_succ]
 case e2 =>
  obtain ⟨W6, hW6⟩ : ∃ W6, ((((((w.setCell ⟨V, 0, none⟩ (.int .i64 0)).setCell ⟨V, 1, none⟩ (.bool false)).setCell ⟨V, 2, none⟩ (.int .i64 0)).setCell ⟨V, 3, none⟩ (.string ⟨#[]⟩)).setCell ⟨V, 4, none⟩ (.slice none 0 0)).setCell ⟨V, 5, none⟩ (.slice none 0 0)) = W6 := ⟨_, rfl⟩
  obtain ⟨q1, q2, q3, q4⟩ := set6 _ _ _ _ _ _ hV hW6
  have hM6 : W6.heap[M]? = some (.cells #[z0] 29 (0, 0)) := (q2 M n2).trans hM
  have m0 : W6.cell? ⟨M, 0, none⟩ = some z0 := by simp [World.cell?, hM6]
  have m1 := frozen_box hM6 0
  have HQ : Hid (_ /\ _ /\ _) := And.intro q1 (And.intro hM6 q4)
  clear hV hM q1 q2 q3 q4 hM6
  go_wp2_with fail
  refine ⟨rfl, _, rfl, .tuple #[], results_none rfl _ _ _, rfl, rfl, ?_, ?_, fun n h1 h2 => (HQ.out.2.2 _ n h1 (Below.refl _ _)).setCell (p := ⟨M, 0, none⟩) h2 _⟩
  ·rw [Below.heap_setCell _ _ _ _ n1]
   exact HQ.out.1
  ·simp [World.setCell, Array.getElem?_modify, HQ.out.2.1]
def RV (K m : Nat) (w : World) (a : Ans) (e : Ending) (w' : World) : Prop := Below w.heap.size w w' /\ match a with
 | .ok c => ∃ u, e = .returned (.tuple #[u, .int .i64 0]) /\ Base.In false (fun b => b < K) w' m u c
 | .error n => e = .returned (.tuple #[v0 0 false 0 ⟨#[]⟩, .int .i64 (n : Nat)])
abbrev ptJ (b : Nat) : Value := .pointer (some ⟨b, 0, none⟩)
theorem closed_c {K m B X : Nat} {w : World} {Pv : Value} {U : Ans} {o i : Int} {s : ByteArray} {a : Option Addr} {n c : Nat} (hK : K <= w.heap.size) (hB : w.heap[B]? = some (.cells #[clo Pv] 73 (0, 0))) (hX : w.heap[X]? = some (.cells #[.int .i64 o, .int .i64 i, .string s, .slice a n c] 24 (0, 0))) (cR : ∀ W, Below w.heap.size w W -> Calls prog 70 #[.agg #[clo Pv], xv o i s (.slice a n c)] W fun e w' => VR K m W U e w') :
  Calls prog 69 #[ptJ B, ptJ X] w fun e w' => VR K m w U e w' := by
 obtain ⟨W0, hW0⟩ : ∃ W0, w.alloc (.cells #[.int .i64 0, .bool false, .int .i64 0, .string ⟨#[]⟩, .slice none 0 0, .slice none 0 0] 46) = W0 := ⟨_, rfl⟩
 have b0 : Below w.heap.size w W0 := by rw [<- hW0]; exact (Below.refl _ w).alloc (Nat.le_refl _) _
 have s0 : W0.heap.size = w.heap.size + 1 := by rw [<- hW0]; simp
 have x0 : W0.heap[w.heap.size]? = some (.cells #[.int .i64 0, .bool false, .int .i64 0, .string ⟨#[]⟩, .slice none 0 0, .slice none 0 0] 46 (0, 0)) := by rw [<- hW0]; exact heap_alloc_new w _
 have kB : W0.cell? ⟨B, 0, none⟩ = some (clo Pv) := by
  have := (b0.block B (Array.getElem?_eq_some_iff.1 hB).1).trans hB
  simp [World.cell?, this]
 obtain ⟨k0, k1, k2, k3⟩ := XBase.four_box ((b0.block X (Array.getElem?_eq_some_iff.1 hX).1).trans hX)
 have c1 := cR W0 b0
 have HB0 : Hid _ := b0
 have HX0 : Hid _ := x0
 clear cR b0 x0 hB hX
 go_enter func69, ntmps69
 go_wp2_with fail
 try rw [hW0]
 refine c1.mono ?_
 rintro e W1 ⟨hb1, hA⟩
 have bb : Below w.heap.size w W1 := HB0.out.trans (hb1.mono HB0.out.size)
 cases U with
 | error k =>
  obtain rfl := hA
  exact ⟨rfl, bb, rfl⟩
 | ok c =>
 obtain ⟨u, rfl, hin⟩ := hA
 obtain ⟨an, ln, cn, al, ll, cl, rfl⟩ := in_shape hin
 have y1 := (hb1.block w.heap.size (by omega)).trans HX0.out
 obtain ⟨W9, hW9⟩ : ∃ W9, ((((((W1.setCell ⟨w.heap.size, 0, none⟩ (.int .i64 c.k)).setCell ⟨w.heap.size, 1, none⟩ (.bool c.b)).setCell ⟨w.heap.size, 2, none⟩ (.int .i64 c.i)).setCell ⟨w.heap.size, 3, none⟩ (.string c.s)).setCell ⟨w.heap.size, 4, none⟩ (.slice an ln cn)).setCell ⟨w.heap.size, 5, none⟩ (.slice al ll cl)) = W9 := ⟨_, rfl⟩
 obtain ⟨q1, q2, q3, q4⟩ := set6 _ _ _ _ _ _ y1 hW9
 have HE : Hid (VR K m w (.ok c) (.returned (vl c.k c.b c.i c.s (.slice an ln cn) (.slice al ll cl))) W9) := ⟨q4 _ _ (by omega) bb, _, rfl, in_low hin (q4 _ _ hK (Below.refl _ _))⟩
 have HQ1 : Hid _ := q1
 obtain ⟨v0', v1', v2', v3', v4', v5'⟩ := six_box y1
 have g0 := frozen_box y1 0
 have g1 := frozen_box y1 1
 have g2 := frozen_box y1 2
 have g3 := frozen_box y1 3
 have g4 := frozen_box y1 4
 have g5 := frozen_box y1 5
 clear hin bb hb1 y1 q1 q2 q3 q4 c1
 go_wp2_with fail
 try rw [hW9]
 refine bodyPost_ret (results_cell_row rfl _ W9 w.heap.size 46 _ (0, 0) _ rfl HQ1.out underlying46 rfl (by kernel_rfl)) rfl ?_
 exact HE.out
abbrev clJ (B X : Nat) : Value := .func (.func 69) #[] #[ptJ B, ptJ X]
theorem caught_c {K m B X : Nat} {w : World} {U : Ans} (hK : K <= w.heap.size) (cR : ∀ W, Below w.heap.size w W -> Calls prog 69 #[ptJ B, ptJ X] W fun e w' => VR K m W U e w') :
  Calls prog 64 #[clJ B X] w fun e w' => RV K m w U e w' := by
 have hmf : ∀ (fn : Fn) (first cap : Array Value) (w : World), (Instr.makeFunc fn first cap).run prog w = .ok (.func fn first cap) w := fun _ _ _ _ => rfl
 obtain ⟨W, hW⟩ : ∃ W, (w.alloc (.cells #[.int .i64 0, .bool false, .int .i64 0, .string ⟨#[]⟩, .slice none 0 0, .slice none 0 0] 46)).alloc (.cells #[.int .i64 0] 29) = W := ⟨_, rfl⟩
 have bW : Below w.heap.size w W := by rw [<- hW]; exact ((Below.refl _ w).alloc (Nat.le_refl _) _).alloc (by simp) _
 have sW : W.heap.size = w.heap.size + 2 := by rw [<- hW]; simp
 have zV : W.heap[w.heap.size]? = some (.cells #[.int .i64 0, .bool false, .int .i64 0, .string ⟨#[]⟩, .slice none 0 0, .slice none 0 0] 46 (0, 0)) := by rw [<- hW, Below.heap_alloc _ _ _ (by simp), heap_alloc_new]
 have zM : W.heap[w.heap.size + 1]? = some (.cells #[.int .i64 0] 29 (0, 0)) := by
  rw [<- hW]
  have := heap_alloc_new (w.alloc (.cells #[.int .i64 0, .bool false, .int .i64 0, .string ⟨#[]⟩, .slice none 0 0, .slice none 0 0] 46)) (.cells #[.int .i64 0] 29)
  rwa [World.size_alloc] at this
 have cV := cR W bW
 have HB : Hid (Below w.heap.size w W) := bW
 have HV : Hid _ := zV
 have HM : Hid _ := zM
 clear bW zV zM cR
 go_enter_defers func64, ntmps64
 go_wp2_with fail
 try rw [hW]
 refine cV.mono ?_
 rintro e W1 ⟨hb1, hA⟩
 have hs1 := hb1.size
 have v1 := (hb1.block (w.heap.size) (by omega)).trans HV.out
 have m1 := (hb1.block (w.heap.size + 1) (by omega)).trans HM.out
 have HB1 : Hid (Below w.heap.size w W1) := HB.out.trans (hb1.mono HB.out.size)
 clear cV hb1 HV HM HB hW
 cases U with
 | error c =>
  obtain rfl := hA
  refine leaves_cons (f := 78) (args := #[.pointer (some ⟨w.heap.size, 0, none⟩), .pointer (some ⟨w.heap.size + 1, 0, none⟩)]) (by simp) (by simp [go_sem]) ?_
  refine (catch_fault (w.heap.size) (w.heap.size + 1) (by omega) (c : Nat) [] W1 _ _ _ _ _ _ _ v1 m1).mono ?_
  rintro e u' w5 ⟨rfl, rfl, r1, r2, r3⟩
  obtain ⟨c0, c1, c2, c3, c4, c5⟩ := six_box r1
  have q0 : w5.cell? ⟨w.heap.size + 1, 0, none⟩ = some (.int .i64 (c : Nat)) := by simp [World.cell?, r2]
  have HD : Hid (Below w.heap.size w w5) := HB1.out.trans (r3 _ (by omega) (by omega))
  simp [Leaves, settle, results, results64, go_sem, c0, c1, c2, c3, c4, c5, q0]
  exact ⟨HD.out, rfl⟩
 | ok c =>
  obtain ⟨u, rfl, hin⟩ := hA
  obtain ⟨an, ln, cn, al, ll, cl, rfl⟩ := in_shape hin
  obtain ⟨r0, r1, r2, r3, r4, r5⟩ := six_box v1
  have rf0 := frozen_box v1 0
  have rf1 := frozen_box v1 1
  have rf2 := frozen_box v1 2
  have rf3 := frozen_box v1 3
  have rf4 := frozen_box v1 4
  have rf5 := frozen_box v1 5
  obtain ⟨W2, hW2⟩ : ∃ W2, ((((((W1.setCell ⟨w.heap.size, 0, none⟩ (.int .i64 c.k)).setCell ⟨w.heap.size, 1, none⟩ (.bool c.b)).setCell ⟨w.heap.size, 2, none⟩ (.int .i64 c.i)).setCell ⟨w.heap.size, 3, none⟩ (.string c.s)).setCell ⟨w.heap.size, 4, none⟩ (.slice an ln cn)).setCell ⟨w.heap.size, 5, none⟩ (.slice al ll cl)) = W2 := ⟨_, rfl⟩
  obtain ⟨q1, q2, q3, q4⟩ := set6 _ _ _ _ _ _ v1 hW2
  have m2 : W2.heap[w.heap.size + 1]? = some (.cells #[.int .i64 0] 29 (0, 0)) := (q2 _ (by omega)).trans m1
  have e0 : W2.cell? ⟨w.heap.size + 1, 0, none⟩ = some (.int .i64 0) := by simp [World.cell?, m2]
  have ef := frozen_box m2 0
  obtain ⟨W3, hW3⟩ : ∃ W3, W2.setCell ⟨w.heap.size + 1, 0, none⟩ (.int .i64 0) = W3 := ⟨_, rfl⟩
  have m3 : W3.heap[w.heap.size + 1]? = some (.cells #[.int .i64 0] 29 (0, 0)) := by rw [<- hW3]; simp [World.setCell, Array.getElem?_modify, m2]
  have v3 : W3.heap[w.heap.size]? = some (.cells #[.int .i64 c.k, .bool c.b, .int .i64 c.i, .string c.s, .slice an ln cn, .slice al ll cl] 46 (0, 0)) := by rw [<- hW3, Below.heap_setCell _ _ _ _ (by simp)]; exact q1
  have b3 : ∀ n, n <= w.heap.size -> Below n W1 W3 := fun n hn => by rw [<- hW3]; exact (q4 _ _ hn (Below.refl _ _)).setCell (p := ⟨w.heap.size + 1, 0, none⟩) (by show n <= w.heap.size + 1; omega) _
  obtain ⟨c0, c1, c2, c3, c4, c5⟩ := six_box v3
  have p0 : W3.cell? ⟨w.heap.size + 1, 0, none⟩ = some (.int .i64 0) := by simp [World.cell?, m3]
  have HD : Hid (Below w.heap.size w W3) := HB1.out.trans (b3 _ (by omega))
  have HI : Hid (Base.In false (fun b => b < K) W3 m (vl c.k c.b c.i c.s (.slice an ln cn) (.slice al ll cl)) c) := in_low hin (b3 _ (by omega))
  clear hin q1 q2 q3 q4 m2 m3 v3 b3 v1 m1
  go_wp2_with fail
  refine leaves_cons (f := 78) (args := #[.pointer (some ⟨w.heap.size, 0, none⟩), .pointer (some ⟨w.heap.size + 1, 0, none⟩)]) (by simp) (by simp [go_sem]) ?_
  refine (catch_idle ⟨w.heap.size, 0, none⟩ ⟨w.heap.size + 1, 0, none⟩ W3).mono ?_
  rintro e u' w5 ⟨rfl, rfl, rfl⟩
  simp [Leaves, settle, results, results64, go_sem, c0, c1, c2, c3, c4, c5, p0]
  exact ⟨HD.out, _, rfl, HI.out⟩
theorem reckon_c {Kk m n : Nat} {w : World} {Pv : Value} {ρ : Int -> Option C} {o i : Int} {s : ByteArray} {lv : Value} {x : Ex} (hin : XBase.In false (fun b => b < Kk) w n (xv o i s lv) x) (hKk : Kk <= w.heap.size) (hρ : ∀ (j : Int) c, ρ j = some c -> wf c) (hg : gd x) (ho : ops okOp x) (hT : Tb w) (hB : Bd Kk (m + 1) w Pv ρ) :
  Calls prog 45 #[xv o i s lv, clo Pv] w fun e w' => RV Kk (m + 1) w (ev ρ x) e w' := by
 have hmf : ∀ (fn : Fn) (first cap : Array Value) (w : World), (Instr.makeFunc fn first cap).run prog w = .ok (.func fn first cap) w := fun _ _ _ _ => rfl
 have hlv : ∃ a n c, lv = .slice a n c := by
  cases n with
  | zero => rw [XBase.In] at hin; exact hin.elim
  | succ n =>
   obtain ⟨o', i', s', l'⟩ := x
   rw [XBase.in_iff] at hin
   obtain ⟨lv', e1, -, -, -, hl⟩ := hin
   obtain ⟨a, cap, rfl, -⟩ := hl
   cases e1
   exact ⟨_, _, _, rfl⟩
 obtain ⟨a, n1, cp, rfl⟩ := hlv
 obtain ⟨W, hW⟩ : ∃ W, ((w.alloc (.cells #[.int .i64 o, .int .i64 i, .string s, .slice a n1 cp] 24)).alloc (.cells #[clo Pv] 73)).alloc (.cells #[.int .i64 0, .bool false, .int .i64 0, .string ⟨#[]⟩, .slice none 0 0, .slice none 0 0] 46) = W := ⟨_, rfl⟩
 have bW : Below w.heap.size w W := by rw [<- hW]; exact (((Below.refl _ w).alloc (Nat.le_refl _) _).alloc (by simp) _).alloc (by simp <;> omega) _
 have sW : W.heap.size = w.heap.size + 3 := by rw [<- hW]; simp
 have zX : W.heap[w.heap.size]? = some (.cells #[.int .i64 o, .int .i64 i, .string s, .slice a n1 cp] 24 (0, 0)) := by rw [<- hW, Below.heap_alloc _ _ _ (by simp <;> omega), Below.heap_alloc _ _ _ (by simp), heap_alloc_new]
 have zP : W.heap[w.heap.size + 1]? = some (.cells #[clo Pv] 73 (0, 0)) := by
  rw [<- hW, Below.heap_alloc _ _ _ (by simp)]
  have := heap_alloc_new (w.alloc (.cells #[.int .i64 o, .int .i64 i, .string s, .slice a n1 cp] 24)) (.cells #[clo Pv] 73)
  rwa [World.size_alloc] at this
 have zV : W.heap[w.heap.size + 2]? = some (.cells #[.int .i64 0, .bool false, .int .i64 0, .string ⟨#[]⟩, .slice none 0 0, .slice none 0 0] 46 (0, 0)) := by
  rw [<- hW]
  have := heap_alloc_new ((w.alloc (.cells #[.int .i64 o, .int .i64 i, .string s, .slice a n1 cp] 24)).alloc (.cells #[clo Pv] 73)) (.cells #[.int .i64 0, .bool false, .int .i64 0, .string ⟨#[]⟩, .slice none 0 0, .slice none 0 0] 46)
  rwa [World.size_alloc, World.size_alloc] at this
 have cV := caught_c (K := Kk) (m := m + 1) (B := w.heap.size + 1) (X := w.heap.size) (w := W) (U := ev ρ x) (by omega) fun W1 b1 => closed_c (by have := b1.size; omega) ((b1.block _ (by omega)).trans zP) ((b1.block _ (by omega)).trans zX) fun W2 b2 => by
  have bb : Below w.heap.size w W2 := (bW.trans (b1.mono (by omega))).trans (b2.mono (by have := b1.size; omega))
  exact value_all hρ n W2 _ x (XBase.In.keep (w := w) (w' := W2) (fun b hb _ => bb.block b (Nat.lt_of_lt_of_le hb hKk)) hin) (by have := bb.size; omega) hg ho (hT.below bb) (hB.below bb)
 have HB : Hid (Below w.heap.size w W) := bW
 have HZ : Hid _ := zV
 have HW : Hid (_ = W) := hW
 generalize ev ρ x = U at *
 clear hin hg ho hT hB bW zX zP zV hW
 go_enter func45, ntmps45
 go_wp2_with fail
 rw [HW.out]
 refine cV.mono ?_
 rintro e W1 ⟨hb1, hA⟩
 have y1 := (hb1.block (w.heap.size + 2) (by omega)).trans HZ.out
 have bb : Below w.heap.size w W1 := HB.out.trans (hb1.mono HB.out.size)
 obtain ⟨v0', v1', v2', v3', v4', v5'⟩ := six_box y1
 have g0 := frozen_box y1 0
 have g1 := frozen_box y1 1
 have g2 := frozen_box y1 2
 have g3 := frozen_box y1 3
 have g4 := frozen_box y1 4
 have g5 := frozen_box y1 5
 cases U with
 | error k =>
  obtain rfl := hA
  obtain ⟨W9, hW9⟩ : ∃ W9, ((((((W1.setCell ⟨w.heap.size + 2, 0, none⟩ (.int .i64 0)).setCell ⟨w.heap.size + 2, 1, none⟩ (.bool false)).setCell ⟨w.heap.size + 2, 2, none⟩ (.int .i64 0)).setCell ⟨w.heap.size + 2, 3, none⟩ (.string ⟨#[]⟩)).setCell ⟨w.heap.size + 2, 4, none⟩ (.slice none 0 0)).setCell ⟨w.heap.size + 2, 5, none⟩ (.slice none 0 0)) = W9 := ⟨_, rfl⟩
  obtain ⟨q1, q2, q3, q4⟩ := set6 _ _ _ _ _ _ y1 hW9
  have HE : Hid (Below w.heap.size w W9) := q4 _ _ (by omega) bb
  have HQ1 : Hid _ := q1
  have HW9 : Hid (_ = W9) := hW9
  clear bb hb1 y1 q1 q2 q3 q4 cV hW9
  go_wp2_with fail
  rw [HW9.out]
  refine bodyPost_ret (Part.res_row_tmp rfl _ W9 (w.heap.size + 2) 46 _ (0, 0) _ rfl HQ1.out underlying46 rfl (by kernel_rfl)) rfl ?_
  exact ⟨HE.out, rfl⟩
 | ok c =>
  obtain ⟨u, rfl, hin⟩ := hA
  obtain ⟨an, ln, cn, al, ll, cl, rfl⟩ := in_shape hin
  obtain ⟨W9, hW9⟩ : ∃ W9, ((((((W1.setCell ⟨w.heap.size + 2, 0, none⟩ (.int .i64 c.k)).setCell ⟨w.heap.size + 2, 1, none⟩ (.bool c.b)).setCell ⟨w.heap.size + 2, 2, none⟩ (.int .i64 c.i)).setCell ⟨w.heap.size + 2, 3, none⟩ (.string c.s)).setCell ⟨w.heap.size + 2, 4, none⟩ (.slice an ln cn)).setCell ⟨w.heap.size + 2, 5, none⟩ (.slice al ll cl)) = W9 := ⟨_, rfl⟩
  obtain ⟨q1, q2, q3, q4⟩ := set6 _ _ _ _ _ _ y1 hW9
  have HE : Hid (Below w.heap.size w W9 /\ Base.In false (fun b => b < Kk) W9 (m + 1) (vl c.k c.b c.i c.s (.slice an ln cn) (.slice al ll cl)) c) := ⟨q4 _ _ (by omega) bb, in_low hin (q4 _ _ (by omega) (Below.refl _ _))⟩
  have HQ1 : Hid _ := q1
  clear hin bb hb1 y1 q1 q2 q3 q4 cV
  go_wp2_with fail
  try rw [hW9]
  refine bodyPost_ret (Part.res_row_tmp rfl _ W9 (w.heap.size + 2) 46 _ (0, 0) _ rfl HQ1.out underlying46 rfl (by kernel_rfl)) rfl ?_
  exact ⟨HE.out.1, _, rfl, HE.out.2⟩
end Go.Proofs.YthjbknncbhkinaaGreatDoor.JRv

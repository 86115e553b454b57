import Derived.Test.YtaiackmmmlhgbaaGreatPV15
import Derived.Test.YtaiackmmmlhgbaaGreatPV18
open Go.Proofs.Tryz
set_option linter.unusedVariables false
set_option maxRecDepth 20000
set_option maxHeartbeats 3200000
namespace Go.Proofs.YtaiackmmmlhgbaaGreat.BSf
open Go.RowKit BPl YRr YRs BBx BIx BFx
open YPl (Oq Bk Pg)
open YEn (InPg)
open TBase (T Keep InL LAt heap_alloc_new)
open CPu (Ins)
open CBx (w64)
theorem hid {p : Prop} (h : p) : Hid p := h
abbrev Lo (K : Nat) : Nat -> Prop := fun b => b < K
theorem inl_rrs {K m : Nat} {w : World} {v : Value} {l : List T} (h : InL false (TVisit.Lo K) w m v l) : RrS 4 (LyTs m (Lo K)) (Lo K) w v l := by
 obtain ⟨a, cap, h1, h2, h3, h4, h5, h6⟩ := h
 refine ⟨a, cap, h1, h2, h3, by omega, h5, ?_⟩
 rcases h6 with ⟨h6, -⟩ | ⟨g, o, ha, hg, hc, -⟩
 ·exact .inl h6
 ·exact .inr ⟨g, o, ha, hg, hc⟩
theorem shared_c {K m : Nat} {w : World} {v : Value} {x : Pg} (h : InPg K m w v x) (hK : K <= w.heap.size) :
  Calls prog 44 #[v] w fun e w' => e = .returned (.tuple #[.int .i64 (shf x).1, .int .i64 (shf x).2]) /\ Below w.heap.size w w' := by
 obtain ⟨a, n1, c1, b, n2, c2, c, n3, c3, d, n4, c4, rfl, h1, h2, h3, h4⟩ := h
 have e1 : n1 = x.t.length := by obtain ⟨_, _, e, _⟩ := h1; cases e; rfl
 obtain ⟨W, hW⟩ : ∃ W, w.alloc (.cells #[.slice a n1 c1, .slice b n2 c2, .slice c n3 c3, .slice d n4 c4] 29) = W := ⟨_, rfl⟩
 have b0 : Below w.heap.size w W := by rw [<- hW]; exact (Below.refl _ w).alloc (Nat.le_refl _) _
 have hs0 : W.heap.size = w.heap.size + 1 := by rw [<- hW]; simp
 have hx : W.heap[w.heap.size]? = some (.cells #[.slice a n1 c1, .slice b n2 c2, .slice c n3 c3, .slice d n4 c4] 29 (0, 0)) := by rw [<- hW]; exact heap_alloc_new w _
 have HS : Hid (∀ W', Below w.heap.size w W' -> RrS 1 LyS (Lo K) W' (.slice a n1 c1) x.t) := fun W' hb => RrS.keep (S := Lo K) h1 (fun _ h => h) fun g o x _ hg h => kS (S := Lo K) (fun b hb' _ => hb.block b (by have : b < K := hb'; omega)) hg h
 have HC : Hid (∀ W', Below w.heap.size w W' -> RrS 1 (LyCs (Lo K)) (Lo K) W' (.slice b n2 c2) x.c) := fun W' hb => RrS.keep (S := Lo K) (Ly := LyCs (Lo K)) h2 (fun _ h => h) fun g o x _ hg h => kC (S := Lo K) (fun b hb' _ => hb.block b (by have : b < K := hb'; omega)) (fun _ h => h) hg h
 have HT : Hid (∀ W', Below w.heap.size w W' -> RrS 4 (LyTs m (Lo K)) (Lo K) W' (.slice c n3 c3) x.s) := fun W' hb => RrS.keep (inl_rrs h3) (fun _ h => h) fun g o x _ hg h => kT (S := Lo K) (fun b hb' _ => hb.block b (by have : b < K := hb'; omega)) (fun _ h => h) hg h
 have cS := first_s (HS.out W b0) (fun g hg => by have : g < K := hg; omega)
 obtain ⟨Z, hZ⟩ : ∃ Z, shf x = Z := ⟨_, rfl⟩
 rw [hZ]
 have HZ := hid hZ
 have HB0 := hid b0
 have HX := hid hx
 have E1 := hid e1
 have hs : w.heap.size < W.heap.size := by omega
 clear hs0
 obtain ⟨p0, p1, p2, p3⟩ := TBase.four_box hx
 clear e1 h1 h2 h3 h4 hx b0 hZ
 unfold shf at HZ
 unfold fS at cS
 generalize fwr 16384 STx.tg x.t = z1 at *
 go_enter func44, ntmps44
 go_wp2_with fail
 refine cS.mono ?_
 rintro e W1 ⟨rfl, b1⟩
 have HB1 := hid (HB0.out.trans (b1.mono HB0.out.size) : Below w.heap.size w W1)
 have hx1 := (b1.block w.heap.size (by omega)).trans HX.out
 have hs1 : w.heap.size < W1.heap.size := by have := b1.size; omega
 have HX1 := hid hx1
 clear cS b1 p0 p1 p2 p3 hW
 obtain ⟨p0, p1, p2, p3⟩ := TBase.four_box hx1
 clear hx1
 by_cases d1 : 0 <= z1
 ·have hZ := HZ.out
  rw [if_pos d1] at hZ
  subst hZ
  have dd : decide (0 <= z1) = true := by simp [d1]
  go_wp2_with fail
  go_ret2
  exact ⟨rfl, HB1.out⟩
 have HZ1 := hid (by have := HZ.out; rw [if_neg d1] at this; exact this)
 have dd : decide (0 <= z1) = false := by simp [d1]
 have cC := first_c (HC.out W1 HB1.out) (fun g hg => by have : g < K := hg; omega) p0 hs1
 rw [E1.out] at cC
 generalize fwr 8192 (fun L => decide (CPu.ck L (x.t.length : Int) 64 = 0)) x.c = z2 at *
 clear d1 HZ
 unfold fC at cC
 go_wp2_with fail
 refine cC.mono ?_
 rintro e W2 ⟨rfl, b2⟩
 have HB2 := hid (HB1.out.trans (b2.mono HB1.out.size) : Below w.heap.size w W2)
 have hx2 := (b2.block w.heap.size (by omega)).trans HX1.out
 have hs2 : w.heap.size < W2.heap.size := by have := b2.size; omega
 clear cC b2 p0 p1 p2 p3
 obtain ⟨p0, p1, p2, p3⟩ := TBase.four_box hx2
 clear hx2
 by_cases d2 : 0 <= z2
 ·have hZ := HZ1.out
  rw [if_pos d2] at hZ
  subst hZ
  have dd2 : decide (0 <= z2) = true := by simp [d2]
  go_wp2_with fail
  go_ret2
  exact ⟨rfl, HB2.out⟩
 have HZ2 := hid (by have := HZ1.out; rw [if_neg d2] at this; exact this)
 have dd2 : decide (0 <= z2) = false := by simp [d2]
 have cT := first_t (HT.out W2 HB2.out) (fun g hg => by have : g < K := hg; omega)
 generalize fwr 4096 elm x.s = z3 at *
 clear d2 HZ1
 unfold fT at cT
 go_wp2_with fail
 refine cT.mono ?_
 rintro e W3 ⟨rfl, b3⟩
 have HB3 := hid (HB2.out.trans (b3.mono HB2.out.size) : Below w.heap.size w W3)
 clear cT b3 p0 p1 p2 p3
 by_cases d3 : 0 <= z3
 ·have hZ := HZ2.out
  rw [if_pos d3] at hZ
  subst hZ
  have dd3 : decide (0 <= z3) = true := by simp [d3]
  go_wp2_with fail
  go_ret2
  exact ⟨rfl, HB3.out⟩
 ·have hZ := HZ2.out
  rw [if_neg d3] at hZ
  subst hZ
  have dd3 : decide (0 <= z3) = false := by simp [d3]
  go_wp2_with fail
  go_ret2
  exact ⟨rfl, HB3.out⟩
def nst (m : Int) (x : Ins) : Int := if x.1 = 6 then max m (x.2 + 1) else m
theorem need_next {L : List Ins} {q : Nat} (h : q < L.length) (m : Int) : (L.drop q).foldl nst m = (L.drop (q + 1)).foldl nst (nst m L[q]) := by
 rw [List.drop_eq_getElem_cons h, List.foldl_cons]
theorem need_c {S : Nat -> Prop} {w : World} {v : Value} {L : List Ins} (hin : RrS 2 LyN S w v L) (hS : ∀ g, S g -> g < w.heap.size) (hb : ∀ x ∈ L, x.1 = 6 -> 0 <= x.2 /\ x.2 <= 64) :
  Calls prog 89 #[v] w fun e w' => e = .returned (.int .i64 (need L)) /\ Below w.heap.size w w' := by
 have HIN := hid hin
 have HS := hid hS
 have HBD := hid hb
 obtain ⟨a, cap, rfl, hlc, hcm, h47, hnil, -⟩ := hin
 obtain ⟨Z, hZ⟩ : ∃ Z, need L = Z := ⟨_, rfl⟩
 have HZ : Hid ((L.drop 0).foldl nst 0 = Z) := hZ
 rw [hZ]
 clear hZ hb hS hnil
 go_enter func89, ntmps89
 go_wp2_with fail
 go_loopw [8, 3] (fun i mm wr => ∃ (q : Nat) (M : Int), q <= L.length /\ i = .int .i64 q /\ mm = .int .i64 M /\ (L.drop q).foldl nst M = Z /\ 0 <= M /\ M <= 65 /\ Below w.heap.size w wr) (fun i _ _ => L.length - (intOf i).toNat)
 case atStart => exact ⟨0, 0, by omega, rfl, rfl, HZ.out, by omega, by omega, Below.refl _ _⟩
 case round =>
  clear HZ
  obtain ⟨q, M, hq, rfl, rfl, hM, hM0, hM1, hb⟩ := hrel
  have Hb := hid hb
  by_cases hlt : q < L.length
  ·have d0 : decide ((q : Int) < (L.length : Int)) = true := by simp; omega
   have i0 : (0 : Int) <= (q : Int) := by omega
   have i1 : (q : Int) < (L.length : Int) := by omega
   obtain ⟨g, o, cap', hsl, hl, hm, hg, k0⟩ := RrS.at HIN.out hlt
   cases hsl
   have k1 := below_cell (HS.out g hg) k0.2.1 hb
   have k0 := below_cell (HS.out g hg) k0.1 hb
   rw [need_next hlt] at hM
   have hbd := HBD.out L[q] (List.getElem_mem hlt)
   obtain ⟨W, hW⟩ : ∃ W, wr.alloc (.cells #[.int .i64 L[q].1, .int .i64 L[q].2] 65) = W := ⟨_, rfl⟩
   have b0 : Below wr.heap.size wr W := by rw [<- hW]; exact (Below.refl _ wr).alloc (Nat.le_refl _) _
   have hx : W.heap[wr.heap.size]? = some (.cells #[.int .i64 L[q].1, .int .i64 L[q].2] 65 (0, 0)) := by rw [<- hW]; exact heap_alloc_new wr _
   obtain ⟨c0, c1⟩ := TBase.two_box hx
   have HB1 := hid (Hb.out.trans (b0.mono Hb.out.size) : Below w.heap.size w W)
   clear hx b0 hb
   generalize L[q] = s at *
   obtain ⟨s1, s2⟩ := s
   dsimp only at *
   by_cases h6 : s1 = 6
   ·have hbd := hbd h6
    have d6 : (s1 == 6) = true := by simp [h6]
    have hw : IntKind.i64.wrap (s2 + 1) = s2 + 1 := w64 (by omega) (by omega)
    by_cases hmx : M < s2 + 1
    ·have hm1 : (if M < s2 + 1 then s2 + 1 else M) = s2 + 1 := if_pos hmx
     have hm2 : max M (s2 + 1) = s2 + 1 := by omega
     have hN : nst M (s1, s2) = s2 + 1 := by unfold nst; rw [if_pos h6, hm2]
     rw [hN] at hM
     have HM := hid hM
     clear hM hN h6 hmx
     go_wp2_with fail
     go_roundw
     case rel => exact ⟨q + 1, s2 + 1, by omega, by go_num, rfl, HM.out, by omega, by omega, HB1.out⟩
     case measure => simp only [intOf]; omega
    ·have hm1 : (if M < s2 + 1 then s2 + 1 else M) = M := if_neg hmx
     have hm2 : max M (s2 + 1) = M := by omega
     have hN : nst M (s1, s2) = M := by unfold nst; rw [if_pos h6, hm2]
     rw [hN] at hM
     have HM := hid hM
     clear hM hN h6 hmx
     go_wp2_with fail
     go_roundw
     case rel => exact ⟨q + 1, M, by omega, by go_num, rfl, HM.out, by omega, by omega, HB1.out⟩
     case measure => simp only [intOf]; omega
   ·have d6 : (s1 == 6) = false := by simp [h6]
    have hN : nst M (s1, s2) = M := by unfold nst; rw [if_neg h6]
    rw [hN] at hM
    have HM := hid hM
    clear hM hN h6 hbd
    go_wp2_with fail
    go_roundw
    case rel => exact ⟨q + 1, M, by omega, by go_num, rfl, HM.out, by omega, by omega, HB1.out⟩
    case measure => simp only [intOf]; omega
  ·have d0 : decide ((q : Int) < (L.length : Int)) = false := by simp; omega
   rw [List.drop_eq_nil_of_le (by omega)] at hM
   have hM : M = Z := hM
   subst hM
   go_wp2_with fail
   go_ret
   exact ⟨rfl, Hb.out⟩
end Go.Proofs.YtaiackmmmlhgbaaGreat.BSf

import Derived.Defers
import Derived.Recover
import Derived.Test.YtaiackmmmlhgbaaGreatPV10
import Derived.Test.YtaiackmmmlhgbaaGreatPV11
open Go.Proofs.Tryz
set_option linter.unusedVariables false
set_option maxRecDepth 20000
set_option maxHeartbeats 3200000
namespace Go.Proofs.YtaiackmmmlhgbaaGreat.YEn
open Go.RowKit YPl YRr
open TBase (T)
open TVisit (Lo keep_lo)
def InPg (K m : Nat) (w : World) (v : Value) (x : Pg) : Prop := ∃ a n1 c1 b n2 c2 c n3 c3 d n4 c4, v = .agg #[.slice a n1 c1, .slice b n2 c2, .slice c n3 c3, .slice d n4 c4] /\ Rr 1 LyS K w (.slice a n1 c1) x.t /\ Rr 1 (LyC K) K w (.slice b n2 c2) x.c /\ TBase.InL false (Lo K) w m (.slice c n3 c3) x.s /\ Rr 3 (LyB K) K w (.slice d n4 c4) x.b
theorem InPg.below {K m : Nat} {w w' : World} {v : Value} {x : Pg} (h : InPg K m w v x) (hb : Below K w w') : InPg K m w' v x := by
 obtain ⟨a, n1, c1, b, n2, c2, c, n3, c3, d, n4, c4, rfl, h1, h2, h3, h4⟩ := h
 exact ⟨a, n1, c1, b, n2, c2, c, n3, c3, d, n4, c4, rfl, Rr.keep h1 (Nat.le_refl _) fun g o x _ hg h => h.below hb hg, Rr.keep h2 (Nat.le_refl _) fun g o x _ hg h => h.below hb hg, h3.keep (keep_lo hb), Rr.keep h4 (Nat.le_refl _) fun g o x _ hg h => h.below hb hg⟩
end Go.Proofs.YtaiackmmmlhgbaaGreat.YEn
namespace Go.Proofs.YtaiackmmmlhgbaaGreat.BFw
open Go.RowKit BPl YRr YRs BBx BIx
open TBase (T Keep)
open CPu (Ins)
theorem ixf_next {α : Type} (F : α -> Bool) {l : List α} {q : Nat} (h : q < l.length) : ixf F q (l.drop q) = (bif F l[q] then ixf F (q + 1) (l.drop (q + 1)) else (q : Int)) := by
 rw [List.drop_eq_getElem_cons h, ixf]
 cases F l[q] <;> rfl
theorem ixf_ge {α : Type} (F : α -> Bool) : ∀ (l : List α) (i : Nat), ixf F i l = -1 \/ ((i : Int) <= ixf F i l /\ ixf F i l < ((i + l.length : Nat) : Int))
 | [], i => .inl rfl
 | x :: r, i => by
  rw [ixf]
  split
  ·rcases ixf_ge F r (i + 1) with h | h
   ·exact .inl h
   ·exact .inr ⟨by omega, by rw [List.length_cons]; omega⟩
  ·exact .inr ⟨by omega, by rw [List.length_cons]; omega⟩
def Vs (w : World) (v : Value) (x : ByteArray) : Prop := v = .string x /\ x.size <= 140737488351232
def Vc (S : Nat -> Prop) (w : World) (v : Value) (x : List Ins) : Prop := RrS 2 LyN S w v x
def Vt (m : Nat) (S : Nat -> Prop) (w : World) (v : Value) (x : T) : Prop := TBase.In false S w m v x
theorem index_s {R : Nat -> Prop} {w : World} {v : Value} {l : List (ByteArray)} (hin : RrS 1 LyS R w v l) (hR : ∀ g, R g -> g < w.heap.size) (G : ByteArray -> Bool) (Bx : Nat)
  (hc : ∀ W u x, x ∈ l -> Below w.heap.size w W -> Vs W u x -> Calls prog 134 #[u, .pointer (some ⟨Bx, 0, none⟩)] W fun e w' => e = .returned (.bool (!G x)) /\ Below W.heap.size W w') :
  Calls prog 133 #[v, .func (.func 134) #[] #[.pointer (some ⟨Bx, 0, none⟩)]] w fun e w' => e = .returned (.int .i64 (ixf G 0 l)) /\ Below w.heap.size w w' := by
 have HIN : Hid (RrS 1 LyS R w v l) := hin
 have HR : Hid (∀ g, R g -> g < w.heap.size) := hR
 have HC : Hid (∀ W u x, x ∈ l -> Below w.heap.size w W -> Vs W u x -> Calls prog 134 #[u, .pointer (some ⟨Bx, 0, none⟩)] W fun e w' => e = .returned (.bool (!G x)) /\ Below W.heap.size W w') := hc
 obtain ⟨a, cap, rfl, hlc, hcm, h47, hnil, hL⟩ := hin
 obtain ⟨Z, hT⟩ : ∃ Z, ixf G 0 l = Z := ⟨_, rfl⟩
 have HT : Hid (ixf G 0 (l.drop 0) = Z) := hT
 rw [hT]
 clear hT hL hc hR hnil
 go_enter func133, ntmps133
 go_wp2_with fail
 go_loopw [8] (fun i wr => ∃ q : Nat, q <= l.length /\ i = .int .i64 q /\ ixf G q (l.drop q) = Z /\ Below w.heap.size w wr) (fun i _ => l.length - (intOf i).toNat)
 case atStart => exact ⟨0, by omega, rfl, HT.out, Below.refl _ _⟩
 case round =>
  clear HT
  obtain ⟨q, hq, rfl, hM, hb⟩ := hrel
  have Hb : Hid (Below w.heap.size w wr) := hb
  by_cases hlt : q < l.length
  ·have d0 : decide ((q : Int) < (l.length : Int)) = true := by simp; omega
   have i0 : (0 : Int) <= (q : Int) := by omega
   have i1 : (q : Int) < (l.length : Int) := by omega
   obtain ⟨g, o, cap', hsl, hl, hm, hg, k0⟩ := RrS.at HIN.out hlt
   cases hsl
   have hv : Vs wr (.string l[q]) l[q] := ⟨rfl, k0.2⟩
   have k0 := below_cell (HR.out g hg) k0.1 hb
   rw [Nat.mul_one] at k0
   rw [ixf_next G hlt] at hM
   have cO := HC.out wr _ l[q] (List.getElem_mem hlt) hb hv
   clear hv
   generalize l[q] = s at *
   obtain ⟨b, hb'⟩ : ∃ b, G s = b := ⟨_, rfl⟩
   rw [hb'] at cO hM
   have HM : Hid ((bif b then ixf G (q + 1) (l.drop (q + 1)) else (q : Int)) = Z) := hM
   clear hb' hM hb
   go_wp2_with fail
   refine cO.mono ?_
   rintro e W1 ⟨rfl, b1⟩
   have HB1 : Hid (Below w.heap.size w W1) := Hb.out.trans (b1.mono Hb.out.size)
   clear cO b1
   cases b with
   | false =>
    have hT : (q : Int) = Z := HM.out
    subst hT
    go_wp2_with fail
    go_ret
    exact ⟨rfl, HB1.out⟩
   | true =>
    go_wp2_with fail
    go_roundw
    case rel => exact ⟨q + 1, by omega, by go_num, HM.out, HB1.out⟩
    case measure => simp only [intOf]; omega
  ·have d0 : decide ((q : Int) < (l.length : Int)) = false := by simp; omega
   have hT : -1 = Z := by
    rw [List.drop_eq_nil_of_le (by omega)] at hM
    exact hM
   subst hT
   clear hM
   go_wp2_with fail
   go_ret
   exact ⟨rfl, Hb.out⟩
theorem index_c {R : Nat -> Prop} {w : World} {v : Value} {l : List (List Ins)} (hin : RrS 1 (LyCs R) R w v l) (hR : ∀ g, R g -> g < w.heap.size) (G : List Ins -> Bool) (Bx : Nat)
  (hc : ∀ W u x, x ∈ l -> Below w.heap.size w W -> Vc R W u x -> Calls prog 136 #[u, .pointer (some ⟨Bx, 0, none⟩)] W fun e w' => e = .returned (.bool (!G x)) /\ Below W.heap.size W w') :
  Calls prog 135 #[v, .func (.func 136) #[] #[.pointer (some ⟨Bx, 0, none⟩)]] w fun e w' => e = .returned (.int .i64 (ixf G 0 l)) /\ Below w.heap.size w w' := by
 have HIN : Hid (RrS 1 (LyCs R) R w v l) := hin
 have HR : Hid (∀ g, R g -> g < w.heap.size) := hR
 have HC : Hid (∀ W u x, x ∈ l -> Below w.heap.size w W -> Vc R W u x -> Calls prog 136 #[u, .pointer (some ⟨Bx, 0, none⟩)] W fun e w' => e = .returned (.bool (!G x)) /\ Below W.heap.size W w') := hc
 obtain ⟨a, cap, rfl, hlc, hcm, h47, hnil, hL⟩ := hin
 obtain ⟨Z, hT⟩ : ∃ Z, ixf G 0 l = Z := ⟨_, rfl⟩
 have HT : Hid (ixf G 0 (l.drop 0) = Z) := hT
 rw [hT]
 clear hT hL hc hR hnil
 go_enter func135, ntmps135
 go_wp2_with fail
 go_loopw [8] (fun i wr => ∃ q : Nat, q <= l.length /\ i = .int .i64 q /\ ixf G q (l.drop q) = Z /\ Below w.heap.size w wr) (fun i _ => l.length - (intOf i).toNat)
 case atStart => exact ⟨0, by omega, rfl, HT.out, Below.refl _ _⟩
 case round =>
  clear HT
  obtain ⟨q, hq, rfl, hM, hb⟩ := hrel
  have Hb : Hid (Below w.heap.size w wr) := hb
  by_cases hlt : q < l.length
  ·have d0 : decide ((q : Int) < (l.length : Int)) = true := by simp; omega
   have i0 : (0 : Int) <= (q : Int) := by omega
   have i1 : (q : Int) < (l.length : Int) := by omega
   obtain ⟨g, o, cap', hsl, hl, hm, hg, k0⟩ := RrS.at HIN.out hlt
   cases hsl
   obtain ⟨u, ku, hr⟩ := k0
   have hv : Vc R wr u l[q] := hr.keep (fun _ h => h) fun g o x _ hg h => kN (fun b hb' hl => hb.block b (HR.out b hb')) hg h
   obtain ⟨ua, un, uc, rfl⟩ := hr.slice
   have k0 := below_cell (HR.out g hg) ku hb
   rw [Nat.mul_one] at k0
   clear ku hr
   rw [ixf_next G hlt] at hM
   have cO := HC.out wr _ l[q] (List.getElem_mem hlt) hb hv
   clear hv
   generalize l[q] = s at *
   obtain ⟨b, hb'⟩ : ∃ b, G s = b := ⟨_, rfl⟩
   rw [hb'] at cO hM
   have HM : Hid ((bif b then ixf G (q + 1) (l.drop (q + 1)) else (q : Int)) = Z) := hM
   clear hb' hM hb
   go_wp2_with fail
   refine cO.mono ?_
   rintro e W1 ⟨rfl, b1⟩
   have HB1 : Hid (Below w.heap.size w W1) := Hb.out.trans (b1.mono Hb.out.size)
   clear cO b1
   cases b with
   | false =>
    have hT : (q : Int) = Z := HM.out
    subst hT
    go_wp2_with fail
    go_ret
    exact ⟨rfl, HB1.out⟩
   | true =>
    go_wp2_with fail
    go_roundw
    case rel => exact ⟨q + 1, by omega, by go_num, HM.out, HB1.out⟩
    case measure => simp only [intOf]; omega
  ·have d0 : decide ((q : Int) < (l.length : Int)) = false := by simp; omega
   have hT : -1 = Z := by
    rw [List.drop_eq_nil_of_le (by omega)] at hM
    exact hM
   subst hT
   clear hM
   go_wp2_with fail
   go_ret
   exact ⟨rfl, Hb.out⟩
theorem index_t {R : Nat -> Prop} {w : World} {v : Value} {l : List (T)} {m : Nat} (hin : RrS 4 (LyTs m R) R w v l) (hR : ∀ g, R g -> g < w.heap.size) (G : T -> Bool) (Bx : Nat)
  (hc : ∀ W u x, x ∈ l -> Below w.heap.size w W -> Vt m R W u x -> Calls prog 138 #[u, .pointer (some ⟨Bx, 0, none⟩)] W fun e w' => e = .returned (.bool (!G x)) /\ Below W.heap.size W w') :
  Calls prog 137 #[v, .func (.func 138) #[] #[.pointer (some ⟨Bx, 0, none⟩)]] w fun e w' => e = .returned (.int .i64 (ixf G 0 l)) /\ Below w.heap.size w w' := by
 have HIN : Hid (RrS 4 (LyTs m R) R w v l) := hin
 have HR : Hid (∀ g, R g -> g < w.heap.size) := hR
 have HC : Hid (∀ W u x, x ∈ l -> Below w.heap.size w W -> Vt m R W u x -> Calls prog 138 #[u, .pointer (some ⟨Bx, 0, none⟩)] W fun e w' => e = .returned (.bool (!G x)) /\ Below W.heap.size W w') := hc
 obtain ⟨a, cap, rfl, hlc, hcm, h47, hnil, hL⟩ := hin
 obtain ⟨Z, hT⟩ : ∃ Z, ixf G 0 l = Z := ⟨_, rfl⟩
 have HT : Hid (ixf G 0 (l.drop 0) = Z) := hT
 rw [hT]
 clear hT hL hc hR hnil
 go_enter func137, ntmps137
 go_wp2_with fail
 go_loopw [8] (fun i wr => ∃ q : Nat, q <= l.length /\ i = .int .i64 q /\ ixf G q (l.drop q) = Z /\ Below w.heap.size w wr) (fun i _ => l.length - (intOf i).toNat)
 case atStart => exact ⟨0, by omega, rfl, HT.out, Below.refl _ _⟩
 case round =>
  clear HT
  obtain ⟨q, hq, rfl, hM, hb⟩ := hrel
  have Hb : Hid (Below w.heap.size w wr) := hb
  by_cases hlt : q < l.length
  ·have d0 : decide ((q : Int) < (l.length : Int)) = true := by simp; omega
   have i0 : (0 : Int) <= (q : Int) := by omega
   have i1 : (q : Int) < (l.length : Int) := by omega
   obtain ⟨g, o, cap', hsl, hl, hm, hg, k0⟩ := RrS.at HIN.out hlt
   cases hsl
   obtain ⟨u, ⟨v0, v1, v2, v3, rfl, t0, t1, t2, t3⟩, hin'⟩ := k0
   have hv : Vt m R wr (.agg #[v0, v1, v2, v3]) l[q] := hin'.keep fun b hb' hl => hb.block b (HR.out b hb')
   have k0 := below_cell (HR.out g hg) t0 hb
   have k1 := below_cell (HR.out g hg) t1 hb
   have k2 := below_cell (HR.out g hg) t2 hb
   have k3 := below_cell (HR.out g hg) t3 hb
   clear t0 t1 t2 t3
   obtain ⟨m', a1, e1, a2, e2, -, rfl, rfl, rfl, rfl, -⟩ := hin'.kinds
   clear hin'
   rw [ixf_next G hlt] at hM
   have cO := HC.out wr _ l[q] (List.getElem_mem hlt) hb hv
   clear hv
   generalize l[q] = s at *
   obtain ⟨b, hb'⟩ : ∃ b, G s = b := ⟨_, rfl⟩
   rw [hb'] at cO hM
   have HM : Hid ((bif b then ixf G (q + 1) (l.drop (q + 1)) else (q : Int)) = Z) := hM
   clear hb' hM hb
   go_wp2_with fail
   refine cO.mono ?_
   rintro e W1 ⟨rfl, b1⟩
   have HB1 : Hid (Below w.heap.size w W1) := Hb.out.trans (b1.mono Hb.out.size)
   clear cO b1
   cases b with
   | false =>
    have hT : (q : Int) = Z := HM.out
    subst hT
    go_wp2_with fail
    go_ret
    exact ⟨rfl, HB1.out⟩
   | true =>
    go_wp2_with fail
    go_roundw
    case rel => exact ⟨q + 1, by omega, by go_num, HM.out, HB1.out⟩
    case measure => simp only [intOf]; omega
  ·have d0 : decide ((q : Int) < (l.length : Int)) = false := by simp; omega
   have hT : -1 = Z := by
    rw [List.drop_eq_nil_of_le (by omega)] at hM
    exact hM
   subst hT
   clear hM
   go_wp2_with fail
   go_ret
   exact ⟨rfl, Hb.out⟩
end Go.Proofs.YtaiackmmmlhgbaaGreat.BFw
namespace Go.Proofs.YtaiackmmmlhgbaaGreat.BFx
open Go.RowKit BPl YRr YRs BBx BIx BFw
open TBase (T Keep InL LAt heap_alloc_new)
open CPu (Ins)
def fS : Value := .func (.func 85) #[] #[]
def fC (b : Nat) : Value := .func (.func 82) #[] #[.pointer (some ⟨b, 0, none⟩)]
def fT : Value := .func (.func 88) #[] #[]
theorem clo_s {w : World} {Bx : Nat} (hx : w.cell? ⟨Bx, 0, none⟩ = some fS) {x : ByteArray} (hs : x.size <= 140737488351232) :
  Calls prog 134 #[.string x, .pointer (some ⟨Bx, 0, none⟩)] w fun e w' => e = .returned (.bool (!STx.tg x)) /\ Below w.heap.size w w' := by
 have cT := STx.tmb_c x hs w
 unfold fS at hx
 generalize STx.tg x = z at *
 go_enter func134, ntmps134
 go_wp2_with fail
 refine cT.mono ?_
 rintro e W1 ⟨rfl, b1⟩
 have HB : Hid (Below w.heap.size w W1) := b1
 clear cT b1 hx
 go_wp2_with fail
 go_ret
 exact ⟨rfl, HB.out⟩
theorem cx_of {S : Nat -> Prop} {w : World} {v : Value} {L : List Ins} (h : RrS 2 LyN S w v L) (hS : ∀ g, S g -> g < w.heap.size) : CBx.Cx w.heap.size w v L := by
 obtain ⟨a, cap, h1, h2, h3, h4, h5, h6⟩ := h
 refine ⟨a, cap, h1, h2, h3, h5, ?_⟩
 rcases h6 with h6 | ⟨g, o, ha, hg, hc⟩
 ·exact .inl h6
 ·exact .inr ⟨g, o, ha, hS g hg, fun j hj => ⟨(hc j hj).1, (hc j hj).2.1⟩⟩
theorem may_c {S : Nat -> Prop} {w : World} {b : Nat} {ta : Option Addr} {tn tc : Nat} (hx : w.cell? ⟨b, 0, none⟩ = some (.slice ta tn tc)) {v : Value} {L : List Ins} (h : RrS 2 LyN S w v L) (hS : ∀ g, S g -> g < w.heap.size) :
  Calls prog 82 #[v, .pointer (some ⟨b, 0, none⟩)] w fun e w' => e = .returned (.bool (decide (CPu.ck L (tn : Int) 64 = 0))) /\ Below w.heap.size w w' := by
 have cK := CCk.check_c (cx_of h hS) (Nat.le_refl _) (tn : Int) 64
 obtain ⟨a, cap, rfl, -⟩ := h
 generalize CPu.ck L (tn : Int) 64 = z at *
 generalize L.length = n at *
 clear hS
 go_enter func82, ntmps82
 go_wp2_with fail
 refine cK.mono ?_
 rintro e W1 ⟨rfl, b1⟩
 have HB : Hid (Below w.heap.size w W1) := b1
 clear cK b1 hx
 go_wp2_with fail
 go_ret
 exact ⟨rfl, HB.out⟩
theorem clo_c {S : Nat -> Prop} {w : World} {Bx b : Nat} (hx : w.cell? ⟨Bx, 0, none⟩ = some (fC b)) {ta : Option Addr} {tn tc : Nat} (hb : w.cell? ⟨b, 0, none⟩ = some (.slice ta tn tc)) {v : Value} {L : List Ins} (h : RrS 2 LyN S w v L) (hS : ∀ g, S g -> g < w.heap.size) :
  Calls prog 136 #[v, .pointer (some ⟨Bx, 0, none⟩)] w fun e w' => e = .returned (.bool (!decide (CPu.ck L (tn : Int) 64 = 0))) /\ Below w.heap.size w w' := by
 have cT := may_c hb h hS
 obtain ⟨a, cap, rfl, -⟩ := h
 unfold fC at hx
 generalize decide (CPu.ck L (tn : Int) 64 = 0) = z at *
 generalize L.length = n at *
 clear hS hb
 go_enter func136, ntmps136
 go_wp2_with fail
 refine cT.mono ?_
 rintro e W1 ⟨rfl, b1⟩
 have HB : Hid (Below w.heap.size w W1) := b1
 clear cT b1 hx
 go_wp2_with fail
 go_ret
 exact ⟨rfl, HB.out⟩
theorem one_row {w : World} {B m : Nat} {x0 x1 x2 x3 : Value} {t : TypeId} {c : T} (h : w.heap[B]? = some (.cells #[x0, x1, x2, x3] t (0, 0))) (hin : TBase.In false TBase.All w m (.agg #[x0, x1, x2, x3]) c) : InL false TBase.All w m (.slice (some ⟨B, 0, none⟩) 1 1) [c] := by
 refine ⟨some ⟨B, 0, none⟩, 1, rfl, by simp, by omega, by simp, (by intro e; cases e), .inr ⟨B, 0, rfl, trivial, fun j hj => ?_, (by intro e; cases e)⟩⟩
 have hj0 : j = 0 := by simp at hj; omega
 subst hj0
 obtain ⟨c0, c1, c2, c3⟩ := TBase.four_box h
 exact ⟨_, ⟨x0, x1, x2, x3, rfl, c0, c1, c2, c3⟩, hin⟩
theorem elm_no {t : T} (h : t.g.toList.isEmpty = true) : elm t = false := by
 unfold elm
 have : TPure.eqB t.g ByteArray.empty = true := TPure.eqB_eq.2 (by
  rw [ByteArray.toList_eq] at h
  apply ByteArray.ext
  apply Array.toList_inj.1
  simpa using h)
 rw [this]
 rfl
theorem elm_go {t : T} (h : t.g.toList.isEmpty = false) : elm t = decide (TMeas.ck [t] = 0) := by
 unfold elm
 have : TPure.eqB t.g ByteArray.empty = false := by
  cases e : TPure.eqB t.g ByteArray.empty with
  | false => rfl
  | true =>
   rw [TPure.eqB_eq.1 e, ByteArray.toList_eq] at h
   simp at h
 rw [this]
 rfl
theorem elem_c {S : Nat -> Prop} {w : World} {m : Nat} {v : Value} {t : T} (h : TBase.In false S w m v t) :
  Calls prog 88 #[v] w fun e w' => e = .returned (.bool (elm t)) /\ Below w.heap.size w w' := by
 obtain ⟨v0, v1, v2, v3, rfl, -⟩ := h.four
 have HI := h.plain
 obtain ⟨m', a1, e1, a2, e2, -, rfl, rfl, rfl, rfl, -⟩ := h.kinds
 obtain ⟨W, hW⟩ : ∃ W, w.alloc (.cells #[.string t.g, .string t.s, .slice a1 t.n.length e1, .slice a2 t.l.length e2] 68) = W := ⟨_, rfl⟩
 have b0 : Below w.heap.size w W := by rw [<- hW]; exact (Below.refl _ w).alloc (Nat.le_refl _) _
 have hs : W.heap.size = w.heap.size + 1 := by rw [<- hW]; simp
 have hx : W.heap[w.heap.size]? = some (.cells #[.string t.g, .string t.s, .slice a1 t.n.length e1, .slice a2 t.l.length e2] 68 (0, 0)) := by rw [<- hW]; exact heap_alloc_new w _
 obtain ⟨W1, hW1⟩ : ∃ W1, W.alloc (.cells #[.string t.g, .string t.s, .slice a1 t.n.length e1, .slice a2 t.l.length e2] 68) = W1 := ⟨_, rfl⟩
 have b1 : Below W.heap.size W W1 := by rw [<- hW1]; exact (Below.refl _ W).alloc (Nat.le_refl _) _
 have hx1 : W1.heap[W.heap.size]? = some (.cells #[.string t.g, .string t.s, .slice a1 t.n.length e1, .slice a2 t.l.length e2] 68 (0, 0)) := by rw [<- hW1]; exact heap_alloc_new W _
 have hrow := one_row hx1 ((HI.below b0).below b1)
 have cC := TMeas.check_c m _ [t] W1 hrow
 have HB1 : Hid (Below w.heap.size w W1) := b0.trans (b1.mono b0.size)
 have HB0 : Hid (Below w.heap.size w W) := b0
 obtain ⟨c0, c1, c2, c3⟩ := TBase.four_box hx
 have e1' := @elm_no t
 have e2' := @elm_go t
 generalize elm t = z at *
 generalize TMeas.ck [t] = y at *
 clear hx hx1 hrow HI h b1 b0 hs
 generalize t.g = tg at *
 generalize t.s = ts at *
 generalize t.n.length = nn at *
 generalize t.l.length = nl at *
 cases hg : tg.toList.isEmpty with
 | true =>
  have hz := e1' hg
  subst hz
  clear e1' e2' cC
  go_enter func88, ntmps88
  go_wp2_with fail
  go_ret
  exact ⟨rfl, HB0.out⟩
 | false =>
  have hz := e2' hg
  have HZ : Hid (z = decide (y = 0)) := hz
  clear e1' e2' hz
  go_enter func88, ntmps88
  go_wp2_with fail
  refine cC.mono ?_
  rintro e W2 ⟨rfl, b2⟩
  have HB2 : Hid (Below w.heap.size w W2) := HB1.out.trans (b2.mono HB1.out.size)
  clear cC b2
  go_wp2_with fail
  go_ret
  rw [HZ.out]
  refine ⟨?_, HB2.out⟩
  congr 2
  simp [BEq.beq]
theorem clo_t {S : Nat -> Prop} {w : World} {Bx m : Nat} (hx : w.cell? ⟨Bx, 0, none⟩ = some fT) (hB : Bx < w.heap.size) {v : Value} {t : T} (h : TBase.In false S w m v t) :
  Calls prog 138 #[v, .pointer (some ⟨Bx, 0, none⟩)] w fun e w' => e = .returned (.bool (!elm t)) /\ Below w.heap.size w w' := by
 obtain ⟨v0, v1, v2, v3, rfl, -⟩ := h.four
 have HI := h.plain
 obtain ⟨m', a1, e1, a2, e2, -, rfl, rfl, rfl, rfl, -⟩ := h.kinds
 obtain ⟨W, hW⟩ : ∃ W, w.alloc (.cells #[.string t.g, .string t.s, .slice a1 t.n.length e1, .slice a2 t.l.length e2] 68) = W := ⟨_, rfl⟩
 have b0 : Below w.heap.size w W := by rw [<- hW]; exact (Below.refl _ w).alloc (Nat.le_refl _) _
 have hx0 : W.heap[w.heap.size]? = some (.cells #[.string t.g, .string t.s, .slice a1 t.n.length e1, .slice a2 t.l.length e2] 68 (0, 0)) := by rw [<- hW]; exact heap_alloc_new w _
 have cT := elem_c (HI.below b0)
 have HB0 : Hid (Below w.heap.size w W) := b0
 obtain ⟨c0, c1, c2, c3⟩ := TBase.four_box hx0
 have cx := below_cell hB hx b0
 unfold fT at cx
 generalize elm t = z at *
 clear hx hx0 HI h b0
 generalize t.n.length = nn at *
 generalize t.l.length = nl at *
 go_enter func138, ntmps138
 go_wp2_with fail
 refine cT.mono ?_
 rintro e W1 ⟨rfl, b1⟩
 have HB : Hid (Below w.heap.size w W1) := HB0.out.trans (b1.mono HB0.out.size)
 clear cT b1
 go_wp2_with fail
 go_ret
 exact ⟨rfl, HB.out⟩
theorem take_min {α : Type} (l : List α) (n : Nat) : l.take (min l.length n) = l.take n := by
 rcases Nat.le_total l.length n with h | h
 ·rw [Nat.min_eq_left h, List.take_of_length_le h, List.take_of_length_le (Nat.le_refl _)]
 ·rw [Nat.min_eq_right h]
theorem RrS.take {α : Type} {n : Nat} {Ly : World -> Nat -> Nat -> α -> Prop} {S : Nat -> Prop} {w : World} {a : Option Addr} {cap : Nat} {l : List α} (h : RrS n Ly S w (.slice a l.length cap) l) (j : Nat) (hj : j <= l.length) : RrS n Ly S w (.slice a j cap) (l.take j) := by
 obtain ⟨a', cap', e, h2, h3, h4, h5, h6⟩ := h
 cases e
 have hl : (l.take j).length = j := by rw [List.length_take]; omega
 refine ⟨a, cap, by rw [hl], by omega, h3, by omega, h5, ?_⟩
 rcases h6 with h6 | ⟨g, o, ha, hg, hc⟩
 ·exact .inl (by rw [h6]; simp)
 ·refine .inr ⟨g, o, ha, hg, fun i hi => ?_⟩
  have := hc i (by omega)
  rw [List.getElem_take]
  exact this
theorem first_s {R : Nat -> Prop} {w : World} {v : Value} {l : List (ByteArray)} (hin : RrS 1 LyS R w v l) (hR : ∀ g, R g -> g < w.heap.size) :
  Calls prog 84 #[v, .int .i64 16384, fS] w fun e w' => e = .returned (.int .i64 (fwr 16384 STx.tg l)) /\ Below w.heap.size w w' := by
 obtain ⟨W, hW⟩ : ∃ W, w.alloc (.cells #[fS] 121) = W := ⟨_, rfl⟩
 have b0 : Below w.heap.size w W := by rw [<- hW]; exact (Below.refl _ w).alloc (Nat.le_refl _) _
 have hs : W.heap.size = w.heap.size + 1 := by rw [<- hW]; simp
 have hx : W.heap[w.heap.size]? = some (.cells #[fS] 121 (0, 0)) := by rw [<- hW]; exact heap_alloc_new w _
 have hin' : RrS 1 LyS R W v l := hin.keep (fun _ h => h) fun g o x _ hg h => kS (fun b hb hl => b0.block b (hR b hb)) hg h
 obtain ⟨a, cap, rfl, hlc, hcm, h47, hnil, -⟩ := hin
 have HB0 : Hid (Below w.heap.size w W) := b0
 have hR' : ∀ g, R g -> g < W.heap.size := fun g hg => by have := hR g hg; omega
 have hcl : ∀ W' u x, x ∈ l.take 16384 -> Below W.heap.size W W' -> Vs W' u x -> Calls prog 134 #[u, .pointer (some ⟨w.heap.size, 0, none⟩)] W' fun e w' => e = .returned (.bool (!(STx.tg) x)) /\ Below W'.heap.size W' w' := fun W' u x _ hb2 hv => by obtain ⟨rfl, hx4⟩ := hv; exact clo_s (below_cell (by omega) (cell_of hx 0 _ rfl) hb2) hx4
 have cI := index_s (RrS.take hin' (min l.length 16384) (Nat.min_le_left _ _)) hR' (STx.tg) w.heap.size (by rw [take_min]; exact hcl)
 rw [take_min] at cI
 have hz := ixf_ge (STx.tg) (l.take 16384) 0
 unfold fwr
 generalize ixf (STx.tg) 0 (l.take 16384) = z at *
 clear hcl hin' hx hR hR' b0
 generalize l.length = n at *
 unfold fS at *
 have i0 : (0 : Int) <= (n : Int) := by omega
 by_cases hl : n <= 16384
 ·rw [if_neg (by omega)]
  rw [Nat.min_eq_left hl] at cI
  have hmn : (if ((16384 : Int) < (n : Int)) then (16384 : Int) else (n : Int)) = (n : Int) := by rw [if_neg (by omega)]
  have hmm : min (n : Int) 16384 = (n : Int) := by omega
  have dl : decide ((16384 : Int) < (n : Int)) = false := by simp; omega
  have i1 : (n : Int) <= (cap : Int) := by omega
  cases dz : decide (z < 0)
  all_goals (
   clear hz
   go_enter func84, ntmps84
   go_wp2_with fail
   refine cI.mono ?_
   rintro e W1 ⟨rfl, b1⟩
   have HB : Hid (Below w.heap.size w W1) := HB0.out.trans (b1.mono HB0.out.size)
   clear cI b1
   go_wp2_with fail
   go_ret
   exact ⟨rfl, HB.out⟩)
 ·rw [Nat.min_eq_right (by omega)] at cI
  have hmn : (if ((16384 : Int) < (n : Int)) then (16384 : Int) else (n : Int)) = 16384 := by rw [if_pos (by omega)]
  have hmm : min (n : Int) 16384 = 16384 := by omega
  have dl : decide ((16384 : Int) < (n : Int)) = true := by simp; omega
  have dl2 : decide (16384 < n) = true := by simp; omega
  have i1 : (16384 : Int) <= (cap : Int) := by omega
  have i2 : (0 : Int) <= (16384 : Int) := by omega
  cases dz : decide (z < 0) with
  | false =>
   have hzz : ¬ z < 0 := by simpa using dz
   rw [if_neg (fun h => hzz h.1)]
   clear hz hzz
   go_enter func84, ntmps84
   go_wp2_with fail
   refine cI.mono ?_
   rintro e W1 ⟨rfl, b1⟩
   have HB : Hid (Below w.heap.size w W1) := HB0.out.trans (b1.mono HB0.out.size)
   clear cI b1
   go_wp2_with fail
   go_ret
   exact ⟨rfl, HB.out⟩
  | true =>
   have hzz : z < 0 := by simpa using dz
   rw [if_pos ⟨hzz, by omega⟩]
   clear hz hzz
   go_enter func84, ntmps84
   go_wp2_with fail
   refine cI.mono ?_
   rintro e W1 ⟨rfl, b1⟩
   have HB : Hid (Below w.heap.size w W1) := HB0.out.trans (b1.mono HB0.out.size)
   clear cI b1
   go_wp2_with fail
   go_ret
   exact ⟨rfl, HB.out⟩
theorem first_c {R : Nat -> Prop} {w : World} {v : Value} {l : List (List Ins)} {Pb : Nat} {ta : Option Addr} {tn tc : Nat} (hin : RrS 1 (LyCs R) R w v l) (hR : ∀ g, R g -> g < w.heap.size) (hb : w.cell? ⟨Pb, 0, none⟩ = some (.slice ta tn tc)) (hPb : Pb < w.heap.size) :
  Calls prog 86 #[v, .int .i64 8192, (fC Pb)] w fun e w' => e = .returned (.int .i64 (fwr 8192 (fun L => decide (CPu.ck L (tn : Int) 64 = 0)) l)) /\ Below w.heap.size w w' := by
 obtain ⟨W, hW⟩ : ∃ W, w.alloc (.cells #[(fC Pb)] 143) = W := ⟨_, rfl⟩
 have b0 : Below w.heap.size w W := by rw [<- hW]; exact (Below.refl _ w).alloc (Nat.le_refl _) _
 have hs : W.heap.size = w.heap.size + 1 := by rw [<- hW]; simp
 have hx : W.heap[w.heap.size]? = some (.cells #[(fC Pb)] 143 (0, 0)) := by rw [<- hW]; exact heap_alloc_new w _
 have hin' : RrS 1 (LyCs R) R W v l := hin.keep (fun _ h => h) fun g o x _ hg h => kC (fun b hb hl => b0.block b (hR b hb)) (fun _ h => h) hg h
 obtain ⟨a, cap, rfl, hlc, hcm, h47, hnil, -⟩ := hin
 have HB0 : Hid (Below w.heap.size w W) := b0
 have hR' : ∀ g, R g -> g < W.heap.size := fun g hg => by have := hR g hg; omega
 have hcl : ∀ W' u x, x ∈ l.take 8192 -> Below W.heap.size W W' -> Vc R W' u x -> Calls prog 136 #[u, .pointer (some ⟨w.heap.size, 0, none⟩)] W' fun e w' => e = .returned (.bool (!((fun L => decide (CPu.ck L (tn : Int) 64 = 0))) x)) /\ Below W'.heap.size W' w' := fun W' u x _ hb2 hv => clo_c (below_cell (by omega) (cell_of hx 0 _ rfl) hb2) (below_cell (w := W) (by omega) (below_cell hPb hb b0) hb2) hv (fun g hg => by have := hR g hg; have := hb2.size; omega)
 have cI := index_c (RrS.take hin' (min l.length 8192) (Nat.min_le_left _ _)) hR' ((fun L => decide (CPu.ck L (tn : Int) 64 = 0))) w.heap.size (by rw [take_min]; exact hcl)
 rw [take_min] at cI
 have hz := ixf_ge ((fun L => decide (CPu.ck L (tn : Int) 64 = 0))) (l.take 8192) 0
 unfold fwr
 generalize ixf ((fun L => decide (CPu.ck L (tn : Int) 64 = 0))) 0 (l.take 8192) = z at *
 clear hcl hin' hx hR hR' b0 hb
 generalize l.length = n at *
 unfold fC at *
 have i0 : (0 : Int) <= (n : Int) := by omega
 by_cases hl : n <= 8192
 ·rw [if_neg (by omega)]
  rw [Nat.min_eq_left hl] at cI
  have hmn : (if ((8192 : Int) < (n : Int)) then (8192 : Int) else (n : Int)) = (n : Int) := by rw [if_neg (by omega)]
  have hmm : min (n : Int) 8192 = (n : Int) := by omega
  have dl : decide ((8192 : Int) < (n : Int)) = false := by simp; omega
  have i1 : (n : Int) <= (cap : Int) := by omega
  cases dz : decide (z < 0)
  all_goals (
   clear hz
   go_enter func86, ntmps86
   go_wp2_with fail
   refine cI.mono ?_
   rintro e W1 ⟨rfl, b1⟩
   have HB : Hid (Below w.heap.size w W1) := HB0.out.trans (b1.mono HB0.out.size)
   clear cI b1
   go_wp2_with fail
   go_ret
   exact ⟨rfl, HB.out⟩)
 ·rw [Nat.min_eq_right (by omega)] at cI
  have hmn : (if ((8192 : Int) < (n : Int)) then (8192 : Int) else (n : Int)) = 8192 := by rw [if_pos (by omega)]
  have hmm : min (n : Int) 8192 = 8192 := by omega
  have dl : decide ((8192 : Int) < (n : Int)) = true := by simp; omega
  have dl2 : decide (8192 < n) = true := by simp; omega
  have i1 : (8192 : Int) <= (cap : Int) := by omega
  have i2 : (0 : Int) <= (8192 : Int) := by omega
  cases dz : decide (z < 0) with
  | false =>
   have hzz : ¬ z < 0 := by simpa using dz
   rw [if_neg (fun h => hzz h.1)]
   clear hz hzz
   go_enter func86, ntmps86
   go_wp2_with fail
   refine cI.mono ?_
   rintro e W1 ⟨rfl, b1⟩
   have HB : Hid (Below w.heap.size w W1) := HB0.out.trans (b1.mono HB0.out.size)
   clear cI b1
   go_wp2_with fail
   go_ret
   exact ⟨rfl, HB.out⟩
  | true =>
   have hzz : z < 0 := by simpa using dz
   rw [if_pos ⟨hzz, by omega⟩]
   clear hz hzz
   go_enter func86, ntmps86
   go_wp2_with fail
   refine cI.mono ?_
   rintro e W1 ⟨rfl, b1⟩
   have HB : Hid (Below w.heap.size w W1) := HB0.out.trans (b1.mono HB0.out.size)
   clear cI b1
   go_wp2_with fail
   go_ret
   exact ⟨rfl, HB.out⟩
theorem first_t {R : Nat -> Prop} {w : World} {v : Value} {l : List (T)} {m : Nat} (hin : RrS 4 (LyTs m R) R w v l) (hR : ∀ g, R g -> g < w.heap.size) :
  Calls prog 87 #[v, .int .i64 4096, fT] w fun e w' => e = .returned (.int .i64 (fwr 4096 elm l)) /\ Below w.heap.size w w' := by
 obtain ⟨W, hW⟩ : ∃ W, w.alloc (.cells #[fT] 125) = W := ⟨_, rfl⟩
 have b0 : Below w.heap.size w W := by rw [<- hW]; exact (Below.refl _ w).alloc (Nat.le_refl _) _
 have hs : W.heap.size = w.heap.size + 1 := by rw [<- hW]; simp
 have hx : W.heap[w.heap.size]? = some (.cells #[fT] 125 (0, 0)) := by rw [<- hW]; exact heap_alloc_new w _
 have hin' : RrS 4 (LyTs m R) R W v l := hin.keep (fun _ h => h) fun g o x _ hg h => kT (fun b hb hl => b0.block b (hR b hb)) (fun _ h => h) hg h
 obtain ⟨a, cap, rfl, hlc, hcm, h47, hnil, -⟩ := hin
 have HB0 : Hid (Below w.heap.size w W) := b0
 have hR' : ∀ g, R g -> g < W.heap.size := fun g hg => by have := hR g hg; omega
 have hcl : ∀ W' u x, x ∈ l.take 4096 -> Below W.heap.size W W' -> Vt m R W' u x -> Calls prog 138 #[u, .pointer (some ⟨w.heap.size, 0, none⟩)] W' fun e w' => e = .returned (.bool (!(elm) x)) /\ Below W'.heap.size W' w' := fun W' u x _ hb2 hv => clo_t (below_cell (by omega) (cell_of hx 0 _ rfl) hb2) (by have := hb2.size; omega) hv
 have cI := index_t (RrS.take hin' (min l.length 4096) (Nat.min_le_left _ _)) hR' (elm) w.heap.size (by rw [take_min]; exact hcl)
 rw [take_min] at cI
 have hz := ixf_ge (elm) (l.take 4096) 0
 unfold fwr
 generalize ixf (elm) 0 (l.take 4096) = z at *
 clear hcl hin' hx hR hR' b0
 generalize l.length = n at *
 unfold fT at *
 have i0 : (0 : Int) <= (n : Int) := by omega
 by_cases hl : n <= 4096
 ·rw [if_neg (by omega)]
  rw [Nat.min_eq_left hl] at cI
  have hmn : (if ((4096 : Int) < (n : Int)) then (4096 : Int) else (n : Int)) = (n : Int) := by rw [if_neg (by omega)]
  have hmm : min (n : Int) 4096 = (n : Int) := by omega
  have dl : decide ((4096 : Int) < (n : Int)) = false := by simp; omega
  have i1 : (n : Int) <= (cap : Int) := by omega
  cases dz : decide (z < 0)
  all_goals (
   clear hz
   go_enter func87, ntmps87
   go_wp2_with fail
   refine cI.mono ?_
   rintro e W1 ⟨rfl, b1⟩
   have HB : Hid (Below w.heap.size w W1) := HB0.out.trans (b1.mono HB0.out.size)
   clear cI b1
   go_wp2_with fail
   go_ret
   exact ⟨rfl, HB.out⟩)
 ·rw [Nat.min_eq_right (by omega)] at cI
  have hmn : (if ((4096 : Int) < (n : Int)) then (4096 : Int) else (n : Int)) = 4096 := by rw [if_pos (by omega)]
  have hmm : min (n : Int) 4096 = 4096 := by omega
  have dl : decide ((4096 : Int) < (n : Int)) = true := by simp; omega
  have dl2 : decide (4096 < n) = true := by simp; omega
  have i1 : (4096 : Int) <= (cap : Int) := by omega
  have i2 : (0 : Int) <= (4096 : Int) := by omega
  cases dz : decide (z < 0) with
  | false =>
   have hzz : ¬ z < 0 := by simpa using dz
   rw [if_neg (fun h => hzz h.1)]
   clear hz hzz
   go_enter func87, ntmps87
   go_wp2_with fail
   refine cI.mono ?_
   rintro e W1 ⟨rfl, b1⟩
   have HB : Hid (Below w.heap.size w W1) := HB0.out.trans (b1.mono HB0.out.size)
   clear cI b1
   go_wp2_with fail
   go_ret
   exact ⟨rfl, HB.out⟩
  | true =>
   have hzz : z < 0 := by simpa using dz
   rw [if_pos ⟨hzz, by omega⟩]
   clear hz hzz
   go_enter func87, ntmps87
   go_wp2_with fail
   refine cI.mono ?_
   rintro e W1 ⟨rfl, b1⟩
   have HB : Hid (Below w.heap.size w W1) := HB0.out.trans (b1.mono HB0.out.size)
   clear cI b1
   go_wp2_with fail
   go_ret
   exact ⟨rfl, HB.out⟩
end Go.Proofs.YtaiackmmmlhgbaaGreat.BFx

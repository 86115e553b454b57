/- The first one that may not be (package verify): slices.IndexFunc and firstWrong at texts, codes and trees. -/
import Derived.Test.YtgknjjaemjkloaaBIx
import Derived.Test.YtgknjjaemjkloaaYEn
namespace Go.Proofs.Ytgknjjaemjkloaa.BFw
open Go.RowKit Go.Proofs.Ytgknjjaemjkloaa.BPl Go.Proofs.Ytgknjjaemjkloaa.YRr Go.Proofs.Ytgknjjaemjkloaa.YRs Go.Proofs.Ytgknjjaemjkloaa.BBx Go.Proofs.Ytgknjjaemjkloaa.BIx
open Go.Proofs.Ytgknjjaemjkloaa.TBase (T Keep)
open Go.Proofs.Ytgknjjaemjkloaa.CPu (Ins)
set_option linter.unusedVariables false

theorem ixf_next {α : Type} (F : α → Bool) {l : List α} {q : Nat} (h : q < l.length) : ixf F q (l.drop q) = (bif F l[q] then ixf F (q + 1) (l.drop (q + 1)) else (q : Int)) := by
  rw [List.drop_eq_getElem_cons h, ixf]
  cases F l[q] <;> rfl
theorem ixf_ge {α : Type} (F : α → Bool) : ∀ (l : List α) (i : Nat), ixf F i l = -1 ∨ ((i : Int) ≤ ixf F i l ∧ ixf F i l < ((i + l.length : Nat) : Int))
  | [], i => .inl rfl
  | x :: r, i => by
    rw [ixf]
    split
    · rcases ixf_ge F r (i + 1) with h | h
      · exact .inl h
      · exact .inr ⟨by omega, by rw [List.length_cons]; omega⟩
    · exact .inr ⟨by omega, by rw [List.length_cons]; omega⟩
/-- The value that an element is handed on as. -/
def Vs (w : World) (v : Value) (x : ByteArray) : Prop := v = .string x ∧ x.size ≤ 140737488351232
def Vc (S : Nat → Prop) (w : World) (v : Value) (x : List Ins) : Prop := RrS 2 LyN S w v x
def Vt (m : Nat) (S : Nat → Prop) (w : World) (v : Value) (x : T) : Prop := TBase.In false S w m v x
set_option maxRecDepth 20000 in
set_option maxHeartbeats 1600000 in
/-- slices.IndexFunc over a row of texts, with firstWrong's closure over a box. -/
theorem index_s {R : Nat → Prop} {w : World} {v : Value} {l : List (ByteArray)} (hin : RrS 1 LyS R w v l) (hR : ∀ g, R g → g < w.heap.size) (G : ByteArray → Bool) (Bx : Nat)
    (hc : ∀ W u x, x ∈ l → Below w.heap.size w W → Vs W u x → Calls Try.prog 94 #[u, .pointer (some ⟨Bx, 0, none⟩)] W fun e w' => e = .returned (.bool (!G x)) ∧ Below W.heap.size W w') :
    Calls Try.prog 93 #[v, .func (.func 94) #[] #[.pointer (some ⟨Bx, 0, none⟩)]] w fun e w' => e = .returned (.int .i64 (ixf G 0 l)) ∧ Below w.heap.size w w' := by
  have HIN : Hid (RrS 1 LyS R w v l) := hin
  have HR : Hid (∀ g, R g → g < w.heap.size) := hR
  have HC : Hid (∀ W u x, x ∈ l → Below w.heap.size w W → Vs W u x → Calls Try.prog 94 #[u, .pointer (some ⟨Bx, 0, none⟩)] W fun e w' => e = .returned (.bool (!G x)) ∧ Below W.heap.size W w') := hc
  obtain ⟨a, cap, rfl, hlc, hcm, h47, hnil, hL⟩ := hin
  obtain ⟨Z, hT⟩ : ∃ Z, ixf G 0 l = Z := ⟨_, rfl⟩
  have HT : Hid (ixf G 0 (l.drop 0) = Z) := hT
  rw [hT]
  clear hT hL hc hR hnil
  go_enter Try.func93, Try.ntmps93
  go_wp2_with fail
  go_loopw [8] (fun i wr => ∃ q : Nat, q ≤ l.length ∧ i = .int .i64 q ∧ ixf G q (l.drop q) = Z ∧ Below w.heap.size w wr) (fun i _ => l.length - (intOf i).toNat)
  case atStart => exact ⟨0, by omega, rfl, HT.out, Below.refl _ _⟩
  case round =>
    clear HT
    obtain ⟨q, hq, rfl, hM, hb⟩ := hrel
    have Hb : Hid (Below w.heap.size w wr) := hb
    by_cases hlt : q < l.length
    · have d0 : decide ((q : Int) < (l.length : Int)) = true := by simp; omega
      have i0 : (0 : Int) ≤ (q : Int) := by omega
      have i1 : (q : Int) < (l.length : Int) := by omega
      obtain ⟨g, o, cap', hsl, hl, hm, hg, k0⟩ := RrS.at HIN.out hlt
      cases hsl
      have hv : Vs wr (.string l[q]) l[q] := ⟨rfl, k0.2⟩
      have k0 := below_cell (HR.out g hg) k0.1 hb
      rw [Nat.mul_one] at k0
      rw [ixf_next G hlt] at hM
      have cO := HC.out wr _ l[q] (List.getElem_mem hlt) hb hv
      clear hv
      generalize l[q] = s at *
      obtain ⟨b, hb'⟩ : ∃ b, G s = b := ⟨_, rfl⟩
      rw [hb'] at cO hM
      have HM : Hid ((bif b then ixf G (q + 1) (l.drop (q + 1)) else (q : Int)) = Z) := hM
      clear hb' hM hb
      go_wp2_with fail
      refine cO.mono ?_
      rintro e W1 ⟨rfl, b1⟩
      have HB1 : Hid (Below w.heap.size w W1) := Hb.out.trans (b1.mono Hb.out.size)
      clear cO b1
      cases b with
      | false =>
        have hT : (q : Int) = Z := HM.out
        subst hT
        go_wp2_with fail
        go_ret
        exact ⟨rfl, HB1.out⟩
      | true =>
        go_wp2_with fail
        go_roundw
        case rel => exact ⟨q + 1, by omega, by go_num, HM.out, HB1.out⟩
        case measure => simp only [intOf]; omega
    · have d0 : decide ((q : Int) < (l.length : Int)) = false := by simp; omega
      have hT : -1 = Z := by
        rw [List.drop_eq_nil_of_le (by omega)] at hM
        exact hM
      subst hT
      clear hM
      go_wp2_with fail
      go_ret
      exact ⟨rfl, Hb.out⟩
set_option maxRecDepth 20000 in
set_option maxHeartbeats 1600000 in
/-- slices.IndexFunc over a row of codes, with firstWrong's closure over a box. -/
theorem index_c {R : Nat → Prop} {w : World} {v : Value} {l : List (List Ins)} (hin : RrS 1 (LyCs R) R w v l) (hR : ∀ g, R g → g < w.heap.size) (G : List Ins → Bool) (Bx : Nat)
    (hc : ∀ W u x, x ∈ l → Below w.heap.size w W → Vc R W u x → Calls Try.prog 96 #[u, .pointer (some ⟨Bx, 0, none⟩)] W fun e w' => e = .returned (.bool (!G x)) ∧ Below W.heap.size W w') :
    Calls Try.prog 95 #[v, .func (.func 96) #[] #[.pointer (some ⟨Bx, 0, none⟩)]] w fun e w' => e = .returned (.int .i64 (ixf G 0 l)) ∧ Below w.heap.size w w' := by
  have HIN : Hid (RrS 1 (LyCs R) R w v l) := hin
  have HR : Hid (∀ g, R g → g < w.heap.size) := hR
  have HC : Hid (∀ W u x, x ∈ l → Below w.heap.size w W → Vc R W u x → Calls Try.prog 96 #[u, .pointer (some ⟨Bx, 0, none⟩)] W fun e w' => e = .returned (.bool (!G x)) ∧ Below W.heap.size W w') := hc
  obtain ⟨a, cap, rfl, hlc, hcm, h47, hnil, hL⟩ := hin
  obtain ⟨Z, hT⟩ : ∃ Z, ixf G 0 l = Z := ⟨_, rfl⟩
  have HT : Hid (ixf G 0 (l.drop 0) = Z) := hT
  rw [hT]
  clear hT hL hc hR hnil
  go_enter Try.func95, Try.ntmps95
  go_wp2_with fail
  go_loopw [8] (fun i wr => ∃ q : Nat, q ≤ l.length ∧ i = .int .i64 q ∧ ixf G q (l.drop q) = Z ∧ Below w.heap.size w wr) (fun i _ => l.length - (intOf i).toNat)
  case atStart => exact ⟨0, by omega, rfl, HT.out, Below.refl _ _⟩
  case round =>
    clear HT
    obtain ⟨q, hq, rfl, hM, hb⟩ := hrel
    have Hb : Hid (Below w.heap.size w wr) := hb
    by_cases hlt : q < l.length
    · have d0 : decide ((q : Int) < (l.length : Int)) = true := by simp; omega
      have i0 : (0 : Int) ≤ (q : Int) := by omega
      have i1 : (q : Int) < (l.length : Int) := by omega
      obtain ⟨g, o, cap', hsl, hl, hm, hg, k0⟩ := RrS.at HIN.out hlt
      cases hsl
      obtain ⟨u, ku, hr⟩ := k0
      have hv : Vc R wr u l[q] := hr.keep (fun _ h => h) fun g o x _ hg h => kN (fun b hb' hl => hb.block b (HR.out b hb')) hg h
      obtain ⟨ua, un, uc, rfl⟩ := hr.slice
      have k0 := below_cell (HR.out g hg) ku hb
      rw [Nat.mul_one] at k0
      clear ku hr
      rw [ixf_next G hlt] at hM
      have cO := HC.out wr _ l[q] (List.getElem_mem hlt) hb hv
      clear hv
      generalize l[q] = s at *
      obtain ⟨b, hb'⟩ : ∃ b, G s = b := ⟨_, rfl⟩
      rw [hb'] at cO hM
      have HM : Hid ((bif b then ixf G (q + 1) (l.drop (q + 1)) else (q : Int)) = Z) := hM
      clear hb' hM hb
      go_wp2_with fail
      refine cO.mono ?_
      rintro e W1 ⟨rfl, b1⟩
      have HB1 : Hid (Below w.heap.size w W1) := Hb.out.trans (b1.mono Hb.out.size)
      clear cO b1
      cases b with
      | false =>
        have hT : (q : Int) = Z := HM.out
        subst hT
        go_wp2_with fail
        go_ret
        exact ⟨rfl, HB1.out⟩
      | true =>
        go_wp2_with fail
        go_roundw
        case rel => exact ⟨q + 1, by omega, by go_num, HM.out, HB1.out⟩
        case measure => simp only [intOf]; omega
    · have d0 : decide ((q : Int) < (l.length : Int)) = false := by simp; omega
      have hT : -1 = Z := by
        rw [List.drop_eq_nil_of_le (by omega)] at hM
        exact hM
      subst hT
      clear hM
      go_wp2_with fail
      go_ret
      exact ⟨rfl, Hb.out⟩
set_option maxRecDepth 20000 in
set_option maxHeartbeats 1600000 in
/-- slices.IndexFunc over a row of trees, with firstWrong's closure over a box. -/
theorem index_t {R : Nat → Prop} {w : World} {v : Value} {l : List (T)} {m : Nat} (hin : RrS 4 (LyTs m R) R w v l) (hR : ∀ g, R g → g < w.heap.size) (G : T → Bool) (Bx : Nat)
    (hc : ∀ W u x, x ∈ l → Below w.heap.size w W → Vt m R W u x → Calls Try.prog 98 #[u, .pointer (some ⟨Bx, 0, none⟩)] W fun e w' => e = .returned (.bool (!G x)) ∧ Below W.heap.size W w') :
    Calls Try.prog 97 #[v, .func (.func 98) #[] #[.pointer (some ⟨Bx, 0, none⟩)]] w fun e w' => e = .returned (.int .i64 (ixf G 0 l)) ∧ Below w.heap.size w w' := by
  have HIN : Hid (RrS 4 (LyTs m R) R w v l) := hin
  have HR : Hid (∀ g, R g → g < w.heap.size) := hR
  have HC : Hid (∀ W u x, x ∈ l → Below w.heap.size w W → Vt m R W u x → Calls Try.prog 98 #[u, .pointer (some ⟨Bx, 0, none⟩)] W fun e w' => e = .returned (.bool (!G x)) ∧ Below W.heap.size W w') := hc
  obtain ⟨a, cap, rfl, hlc, hcm, h47, hnil, hL⟩ := hin
  obtain ⟨Z, hT⟩ : ∃ Z, ixf G 0 l = Z := ⟨_, rfl⟩
  have HT : Hid (ixf G 0 (l.drop 0) = Z) := hT
  rw [hT]
  clear hT hL hc hR hnil
  go_enter Try.func97, Try.ntmps97
  go_wp2_with fail
  go_loopw [8] (fun i wr => ∃ q : Nat, q ≤ l.length ∧ i = .int .i64 q ∧ ixf G q (l.drop q) = Z ∧ Below w.heap.size w wr) (fun i _ => l.length - (intOf i).toNat)
  case atStart => exact ⟨0, by omega, rfl, HT.out, Below.refl _ _⟩
  case round =>
    clear HT
    obtain ⟨q, hq, rfl, hM, hb⟩ := hrel
    have Hb : Hid (Below w.heap.size w wr) := hb
    by_cases hlt : q < l.length
    · have d0 : decide ((q : Int) < (l.length : Int)) = true := by simp; omega
      have i0 : (0 : Int) ≤ (q : Int) := by omega
      have i1 : (q : Int) < (l.length : Int) := by omega
      obtain ⟨g, o, cap', hsl, hl, hm, hg, k0⟩ := RrS.at HIN.out hlt
      cases hsl
      obtain ⟨u, ⟨v0, v1, v2, v3, rfl, t0, t1, t2, t3⟩, hin'⟩ := k0
      have hv : Vt m R wr (.agg #[v0, v1, v2, v3]) l[q] := hin'.keep fun b hb' hl => hb.block b (HR.out b hb')
      have k0 := below_cell (HR.out g hg) t0 hb
      have k1 := below_cell (HR.out g hg) t1 hb
      have k2 := below_cell (HR.out g hg) t2 hb
      have k3 := below_cell (HR.out g hg) t3 hb
      clear t0 t1 t2 t3
      obtain ⟨m', a1, e1, a2, e2, -, rfl, rfl, rfl, rfl, -⟩ := hin'.kinds
      clear hin'
      rw [ixf_next G hlt] at hM
      have cO := HC.out wr _ l[q] (List.getElem_mem hlt) hb hv
      clear hv
      generalize l[q] = s at *
      obtain ⟨b, hb'⟩ : ∃ b, G s = b := ⟨_, rfl⟩
      rw [hb'] at cO hM
      have HM : Hid ((bif b then ixf G (q + 1) (l.drop (q + 1)) else (q : Int)) = Z) := hM
      clear hb' hM hb
      go_wp2_with fail
      refine cO.mono ?_
      rintro e W1 ⟨rfl, b1⟩
      have HB1 : Hid (Below w.heap.size w W1) := Hb.out.trans (b1.mono Hb.out.size)
      clear cO b1
      cases b with
      | false =>
        have hT : (q : Int) = Z := HM.out
        subst hT
        go_wp2_with fail
        go_ret
        exact ⟨rfl, HB1.out⟩
      | true =>
        go_wp2_with fail
        go_roundw
        case rel => exact ⟨q + 1, by omega, by go_num, HM.out, HB1.out⟩
        case measure => simp only [intOf]; omega
    · have d0 : decide ((q : Int) < (l.length : Int)) = false := by simp; omega
      have hT : -1 = Z := by
        rw [List.drop_eq_nil_of_le (by omega)] at hM
        exact hM
      subst hT
      clear hM
      go_wp2_with fail
      go_ret
      exact ⟨rfl, Hb.out⟩
end Go.Proofs.Ytgknjjaemjkloaa.BFw

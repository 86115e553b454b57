/- slices.IndexFunc and ContainsFunc over a row of integers, with the closures of package verify. -/
import Derived.Test.YtgknjjaemjkloaaBBx
namespace Go.Proofs.Ytgknjjaemjkloaa.BIx
open Go.RowKit Go.Proofs.Ytgknjjaemjkloaa.BPl Go.Proofs.Ytgknjjaemjkloaa.YRr Go.Proofs.Ytgknjjaemjkloaa.YRs Go.Proofs.Ytgknjjaemjkloaa.BBx
set_option linter.unusedVariables false

theorem below_cell {w wr : World} {g o : Nat} {u : Value} (hg : g < w.heap.size) (h : w.cell? ⟨g, o, none⟩ = some u) (hb : Below w.heap.size w wr) : wr.cell? ⟨g, o, none⟩ = some u := (World.cell?_of_block (w := w) (hb.block g hg)).trans h
theorem ixf_cons (G : Int → Bool) {l : List Int} {q : Nat} (h : q < l.length) : ixf (fun x => !G x) q (l.drop q) = (bif G l[q] then (q : Int) else ixf (fun x => !G x) (q + 1) (l.drop (q + 1))) := by
  rw [List.drop_eq_getElem_cons h, ixf]
  cases G l[q] <;> rfl
theorem ixf_any (G : Int → Bool) : ∀ (l : List Int) (i : Nat), decide (0 ≤ ixf (fun x => !G x) i l) = l.any G
  | [], i => rfl
  | x :: r, i => by
    rw [ixf, List.any_cons, ← ixf_any G r (i + 1)]
    cases G x with
    | true => simp
    | false => simp
set_option maxRecDepth 20000 in
set_option maxHeartbeats 1600000 in
theorem index_no {R : Nat → Prop} {w : World} {v : Value} {l : List Int} (hin : RrS 1 LyI R w v l) (hR : ∀ g, R g → g < w.heap.size) (G : Int → Bool) (B : Nat)
    (hc : ∀ W x, x ∈ l → Below w.heap.size w W → Calls Try.prog 137 #[.pointer (some ⟨B, 0, none⟩), .int .i64 x] W fun e w' => e = .returned (.bool (G x)) ∧ Below W.heap.size W w') :
    Calls Try.prog 153 #[v, .func (.func 137) #[.pointer (some ⟨B, 0, none⟩)] #[]] w fun e w' => e = .returned (.int .i64 (ixf (fun x => !G x) 0 l)) ∧ Below w.heap.size w w' := by
  have HIN : Hid (RrS 1 LyI R w v l) := hin
  have HR : Hid (∀ g, R g → g < w.heap.size) := hR
  have HC : Hid (∀ W x, x ∈ l → Below w.heap.size w W → Calls Try.prog 137 #[.pointer (some ⟨B, 0, none⟩), .int .i64 x] W fun e w' => e = .returned (.bool (G x)) ∧ Below W.heap.size W w') := hc
  obtain ⟨a, cap, rfl, hlc, hcm, h47, hnil, hL⟩ := hin
  obtain ⟨T, hT⟩ : ∃ T, ixf (fun x => !G x) 0 l = T := ⟨_, rfl⟩
  have HT : Hid (ixf (fun x => !G x) 0 (l.drop 0) = T) := hT
  rw [hT]
  clear hT hL hc hR hnil
  go_enter Try.func153, Try.ntmps153
  go_wp2_with fail
  go_loopw [8] (fun i wr => ∃ q : Nat, q ≤ l.length ∧ i = .int .i64 q ∧ ixf (fun x => !G x) q (l.drop q) = T ∧ Below w.heap.size w wr) (fun i _ => l.length - (intOf i).toNat)
  case atStart => exact ⟨0, by omega, rfl, HT.out, Below.refl _ _⟩
  case round =>
    clear HT
    obtain ⟨q, hq, rfl, hM, hb⟩ := hrel
    have Hb : Hid (Below w.heap.size w wr) := hb
    by_cases hlt : q < l.length
    · have d0 : decide ((q : Int) < (l.length : Int)) = true := by simp; omega
      have i0 : (0 : Int) ≤ (q : Int) := by omega
      have i1 : (q : Int) < (l.length : Int) := by omega
      obtain ⟨g, o, cap', hsl, hl, hm, hg, k0⟩ := RrS.at HIN.out hlt
      cases hsl
      have k0 := below_cell (HR.out g hg) k0.1 hb
      rw [Nat.mul_one] at k0
      rw [ixf_cons G hlt] at hM
      have cO := HC.out wr l[q] (List.getElem_mem hlt) hb
      generalize l[q] = s at *
      obtain ⟨b, hb'⟩ : ∃ b, G s = b := ⟨_, rfl⟩
      rw [hb'] at cO hM
      have HM : Hid ((bif b then (q : Int) else ixf (fun x => !G x) (q + 1) (l.drop (q + 1))) = T) := hM
      clear hb' hM hb
      go_wp2_with fail
      refine cO.mono ?_
      rintro e W1 ⟨rfl, b1⟩
      have HB1 : Hid (Below w.heap.size w W1) := Hb.out.trans (b1.mono Hb.out.size)
      clear cO b1 k0
      cases b with
      | true =>
        have hT : (q : Int) = T := HM.out
        subst hT
        go_wp2_with fail
        go_ret
        exact ⟨rfl, HB1.out⟩
      | false =>
        go_wp2_with fail
        go_roundw
        case rel => exact ⟨q + 1, by omega, by go_num, HM.out, HB1.out⟩
        case measure => simp only [intOf]; omega
    · have d0 : decide ((q : Int) < (l.length : Int)) = false := by simp; omega
      have hT : -1 = T := by
        rw [List.drop_eq_nil_of_le (by omega)] at hM
        exact hM
      subst hT
      clear hM
      go_wp2_with fail
      go_ret
      exact ⟨rfl, Hb.out⟩
set_option maxRecDepth 20000 in
theorem contains_no {R : Nat → Prop} {w : World} {v : Value} {l : List Int} (hin : RrS 1 LyI R w v l) (hR : ∀ g, R g → g < w.heap.size) (G : Int → Bool) (B : Nat)
    (hc : ∀ W x, x ∈ l → Below w.heap.size w W → Calls Try.prog 137 #[.pointer (some ⟨B, 0, none⟩), .int .i64 x] W fun e w' => e = .returned (.bool (G x)) ∧ Below W.heap.size W w') :
    Calls Try.prog 136 #[v, .func (.func 137) #[.pointer (some ⟨B, 0, none⟩)] #[]] w fun e w' => e = .returned (.bool (l.any G)) ∧ Below w.heap.size w w' := by
  have cI := index_no hin hR G B hc
  rw [← ixf_any G l 0]
  obtain ⟨a, cap, rfl, -⟩ := hin
  generalize ixf (fun x => !G x) 0 l = z at *
  clear hc
  go_enter Try.func136, Try.ntmps136
  go_wp2_with fail
  refine cI.mono ?_
  rintro e W1 ⟨rfl, hb⟩
  have HB : Hid (Below w.heap.size w W1) := hb
  clear hb cI
  go_wp2_with fail
  go_ret
  exact ⟨rfl, HB.out⟩
set_option maxRecDepth 20000 in
set_option maxHeartbeats 1600000 in
theorem index_be {R : Nat → Prop} {w : World} {v : Value} {l : List Int} (hin : RrS 1 LyI R w v l) (hR : ∀ g, R g → g < w.heap.size) (G : Int → Bool) (B : Nat)
    (hc : ∀ W x, x ∈ l → Below w.heap.size w W → Calls Try.prog 139 #[.pointer (some ⟨B, 0, none⟩), .int .i64 x] W fun e w' => e = .returned (.bool (G x)) ∧ Below W.heap.size W w') :
    Calls Try.prog 153 #[v, .func (.func 139) #[.pointer (some ⟨B, 0, none⟩)] #[]] w fun e w' => e = .returned (.int .i64 (ixf (fun x => !G x) 0 l)) ∧ Below w.heap.size w w' := by
  have HIN : Hid (RrS 1 LyI R w v l) := hin
  have HR : Hid (∀ g, R g → g < w.heap.size) := hR
  have HC : Hid (∀ W x, x ∈ l → Below w.heap.size w W → Calls Try.prog 139 #[.pointer (some ⟨B, 0, none⟩), .int .i64 x] W fun e w' => e = .returned (.bool (G x)) ∧ Below W.heap.size W w') := hc
  obtain ⟨a, cap, rfl, hlc, hcm, h47, hnil, hL⟩ := hin
  obtain ⟨T, hT⟩ : ∃ T, ixf (fun x => !G x) 0 l = T := ⟨_, rfl⟩
  have HT : Hid (ixf (fun x => !G x) 0 (l.drop 0) = T) := hT
  rw [hT]
  clear hT hL hc hR hnil
  go_enter Try.func153, Try.ntmps153
  go_wp2_with fail
  go_loopw [8] (fun i wr => ∃ q : Nat, q ≤ l.length ∧ i = .int .i64 q ∧ ixf (fun x => !G x) q (l.drop q) = T ∧ Below w.heap.size w wr) (fun i _ => l.length - (intOf i).toNat)
  case atStart => exact ⟨0, by omega, rfl, HT.out, Below.refl _ _⟩
  case round =>
    clear HT
    obtain ⟨q, hq, rfl, hM, hb⟩ := hrel
    have Hb : Hid (Below w.heap.size w wr) := hb
    by_cases hlt : q < l.length
    · have d0 : decide ((q : Int) < (l.length : Int)) = true := by simp; omega
      have i0 : (0 : Int) ≤ (q : Int) := by omega
      have i1 : (q : Int) < (l.length : Int) := by omega
      obtain ⟨g, o, cap', hsl, hl, hm, hg, k0⟩ := RrS.at HIN.out hlt
      cases hsl
      have k0 := below_cell (HR.out g hg) k0.1 hb
      rw [Nat.mul_one] at k0
      rw [ixf_cons G hlt] at hM
      have cO := HC.out wr l[q] (List.getElem_mem hlt) hb
      generalize l[q] = s at *
      obtain ⟨b, hb'⟩ : ∃ b, G s = b := ⟨_, rfl⟩
      rw [hb'] at cO hM
      have HM : Hid ((bif b then (q : Int) else ixf (fun x => !G x) (q + 1) (l.drop (q + 1))) = T) := hM
      clear hb' hM hb
      go_wp2_with fail
      refine cO.mono ?_
      rintro e W1 ⟨rfl, b1⟩
      have HB1 : Hid (Below w.heap.size w W1) := Hb.out.trans (b1.mono Hb.out.size)
      clear cO b1 k0
      cases b with
      | true =>
        have hT : (q : Int) = T := HM.out
        subst hT
        go_wp2_with fail
        go_ret
        exact ⟨rfl, HB1.out⟩
      | false =>
        go_wp2_with fail
        go_roundw
        case rel => exact ⟨q + 1, by omega, by go_num, HM.out, HB1.out⟩
        case measure => simp only [intOf]; omega
    · have d0 : decide ((q : Int) < (l.length : Int)) = false := by simp; omega
      have hT : -1 = T := by
        rw [List.drop_eq_nil_of_le (by omega)] at hM
        exact hM
      subst hT
      clear hM
      go_wp2_with fail
      go_ret
      exact ⟨rfl, Hb.out⟩
set_option maxRecDepth 20000 in
theorem contains_be {R : Nat → Prop} {w : World} {v : Value} {l : List Int} (hin : RrS 1 LyI R w v l) (hR : ∀ g, R g → g < w.heap.size) (G : Int → Bool) (B : Nat)
    (hc : ∀ W x, x ∈ l → Below w.heap.size w W → Calls Try.prog 139 #[.pointer (some ⟨B, 0, none⟩), .int .i64 x] W fun e w' => e = .returned (.bool (G x)) ∧ Below W.heap.size W w') :
    Calls Try.prog 136 #[v, .func (.func 139) #[.pointer (some ⟨B, 0, none⟩)] #[]] w fun e w' => e = .returned (.bool (l.any G)) ∧ Below w.heap.size w w' := by
  have cI := index_be hin hR G B hc
  rw [← ixf_any G l 0]
  obtain ⟨a, cap, rfl, -⟩ := hin
  generalize ixf (fun x => !G x) 0 l = z at *
  clear hc
  go_enter Try.func136, Try.ntmps136
  go_wp2_with fail
  refine cI.mono ?_
  rintro e W1 ⟨rfl, hb⟩
  have HB : Hid (Below w.heap.size w W1) := hb
  clear hb cI
  go_wp2_with fail
  go_ret
  exact ⟨rfl, HB.out⟩
set_option maxRecDepth 20000 in
set_option maxHeartbeats 1600000 in
theorem index_zo {R : Nat → Prop} {w : World} {v : Value} {l : List Int} (hin : RrS 1 LyI R w v l) (hR : ∀ g, R g → g < w.heap.size) (G : Int → Bool)
    (hc : ∀ W x, x ∈ l → Below w.heap.size w W → Calls Try.prog 155 #[.int .i64 x] W fun e w' => e = .returned (.bool (G x)) ∧ Below W.heap.size W w') :
    Calls Try.prog 153 #[v, .func (.func 155) #[] #[]] w fun e w' => e = .returned (.int .i64 (ixf (fun x => !G x) 0 l)) ∧ Below w.heap.size w w' := by
  have HIN : Hid (RrS 1 LyI R w v l) := hin
  have HR : Hid (∀ g, R g → g < w.heap.size) := hR
  have HC : Hid (∀ W x, x ∈ l → Below w.heap.size w W → Calls Try.prog 155 #[.int .i64 x] W fun e w' => e = .returned (.bool (G x)) ∧ Below W.heap.size W w') := hc
  obtain ⟨a, cap, rfl, hlc, hcm, h47, hnil, hL⟩ := hin
  obtain ⟨T, hT⟩ : ∃ T, ixf (fun x => !G x) 0 l = T := ⟨_, rfl⟩
  have HT : Hid (ixf (fun x => !G x) 0 (l.drop 0) = T) := hT
  rw [hT]
  clear hT hL hc hR hnil
  go_enter Try.func153, Try.ntmps153
  go_wp2_with fail
  go_loopw [8] (fun i wr => ∃ q : Nat, q ≤ l.length ∧ i = .int .i64 q ∧ ixf (fun x => !G x) q (l.drop q) = T ∧ Below w.heap.size w wr) (fun i _ => l.length - (intOf i).toNat)
  case atStart => exact ⟨0, by omega, rfl, HT.out, Below.refl _ _⟩
  case round =>
    clear HT
    obtain ⟨q, hq, rfl, hM, hb⟩ := hrel
    have Hb : Hid (Below w.heap.size w wr) := hb
    by_cases hlt : q < l.length
    · have d0 : decide ((q : Int) < (l.length : Int)) = true := by simp; omega
      have i0 : (0 : Int) ≤ (q : Int) := by omega
      have i1 : (q : Int) < (l.length : Int) := by omega
      obtain ⟨g, o, cap', hsl, hl, hm, hg, k0⟩ := RrS.at HIN.out hlt
      cases hsl
      have k0 := below_cell (HR.out g hg) k0.1 hb
      rw [Nat.mul_one] at k0
      rw [ixf_cons G hlt] at hM
      have cO := HC.out wr l[q] (List.getElem_mem hlt) hb
      generalize l[q] = s at *
      obtain ⟨b, hb'⟩ : ∃ b, G s = b := ⟨_, rfl⟩
      rw [hb'] at cO hM
      have HM : Hid ((bif b then (q : Int) else ixf (fun x => !G x) (q + 1) (l.drop (q + 1))) = T) := hM
      clear hb' hM hb
      go_wp2_with fail
      refine cO.mono ?_
      rintro e W1 ⟨rfl, b1⟩
      have HB1 : Hid (Below w.heap.size w W1) := Hb.out.trans (b1.mono Hb.out.size)
      clear cO b1 k0
      cases b with
      | true =>
        have hT : (q : Int) = T := HM.out
        subst hT
        go_wp2_with fail
        go_ret
        exact ⟨rfl, HB1.out⟩
      | false =>
        go_wp2_with fail
        go_roundw
        case rel => exact ⟨q + 1, by omega, by go_num, HM.out, HB1.out⟩
        case measure => simp only [intOf]; omega
    · have d0 : decide ((q : Int) < (l.length : Int)) = false := by simp; omega
      have hT : -1 = T := by
        rw [List.drop_eq_nil_of_le (by omega)] at hM
        exact hM
      subst hT
      clear hM
      go_wp2_with fail
      go_ret
      exact ⟨rfl, Hb.out⟩
end Go.Proofs.Ytgknjjaemjkloaa.BIx

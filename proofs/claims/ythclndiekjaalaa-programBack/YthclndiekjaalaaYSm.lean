/- Rows that hold the same are the same: texts, integers, instructions. -/
import Derived.Test.YthclndiekjaalaaYRr
namespace Go.Proofs.Ythclndiekjaalaa.YSm
open Go.RowKit Go.Proofs.Ythclndiekjaalaa.YPl Go.Proofs.Ythclndiekjaalaa.YRr
set_option linter.unusedVariables false

set_option maxRecDepth 20000 in
set_option maxHeartbeats 1600000 in
theorem same_s {K : Nat} {w : World} {u v : Value} {l : List ByteArray} (hu : Rr 1 LyS K w u l) (hv : Rr 1 LyS K w v l) (hK : K ≤ w.heap.size) :
    Calls Try.prog 18 #[u, v] w fun e w' => e = .returned (.bool true) ∧ ∃ k, w' = w.drewN k := by
  obtain ⟨a, cap, rfl, hlc, hcm, hlb, hnil, hrow⟩ := hu
  obtain ⟨a', cap', rfl, hlc', hcm', -, hnil', hrow'⟩ := hv
  have HR : Hid _ := hrow
  have HR' : Hid _ := hrow'
  clear hrow hrow'
  go_enter Try.func18, Try.ntmps18
  go_wp2_with fail
  go_loopw [5] (fun i wr => ∃ q : Nat, i = .int .i64 q ∧ q ≤ l.length ∧ ∃ k, wr = w.drewN k) (fun i _ => l.length - (intOf i).toNat)
  case atStart => exact ⟨0, rfl, by omega, 0, rfl⟩
  case round =>
    obtain ⟨q, rfl, hq, kk, rfl⟩ := hrel
    by_cases hlt : q < l.length
    · rcases HR.out with h0 | ⟨g, o, rfl, hg, hc⟩
      · rw [h0] at hlt; simp at hlt
      rcases HR'.out with h0 | ⟨g', o', rfl, hg', hc'⟩
      · rw [h0] at hlt; simp at hlt
      have he := hc q hlt
      have hf := hc' q hlt
      rw [Nat.mul_one] at he hf
      obtain ⟨x, hx⟩ : ∃ x, l[q] = x := ⟨_, rfl⟩
      rw [hx] at he hf
      obtain ⟨e0, -⟩ := he
      obtain ⟨g0, -⟩ := hf
      clear hc hc'
      go_wp2_with fail
      go_quiet (fail)
      go_wp2_with fail
      go_roundw
      case rel => exact ⟨q + 1, by go_num, by omega, _, rfl⟩
      case measure => simp only [intOf]; omega
    · obtain rfl : q = l.length := by omega
      go_wp2_with fail
      go_ret
      exact ⟨rfl, _, rfl⟩
set_option maxRecDepth 20000 in
set_option maxHeartbeats 1600000 in
theorem same_i {K : Nat} {w : World} {u v : Value} {l : List Int} (hu : Rr 1 LyI K w u l) (hv : Rr 1 LyI K w v l) (hK : K ≤ w.heap.size) :
    Calls Try.prog 89 #[u, v] w fun e w' => e = .returned (.bool true) ∧ ∃ k, w' = w.drewN k := by
  obtain ⟨a, cap, rfl, hlc, hcm, hlb, hnil, hrow⟩ := hu
  obtain ⟨a', cap', rfl, hlc', hcm', -, hnil', hrow'⟩ := hv
  have HR : Hid _ := hrow
  have HR' : Hid _ := hrow'
  clear hrow hrow'
  go_enter Try.func89, Try.ntmps89
  go_wp2_with fail
  go_loopw [5] (fun i wr => ∃ q : Nat, i = .int .i64 q ∧ q ≤ l.length ∧ ∃ k, wr = w.drewN k) (fun i _ => l.length - (intOf i).toNat)
  case atStart => exact ⟨0, rfl, by omega, 0, rfl⟩
  case round =>
    obtain ⟨q, rfl, hq, kk, rfl⟩ := hrel
    by_cases hlt : q < l.length
    · rcases HR.out with h0 | ⟨g, o, rfl, hg, hc⟩
      · rw [h0] at hlt; simp at hlt
      rcases HR'.out with h0 | ⟨g', o', rfl, hg', hc'⟩
      · rw [h0] at hlt; simp at hlt
      have he := hc q hlt
      have hf := hc' q hlt
      rw [Nat.mul_one] at he hf
      obtain ⟨x, hx⟩ : ∃ x, l[q] = x := ⟨_, rfl⟩
      rw [hx] at he hf
      obtain ⟨e0, -⟩ := he
      obtain ⟨g0, -⟩ := hf
      clear hc hc'
      go_wp2_with fail
      go_quiet (fail)
      go_wp2_with fail
      go_roundw
      case rel => exact ⟨q + 1, by go_num, by omega, _, rfl⟩
      case measure => simp only [intOf]; omega
    · obtain rfl : q = l.length := by omega
      go_wp2_with fail
      go_ret
      exact ⟨rfl, _, rfl⟩
set_option maxRecDepth 20000 in
set_option maxHeartbeats 1600000 in
theorem same_n {K : Nat} {w : World} {u v : Value} {l : List Ins} (hu : Rr 2 LyN K w u l) (hv : Rr 2 LyN K w v l) (hK : K ≤ w.heap.size) :
    Calls Try.prog 50 #[u, v] w fun e w' => e = .returned (.bool true) ∧ ∃ k, w' = w.drewN k := by
  obtain ⟨a, cap, rfl, hlc, hcm, hlb, hnil, hrow⟩ := hu
  obtain ⟨a', cap', rfl, hlc', hcm', -, hnil', hrow'⟩ := hv
  have HR : Hid _ := hrow
  have HR' : Hid _ := hrow'
  clear hrow hrow'
  go_enter Try.func50, Try.ntmps50
  go_wp2_with fail
  go_loopw [5] (fun i wr => ∃ q : Nat, i = .int .i64 q ∧ q ≤ l.length ∧ ∃ k, wr = w.drewN k) (fun i _ => l.length - (intOf i).toNat)
  case atStart => exact ⟨0, rfl, by omega, 0, rfl⟩
  case round =>
    obtain ⟨q, rfl, hq, kk, rfl⟩ := hrel
    by_cases hlt : q < l.length
    · rcases HR.out with h0 | ⟨g, o, rfl, hg, hc⟩
      · rw [h0] at hlt; simp at hlt
      rcases HR'.out with h0 | ⟨g', o', rfl, hg', hc'⟩
      · rw [h0] at hlt; simp at hlt
      have he := hc q hlt
      have hf := hc' q hlt
      obtain ⟨x, hx⟩ : ∃ x, l[q] = x := ⟨_, rfl⟩
      rw [hx] at he hf
      obtain ⟨e0, e1, -⟩ := he
      obtain ⟨g0, g1, -⟩ := hf
      clear hc hc'
      go_wp2_with fail
      go_quiet (fail)
      go_wp2_with fail
      go_roundw
      case rel => exact ⟨q + 1, by go_num, by omega, _, rfl⟩
      case measure => simp only [intOf]; omega
    · obtain rfl : q = l.length := by omega
      go_wp2_with fail
      go_ret
      exact ⟨rfl, _, rfl⟩
theorem rr_drew {α : Type} {n K : Nat} {Ly : World → Nat → Nat → α → Prop} {w : World} {v : Value} {l : List α} (h : Rr n Ly K w v l) (hl : ∀ g o x, Ly w g o x → ∀ k, Ly (w.drewN k) g o x) (k : Nat) : Rr n Ly K (w.drewN k) v l := h.keep (Nat.le_refl _) fun g o x _ _ h => hl g o x h k
theorem lyn_drew {w : World} {g o : Nat} {x : Ins} (h : LyN w g o x) (k : Nat) : LyN (w.drewN k) g o x := ⟨h.1, h.2.1, h.2.2⟩
set_option maxRecDepth 20000 in
set_option maxHeartbeats 1600000 in
theorem same_c {K : Nat} {w : World} {u v : Value} {l : List (List Ins)} (hu : Rr 1 (LyC K) K w u l) (hv : Rr 1 (LyC K) K w v l) (hK : K ≤ w.heap.size) :
    Calls Try.prog 24 #[u, v] w fun e w' => e = .returned (.bool true) ∧ ∃ k, w' = w.drewN k := by
  obtain ⟨a, cap, rfl, hlc, hcm, hlb, hnil, hrow⟩ := hu
  obtain ⟨a', cap', rfl, hlc', hcm', -, hnil', hrow'⟩ := hv
  have HR : Hid _ := hrow
  have HR' : Hid _ := hrow'
  clear hrow hrow'
  go_enter Try.func24, Try.ntmps24
  go_wp2_with fail
  go_loopw [5] (fun i wr => ∃ q : Nat, i = .int .i64 q ∧ q ≤ l.length ∧ ∃ k, wr = w.drewN k) (fun i _ => l.length - (intOf i).toNat)
  case atStart => exact ⟨0, rfl, by omega, 0, rfl⟩
  case round =>
    obtain ⟨q, rfl, hq, kk, hkk⟩ := hrel
    have HK : Hid (wr = w.drewN kk) := hkk
    clear hkk
    by_cases hlt : q < l.length
    · rcases HR.out with h0 | ⟨g, o, rfl, hg, hc⟩
      · rw [h0] at hlt; simp at hlt
      rcases HR'.out with h0 | ⟨g', o', rfl, hg', hc'⟩
      · rw [h0] at hlt; simp at hlt
      have he := hc q hlt
      have hf := hc' q hlt
      rw [Nat.mul_one] at he hf
      obtain ⟨x, hx⟩ : ∃ x, l[q] = x := ⟨_, rfl⟩
      rw [hx] at he hf
      obtain ⟨v0, e0, r0⟩ := he
      obtain ⟨v1, e1, r1⟩ := hf
      have e0 : wr.cell? ⟨g, o + q, none⟩ = some v0 := by rw [HK.out]; exact e0
      have e1 : wr.cell? ⟨g', o' + q, none⟩ = some v1 := by rw [HK.out]; exact e1
      have cS := fun k => same_n (w := (w.drewN kk).drewN k) (rr_drew (rr_drew r0 (fun _ _ _ h => lyn_drew h) kk) (fun _ _ _ h => lyn_drew h) k) (rr_drew (rr_drew r1 (fun _ _ _ h => lyn_drew h) kk) (fun _ _ _ h => lyn_drew h) k) hK
      rw [← HK.out] at cS
      obtain ⟨xa, xc, rfl⟩ : ∃ a c, v0 = .slice a x.length c := by obtain ⟨a, c, h, -⟩ := r0; exact ⟨a, c, h⟩
      obtain ⟨ya, yc, rfl⟩ : ∃ a c, v1 = .slice a x.length c := by obtain ⟨a, c, h, -⟩ := r1; exact ⟨a, c, h⟩
      clear hc hc' r0 r1
      go_wp2_with fail
      go_quiet (first | (go_at_call 50; exact Calls.quiet_of (cS _)))
      go_wp2_with fail
      go_roundw
      case rel => exact ⟨q + 1, by go_num, by omega, _, by rw [HK.out, World.drewN_drewN]⟩
      case measure => simp only [intOf]; omega
    · obtain rfl : q = l.length := by omega
      go_wp2_with fail
      go_ret
      exact ⟨rfl, _, HK.out⟩
end Go.Proofs.Ythclndiekjaalaa.YSm

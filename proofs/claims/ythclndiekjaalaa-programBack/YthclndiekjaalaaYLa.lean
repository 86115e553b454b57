/- Lists of a program written: s. -/
import Derived.Test.YthclndiekjaalaaYRr
namespace Go.Proofs.Ythclndiekjaalaa.YLa
open Go.RowKit Go.Proofs.Ythclndiekjaalaa.Leb Go.Proofs.Ythclndiekjaalaa.YPl Go.Proofs.Ythclndiekjaalaa.YWr Go.Proofs.Ythclndiekjaalaa.YWo Go.Proofs.Ythclndiekjaalaa.YRr
set_option linter.unusedVariables false

set_option maxRecDepth 20000 in
set_option maxHeartbeats 1600000 in
theorem wl_s {K B : Nat} {w : World} {L : By} (lim : Nat) (hlim : lim ≤ 16384) {v : Value} {l : List ByteArray} (f : ByteArray → Pc) (h : Wr K w B L) (hK : K ≤ w.heap.size) (hv : Rr 1 LyS K w v l)
    (hone : Hid (∀ (x : ByteArray) (W : World) (M : By), x ∈ l → Below K w W → Wr K W B M → K ≤ W.heap.size → (x.size ≤ 140737488351232) → Calls Try.prog 71 #[ptw B, (.string x)] W fun e w' => WP K B M (f x) W e w')) :
    Calls Try.prog 70 #[ptw B, .int .i64 lim, v, .func (.func 71) #[ptw B] #[]] w fun e w' => WP K B L (lst lim f l) w e w' := by
  obtain ⟨a, cap, rfl, hlc, hcm, hlb, hnil, hrow⟩ := hv
  have c1 := count_c lim hlim (l.length : Int) (by omega) (by omega) h hK
  have HR : Hid _ := hrow
  clear h hrow
  cases hcn : cnt lim (l.length : Int) with
  | none =>
    rw [hcn] at c1
    have HE : Hid (lst lim f l = none) := by show _ = _; unfold lst; rw [hcn, cat_none]
    go_enter Try.func70, Try.ntmps70
    go_wp2_with fail
    refine c1.mono ?_
    rintro e w1 ⟨b1, s1, rfl⟩
    exact ⟨rfl, by rw [HE.out]; exact ⟨b1, s1, rfl⟩⟩
  | some Cs =>
    rw [hcn] at c1
    have HE : Hid (lst lim f l = cat (some Cs) (lis f l)) := by show _ = _; unfold lst; rw [hcn]
    go_enter Try.func70, Try.ntmps70
    go_wp2_with fail
    refine c1.mono ?_
    rintro e w1 ⟨b1, s1, rfl, hW1⟩
    have HB1 : Hid _ := b1
    have HW1 : Hid _ := hW1
    clear b1 hW1 c1
    go_wp2_with fail
    go_loopw [17] (fun i wr => ∃ (q : Nat) (Xs : List By), i = .int .i64 q ∧ q ≤ l.length ∧ Hid (Below K w wr ∧ Fr B w wr ∧ Wr K wr B (pts (pts L Cs) Xs)) ∧ Hid (cat (some Xs) (lis f (l.drop q)) = lis f l)) (fun i _ => l.length - (intOf i).toNat)
    case atStart => exact ⟨0, [], rfl, by omega, ⟨HB1.out, s1, HW1.out⟩, by show _ = _; rw [List.drop_zero, cat_nil]⟩
    case round =>
      obtain ⟨q, Xs, rfl, hq, HG, HS⟩ := hrel
      by_cases hlt : q < l.length
      · rcases HR.out with h0 | ⟨g, o, rfl, hg, hc⟩
        · rw [h0] at hlt; simp at hlt
        have he := LyS.below HG.out.1 hg (hc q hlt)
        rw [Nat.mul_one] at he
        obtain ⟨x, hx⟩ : ∃ x, l[q] = x := ⟨_, rfl⟩
        have hmem : x ∈ l := hx ▸ List.getElem_mem hlt
        rw [hx] at he
        obtain ⟨e0, k0⟩ := he
        have cx := hone.out x  wr _ hmem HG.out.1 HG.out.2.2 (by have := HG.out.2.1.1; omega) k0
        clear k0 hc
        go_wp2_with fail
        refine cx.mono ?_
        rintro e w2 ⟨b2, s2, hA⟩
        cases hfx : f x with
        | none =>
          rw [hfx] at hA
          obtain rfl := hA
          exact ⟨rfl, by rw [HE.out, lis_stop hlt HS.out (by rw [hx]; exact hfx), cat_no]; exact ⟨(HG.out.1.trans b2), (HG.out.2.1.trans s2), rfl⟩⟩
        | some Ys =>
          rw [hfx] at hA
          obtain ⟨rfl, hW2⟩ := hA
          have HG2 : Hid (Below K w w2 ∧ Fr B w w2 ∧ Wr K w2 B (pts (pts L Cs) (Xs ++ Ys))) := ⟨(HG.out.1.trans b2), (HG.out.2.1.trans s2), by rw [pts_app]; exact hW2⟩
          have HS2 : Hid _ := lis_step hlt HS.out (by rw [hx]; exact hfx)
          clear hW2 b2 cx HG HS
          go_wp2_with fail
          go_roundw
          case rel => exact ⟨q + 1, Xs ++ Ys, by go_num, by omega, HG2, HS2⟩
          case measure => simp only [intOf]; omega
      · obtain rfl : q = l.length := by omega
        go_wp2_with fail
        go_end0
        rw [HE.out, lis_end HS.out]
        exact ⟨HG.out.1, HG.out.2.1, rfl, by rw [pts_app]; exact HG.out.2.2⟩
end Go.Proofs.Ythclndiekjaalaa.YLa

/- 'awake' answers true. -/
import Derived.Test.YtnpamcgbnimdkaaDAw
namespace Go.Proofs.Ytnpamcgbnimdkaa.DAwk
open Go.RowKit Go.Proofs.Ytnpamcgbnimdkaa.TBase Go.Proofs.Ytnpamcgbnimdkaa.DBase Go.Proofs.Ytnpamcgbnimdkaa.DJoin Go.Proofs.Ytnpamcgbnimdkaa.DNeed Go.Proofs.Ytnpamcgbnimdkaa.DKids Go.Proofs.Ytnpamcgbnimdkaa.DNew Go.Proofs.Ytnpamcgbnimdkaa.DArena Go.Proofs.Ytnpamcgbnimdkaa.DMake Go.Proofs.Ytnpamcgbnimdkaa.DPlace Go.Proofs.Ytnpamcgbnimdkaa.DTrees Go.Proofs.Ytnpamcgbnimdkaa.DAw
set_option linter.unusedVariables false

def q1 : Nat → Int := uq (fun _ => 0) 0 2
def q2 : Nat → Int := uq q1 1 1
theorem Ax.nil {w : World} {S : Nat → Prop} : Ax false S w (.slice none 0 0) [] := ⟨none, 0, rfl, by simp, by simp, by simp, by simp, fun _ => rfl, .inl ⟨rfl, rfl⟩⟩
theorem InL.nil {w : World} {S : Nat → Prop} {m : Nat} : InL false S w m (.slice none 0 0) [] := ⟨none, 0, rfl, by simp, by simp, by simp, fun _ => rfl, .inl ⟨rfl, rfl⟩⟩
theorem aw_build {w : World} {B p gc : Nat} {fv : Value} (A : Ar w B p gc 4 (fun _ => 0) (S0 4) fv V0) : Calls Try.prog 15 #[.pointer (some ⟨p, 0, none⟩), .agg #[.string ⟨#[112]⟩, .string ⟨#[]⟩, .slice none 0 0, .slice (some ⟨w.heap.size, 0, none⟩) 1 1]] (w.alloc (.cells #[.string ⟨#[]⟩, .string ⟨#[97]⟩, .slice none 0 0, .slice none 0 0] 28)) fun e w' => e = .returned (.tuple #[.int .i64 1, .int .i64 0]) ∧ Kp p gc w w' ∧ ∃ fv' V', Ar w' B p gc 4 q1 S1 fv' V' := by
  have b : Below w.heap.size w (w.alloc (.cells #[.string ⟨#[]⟩, .string ⟨#[97]⟩, .slice none 0 0, .slice none 0 0] 28)) := (Below.refl _ w).alloc (Nat.le_refl _) _
  have hp := A.bx.lt
  have hg := A.cr.lt
  have y := heap_alloc_new w (.cells #[.string ⟨#[]⟩, .string ⟨#[97]⟩, .slice none 0 0, .slice none 0 0] 28)
  have hin : In false (Nt p gc) (w.alloc (.cells #[.string ⟨#[]⟩, .string ⟨#[97]⟩, .slice none 0 0, .slice none 0 0] 28)) 3 (.agg #[.string ⟨#[112]⟩, .string ⟨#[]⟩, .slice none 0 0, .slice (some ⟨w.heap.size, 0, none⟩) 1 1]) tp := by
    refine in_iff.2 ⟨_, _, rfl, by decide, by decide, Ax.nil, some ⟨w.heap.size, 0, none⟩, 1, rfl, by simp, by omega, by simp, (fun e => by cases e), .inr ⟨w.heap.size, 0, rfl, ⟨by omega, by omega⟩, fun j hj => ?_, fun e => by cases e⟩⟩
    obtain rfl : j = 0 := by simpa using hj
    obtain ⟨e0, e1, e2, e3⟩ := four_box y
    exact ⟨_, ⟨_, _, _, _, rfl, e0, e1, e2, e3⟩, in_iff.2 ⟨_, _, rfl, by decide, by decide, Ax.nil, InL.nil⟩⟩
  refine (Build_c hin (A.below b) (by decide) (by decide)).mono ?_
  rintro e w' ⟨rfl, kp, fv', V', A'⟩
  have h1 : bH tp (S0 4) = 1 := by rw [bH, if_pos bc]; rfl
  have h2 : bS tp (S0 4) = S1 := by rw [bS, if_pos bc, s1]
  have h3 : bQ tp (S0 4) (fun _ => 0) = q1 := by rw [bQ, if_pos bc, np]; rfl
  rw [h1, bc]
  rw [h2, h3] at A'
  exact ⟨rfl, (Kp.of_below b).trans kp, fv', V', A'⟩
theorem aw_place {w : World} {B p gc : Nat} {fv : Value} {V : Nat → Value} (A : Ar w B p gc 4 q1 S1 fv V) : Calls Try.prog 17 #[.pointer (some ⟨p, 0, none⟩), .int .i64 0, .int .i64 1, .int .i64 (-1)] w fun e w' => e = .returned (.int .i64 0) ∧ Kp p gc w w' ∧ Ar w' B p gc 4 q2 S2 fv V := by
  have c := Place_c A (y := 0) (x := 1) (b := none) (by omega) (by omega) (fun k e => by cases e) (by kernel_rfl) (us := [0]) ⟨rfl, by omega, rfl⟩ (by simp) (fun k e => by cases e) (by decide) (by decide)
  refine c.mono ?_
  rintro e w' ⟨rfl, kp, A'⟩
  rw [pl] at A' ⊢
  exact ⟨rfl, kp, A'⟩
theorem aw_free {w : World} {B p gc : Nat} {fv : Value} {V : Nat → Value} (A : Ar w B p gc 4 q2 S2 fv V) : Calls Try.prog 13 #[.pointer (some ⟨p, 0, none⟩)] w fun e w' => ∃ a c, e = .returned (.slice a 1 c) ∧ Hs w' (.slice a 1 c) [3] ∧ Below w.heap.size w w' := by
  refine (DFree.Free_c A (by decide)).mono ?_
  rintro e w' ⟨v, rfl, h, b⟩
  obtain ⟨a, c, rfl, -⟩ := id h
  exact ⟨a, c, rfl, h, b⟩
theorem aw_same {w : World} {v : Value} (h : Hs w v [3]) : Calls Try.prog 24 #[v, .slice (some ⟨w.heap.size, 0, none⟩) 1 1] (w.alloc (.cells #[.int .i64 3] 3)) fun e w' => e = .returned (.bool true) ∧ Below w.heap.size w w' := by
  have b : Below w.heap.size w (w.alloc (.cells #[.int .i64 3] 3)) := (Below.refl _ w).alloc (Nat.le_refl _) _
  have h' : Hs (w.alloc (.cells #[.int .i64 3] 3)) v [3] := by
    obtain ⟨a, c, e, h1, h2, h3⟩ := h
    refine ⟨a, c, e, h1, h2, ?_⟩
    rcases h3 with h3 | ⟨g, o, e2, h3⟩
    · exact .inl h3
    · exact .inr ⟨g, o, e2, fun j hj => below_cell (h3 j hj) b⟩
  refine (DInts.sameI_c h' (DNil.one_oi w 3).hs).mono ?_
  rintro e w' ⟨rfl, b'⟩
  exact ⟨rfl, b.trans (b'.mono b.size)⟩
theorem aw_counts {w : World} {B p gc : Nat} {fv : Value} {V : Nat → Value} (A : Ar w B p gc 4 q2 S2 fv V) : Calls Try.prog 14 #[.pointer (some ⟨p, 0, none⟩)] w fun e w' => e = .returned (.agg #[.int .i64 2, .int .i64 1, .int .i64 0, .int .i64 0, .int .i64 0, .int .i64 0, .int .i64 0]) ∧ Below w.heap.size w w' :=
  DNil.Counts_c A.bx
theorem aw_forest {w : World} {B p gc : Nat} {fv : Value} {V : Nat → Value} (A : Ar w B p gc 4 q2 S2 fv V) : Calls Try.prog 28 #[.pointer (some ⟨p, 0, none⟩)] w fun e w' => ∃ a c, e = .returned (.slice a 1 c) ∧ Below w.heap.size w w' := by
  refine (Forest_c A bd2 (by omega) rfl t2).mono ?_
  rintro e w' ⟨v, rfl, h, b⟩
  obtain ⟨a, c, rfl, -⟩ := h
  exact ⟨a, c, rfl, b⟩
theorem new4 (w : World) : Calls Try.prog 26 #[.int .i64 4] w fun e w' => ∃ p gc fv, e = .returned (.tuple #[.pointer (some ⟨p, 0, none⟩), .int .i64 0]) ∧ Ar w' w.heap.size p gc 4 (fun _ => 0) (S0 4) fv V0 ∧ Below w.heap.size w w' := by
  refine (new_c (r := 4) (by omega) (by omega) w).mono ?_
  rintro e w' ⟨p, gc, fv, rfl, hb, hc, ho, hp, hg, b⟩
  exact ⟨p, gc, fv, rfl, ar_new (by omega) (by omega) hb hc ho hp hg, b⟩
set_option maxRecDepth 20000 in
set_option maxHeartbeats 1600000 in
theorem awake_c (w : World) : Calls Try.prog 8 #[] w fun e w' => e = .returned (.bool true) ∧ Below w.heap.size w w' := by
  have c1 := new4 w
  have hfd : ∀ w : World, (Instr.field 40 (.agg #[.int .i64 2, .int .i64 1, .int .i64 0, .int .i64 0, .int .i64 0, .int .i64 0, .int .i64 0]) 0).run Try.prog w = .ok (.int .i64 2) w := fun _ => by kernel_rfl
  have hF : Hid (∀ p gc w1 w2 fv V, Ar w1 w.heap.size p gc 4 q1 S1 fv V → Below w.heap.size w w2 → Kp p gc w2 w1 → w.heap.size ≤ w2.heap.size → Below w.heap.size w w1) := fun p gc w1 w2 fv V A b k hs => k.below b hs A.lp A.lg
  go_enter Try.func8, Try.ntmps8
  go_wp2_with (first
    | (go_at_call 26; refine c1.mono ?_; rintro e w1 ⟨p, gc, fv, rfl, A1, b1⟩; have c15 := aw_build A1; have hs1 := b1.size; clear A1 c1)
    | (go_at_call 25; refine (num_c _ _).mono ?_; rintro e w9 ⟨rfl, rfl⟩)
    | (go_at_call 15; refine c15.mono ?_; rintro e w2 ⟨rfl, kp2, fv2, V2, A2⟩; have c17 := aw_place A2; have b2 := hF.out p gc w2 w1 fv2 V2 A2 b1 kp2 hs1; have hs2 := b2.size; clear A2 c15 kp2)
    | (go_at_call 17; refine c17.mono ?_; rintro e w3 ⟨rfl, kp3, A3⟩; have b3 : Below w.heap.size w w3 := kp3.below b2 hs2 A3.lp A3.lg; have c13 := aw_free A3; have HA3 : Hid (Ar w3 w.heap.size p gc 4 q2 S2 fv2 V2) := A3; have hs3 := b3.size; clear A3 c17)
    | (go_at_call 13; refine c13.mono ?_; rintro e w4 ⟨fa, fc, rfl, h4, b4⟩; have c24 := aw_same h4; have HA4 : Hid (Ar w4 w.heap.size p gc 4 q2 S2 fv2 V2) := HA3.out.below b4; have b4w : Below w.heap.size w w4 := b3.trans (b4.mono hs3); have hs4 := b4w.size; clear h4 c13)
    | (go_at_call 24; refine c24.mono ?_; rintro e w5 ⟨rfl, b5⟩; have c14 := aw_counts (HA4.out.below b5); have HA5 : Hid (Ar w5 w.heap.size p gc 4 q2 S2 fv2 V2) := HA4.out.below b5; have b5w : Below w.heap.size w w5 := b4w.trans (b5.mono hs4); have hs5 := b5w.size; clear c24)
    | (go_at_call 14; refine c14.mono ?_; rintro e w6 ⟨rfl, b6⟩; have c28 := aw_forest (HA5.out.below b6); have b6w : Below w.heap.size w w6 := b5w.trans (b6.mono hs5); have hs6 := b6w.size; clear c14)
    | (go_at_call 28; refine c28.mono ?_; rintro e w7 ⟨xa, xc, rfl, b7⟩; clear c28))
  go_ret
  exact ⟨rfl, b6w.trans (b7.mono hs6)⟩
end Go.Proofs.Ytnpamcgbnimdkaa.DAwk

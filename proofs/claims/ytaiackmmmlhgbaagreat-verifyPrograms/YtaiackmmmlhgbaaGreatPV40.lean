import Derived.Test.YtaiackmmmlhgbaaGreatPV39
set_option linter.unusedVariables false
namespace Go.Proofs.YtaiackmmmlhgbaaGreat.BLg
open Go.RowKit YRr YRs BCp BLa BLf
open YPl (Oq Bk Pg)
open YEn (InPg)
open CPu (Ins)
def okI (x : Pg) : Prop := (∀ l ∈ x.c, ∀ y ∈ l, i64 y.1 /\ i64 y.2) /\ ∀ k ∈ x.b, (∀ o ∈ k.o, ∀ y ∈ o.l, i64 y) /\ ∀ y ∈ k.u, i64 y
theorem okI_of {K m : Nat} {w : World} {v : Value} {x : Pg} (h : InPg K m w v x) : okI x := by
 obtain ⟨a, n1, c1, b, n2, c2, c, n3, c3, d, n4, c4, rfl, h1, h2, h3, h4⟩ := h
 refine ⟨rrs_all (S := BSf.Lo K) (Ly := LyCs (BSf.Lo K)) h2 fun g o y hy => ?_, rrs_all (S := BSf.Lo K) (Ly := LyBs (BSf.Lo K)) h4 fun g o y hy => ?_⟩
 ·obtain ⟨v, -, hr⟩ := hy
  exact rrs_all hr fun g o z hz => hz.2.2
 ·obtain ⟨v, u, -, -, -, -, hr, hr'⟩ := hy
  refine ⟨rrs_all hr fun g o z hz => ?_, rrs_all hr' fun g o z hz => hz.2⟩
  obtain ⟨v, -, -, -, -, -, -, hl⟩ := hz
  exact rrs_all hl fun g o z hz => hz.2
theorem ln_in {S : Nat -> Prop} {m : Nat} {w : World} {u : Value} {x : Pg} (h : LnP S m w u x) (hS : ∀ b, S b -> b < w.heap.size) (hx : okI x) (hz : szP x) : InPg w.heap.size m w u x := by
 obtain ⟨s1, s2, s3, s4, rfl, h1, h2, h3, h4⟩ := h
 obtain ⟨z1, z2, z3, z4, z5⟩ := hz
 have r1 : RrS 1 LyS (BSf.Lo w.heap.size) w s1 x.t := (tx_rr h1).keep hS fun g o x _ _ h => h
 have r2 : RrS 1 (LyCs (BSf.Lo w.heap.size)) (BSf.Lo w.heap.size) w s2 x.c := (h2.rr (Ly := LyCs S) (by omega) (fun g o c y hy hc hd => by
  obtain ⟨v, rfl, hk⟩ := hd
  have := z3 y hy
  unfold szN at this
  exact ⟨v, hc 0 v rfl, hk.rr (hx.1 y hy) (by omega)⟩)).keep hS fun g o y _ hg hy => by
   obtain ⟨v, k1, k2⟩ := hy
   exact ⟨v, k1, k2.keep hS fun _ _ _ _ _ h => h⟩
 have r3 : TBase.InL false (BSf.Lo w.heap.size) w m s3 x.s := h3.weak hS false (by simp) m (Nat.le_refl _)
 have r4 : RrS 3 (LyBs (BSf.Lo w.heap.size)) (BSf.Lo w.heap.size) w s4 x.b := (h4.rr (Ly := LyBs S) (by omega) (fun g o c y hy hc hd => by
  obtain ⟨v, u, rfl, hk, k1, k2⟩ := hd
  obtain ⟨q1, q2, q3⟩ := z5 y hy
  obtain ⟨p1, p2⟩ := hx.2 y hy
  unfold szI at q3
  refine ⟨v, u, hc 0 _ rfl, hc 1 _ rfl, hc 2 _ rfl, hk, k1.rr (by omega) (fun g o c z hz hc hd => ?_), k2.rr p2 (by omega)⟩
  obtain ⟨v, rfl, j1, j2⟩ := hd
  have := q2 z hz
  unfold szO szI at this
  exact ⟨v, hc 0 _ rfl, hc 1 _ rfl, hc 2 _ rfl, hc 3 _ rfl, hc 4 _ rfl, j1, j2.rr (p1 z hz) (by omega)⟩)).keep hS fun g o y _ hg hy => by
   obtain ⟨v, u, k1, k2, k3, k4, k5, k6⟩ := hy
   refine ⟨v, u, k1, k2, k3, k4, k5.keep hS (fun g o z _ hg hz => ?_), k6.keep hS fun _ _ _ _ _ h => h⟩
   obtain ⟨v, j1, j2, j3, j4, j5, j6, j7⟩ := hz
   exact ⟨v, j1, j2, j3, j4, j5, j6, j7.keep hS fun _ _ _ _ _ h => h⟩
 obtain ⟨a1, d1, rfl⟩ : ∃ a c, s1 = .slice a x.t.length c := by obtain ⟨a, c, e, -⟩ := r1; exact ⟨a, c, e⟩
 obtain ⟨a2, d2, rfl⟩ : ∃ a c, s2 = .slice a x.c.length c := by obtain ⟨a, c, e, -⟩ := r2; exact ⟨a, c, e⟩
 obtain ⟨a3, d3, rfl⟩ := inl_sl r3
 obtain ⟨a4, d4, rfl⟩ : ∃ a c, s4 = .slice a x.b.length c := by obtain ⟨a, c, e, -⟩ := r4; exact ⟨a, c, e⟩
 exact ⟨_, _, _, _, _, _, _, _, _, _, _, _, rfl, r1, r2, r3, r4⟩
end Go.Proofs.YtaiackmmmlhgbaaGreat.BLg

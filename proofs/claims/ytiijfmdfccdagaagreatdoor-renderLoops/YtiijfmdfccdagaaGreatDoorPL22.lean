import Derived.Test.YtiijfmdfccdagaaGreatDoorPL21
open Go.Proofs.Tryz
set_option linter.unusedVariables false
set_option maxRecDepth 20000
set_option maxHeartbeats 3200000
namespace Go.Proofs.YtiijfmdfccdagaaGreatDoor.KAk
open Go.RowKit Base KBase KAr
open SFit (ne ret_bool)
open XBase (frozen_box)
theorem with_c {k : Int} {t : ByteArray} {a1 : Option Addr} {n1 c1 : Nat} {a2 : Option Addr} {n2 c2 : Nat} {a3 : Option Addr} {n3 c3 : Nat} {a4 : Option Addr} {n4 c4 : Nat} {a5 : Option Addr} {n5 c5 : Nat} {s e l : Int} {w : World} (hs : 0 <= s /\ s <= 100000) (hn : n3 <= 140737488351232) :
  Calls prog 110 #[av s e l, cv k t a1 n1 c1 a2 n2 c2 a3 n3 c3 a4 n4 c4 a5 n5 c5] w fun x w' => x = .returned (.tuple #[av (s + n3) (e) (l), .bool (bare t n1 n2 0 0 n5)]) /\ Below w.heap.size w w' := by
 obtain ⟨W1, hW1, b1, hs1, q0, q1, q2⟩ := three_new w #[.int .i64 (s + n3), .int .i64 (e), .int .i64 (l)] #[.int .i64 k, .string t, .slice a1 n1 c1, .slice a2 n2 c2, .slice none 0 0, .slice none 0 0, .slice a5 n5 c5] #[.int .i64 0, .int .i64 0, .int .i64 0] 75 45 75
 have HA1 := hid q0
 have HC1 := hid q1
 have HR1 := hid q2
 have HB1 := hid b1
 obtain ⟨y0, y1, y2⟩ := three_box q0
 obtain ⟨z0, z1, z2, z3, z4, z5, z6⟩ := seven_box q1
 clear q0 q1 q2 b1
 have hw : IntKind.i64.wrap (s + (n3 : Int)) = s + (n3 : Int) := by rw [IntKind.wrap_i64]; omega
 go_enter func110, ntmps110
 have cB := fun W => bare_c k t a1 n1 c1 a2 n2 c2 none 0 0 none 0 0 a5 n5 c5 W
 obtain ⟨Z, hZ⟩ : ∃ Z, bare t n1 n2 0 0 n5 = Z := ⟨_, rfl⟩
 rw [hZ] at cB
 have HZ := hid hZ
 clear hZ
 go_wp2_with fail
 go_region_held3 (fun w' => w'.cell? ⟨w.heap.size, 0, none⟩ = some (.int .i64 (s + n3)) /\ w'.cell? ⟨w.heap.size, 1, none⟩ = some (.int .i64 (e)) /\ w'.cell? ⟨w.heap.size, 2, none⟩ = some (.int .i64 (l)) /\ w'.cell? ⟨w.heap.size + 1, 0, none⟩ = some (.int .i64 k) /\ w'.cell? ⟨w.heap.size + 1, 1, none⟩ = some (.string t) /\ w'.cell? ⟨w.heap.size + 1, 2, none⟩ = some (.slice a1 n1 c1) /\ w'.cell? ⟨w.heap.size + 1, 3, none⟩ = some (.slice a2 n2 c2) /\ w'.cell? ⟨w.heap.size + 1, 4, none⟩ = some (.slice none 0 0) /\ w'.cell? ⟨w.heap.size + 1, 5, none⟩ = some (.slice none 0 0) /\ w'.cell? ⟨w.heap.size + 1, 6, none⟩ = some (.slice a5 n5 c5)) (go_keep) (first | (go_at_call 148; refine (cB _).mono ?_; rintro x W7 ⟨rfl, b7⟩; have HB7 : Hid (Below w.heap.size w W7) := (HB1.out.trans (Below.refl _ W1).drew).trans (b7.mono HB1.out.size); have HA7 : Hid _ := (b7.block w.heap.size (show w.heap.size < W1.heap.size by omega)).trans HA1.out; have HC7 : Hid _ := (b7.block (w.heap.size + 1) (show w.heap.size + 1 < W1.heap.size by omega)).trans HC1.out; obtain ⟨u0, u1, u2⟩ := three_box HA7.out; obtain ⟨i0, i1, i2, i3, i4, i5, i6⟩ := seven_box HC7.out; have HR7 : Hid (W7.heap[w.heap.size + 1 + 1]? = some (.cells #[.int .i64 0, .int .i64 0, .int .i64 0] 75 (0, 0))) := (b7.block (w.heap.size + 1 + 1) (show w.heap.size + 1 + 1 < W1.heap.size by omega)).trans HR1.out; have xf0 := XBase.frozen_box HR7.out 0; have xf1 := XBase.frozen_box HR7.out 1; have xf2 := XBase.frozen_box HR7.out 2; obtain ⟨r0, r1, r2⟩ := three_box HR7.out; obtain ⟨W9, hW9⟩ : ∃ W9, ((W7.setCell ⟨w.heap.size + 1 + 1, 0, none⟩ (.int .i64 (s + n3))).setCell ⟨w.heap.size + 1 + 1, 1, none⟩ (.int .i64 (e))).setCell ⟨w.heap.size + 1 + 1, 2, none⟩ (.int .i64 (l)) = W9 := ⟨_, rfl⟩; obtain ⟨s1, s2, s3⟩ := set3 _ _ _ HR7.out hW9; obtain ⟨g0, g1, g2⟩ := three_box ((s3 w.heap.size (by omega)).trans HA7.out); obtain ⟨h0, h1, h2, h3, h4, h5, h6⟩ := seven_box ((s3 (w.heap.size + 1) (by omega)).trans HC7.out); obtain ⟨t0, t1, t2⟩ := three_box s1; have HB9 : Hid (Below w.heap.size w W9) := s2 _ _ (by omega) HB7.out; clear s1 s2 s3; clear b7) | fail)
 all_goals
  rename_i hHeld
  clear hHeld
  go_wp2_with fail
  refine bodyPost_ret (v := .tuple #[av (s + n3) (e) (l), .bool Z]) (by simp [results, results110, go_sem, t0, t1, t2]) rfl ?_
  exact ⟨by simp [HZ.out], HB9.out⟩
theorem condition_c {k : Int} {t : ByteArray} {a1 : Option Addr} {n1 c1 : Nat} {a2 : Option Addr} {n2 c2 : Nat} {a3 : Option Addr} {n3 c3 : Nat} {a4 : Option Addr} {n4 c4 : Nat} {a5 : Option Addr} {n5 c5 : Nat} {s e l : Int} {w : World}  :
  Calls prog 108 #[av s e l, cv k t a1 n1 c1 a2 n2 c2 a3 n3 c3 a4 n4 c4 a5 n5 c5] w fun x w' => x = .returned (.tuple #[av (s) (e) (l), .bool (((n3 : Int) == 1) && bare t n1 n2 0 0 0)]) /\ Below w.heap.size w w' := by
 obtain ⟨W1, hW1, b1, hs1, q0, q1, q2⟩ := three_new w #[.int .i64 (s), .int .i64 (e), .int .i64 (l)] #[.int .i64 k, .string t, .slice a1 n1 c1, .slice a2 n2 c2, .slice none 0 0, .slice none 0 0, .slice none 0 0] #[.int .i64 0, .int .i64 0, .int .i64 0] 75 45 75
 have HA1 := hid q0
 have HC1 := hid q1
 have HR1 := hid q2
 have HB1 := hid b1
 obtain ⟨y0, y1, y2⟩ := three_box q0
 obtain ⟨z0, z1, z2, z3, z4, z5, z6⟩ := seven_box q1
 clear q0 q1 q2 b1
 cases hf : ((n3 : Int) == 1) with
 | true =>
  go_enter func108, ntmps108
  have cB := fun W => bare_c k t a1 n1 c1 a2 n2 c2 none 0 0 none 0 0 none 0 0 W
  obtain ⟨Z, hZ⟩ : ∃ Z, bare t n1 n2 0 0 0 = Z := ⟨_, rfl⟩
  rw [hZ] at cB
  have HZ := hid hZ
  clear hZ
  go_wp2_with fail
  go_region_held3 (fun w' => w'.cell? ⟨w.heap.size, 0, none⟩ = some (.int .i64 (s)) /\ w'.cell? ⟨w.heap.size, 1, none⟩ = some (.int .i64 (e)) /\ w'.cell? ⟨w.heap.size, 2, none⟩ = some (.int .i64 (l)) /\ w'.cell? ⟨w.heap.size + 1, 0, none⟩ = some (.int .i64 k) /\ w'.cell? ⟨w.heap.size + 1, 1, none⟩ = some (.string t) /\ w'.cell? ⟨w.heap.size + 1, 2, none⟩ = some (.slice a1 n1 c1) /\ w'.cell? ⟨w.heap.size + 1, 3, none⟩ = some (.slice a2 n2 c2) /\ w'.cell? ⟨w.heap.size + 1, 4, none⟩ = some (.slice none 0 0) /\ w'.cell? ⟨w.heap.size + 1, 5, none⟩ = some (.slice none 0 0) /\ w'.cell? ⟨w.heap.size + 1, 6, none⟩ = some (.slice none 0 0)) (go_keep) (first | (go_at_call 148; refine (cB _).mono ?_; rintro x W7 ⟨rfl, b7⟩; have HB7 : Hid (Below w.heap.size w W7) := (HB1.out.trans (Below.refl _ W1).drew).trans (b7.mono HB1.out.size); have HA7 : Hid _ := (b7.block w.heap.size (show w.heap.size < W1.heap.size by omega)).trans HA1.out; have HC7 : Hid _ := (b7.block (w.heap.size + 1) (show w.heap.size + 1 < W1.heap.size by omega)).trans HC1.out; obtain ⟨u0, u1, u2⟩ := three_box HA7.out; obtain ⟨i0, i1, i2, i3, i4, i5, i6⟩ := seven_box HC7.out; have HR7 : Hid (W7.heap[w.heap.size + 1 + 1]? = some (.cells #[.int .i64 0, .int .i64 0, .int .i64 0] 75 (0, 0))) := (b7.block (w.heap.size + 1 + 1) (show w.heap.size + 1 + 1 < W1.heap.size by omega)).trans HR1.out; have xf0 := XBase.frozen_box HR7.out 0; have xf1 := XBase.frozen_box HR7.out 1; have xf2 := XBase.frozen_box HR7.out 2; obtain ⟨r0, r1, r2⟩ := three_box HR7.out; obtain ⟨W9, hW9⟩ : ∃ W9, ((W7.setCell ⟨w.heap.size + 1 + 1, 0, none⟩ (.int .i64 (s))).setCell ⟨w.heap.size + 1 + 1, 1, none⟩ (.int .i64 (e))).setCell ⟨w.heap.size + 1 + 1, 2, none⟩ (.int .i64 (l)) = W9 := ⟨_, rfl⟩; obtain ⟨s1, s2, s3⟩ := set3 _ _ _ HR7.out hW9; obtain ⟨g0, g1, g2⟩ := three_box ((s3 w.heap.size (by omega)).trans HA7.out); obtain ⟨h0, h1, h2, h3, h4, h5, h6⟩ := seven_box ((s3 (w.heap.size + 1) (by omega)).trans HC7.out); obtain ⟨t0, t1, t2⟩ := three_box s1; have HB9 : Hid (Below w.heap.size w W9) := s2 _ _ (by omega) HB7.out; clear s1 s2 s3; clear b7) | fail)
  all_goals
   rename_i hHeld
   clear hHeld
   go_wp2_with fail
   refine bodyPost_ret (v := .tuple #[av (s) (e) (l), .bool Z]) (by simp [results, results108, go_sem, t0, t1, t2]) rfl ?_
   exact ⟨by simp [HZ.out], HB9.out⟩
 | false =>
  go_enter func108, ntmps108
  go_wp2_with fail
  have HB7 := hid HB1.out
  have HA7 := hid HA1.out
  have HC7 := hid HC1.out
  have HR7 := hid HR1.out
  have xf0 := XBase.frozen_box HR7.out 0
  have xf1 := XBase.frozen_box HR7.out 1
  have xf2 := XBase.frozen_box HR7.out 2
  obtain ⟨r0, r1, r2⟩ := three_box HR7.out
  obtain ⟨W9, hW9⟩ := stc3 W1 (w.heap.size + 1 + 1) (.int .i64 (s)) (.int .i64 (e)) (.int .i64 (l))
  obtain ⟨s1, s2, s3⟩ := set3 _ _ _ HR7.out hW9
  obtain ⟨g0, g1, g2⟩ := three_box ((s3 w.heap.size (by omega)).trans HA7.out)
  obtain ⟨h0, h1, h2, h3, h4, h5, h6⟩ := seven_box ((s3 (w.heap.size + 1) (by omega)).trans HC7.out)
  obtain ⟨t0, t1, t2⟩ := three_box s1
  have HB9 := hid (s2 _ _ (by omega) HB7.out)
  clear s1 s2 s3
  go_region
  all_goals
   go_wp2_with fail
   refine bodyPost_ret (v := .tuple #[av (s) (e) (l), .bool false]) (by simp [results, results108, go_sem, t0, t1, t2]) rfl ?_
   refine ⟨by simp, ?_⟩
   exact HB9.out.trans (Below.refl _ W9).drew
theorem text_c {k : Int} {t : ByteArray} {a1 : Option Addr} {n1 c1 : Nat} {a2 : Option Addr} {n2 c2 : Nat} {a3 : Option Addr} {n3 c3 : Nat} {a4 : Option Addr} {n4 c4 : Nat} {a5 : Option Addr} {n5 c5 : Nat} {s e l : Int} {w : World} {S : Nat -> Prop} {r : Bool} {p : List Pt} (hp : RP r S w (.slice a2 n2 c2) p) :
  Calls prog 106 #[av s e l, cv k t a1 n1 c1 a2 n2 c2 a3 n3 c3 a4 n4 c4 a5 n5 c5] w fun x w' => x = .returned (.tuple #[av (s) (e) (l), .bool (KRo.prOk p && bare t n1 0 n3 n4 n5)]) /\ Below w.heap.size w w' := by
 obtain ⟨W1, hW1, b1, hs1, q0, q1, q2⟩ := three_new w #[.int .i64 (s), .int .i64 (e), .int .i64 (l)] #[.int .i64 k, .string t, .slice a1 n1 c1, .slice a2 n2 c2, .slice a3 n3 c3, .slice a4 n4 c4, .slice a5 n5 c5] #[.int .i64 0, .int .i64 0, .int .i64 0] 75 45 75
 have HA1 := hid q0
 have HC1 := hid q1
 have HR1 := hid q2
 have HB1 := hid b1
 obtain ⟨y0, y1, y2⟩ := three_box q0
 obtain ⟨z0, z1, z2, z3, z4, z5, z6⟩ := seven_box q1
 clear q0 q1 q2 b1
 have cP := KRo.parts_c (RP.keep (Keep.of_below HB1.out) hp)
 cases hf : KRo.prOk p with
 | true =>
  rw [hf] at cP
  clear hf
  go_enter func106, ntmps106
  go_wp2_with fail
  refine cP.mono ?_
  rintro x W2 ⟨rfl, b2⟩
  have HA2 := hid ((b2.block w.heap.size (show w.heap.size < W1.heap.size by omega)).trans HA1.out)
  have HC2 := hid ((b2.block (w.heap.size + 1) (show w.heap.size + 1 < W1.heap.size by omega)).trans HC1.out)
  have HR2 := hid ((b2.block (w.heap.size + 1 + 1) (show w.heap.size + 1 + 1 < W1.heap.size by omega)).trans HR1.out)
  have HB2 := hid (nx HB1.out b2)
  have hs2 := b2.size
  clear b2
  clear cP hW1 y0 y1 y2 z0 z1 z2 z3 z4 z5 z6
  obtain ⟨zz0, zz1, zz2, zz3, zz4, zz5, zz6⟩ := seven_box HC2.out
  have kf3 := XBase.frozen_box HC2.out 3
  obtain ⟨W3, hW3⟩ : ∃ W, (W2.setCell ⟨w.heap.size + 1, 3, none⟩ (.slice none 0 0)) = W := ⟨_, rfl⟩
  have HC3 : Hid (W3.heap[w.heap.size + 1]? = some (.cells #[.int .i64 k, .string t, .slice a1 n1 c1, .slice none 0 0, .slice a3 n3 c3, .slice a4 n4 c4, .slice a5 n5 c5] 45 (0, 0))) := by rw [<- hW3]; exact (heap_setCell_same _ _ _ _ _ _ HC2.out)
  have HA3 : Hid _ := (show W3.heap[w.heap.size]? = W2.heap[w.heap.size]? by rw [<- hW3]; iterate 1 rw [Below.heap_setCell _ _ _ _ (show w.heap.size ≠ w.heap.size + 1 by omega)]).trans HA2.out
  have HR3 : Hid _ := (show W3.heap[w.heap.size + 1 + 1]? = W2.heap[w.heap.size + 1 + 1]? by rw [<- hW3]; iterate 1 rw [Below.heap_setCell _ _ _ _ (show w.heap.size + 1 + 1 ≠ w.heap.size + 1 by omega)]).trans HR2.out
  have HB3 : Hid (Below w.heap.size w W3) := by rw [<- hW3]; exact (HB2.out.setCell (p := ⟨w.heap.size + 1, 3, none⟩) (show w.heap.size <= w.heap.size + 1 by omega) _)
  have hs3 : W3.heap.size = W2.heap.size := by rw [<- hW3]; simp [World.setCell]
  obtain ⟨y0, y1, y2⟩ := three_box HA3.out
  obtain ⟨z0, z1, z2, z3, z4, z5, z6⟩ := seven_box HC3.out
  have cB := fun W => bare_c k t a1 n1 c1 none 0 0 a3 n3 c3 a4 n4 c4 a5 n5 c5 W
  obtain ⟨Z, hZ⟩ : ∃ Z, bare t n1 0 n3 n4 n5 = Z := ⟨_, rfl⟩
  rw [hZ] at cB
  have HZ := hid hZ
  clear hZ
  go_wp2_with fail
  go_region_held3 (fun w' => w'.cell? ⟨w.heap.size, 0, none⟩ = some (.int .i64 (s)) /\ w'.cell? ⟨w.heap.size, 1, none⟩ = some (.int .i64 (e)) /\ w'.cell? ⟨w.heap.size, 2, none⟩ = some (.int .i64 (l)) /\ w'.cell? ⟨w.heap.size + 1, 0, none⟩ = some (.int .i64 k) /\ w'.cell? ⟨w.heap.size + 1, 1, none⟩ = some (.string t) /\ w'.cell? ⟨w.heap.size + 1, 2, none⟩ = some (.slice a1 n1 c1) /\ w'.cell? ⟨w.heap.size + 1, 3, none⟩ = some (.slice none 0 0) /\ w'.cell? ⟨w.heap.size + 1, 4, none⟩ = some (.slice a3 n3 c3) /\ w'.cell? ⟨w.heap.size + 1, 5, none⟩ = some (.slice a4 n4 c4) /\ w'.cell? ⟨w.heap.size + 1, 6, none⟩ = some (.slice a5 n5 c5)) (go_keep) (first | (go_at_call 148; refine (cB _).mono ?_; rintro x W7 ⟨rfl, b7⟩; have HB7 : Hid (Below w.heap.size w W7) := (HB3.out.trans (Below.refl _ W3).drew).trans (b7.mono HB3.out.size); have HA7 : Hid _ := (b7.block w.heap.size (show w.heap.size < W3.heap.size by omega)).trans HA3.out; have HC7 : Hid _ := (b7.block (w.heap.size + 1) (show w.heap.size + 1 < W3.heap.size by omega)).trans HC3.out; obtain ⟨u0, u1, u2⟩ := three_box HA7.out; obtain ⟨i0, i1, i2, i3, i4, i5, i6⟩ := seven_box HC7.out; have HR7 : Hid (W7.heap[w.heap.size + 1 + 1]? = some (.cells #[.int .i64 0, .int .i64 0, .int .i64 0] 75 (0, 0))) := (b7.block (w.heap.size + 1 + 1) (show w.heap.size + 1 + 1 < W3.heap.size by omega)).trans HR3.out; have xf0 := XBase.frozen_box HR7.out 0; have xf1 := XBase.frozen_box HR7.out 1; have xf2 := XBase.frozen_box HR7.out 2; obtain ⟨r0, r1, r2⟩ := three_box HR7.out; obtain ⟨W9, hW9⟩ : ∃ W9, ((W7.setCell ⟨w.heap.size + 1 + 1, 0, none⟩ (.int .i64 (s))).setCell ⟨w.heap.size + 1 + 1, 1, none⟩ (.int .i64 (e))).setCell ⟨w.heap.size + 1 + 1, 2, none⟩ (.int .i64 (l)) = W9 := ⟨_, rfl⟩; obtain ⟨s1, s2, s3⟩ := set3 _ _ _ HR7.out hW9; obtain ⟨g0, g1, g2⟩ := three_box ((s3 w.heap.size (by omega)).trans HA7.out); obtain ⟨h0, h1, h2, h3, h4, h5, h6⟩ := seven_box ((s3 (w.heap.size + 1) (by omega)).trans HC7.out); obtain ⟨t0, t1, t2⟩ := three_box s1; have HB9 : Hid (Below w.heap.size w W9) := s2 _ _ (by omega) HB7.out; clear s1 s2 s3; clear b7) | fail)
  all_goals
   rename_i hHeld
   clear hHeld
   go_wp2_with fail
   refine bodyPost_ret (v := .tuple #[av (s) (e) (l), .bool Z]) (by simp [results, results106, go_sem, t0, t1, t2]) rfl ?_
   exact ⟨by simp [HZ.out], HB9.out⟩
 | false =>
  rw [hf] at cP
  clear hf
  go_enter func106, ntmps106
  go_wp2_with fail
  refine cP.mono ?_
  rintro x W2 ⟨rfl, b2⟩
  have HA2 := hid ((b2.block w.heap.size (show w.heap.size < W1.heap.size by omega)).trans HA1.out)
  have HC2 := hid ((b2.block (w.heap.size + 1) (show w.heap.size + 1 < W1.heap.size by omega)).trans HC1.out)
  have HR2 := hid ((b2.block (w.heap.size + 1 + 1) (show w.heap.size + 1 + 1 < W1.heap.size by omega)).trans HR1.out)
  have HB2 := hid (nx HB1.out b2)
  have hs2 := b2.size
  clear b2
  clear cP hW1 y0 y1 y2 z0 z1 z2 z3 z4 z5 z6
  obtain ⟨zz0, zz1, zz2, zz3, zz4, zz5, zz6⟩ := seven_box HC2.out
  have kf3 := XBase.frozen_box HC2.out 3
  obtain ⟨W3, hW3⟩ : ∃ W, (W2.setCell ⟨w.heap.size + 1, 3, none⟩ (.slice none 0 0)) = W := ⟨_, rfl⟩
  have HC3 : Hid (W3.heap[w.heap.size + 1]? = some (.cells #[.int .i64 k, .string t, .slice a1 n1 c1, .slice none 0 0, .slice a3 n3 c3, .slice a4 n4 c4, .slice a5 n5 c5] 45 (0, 0))) := by rw [<- hW3]; exact (heap_setCell_same _ _ _ _ _ _ HC2.out)
  have HA3 : Hid _ := (show W3.heap[w.heap.size]? = W2.heap[w.heap.size]? by rw [<- hW3]; iterate 1 rw [Below.heap_setCell _ _ _ _ (show w.heap.size ≠ w.heap.size + 1 by omega)]).trans HA2.out
  have HR3 : Hid _ := (show W3.heap[w.heap.size + 1 + 1]? = W2.heap[w.heap.size + 1 + 1]? by rw [<- hW3]; iterate 1 rw [Below.heap_setCell _ _ _ _ (show w.heap.size + 1 + 1 ≠ w.heap.size + 1 by omega)]).trans HR2.out
  have HB3 : Hid (Below w.heap.size w W3) := by rw [<- hW3]; exact (HB2.out.setCell (p := ⟨w.heap.size + 1, 3, none⟩) (show w.heap.size <= w.heap.size + 1 by omega) _)
  have hs3 : W3.heap.size = W2.heap.size := by rw [<- hW3]; simp [World.setCell]
  obtain ⟨y0, y1, y2⟩ := three_box HA3.out
  obtain ⟨z0, z1, z2, z3, z4, z5, z6⟩ := seven_box HC3.out
  go_wp2_with fail
  have HB7 := hid HB3.out
  have HA7 := hid HA3.out
  have HC7 := hid HC3.out
  have HR7 := hid HR3.out
  have xf0 := XBase.frozen_box HR7.out 0
  have xf1 := XBase.frozen_box HR7.out 1
  have xf2 := XBase.frozen_box HR7.out 2
  obtain ⟨r0, r1, r2⟩ := three_box HR7.out
  obtain ⟨W9, hW9⟩ := stc3 W3 (w.heap.size + 1 + 1) (.int .i64 (s)) (.int .i64 (e)) (.int .i64 (l))
  obtain ⟨s1, s2, s3⟩ := set3 _ _ _ HR7.out hW9
  obtain ⟨g0, g1, g2⟩ := three_box ((s3 w.heap.size (by omega)).trans HA7.out)
  obtain ⟨h0, h1, h2, h3, h4, h5, h6⟩ := seven_box ((s3 (w.heap.size + 1) (by omega)).trans HC7.out)
  obtain ⟨t0, t1, t2⟩ := three_box s1
  have HB9 := hid (s2 _ _ (by omega) HB7.out)
  clear s1 s2 s3
  go_region
  all_goals
   go_wp2_with fail
   refine bodyPost_ret (v := .tuple #[av (s) (e) (l), .bool false]) (by simp [results, results106, go_sem, t0, t1, t2]) rfl ?_
   refine ⟨by simp, ?_⟩
   exact HB9.out.trans (Below.refl _ W9).drew
theorem element_c {k : Int} {t : ByteArray} {a1 : Option Addr} {n1 c1 : Nat} {a2 : Option Addr} {n2 c2 : Nat} {a3 : Option Addr} {n3 c3 : Nat} {a4 : Option Addr} {n4 c4 : Nat} {a5 : Option Addr} {n5 c5 : Nat} {s e l : Int} {w : World} {S : Nat -> Prop} {r : Bool} {f : List Fld} (hf : RF r S w (.slice a1 n1 c1) f) (he : 0 <= e /\ e <= 100000) (htt : t.size <= 140737488351232) :
  Calls prog 107 #[av s e l, cv k t a1 n1 c1 a2 n2 c2 a3 n3 c3 a4 n4 c4 a5 n5 c5] w fun x w' => x = .returned (.tuple #[av (s) (e + 1) (l), .bool ((UBase.word t 45 && KFd.fl1 none f) && bare ⟨#[]⟩ 0 n2 n3 0 n5)]) /\ Below w.heap.size w w' := by
 obtain ⟨W1, hW1, b1, hs1, q0, q1, q2⟩ := three_new w #[.int .i64 (s), .int .i64 (e + 1), .int .i64 (l)] #[.int .i64 k, .string t, .slice a1 n1 c1, .slice a2 n2 c2, .slice a3 n3 c3, .slice a4 n4 c4, .slice a5 n5 c5] #[.int .i64 0, .int .i64 0, .int .i64 0] 75 45 75
 have HA1 := hid q0
 have HC1 := hid q1
 have HR1 := hid q2
 have HB1 := hid b1
 obtain ⟨y0, y1, y2⟩ := three_box q0
 obtain ⟨z0, z1, z2, z3, z4, z5, z6⟩ := seven_box q1
 clear q0 q1 q2 b1
 have hw : IntKind.i64.wrap (e + 1) = e + 1 := by rw [IntKind.wrap_i64]; omega
 have cT := fun W => UWord.tag_c t (by omega) W
 have cP := KFd.fields_c (RF.keep (Keep.of_below HB1.out) hf)
 cases ht : UBase.word t 45 with
 | false =>
  rw [ht] at cT
  clear ht cP
  go_enter func107, ntmps107
  go_wp2_with fail
  refine (cT _).mono ?_
  rintro x W2 ⟨rfl, h2⟩
  obtain rfl := h2.symm
  clear cT hW1 y0 y1 y2 z0 z1 z2 z3 z4 z5 z6
  obtain ⟨zz0, zz1, zz2, zz3, zz4, zz5, zz6⟩ := seven_box HC1.out
  have kf1 := XBase.frozen_box HC1.out 1
  have kf2 := XBase.frozen_box HC1.out 2
  have kf5 := XBase.frozen_box HC1.out 5
  obtain ⟨W3, hW3⟩ : ∃ W, (((W1.setCell ⟨w.heap.size + 1, 1, none⟩ (.string ⟨#[]⟩)).setCell ⟨w.heap.size + 1, 2, none⟩ (.slice none 0 0)).setCell ⟨w.heap.size + 1, 5, none⟩ (.slice none 0 0)) = W := ⟨_, rfl⟩
  have HC3 : Hid (W3.heap[w.heap.size + 1]? = some (.cells #[.int .i64 k, .string ⟨#[]⟩, .slice none 0 0, .slice a2 n2 c2, .slice a3 n3 c3, .slice none 0 0, .slice a5 n5 c5] 45 (0, 0))) := by rw [<- hW3]; exact (heap_setCell_same _ _ _ _ _ _ (heap_setCell_same _ _ _ _ _ _ (heap_setCell_same _ _ _ _ _ _ HC1.out)))
  have HA3 : Hid _ := (show W3.heap[w.heap.size]? = W1.heap[w.heap.size]? by rw [<- hW3]; iterate 3 rw [Below.heap_setCell _ _ _ _ (show w.heap.size ≠ w.heap.size + 1 by omega)]).trans HA1.out
  have HR3 : Hid _ := (show W3.heap[w.heap.size + 1 + 1]? = W1.heap[w.heap.size + 1 + 1]? by rw [<- hW3]; iterate 3 rw [Below.heap_setCell _ _ _ _ (show w.heap.size + 1 + 1 ≠ w.heap.size + 1 by omega)]).trans HR1.out
  have HB3 : Hid (Below w.heap.size w W3) := by rw [<- hW3]; exact (((HB1.out.setCell (p := ⟨w.heap.size + 1, 1, none⟩) (show w.heap.size <= w.heap.size + 1 by omega) _).setCell (p := ⟨w.heap.size + 1, 2, none⟩) (show w.heap.size <= w.heap.size + 1 by omega) _).setCell (p := ⟨w.heap.size + 1, 5, none⟩) (show w.heap.size <= w.heap.size + 1 by omega) _)
  have hs3 : W3.heap.size = W1.heap.size := by rw [<- hW3]; simp [World.setCell]
  obtain ⟨y0, y1, y2⟩ := three_box HA3.out
  obtain ⟨z0, z1, z2, z3, z4, z5, z6⟩ := seven_box HC3.out
  go_wp2_with fail
  have HB7 := hid HB3.out
  have HA7 := hid HA3.out
  have HC7 := hid HC3.out
  have HR7 := hid HR3.out
  have xf0 := XBase.frozen_box HR7.out 0
  have xf1 := XBase.frozen_box HR7.out 1
  have xf2 := XBase.frozen_box HR7.out 2
  obtain ⟨r0, r1, r2⟩ := three_box HR7.out
  obtain ⟨W9, hW9⟩ := stc3 W3 (w.heap.size + 1 + 1) (.int .i64 (s)) (.int .i64 (e + 1)) (.int .i64 (l))
  obtain ⟨s1, s2, s3⟩ := set3 _ _ _ HR7.out hW9
  obtain ⟨g0, g1, g2⟩ := three_box ((s3 w.heap.size (by omega)).trans HA7.out)
  obtain ⟨h0, h1, h2, h3, h4, h5, h6⟩ := seven_box ((s3 (w.heap.size + 1) (by omega)).trans HC7.out)
  obtain ⟨t0, t1, t2⟩ := three_box s1
  have HB9 := hid (s2 _ _ (by omega) HB7.out)
  clear s1 s2 s3
  go_region
  all_goals
   go_wp2_with fail
   refine bodyPost_ret (v := .tuple #[av (s) (e + 1) (l), .bool false]) (by simp [results, results107, go_sem, t0, t1, t2]) rfl ?_
   refine ⟨by simp, ?_⟩
   exact HB9.out.trans (Below.refl _ W9).drew
 | true =>
  rw [ht] at cT
  cases hg : KFd.fl1 none f with
  | true =>
   rw [hg] at cP
   clear hg ht
   go_enter func107, ntmps107
   go_wp2_with fail
   refine (cT _).mono ?_
   rintro x W2 ⟨rfl, h2⟩
   obtain rfl := h2.symm
   go_wp2_with fail
   refine cP.mono ?_
   rintro x W2 ⟨rfl, b2⟩
   have HA2 := hid ((b2.block w.heap.size (show w.heap.size < W1.heap.size by omega)).trans HA1.out)
   have HC2 := hid ((b2.block (w.heap.size + 1) (show w.heap.size + 1 < W1.heap.size by omega)).trans HC1.out)
   have HR2 := hid ((b2.block (w.heap.size + 1 + 1) (show w.heap.size + 1 + 1 < W1.heap.size by omega)).trans HR1.out)
   have HB2 := hid (nx HB1.out b2)
   have hs2 := b2.size
   clear b2
   clear cP cT hW1 y0 y1 y2 z0 z1 z2 z3 z4 z5 z6
   obtain ⟨zz0, zz1, zz2, zz3, zz4, zz5, zz6⟩ := seven_box HC2.out
   have kf1 := XBase.frozen_box HC2.out 1
   have kf2 := XBase.frozen_box HC2.out 2
   have kf5 := XBase.frozen_box HC2.out 5
   obtain ⟨W3, hW3⟩ : ∃ W, (((W2.setCell ⟨w.heap.size + 1, 1, none⟩ (.string ⟨#[]⟩)).setCell ⟨w.heap.size + 1, 2, none⟩ (.slice none 0 0)).setCell ⟨w.heap.size + 1, 5, none⟩ (.slice none 0 0)) = W := ⟨_, rfl⟩
   have HC3 : Hid (W3.heap[w.heap.size + 1]? = some (.cells #[.int .i64 k, .string ⟨#[]⟩, .slice none 0 0, .slice a2 n2 c2, .slice a3 n3 c3, .slice none 0 0, .slice a5 n5 c5] 45 (0, 0))) := by rw [<- hW3]; exact (heap_setCell_same _ _ _ _ _ _ (heap_setCell_same _ _ _ _ _ _ (heap_setCell_same _ _ _ _ _ _ HC2.out)))
   have HA3 : Hid _ := (show W3.heap[w.heap.size]? = W2.heap[w.heap.size]? by rw [<- hW3]; iterate 3 rw [Below.heap_setCell _ _ _ _ (show w.heap.size ≠ w.heap.size + 1 by omega)]).trans HA2.out
   have HR3 : Hid _ := (show W3.heap[w.heap.size + 1 + 1]? = W2.heap[w.heap.size + 1 + 1]? by rw [<- hW3]; iterate 3 rw [Below.heap_setCell _ _ _ _ (show w.heap.size + 1 + 1 ≠ w.heap.size + 1 by omega)]).trans HR2.out
   have HB3 : Hid (Below w.heap.size w W3) := by rw [<- hW3]; exact (((HB2.out.setCell (p := ⟨w.heap.size + 1, 1, none⟩) (show w.heap.size <= w.heap.size + 1 by omega) _).setCell (p := ⟨w.heap.size + 1, 2, none⟩) (show w.heap.size <= w.heap.size + 1 by omega) _).setCell (p := ⟨w.heap.size + 1, 5, none⟩) (show w.heap.size <= w.heap.size + 1 by omega) _)
   have hs3 : W3.heap.size = W2.heap.size := by rw [<- hW3]; simp [World.setCell]
   obtain ⟨y0, y1, y2⟩ := three_box HA3.out
   obtain ⟨z0, z1, z2, z3, z4, z5, z6⟩ := seven_box HC3.out
   have cB := fun W => bare_c k ⟨#[]⟩ none 0 0 a2 n2 c2 a3 n3 c3 none 0 0 a5 n5 c5 W
   obtain ⟨Z, hZ⟩ : ∃ Z, bare ⟨#[]⟩ 0 n2 n3 0 n5 = Z := ⟨_, rfl⟩
   rw [hZ] at cB
   have HZ := hid hZ
   clear hZ
   go_wp2_with fail
   go_region_held3 (fun w' => w'.cell? ⟨w.heap.size, 0, none⟩ = some (.int .i64 (s)) /\ w'.cell? ⟨w.heap.size, 1, none⟩ = some (.int .i64 (e + 1)) /\ w'.cell? ⟨w.heap.size, 2, none⟩ = some (.int .i64 (l)) /\ w'.cell? ⟨w.heap.size + 1, 0, none⟩ = some (.int .i64 k) /\ w'.cell? ⟨w.heap.size + 1, 1, none⟩ = some (.string ⟨#[]⟩) /\ w'.cell? ⟨w.heap.size + 1, 2, none⟩ = some (.slice none 0 0) /\ w'.cell? ⟨w.heap.size + 1, 3, none⟩ = some (.slice a2 n2 c2) /\ w'.cell? ⟨w.heap.size + 1, 4, none⟩ = some (.slice a3 n3 c3) /\ w'.cell? ⟨w.heap.size + 1, 5, none⟩ = some (.slice none 0 0) /\ w'.cell? ⟨w.heap.size + 1, 6, none⟩ = some (.slice a5 n5 c5)) (go_keep) (first | (go_at_call 148; refine (cB _).mono ?_; rintro x W7 ⟨rfl, b7⟩; have HB7 : Hid (Below w.heap.size w W7) := (HB3.out.trans (Below.refl _ W3).drew).trans (b7.mono HB3.out.size); have HA7 : Hid _ := (b7.block w.heap.size (show w.heap.size < W3.heap.size by omega)).trans HA3.out; have HC7 : Hid _ := (b7.block (w.heap.size + 1) (show w.heap.size + 1 < W3.heap.size by omega)).trans HC3.out; obtain ⟨u0, u1, u2⟩ := three_box HA7.out; obtain ⟨i0, i1, i2, i3, i4, i5, i6⟩ := seven_box HC7.out; have HR7 : Hid (W7.heap[w.heap.size + 1 + 1]? = some (.cells #[.int .i64 0, .int .i64 0, .int .i64 0] 75 (0, 0))) := (b7.block (w.heap.size + 1 + 1) (show w.heap.size + 1 + 1 < W3.heap.size by omega)).trans HR3.out; have xf0 := XBase.frozen_box HR7.out 0; have xf1 := XBase.frozen_box HR7.out 1; have xf2 := XBase.frozen_box HR7.out 2; obtain ⟨r0, r1, r2⟩ := three_box HR7.out; obtain ⟨W9, hW9⟩ : ∃ W9, ((W7.setCell ⟨w.heap.size + 1 + 1, 0, none⟩ (.int .i64 (s))).setCell ⟨w.heap.size + 1 + 1, 1, none⟩ (.int .i64 (e + 1))).setCell ⟨w.heap.size + 1 + 1, 2, none⟩ (.int .i64 (l)) = W9 := ⟨_, rfl⟩; obtain ⟨s1, s2, s3⟩ := set3 _ _ _ HR7.out hW9; obtain ⟨g0, g1, g2⟩ := three_box ((s3 w.heap.size (by omega)).trans HA7.out); obtain ⟨h0, h1, h2, h3, h4, h5, h6⟩ := seven_box ((s3 (w.heap.size + 1) (by omega)).trans HC7.out); obtain ⟨t0, t1, t2⟩ := three_box s1; have HB9 : Hid (Below w.heap.size w W9) := s2 _ _ (by omega) HB7.out; clear s1 s2 s3; clear b7) | fail)
   all_goals
    rename_i hHeld
    clear hHeld
    go_wp2_with fail
    refine bodyPost_ret (v := .tuple #[av (s) (e + 1) (l), .bool Z]) (by simp [results, results107, go_sem, t0, t1, t2]) rfl ?_
    exact ⟨by simp [HZ.out], HB9.out⟩
  | false =>
   rw [hg] at cP
   clear hg ht
   go_enter func107, ntmps107
   go_wp2_with fail
   refine (cT _).mono ?_
   rintro x W2 ⟨rfl, h2⟩
   obtain rfl := h2.symm
   go_wp2_with fail
   refine cP.mono ?_
   rintro x W2 ⟨rfl, b2⟩
   have HA2 := hid ((b2.block w.heap.size (show w.heap.size < W1.heap.size by omega)).trans HA1.out)
   have HC2 := hid ((b2.block (w.heap.size + 1) (show w.heap.size + 1 < W1.heap.size by omega)).trans HC1.out)
   have HR2 := hid ((b2.block (w.heap.size + 1 + 1) (show w.heap.size + 1 + 1 < W1.heap.size by omega)).trans HR1.out)
   have HB2 := hid (nx HB1.out b2)
   have hs2 := b2.size
   clear b2
   clear cP cT hW1 y0 y1 y2 z0 z1 z2 z3 z4 z5 z6
   obtain ⟨zz0, zz1, zz2, zz3, zz4, zz5, zz6⟩ := seven_box HC2.out
   have kf1 := XBase.frozen_box HC2.out 1
   have kf2 := XBase.frozen_box HC2.out 2
   have kf5 := XBase.frozen_box HC2.out 5
   obtain ⟨W3, hW3⟩ : ∃ W, (((W2.setCell ⟨w.heap.size + 1, 1, none⟩ (.string ⟨#[]⟩)).setCell ⟨w.heap.size + 1, 2, none⟩ (.slice none 0 0)).setCell ⟨w.heap.size + 1, 5, none⟩ (.slice none 0 0)) = W := ⟨_, rfl⟩
   have HC3 : Hid (W3.heap[w.heap.size + 1]? = some (.cells #[.int .i64 k, .string ⟨#[]⟩, .slice none 0 0, .slice a2 n2 c2, .slice a3 n3 c3, .slice none 0 0, .slice a5 n5 c5] 45 (0, 0))) := by rw [<- hW3]; exact (heap_setCell_same _ _ _ _ _ _ (heap_setCell_same _ _ _ _ _ _ (heap_setCell_same _ _ _ _ _ _ HC2.out)))
   have HA3 : Hid _ := (show W3.heap[w.heap.size]? = W2.heap[w.heap.size]? by rw [<- hW3]; iterate 3 rw [Below.heap_setCell _ _ _ _ (show w.heap.size ≠ w.heap.size + 1 by omega)]).trans HA2.out
   have HR3 : Hid _ := (show W3.heap[w.heap.size + 1 + 1]? = W2.heap[w.heap.size + 1 + 1]? by rw [<- hW3]; iterate 3 rw [Below.heap_setCell _ _ _ _ (show w.heap.size + 1 + 1 ≠ w.heap.size + 1 by omega)]).trans HR2.out
   have HB3 : Hid (Below w.heap.size w W3) := by rw [<- hW3]; exact (((HB2.out.setCell (p := ⟨w.heap.size + 1, 1, none⟩) (show w.heap.size <= w.heap.size + 1 by omega) _).setCell (p := ⟨w.heap.size + 1, 2, none⟩) (show w.heap.size <= w.heap.size + 1 by omega) _).setCell (p := ⟨w.heap.size + 1, 5, none⟩) (show w.heap.size <= w.heap.size + 1 by omega) _)
   have hs3 : W3.heap.size = W2.heap.size := by rw [<- hW3]; simp [World.setCell]
   obtain ⟨y0, y1, y2⟩ := three_box HA3.out
   obtain ⟨z0, z1, z2, z3, z4, z5, z6⟩ := seven_box HC3.out
   go_wp2_with fail
   have HB7 := hid HB3.out
   have HA7 := hid HA3.out
   have HC7 := hid HC3.out
   have HR7 := hid HR3.out
   have xf0 := XBase.frozen_box HR7.out 0
   have xf1 := XBase.frozen_box HR7.out 1
   have xf2 := XBase.frozen_box HR7.out 2
   obtain ⟨r0, r1, r2⟩ := three_box HR7.out
   obtain ⟨W9, hW9⟩ := stc3 W3 (w.heap.size + 1 + 1) (.int .i64 (s)) (.int .i64 (e + 1)) (.int .i64 (l))
   obtain ⟨s1, s2, s3⟩ := set3 _ _ _ HR7.out hW9
   obtain ⟨g0, g1, g2⟩ := three_box ((s3 w.heap.size (by omega)).trans HA7.out)
   obtain ⟨h0, h1, h2, h3, h4, h5, h6⟩ := seven_box ((s3 (w.heap.size + 1) (by omega)).trans HC7.out)
   obtain ⟨t0, t1, t2⟩ := three_box s1
   have HB9 := hid (s2 _ _ (by omega) HB7.out)
   clear s1 s2 s3
   go_region
   all_goals
    go_wp2_with fail
    refine bodyPost_ret (v := .tuple #[av (s) (e + 1) (l), .bool false]) (by simp [results, results107, go_sem, t0, t1, t2]) rfl ?_
    refine ⟨by simp, ?_⟩
    exact HB9.out.trans (Below.refl _ W9).drew
theorem loop_c {k : Int} {t : ByteArray} {a1 : Option Addr} {n1 c1 : Nat} {a2 : Option Addr} {n2 c2 : Nat} {a3 : Option Addr} {n3 c3 : Nat} {a4 : Option Addr} {n4 c4 : Nat} {a5 : Option Addr} {n5 c5 : Nat} {s e l : Int} {w : World} {kk : Int} (hk : n4 = 1 -> ∃ g o, a4 = some ⟨g, o, none⟩ /\ w.cell? ⟨g, o, none⟩ = some (.int .i64 kk)) (hs : 0 <= s /\ s <= 100000) (hl : 0 <= l /\ l <= 100000) (hc4 : n4 <= c4) :
  Calls prog 109 #[av s e l, cv k t a1 n1 c1 a2 n2 c2 a3 n3 c3 a4 n4 c4 a5 n5 c5] w fun x w' => x = .returned (.tuple #[av (s + 2) (e) (l + 1), .bool ((((n3 : Int) == 2) && (((n4 : Int) == 1) && (kk == 2))) && bare t n1 n2 0 0 n5)]) /\ Below w.heap.size w w' := by
 obtain ⟨W1, hW1, b1, hs1, q0, q1, q2⟩ := three_new w #[.int .i64 (s + 2), .int .i64 (e), .int .i64 (l + 1)] #[.int .i64 k, .string t, .slice a1 n1 c1, .slice a2 n2 c2, .slice a3 n3 c3, .slice a4 n4 c4, .slice a5 n5 c5] #[.int .i64 0, .int .i64 0, .int .i64 0] 75 45 75
 have HA1 := hid q0
 have HC1 := hid q1
 have HR1 := hid q2
 have HB1 := hid b1
 obtain ⟨y0, y1, y2⟩ := three_box q0
 obtain ⟨z0, z1, z2, z3, z4, z5, z6⟩ := seven_box q1
 clear q0 q1 q2 b1
 have hw : IntKind.i64.wrap (l + 1) = l + 1 := by rw [IntKind.wrap_i64]; omega
 have hw2 : IntKind.i64.wrap (s + 2) = s + 2 := by rw [IntKind.wrap_i64]; omega
 cases h1 : ((n3 : Int) == 2) with
 | false =>
  go_enter func109, ntmps109
  obtain ⟨zz0, zz1, zz2, zz3, zz4, zz5, zz6⟩ := seven_box HC1.out
  have kf4 := XBase.frozen_box HC1.out 4
  have kf5 := XBase.frozen_box HC1.out 5
  obtain ⟨W3, hW3⟩ : ∃ W, ((W1.setCell ⟨w.heap.size + 1, 4, none⟩ (.slice none 0 0)).setCell ⟨w.heap.size + 1, 5, none⟩ (.slice none 0 0)) = W := ⟨_, rfl⟩
  have HC3 : Hid (W3.heap[w.heap.size + 1]? = some (.cells #[.int .i64 k, .string t, .slice a1 n1 c1, .slice a2 n2 c2, .slice none 0 0, .slice none 0 0, .slice a5 n5 c5] 45 (0, 0))) := by rw [<- hW3]; exact (heap_setCell_same _ _ _ _ _ _ (heap_setCell_same _ _ _ _ _ _ HC1.out))
  have HA3 : Hid _ := (show W3.heap[w.heap.size]? = W1.heap[w.heap.size]? by rw [<- hW3]; iterate 2 rw [Below.heap_setCell _ _ _ _ (show w.heap.size ≠ w.heap.size + 1 by omega)]).trans HA1.out
  have HR3 : Hid _ := (show W3.heap[w.heap.size + 1 + 1]? = W1.heap[w.heap.size + 1 + 1]? by rw [<- hW3]; iterate 2 rw [Below.heap_setCell _ _ _ _ (show w.heap.size + 1 + 1 ≠ w.heap.size + 1 by omega)]).trans HR1.out
  have HB3 : Hid (Below w.heap.size w W3) := by rw [<- hW3]; exact ((HB1.out.setCell (p := ⟨w.heap.size + 1, 4, none⟩) (show w.heap.size <= w.heap.size + 1 by omega) _).setCell (p := ⟨w.heap.size + 1, 5, none⟩) (show w.heap.size <= w.heap.size + 1 by omega) _)
  have hs3 : W3.heap.size = W1.heap.size := by rw [<- hW3]; simp [World.setCell]
  obtain ⟨y0, y1, y2⟩ := three_box HA3.out
  obtain ⟨z0, z1, z2, z3, z4, z5, z6⟩ := seven_box HC3.out
  go_wp2_with fail
  have HB7 := hid HB3.out
  have HA7 := hid HA3.out
  have HC7 := hid HC3.out
  have HR7 := hid HR3.out
  have xf0 := XBase.frozen_box HR7.out 0
  have xf1 := XBase.frozen_box HR7.out 1
  have xf2 := XBase.frozen_box HR7.out 2
  obtain ⟨r0, r1, r2⟩ := three_box HR7.out
  obtain ⟨W9, hW9⟩ := stc3 W3 (w.heap.size + 1 + 1) (.int .i64 (s + 2)) (.int .i64 (e)) (.int .i64 (l + 1))
  obtain ⟨s1, s2, s3⟩ := set3 _ _ _ HR7.out hW9
  obtain ⟨g0, g1, g2⟩ := three_box ((s3 w.heap.size (by omega)).trans HA7.out)
  obtain ⟨h0, h1, h2, h3, h4, h5, h6⟩ := seven_box ((s3 (w.heap.size + 1) (by omega)).trans HC7.out)
  obtain ⟨t0, t1, t2⟩ := three_box s1
  have HB9 := hid (s2 _ _ (by omega) HB7.out)
  clear s1 s2 s3
  go_region
  all_goals
   go_wp2_with fail
   refine bodyPost_ret (v := .tuple #[av (s + 2) (e) (l + 1), .bool false]) (by simp [results, results109, go_sem, t0, t1, t2]) rfl ?_
   refine ⟨by simp, ?_⟩
   exact HB9.out.trans (Below.refl _ W9).drew
 | true =>
  cases h2 : ((n4 : Int) == 1) with
  | false =>
   go_enter func109, ntmps109
   obtain ⟨zz0, zz1, zz2, zz3, zz4, zz5, zz6⟩ := seven_box HC1.out
   have kf4 := XBase.frozen_box HC1.out 4
   have kf5 := XBase.frozen_box HC1.out 5
   obtain ⟨W3, hW3⟩ : ∃ W, ((W1.setCell ⟨w.heap.size + 1, 4, none⟩ (.slice none 0 0)).setCell ⟨w.heap.size + 1, 5, none⟩ (.slice none 0 0)) = W := ⟨_, rfl⟩
   have HC3 : Hid (W3.heap[w.heap.size + 1]? = some (.cells #[.int .i64 k, .string t, .slice a1 n1 c1, .slice a2 n2 c2, .slice none 0 0, .slice none 0 0, .slice a5 n5 c5] 45 (0, 0))) := by rw [<- hW3]; exact (heap_setCell_same _ _ _ _ _ _ (heap_setCell_same _ _ _ _ _ _ HC1.out))
   have HA3 : Hid _ := (show W3.heap[w.heap.size]? = W1.heap[w.heap.size]? by rw [<- hW3]; iterate 2 rw [Below.heap_setCell _ _ _ _ (show w.heap.size ≠ w.heap.size + 1 by omega)]).trans HA1.out
   have HR3 : Hid _ := (show W3.heap[w.heap.size + 1 + 1]? = W1.heap[w.heap.size + 1 + 1]? by rw [<- hW3]; iterate 2 rw [Below.heap_setCell _ _ _ _ (show w.heap.size + 1 + 1 ≠ w.heap.size + 1 by omega)]).trans HR1.out
   have HB3 : Hid (Below w.heap.size w W3) := by rw [<- hW3]; exact ((HB1.out.setCell (p := ⟨w.heap.size + 1, 4, none⟩) (show w.heap.size <= w.heap.size + 1 by omega) _).setCell (p := ⟨w.heap.size + 1, 5, none⟩) (show w.heap.size <= w.heap.size + 1 by omega) _)
   have hs3 : W3.heap.size = W1.heap.size := by rw [<- hW3]; simp [World.setCell]
   obtain ⟨y0, y1, y2⟩ := three_box HA3.out
   obtain ⟨z0, z1, z2, z3, z4, z5, z6⟩ := seven_box HC3.out
   go_wp2_with fail
   have HB7 := hid HB3.out
   have HA7 := hid HA3.out
   have HC7 := hid HC3.out
   have HR7 := hid HR3.out
   have xf0 := XBase.frozen_box HR7.out 0
   have xf1 := XBase.frozen_box HR7.out 1
   have xf2 := XBase.frozen_box HR7.out 2
   obtain ⟨r0, r1, r2⟩ := three_box HR7.out
   obtain ⟨W9, hW9⟩ := stc3 W3 (w.heap.size + 1 + 1) (.int .i64 (s + 2)) (.int .i64 (e)) (.int .i64 (l + 1))
   obtain ⟨s1, s2, s3⟩ := set3 _ _ _ HR7.out hW9
   obtain ⟨g0, g1, g2⟩ := three_box ((s3 w.heap.size (by omega)).trans HA7.out)
   obtain ⟨h0, h1, h2, h3, h4, h5, h6⟩ := seven_box ((s3 (w.heap.size + 1) (by omega)).trans HC7.out)
   obtain ⟨t0, t1, t2⟩ := three_box s1
   have HB9 := hid (s2 _ _ (by omega) HB7.out)
   clear s1 s2 s3
   go_region
   all_goals
    go_wp2_with fail
    refine bodyPost_ret (v := .tuple #[av (s + 2) (e) (l + 1), .bool false]) (by simp [results, results109, go_sem, t0, t1, t2]) rfl ?_
    refine ⟨by simp, ?_⟩
    exact HB9.out.trans (Below.refl _ W9).drew
  | true =>
   obtain ⟨g, o, rfl, hc⟩ := hk (by have := h2; simp at this; omega)
   have hc1 := below_cell hc HB1.out
   have hn1 : n4 = 1 := by have := h2; simp at this; omega
   subst hn1
   clear hk
   cases h3 : (kk == 2) with
   | true =>
    go_enter func109, ntmps109
    obtain ⟨zz0, zz1, zz2, zz3, zz4, zz5, zz6⟩ := seven_box HC1.out
    have kf4 := XBase.frozen_box HC1.out 4
    have kf5 := XBase.frozen_box HC1.out 5
    obtain ⟨W3, hW3⟩ : ∃ W, ((W1.setCell ⟨w.heap.size + 1, 4, none⟩ (.slice none 0 0)).setCell ⟨w.heap.size + 1, 5, none⟩ (.slice none 0 0)) = W := ⟨_, rfl⟩
    have HC3 : Hid (W3.heap[w.heap.size + 1]? = some (.cells #[.int .i64 k, .string t, .slice a1 n1 c1, .slice a2 n2 c2, .slice none 0 0, .slice none 0 0, .slice a5 n5 c5] 45 (0, 0))) := by rw [<- hW3]; exact (heap_setCell_same _ _ _ _ _ _ (heap_setCell_same _ _ _ _ _ _ HC1.out))
    have HA3 : Hid _ := (show W3.heap[w.heap.size]? = W1.heap[w.heap.size]? by rw [<- hW3]; iterate 2 rw [Below.heap_setCell _ _ _ _ (show w.heap.size ≠ w.heap.size + 1 by omega)]).trans HA1.out
    have HR3 : Hid _ := (show W3.heap[w.heap.size + 1 + 1]? = W1.heap[w.heap.size + 1 + 1]? by rw [<- hW3]; iterate 2 rw [Below.heap_setCell _ _ _ _ (show w.heap.size + 1 + 1 ≠ w.heap.size + 1 by omega)]).trans HR1.out
    have HB3 : Hid (Below w.heap.size w W3) := by rw [<- hW3]; exact ((HB1.out.setCell (p := ⟨w.heap.size + 1, 4, none⟩) (show w.heap.size <= w.heap.size + 1 by omega) _).setCell (p := ⟨w.heap.size + 1, 5, none⟩) (show w.heap.size <= w.heap.size + 1 by omega) _)
    have hs3 : W3.heap.size = W1.heap.size := by rw [<- hW3]; simp [World.setCell]
    obtain ⟨y0, y1, y2⟩ := three_box HA3.out
    obtain ⟨z0, z1, z2, z3, z4, z5, z6⟩ := seven_box HC3.out
    have cB := fun W => bare_c k t a1 n1 c1 a2 n2 c2 none 0 0 none 0 0 a5 n5 c5 W
    obtain ⟨Z, hZ⟩ : ∃ Z, bare t n1 n2 0 0 n5 = Z := ⟨_, rfl⟩
    rw [hZ] at cB
    have HZ := hid hZ
    clear hZ
    go_wp2_with fail
    go_region_held3 (fun w' => w'.cell? ⟨w.heap.size, 0, none⟩ = some (.int .i64 (s + 2)) /\ w'.cell? ⟨w.heap.size, 1, none⟩ = some (.int .i64 (e)) /\ w'.cell? ⟨w.heap.size, 2, none⟩ = some (.int .i64 (l + 1)) /\ w'.cell? ⟨w.heap.size + 1, 0, none⟩ = some (.int .i64 k) /\ w'.cell? ⟨w.heap.size + 1, 1, none⟩ = some (.string t) /\ w'.cell? ⟨w.heap.size + 1, 2, none⟩ = some (.slice a1 n1 c1) /\ w'.cell? ⟨w.heap.size + 1, 3, none⟩ = some (.slice a2 n2 c2) /\ w'.cell? ⟨w.heap.size + 1, 4, none⟩ = some (.slice none 0 0) /\ w'.cell? ⟨w.heap.size + 1, 5, none⟩ = some (.slice none 0 0) /\ w'.cell? ⟨w.heap.size + 1, 6, none⟩ = some (.slice a5 n5 c5)) (go_keep) (first | (go_at_call 148; refine (cB _).mono ?_; rintro x W7 ⟨rfl, b7⟩; have HB7 : Hid (Below w.heap.size w W7) := (HB3.out.trans (Below.refl _ W3).drew).trans (b7.mono HB3.out.size); have HA7 : Hid _ := (b7.block w.heap.size (show w.heap.size < W3.heap.size by omega)).trans HA3.out; have HC7 : Hid _ := (b7.block (w.heap.size + 1) (show w.heap.size + 1 < W3.heap.size by omega)).trans HC3.out; obtain ⟨u0, u1, u2⟩ := three_box HA7.out; obtain ⟨i0, i1, i2, i3, i4, i5, i6⟩ := seven_box HC7.out; have HR7 : Hid (W7.heap[w.heap.size + 1 + 1]? = some (.cells #[.int .i64 0, .int .i64 0, .int .i64 0] 75 (0, 0))) := (b7.block (w.heap.size + 1 + 1) (show w.heap.size + 1 + 1 < W3.heap.size by omega)).trans HR3.out; have xf0 := XBase.frozen_box HR7.out 0; have xf1 := XBase.frozen_box HR7.out 1; have xf2 := XBase.frozen_box HR7.out 2; obtain ⟨r0, r1, r2⟩ := three_box HR7.out; obtain ⟨W9, hW9⟩ : ∃ W9, ((W7.setCell ⟨w.heap.size + 1 + 1, 0, none⟩ (.int .i64 (s + 2))).setCell ⟨w.heap.size + 1 + 1, 1, none⟩ (.int .i64 (e))).setCell ⟨w.heap.size + 1 + 1, 2, none⟩ (.int .i64 (l + 1)) = W9 := ⟨_, rfl⟩; obtain ⟨s1, s2, s3⟩ := set3 _ _ _ HR7.out hW9; obtain ⟨g0, g1, g2⟩ := three_box ((s3 w.heap.size (by omega)).trans HA7.out); obtain ⟨h0, h1, h2, h3, h4, h5, h6⟩ := seven_box ((s3 (w.heap.size + 1) (by omega)).trans HC7.out); obtain ⟨t0, t1, t2⟩ := three_box s1; have HB9 : Hid (Below w.heap.size w W9) := s2 _ _ (by omega) HB7.out; clear s1 s2 s3; clear b7) | fail)
    all_goals
     rename_i hHeld
     clear hHeld
     go_wp2_with fail
     refine bodyPost_ret (v := .tuple #[av (s + 2) (e) (l + 1), .bool Z]) (by simp [results, results109, go_sem, t0, t1, t2]) rfl ?_
     exact ⟨by simp [HZ.out], HB9.out⟩
   | false =>
    go_enter func109, ntmps109
    obtain ⟨zz0, zz1, zz2, zz3, zz4, zz5, zz6⟩ := seven_box HC1.out
    have kf4 := XBase.frozen_box HC1.out 4
    have kf5 := XBase.frozen_box HC1.out 5
    obtain ⟨W3, hW3⟩ : ∃ W, ((W1.setCell ⟨w.heap.size + 1, 4, none⟩ (.slice none 0 0)).setCell ⟨w.heap.size + 1, 5, none⟩ (.slice none 0 0)) = W := ⟨_, rfl⟩
    have HC3 : Hid (W3.heap[w.heap.size + 1]? = some (.cells #[.int .i64 k, .string t, .slice a1 n1 c1, .slice a2 n2 c2, .slice none 0 0, .slice none 0 0, .slice a5 n5 c5] 45 (0, 0))) := by rw [<- hW3]; exact (heap_setCell_same _ _ _ _ _ _ (heap_setCell_same _ _ _ _ _ _ HC1.out))
    have HA3 : Hid _ := (show W3.heap[w.heap.size]? = W1.heap[w.heap.size]? by rw [<- hW3]; iterate 2 rw [Below.heap_setCell _ _ _ _ (show w.heap.size ≠ w.heap.size + 1 by omega)]).trans HA1.out
    have HR3 : Hid _ := (show W3.heap[w.heap.size + 1 + 1]? = W1.heap[w.heap.size + 1 + 1]? by rw [<- hW3]; iterate 2 rw [Below.heap_setCell _ _ _ _ (show w.heap.size + 1 + 1 ≠ w.heap.size + 1 by omega)]).trans HR1.out
    have HB3 : Hid (Below w.heap.size w W3) := by rw [<- hW3]; exact ((HB1.out.setCell (p := ⟨w.heap.size + 1, 4, none⟩) (show w.heap.size <= w.heap.size + 1 by omega) _).setCell (p := ⟨w.heap.size + 1, 5, none⟩) (show w.heap.size <= w.heap.size + 1 by omega) _)
    have hs3 : W3.heap.size = W1.heap.size := by rw [<- hW3]; simp [World.setCell]
    obtain ⟨y0, y1, y2⟩ := three_box HA3.out
    obtain ⟨z0, z1, z2, z3, z4, z5, z6⟩ := seven_box HC3.out
    go_wp2_with fail
    have HB7 := hid HB3.out
    have HA7 := hid HA3.out
    have HC7 := hid HC3.out
    have HR7 := hid HR3.out
    have xf0 := XBase.frozen_box HR7.out 0
    have xf1 := XBase.frozen_box HR7.out 1
    have xf2 := XBase.frozen_box HR7.out 2
    obtain ⟨r0, r1, r2⟩ := three_box HR7.out
    obtain ⟨W9, hW9⟩ := stc3 W3 (w.heap.size + 1 + 1) (.int .i64 (s + 2)) (.int .i64 (e)) (.int .i64 (l + 1))
    obtain ⟨s1, s2, s3⟩ := set3 _ _ _ HR7.out hW9
    obtain ⟨g0, g1, g2⟩ := three_box ((s3 w.heap.size (by omega)).trans HA7.out)
    obtain ⟨h0, h1, h2, h3, h4, h5, h6⟩ := seven_box ((s3 (w.heap.size + 1) (by omega)).trans HC7.out)
    obtain ⟨t0, t1, t2⟩ := three_box s1
    have HB9 := hid (s2 _ _ (by omega) HB7.out)
    clear s1 s2 s3
    go_region
    all_goals
     go_wp2_with fail
     refine bodyPost_ret (v := .tuple #[av (s + 2) (e) (l + 1), .bool false]) (by simp [results, results109, go_sem, t0, t1, t2]) rfl ?_
     refine ⟨by simp, ?_⟩
     exact HB9.out.trans (Below.refl _ W9).drew
end Go.Proofs.YtiijfmdfccdagaaGreatDoor.KAk

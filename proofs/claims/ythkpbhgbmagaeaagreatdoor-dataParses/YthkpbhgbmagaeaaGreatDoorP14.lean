import Derived.Deep.RegionHeld3
import Derived.Deep.RegionWith
import Derived.Test.YthkpbhgbmagaeaaGreatDoorP12
import Derived.Test.YthkpbhgbmagaeaaGreatDoorP13
namespace Go.Proofs.YthkpbhgbmagaeaaGreatDoor.WVal
open Go.RowKit Go.Proofs.YthkpbhgbmagaeaaGreatDoor.Base Go.Proofs.YthkpbhgbmagaeaaGreatDoor.UBase Go.Proofs.YthkpbhgbmagaeaaGreatDoor.Spec Go.Proofs.YthkpbhgbmagaeaaGreatDoor.Byts Go.Proofs.YthkpbhgbmagaeaaGreatDoor.WPk Go.Proofs.YthkpbhgbmagaeaaGreatDoor.WTx Go.Proofs.YthkpbhgbmagaeaaGreatDoor.WRow Go.Proofs.YthkpbhgbmagaeaaGreatDoor.Digits
set_option linter.unusedVariables false
set_option maxRecDepth 20000 in
set_option maxHeartbeats 800000 in
theorem wnull_c {B : Nat} {w1 W : World} {v : Value} {L : List UInt8} {b : Bool} {i : Int} {s : ByteArray} {nv lv : Value} (hp : Pk B w1 W v L []) (hl : L.length ≤ 100000000000) :
  Calls Tryz.prog 35 #[v, .agg #[.int .i64 1, .bool b, .int .i64 i, .string s, nv, lv]] W fun e W' => ∃ v', e = .returned v' ∧ Pk B w1 W' v' (L ++ [110, 117, 108, 108]) [] := by
 have hq : Pk B w1 (W.alloc (.cells #[.int .i64 1, .bool b, .int .i64 i, .string s, nv, lv] 27)) v L [] := hp.below bx
 obtain ⟨a0, n0, c0, rfl⟩ := hp.shape
 clear hp
 go_enter Tryz.func35, Tryz.ntmps35
 go_wp2_with (first | (at_builtin; refine list_text rfl _ _ rfl hq rfl ⟨#[110, 117, 108, 108]⟩ rfl (by show _ + 4 ≤ _; omega) ?_))
 intro v2 W2 hp2
 have HP2 : Hid (Pk B w1 W2 v2 (L ++ [110, 117, 108, 108]) []) := hp2
 clear hq
 obtain ⟨a2, n2, c2, rfl⟩ := hp2.shape
 clear hp2
 go_wp2_with fail
 go_ret
 exact ⟨_, rfl, HP2.out⟩
set_option maxRecDepth 20000 in
set_option maxHeartbeats 800000 in
theorem wtrue_c {B : Nat} {w1 W : World} {v : Value} {L : List UInt8} {b : Bool} {i : Int} {s : ByteArray} {nv lv : Value} (hp : Pk B w1 W v L []) (hl : L.length ≤ 100000000000) :
  Calls Tryz.prog 35 #[v, .agg #[.int .i64 2, .bool true, .int .i64 i, .string s, nv, lv]] W fun e W' => ∃ v', e = .returned v' ∧ Pk B w1 W' v' (L ++ [116, 114, 117, 101]) [] := by
 have hq : Pk B w1 (W.alloc (.cells #[.int .i64 2, .bool true, .int .i64 i, .string s, nv, lv] 27)) v L [] := hp.below bx
 obtain ⟨a0, n0, c0, rfl⟩ := hp.shape
 clear hp
 go_enter Tryz.func35, Tryz.ntmps35
 go_wp2_with (first | (at_builtin; refine list_text rfl _ _ rfl hq rfl ⟨#[116, 114, 117, 101]⟩ rfl (by show _ + 4 ≤ _; omega) ?_))
 intro v2 W2 hp2
 have HP2 : Hid (Pk B w1 W2 v2 (L ++ [116, 114, 117, 101]) []) := hp2
 clear hq
 obtain ⟨a2, n2, c2, rfl⟩ := hp2.shape
 clear hp2
 go_wp2_with fail
 go_ret
 exact ⟨_, rfl, HP2.out⟩
set_option maxRecDepth 20000 in
set_option maxHeartbeats 800000 in
theorem wfalse_c {B : Nat} {w1 W : World} {v : Value} {L : List UInt8} {b : Bool} {i : Int} {s : ByteArray} {nv lv : Value} (hp : Pk B w1 W v L []) (hl : L.length ≤ 100000000000) :
  Calls Tryz.prog 35 #[v, .agg #[.int .i64 2, .bool false, .int .i64 i, .string s, nv, lv]] W fun e W' => ∃ v', e = .returned v' ∧ Pk B w1 W' v' (L ++ [102, 97, 108, 115, 101]) [] := by
 have hq : Pk B w1 (W.alloc (.cells #[.int .i64 2, .bool false, .int .i64 i, .string s, nv, lv] 27)) v L [] := hp.below bx
 obtain ⟨a0, n0, c0, rfl⟩ := hp.shape
 clear hp
 go_enter Tryz.func35, Tryz.ntmps35
 go_wp2_with (first | (at_builtin; refine list_text rfl _ _ rfl hq rfl ⟨#[102, 97, 108, 115, 101]⟩ rfl (by show _ + 5 ≤ _; omega) ?_))
 intro v2 W2 hp2
 have HP2 : Hid (Pk B w1 W2 v2 (L ++ [102, 97, 108, 115, 101]) []) := hp2
 clear hq
 obtain ⟨a2, n2, c2, rfl⟩ := hp2.shape
 clear hp2
 go_wp2_with fail
 go_ret
 exact ⟨_, rfl, HP2.out⟩
set_option maxRecDepth 20000 in
set_option maxHeartbeats 800000 in
theorem wstr_c {B : Nat} {w1 W : World} {v : Value} {L : List UInt8} {b : Bool} {i : Int} {s : ByteArray} {nv lv : Value} (hp : Pk B w1 W v L []) (hl : L.length ≤ 100000000000) (hs : s.size ≤ 1000000000) :
  Calls Tryz.prog 35 #[v, .agg #[.int .i64 4, .bool b, .int .i64 i, .string s, nv, lv]] W fun e W' => ∃ v', e = .returned v' ∧ Pk B w1 W' v' (L ++ qt s) [] := by
 have hq : Pk B w1 (W.alloc (.cells #[.int .i64 4, .bool b, .int .i64 i, .string s, nv, lv] 27)) v L [] := hp.below bx
 have ct := wtext_c (s := s) hq hl hs
 obtain ⟨a0, n0, c0, rfl⟩ := hp.shape
 clear hp hq
 go_enter Tryz.func35, Tryz.ntmps35
 go_wp2_with fail
 refine ct.mono ?_
 rintro e W2 ⟨v2, rfl, hp2⟩
 have HP2 : Hid (Pk B w1 W2 v2 (L ++ qt s) []) := hp2
 clear ct
 obtain ⟨a2, n2, c2, rfl⟩ := hp2.shape
 clear hp2
 go_wp2_with fail
 go_ret
 exact ⟨_, rfl, HP2.out⟩
set_option maxRecDepth 20000 in
set_option maxHeartbeats 800000 in
theorem wint_c {B : Nat} {w1 W : World} {v : Value} {L : List UInt8} {b : Bool} {i : Int} {s : ByteArray} {nv lv : Value} (hp : Pk B w1 W v L []) (hl : L.length ≤ 100000000000) (h0 : -9223372036854775808 ≤ i) (h1 : i ≤ 9223372036854775807) (ht : Tab W) :
  Calls Tryz.prog 35 #[v, .agg #[.int .i64 3, .bool b, .int .i64 i, .string s, nv, lv]] W fun e W' => ∃ v', e = .returned v' ∧ Pk B w1 W' v' (L ++ Lib.itoa i) [] := by
 have hq : Pk B w1 (W.alloc (.cells #[.int .i64 3, .bool b, .int .i64 i, .string s, nv, lv] 27)) v L [] := hp.below bx
 have ct := text i h0 h1 (W.alloc (.cells #[.int .i64 3, .bool b, .int .i64 i, .string s, nv, lv] 27)) (ht.later bx)
 have hlen := Lib.itoa_length_le i h0 h1
 obtain ⟨a0, n0, c0, rfl⟩ := hp.shape
 have HQ : Hid (Pk B w1 (W.alloc (.cells #[.int .i64 3, .bool b, .int .i64 i, .string s, nv, lv] 27)) (.slice a0 n0 c0) L []) := hq
 clear hp ht hq
 go_enter Tryz.func35, Tryz.ntmps35
 go_wp2_with fail
 refine ct.mono ?_
 rintro e W3 ⟨rfl, b3⟩
 have hq3 := HQ.out.below b3
 clear ct b3
 go_wp2_with (first | (at_builtin; refine list_text rfl _ _ rfl hq3 rfl ⟨(Lib.itoa i).toArray⟩ rfl (by show _ + (Lib.itoa i).toArray.size ≤ _; simp only [List.size_toArray]; omega) ?_))
 intro v2 W2 hp2
 have HP2 : Hid (Pk B w1 W2 v2 (L ++ Lib.itoa i) []) := by
  show Pk B w1 W2 v2 _ []
  simpa using hp2
 clear hq3
 obtain ⟨a2, n2, c2, rfl⟩ := hp2.shape
 clear hp2
 go_wp2_with fail
 go_ret
 exact ⟨_, rfl, HP2.out⟩
set_option maxRecDepth 20000 in
set_option maxHeartbeats 800000 in
theorem wlist_c {m : Nat} (hm : RowsP m) {B : Nat} {w1 W : World} {v : Value} {L : List UInt8} {b : Bool} {i : Int} {s : ByteArray} {n : List ByteArray} {l : List C} {u : Value} (hin : In false (Lo B) W (m + 1) u (.mk 5 b i s n l)) (hw : wf (.mk 5 b i s n l) = true) (hT : ∀ W', Below B W W' → Tab W') (hp : Pk B w1 W v L []) (hl : L.length + (pv (.mk 5 b i s n l)).length ≤ 100000000000) :
  Calls Tryz.prog 35 #[v, u] W fun e W' => ∃ v', e = .returned v' ∧ Pk B w1 W' v' (L ++ pv (.mk 5 b i s n l)) [] := by
 obtain ⟨m', nv, lv, -, rfl, -⟩ := hin.shape
 have hq : Pk B w1 (W.alloc (.cells #[.int .i64 5, .bool b, .int .i64 i, .string s, nv, lv] 27)) v L [] := hp.below bx
 have hbB : Below B W (W.alloc (.cells #[.int .i64 5, .bool b, .int .i64 i, .string s, nv, lv] 27)) := bx.mono hp.le
 have hin1 := hin.keep (keep_lo hbB)
 have hpv : pv (.mk 5 b i s n l) = 91 :: (jn (its 5 n l) ++ [93]) := (pv_row 5 b i s n l).1 rfl
 have hl2 : L.length + (jn (its 5 n l)).length + 2 ≤ 100000000000 := by
  rw [hpv] at hl
  simp only [List.length_cons, List.length_append, List.length_nil] at hl
  omega
 have ct := hm _ _ B w1 _ v L 91 93 hin1 hw (fun W' h => hT W' (hbB.trans h)) hq hl2
 have HPV : Hid (pv (.mk 5 b i s n l) = 91 :: (jn (its 5 n l) ++ [93])) := hpv
 obtain ⟨a0, n0, c0, rfl⟩ := hp.shape
 clear hp hq hin hin1 hw hT hm hpv hl hbB
 go_enter Tryz.func35, Tryz.ntmps35
 go_wp2_with fail
 refine ct.mono ?_
 rintro e W2 ⟨v2, rfl, hp2⟩
 have HP2 : Hid (Pk B w1 W2 v2 (L ++ pv (.mk 5 b i s n l)) []) := by
  show Pk B w1 W2 v2 _ []
  rw [HPV.out]
  exact hp2
 clear ct
 obtain ⟨a2, n2, c2, rfl⟩ := hp2.shape
 clear hp2
 go_wp2_with fail
 go_ret
 exact ⟨_, rfl, HP2.out⟩
set_option maxRecDepth 20000 in
set_option maxHeartbeats 800000 in
theorem wrec_c {m : Nat} (hm : RowsP m) {B : Nat} {w1 W : World} {v : Value} {L : List UInt8} {b : Bool} {i : Int} {s : ByteArray} {n : List ByteArray} {l : List C} {u : Value} (hin : In false (Lo B) W (m + 1) u (.mk 6 b i s n l)) (hw : wf (.mk 6 b i s n l) = true) (hT : ∀ W', Below B W W' → Tab W') (hp : Pk B w1 W v L []) (hl : L.length + (pv (.mk 6 b i s n l)).length ≤ 100000000000) :
  Calls Tryz.prog 35 #[v, u] W fun e W' => ∃ v', e = .returned v' ∧ Pk B w1 W' v' (L ++ pv (.mk 6 b i s n l)) [] := by
 obtain ⟨m', nv, lv, -, rfl, -⟩ := hin.shape
 have hq : Pk B w1 (W.alloc (.cells #[.int .i64 6, .bool b, .int .i64 i, .string s, nv, lv] 27)) v L [] := hp.below bx
 have hbB : Below B W (W.alloc (.cells #[.int .i64 6, .bool b, .int .i64 i, .string s, nv, lv] 27)) := bx.mono hp.le
 have hin1 := hin.keep (keep_lo hbB)
 have hpv : pv (.mk 6 b i s n l) = 123 :: (jn (its 6 n l) ++ [125]) := (pv_row 6 b i s n l).2 rfl
 have hl2 : L.length + (jn (its 6 n l)).length + 2 ≤ 100000000000 := by
  rw [hpv] at hl
  simp only [List.length_cons, List.length_append, List.length_nil] at hl
  omega
 have ct := hm _ _ B w1 _ v L 123 125 hin1 hw (fun W' h => hT W' (hbB.trans h)) hq hl2
 have HPV : Hid (pv (.mk 6 b i s n l) = 123 :: (jn (its 6 n l) ++ [125])) := hpv
 obtain ⟨a0, n0, c0, rfl⟩ := hp.shape
 clear hp hq hin hin1 hw hT hm hpv hl hbB
 go_enter Tryz.func35, Tryz.ntmps35
 go_wp2_with fail
 refine ct.mono ?_
 rintro e W2 ⟨v2, rfl, hp2⟩
 have HP2 : Hid (Pk B w1 W2 v2 (L ++ pv (.mk 6 b i s n l)) []) := by
  show Pk B w1 W2 v2 _ []
  rw [HPV.out]
  exact hp2
 clear ct
 obtain ⟨a2, n2, c2, rfl⟩ := hp2.shape
 clear hp2
 go_wp2_with fail
 go_ret
 exact ⟨_, rfl, HP2.out⟩
theorem puts : ∀ m, Puts m
 | 0 => by
  intro u c B w1 W v L hin
  rw [In] at hin
  exact hin.elim
 | m + 1 => by
  intro u c B w1 W v L hin hw hT hp hl
  have hm := row_of m (puts m)
  obtain ⟨k, b, i, s, n, l⟩ := c
  obtain ⟨r1, r2, r3, r4, r5, r6⟩ := wf_parts hw
  have hin0 := hin
  rw [in_iff] at hin
  obtain ⟨nv, lv, hu, hk, hi, hs, -, -⟩ := hin
  have hl0 : L.length ≤ 100000000000 := by omega
  obtain rfl | rfl | rfl | rfl | rfl | rfl : k = 1 ∨ k = 2 ∨ k = 3 ∨ k = 4 ∨ k = 5 ∨ k = 6 := by omega
  ·subst hu
   have := wnull_c (b := b) (i := i) (s := s) (nv := nv) (lv := lv) hp hl0
   simpa [pv, bd] using this
  ·subst hu
   cases b with
   | true =>
    have := wtrue_c (i := i) (s := s) (nv := nv) (lv := lv) (b := true) hp hl0
    simpa [pv, bd] using this
   | false =>
    have := wfalse_c (i := i) (s := s) (nv := nv) (lv := lv) (b := true) hp hl0
    simpa [pv, bd] using this
  ·subst hu
   have := wint_c (b := b) (i := i) (s := s) (nv := nv) (lv := lv) hp hl0 hi.1 hi.2 (hT W (Below.refl _ _))
   simpa [pv, bd] using this
  ·subst hu
   have := wstr_c (b := b) (i := i) (s := s) (nv := nv) (lv := lv) hp hl0 (by omega)
   simpa [pv, bd] using this
  ·exact wlist_c hm hin0 hw hT hp hl
  ·exact wrec_c hm hin0 hw hT hp hl
end Go.Proofs.YthkpbhgbmagaeaaGreatDoor.WVal
namespace Go.Proofs.YthkpbhgbmagaeaaGreatDoor.Unit
open Go.RowKit Go.Proofs.YthkpbhgbmagaeaaGreatDoor.Base Go.Proofs.YthkpbhgbmagaeaaGreatDoor.UBase Go.Proofs.YthkpbhgbmagaeaaGreatDoor.Spec Go.Proofs.YthkpbhgbmagaeaaGreatDoor.Rdr Go.Proofs.YthkpbhgbmagaeaaGreatDoor.Take Go.Proofs.YthkpbhgbmagaeaaGreatDoor.Skip Go.Proofs.YthkpbhgbmagaeaaGreatDoor.Chr
set_option linter.unusedVariables false
/-- What of the bytes lies from a place on. -/
theorem rd_sub {w : World} {R : Nat} {a : Option Addr} {cap : Nat} {s : ByteArray} {i b : Nat} (h : Rd w R (.slice a s.size cap) s i b) (p : Nat) (hp : p ≤ s.size) {g o : Nat} (ha : a = some ⟨g, o, none⟩) (a' : Option Addr) (h' : a' = some ⟨g, o + p, none⟩ ∨ cap = p) :
  Sub w (.slice a' (s.size - p) (cap - p)) s p := by
 obtain ⟨a2, cap2, e, h2, h3, h4, h5⟩ := h.byt
 cases e
 subst ha
 refine ⟨a', cap - p, rfl, by omega, by unfold maxLen at *; omega, ?_⟩
 rcases h5 with h5 | ⟨g', o', e, hg, hc⟩
 ·exact .inl (by omega)
 ·cases e
  rcases h' with rfl | h'
  ·refine .inr ⟨g, o + p, rfl, fun j hj => ?_⟩
   rw [Nat.add_assoc]
   exact hc (p + j) hj
  ·exact .inl (by omega)
set_option maxRecDepth 20000 in
set_option maxHeartbeats 800000 in
theorem unit_end {w : World} {R g o cap : Nat} {s : ByteArray} {st b : Nat} (h : Rd w R (.slice (some ⟨g, o, none⟩) s.size cap) s (st + 2) b) (hcap : cap = st + 2) :
  Calls Tryz.prog 81 #[ptr R, .int .i64 st] w fun e w' => Kr R w w' ∧ e = .panicked (pk (600, st + 2)) := by
 have hle := h.le
 have hsz := h.sz
 obtain ⟨k0, k1, k2, f1, f2⟩ := h.cells
 have k1 : w.cell? ⟨R, 1, none⟩ = some (.int .i64 ((st : Int) + 2)) := k1
 have hcm : cap ≤ 9223372036854775807 := by obtain ⟨_, _, e, _, h3, _⟩ := h.byt; cases e; exact h3
 have hc : s.size ≤ cap := by obtain ⟨_, _, e, h2, _⟩ := h.byt; cases e; exact h2
 have hse : s.size = st + 2 := by omega
 subst hcap
 have hz : hcn s 4 (st + 2) = 0 := hcn_of 4 (st + 2) 0 (by omega) (fun j hj => by omega) (fun _ => by rw [at_out s _ (by omega)]; rfl)
 have c116 := hexu_c (rd_sub h.drew (st + 2) hle rfl (some ⟨g, o, none⟩) (.inr rfl)) hsz
 rw [hz] at c116
 have e0 : hvn s (st + 2) 0 = 0 := rfl
 rw [e0, show s.size - (st + 2) = 0 by omega, show st + 2 - (st + 2) = 0 by omega] at c116
 have h2 : Rd ((w.setCell ⟨R, 1, none⟩ (.int .i64 ((st : Int) + 2))).drew) R (.slice (some ⟨g, o, none⟩) s.size (st + 2)) s (st + 2) b := (h.go (st + 2) hle).drew
 have c41 := refuse_c h2
 have k3 := ((Kr.refl R w).set 1 (.int .i64 ((st : Int) + 2))).drew
 unfold ptr at c41 ⊢
 clear h h2 hz e0
 go_enter Tryz.func81, Tryz.ntmps81
 go_wp2_with fail
 go_region_with (go_at_call 86; refine c116.mono ?_; rintro e w' ⟨rfl, rfl⟩)
 all_goals go_wp2_with (go_at_call 26; refine c41.mono ?_; rintro e w' ⟨rfl, rfl⟩)
 all_goals exact ⟨rfl, k3, rfl⟩
set_option maxRecDepth 20000 in
set_option maxHeartbeats 800000 in
theorem unit_few {w : World} {R g o cap : Nat} {s : ByteArray} {st b : Nat} (h : Rd w R (.slice (some ⟨g, o, none⟩) s.size cap) s (st + 2) b) (hcap : ¬ cap = st + 2) (hQ4 : hcn s 4 (st + 2) < 4) :
  Calls Tryz.prog 81 #[ptr R, .int .i64 st] w fun e w' => Kr R w w' ∧ e = .panicked (pk (600, st + 2 + hcn s 4 (st + 2))) := by
 have hle := h.le
 have hsz := h.sz
 obtain ⟨k0, k1, k2, f1, f2⟩ := h.cells
 have k1 : w.cell? ⟨R, 1, none⟩ = some (.int .i64 ((st : Int) + 2)) := k1
 have hcm : cap ≤ 9223372036854775807 := by obtain ⟨_, _, e, _, h3, _⟩ := h.byt; cases e; exact h3
 have hc : s.size ≤ cap := by obtain ⟨_, _, e, h2, _⟩ := h.byt; cases e; exact h2
 have c116 := hexu_c (rd_sub h.drew (st + 2) hle rfl (some ⟨g, o + (st + 2), none⟩) (.inl rfl)) hsz
 have hQs := hcn_in s 4 (st + 2) hle
 generalize hcn s 4 (st + 2) = Q at *
 generalize hvn s (st + 2) Q = X at *
 have h2 : Rd ((w.setCell ⟨R, 1, none⟩ (.int .i64 ((st : Int) + 2 + (Q : Int)))).drew) R (.slice (some ⟨g, o, none⟩) s.size cap) s (st + 2 + Q) b := (h.go (st + 2 + Q) hQs).drew
 have k3 := ((Kr.refl R w).set 1 (.int .i64 ((st : Int) + 2 + (Q : Int)))).drew
 have c41 := refuse_c h2
 have d1 : decide ((Q : Int) < 4) = true := by simp; omega
 unfold ptr at c41 ⊢
 clear h h2
 go_enter Tryz.func81, Tryz.ntmps81
 go_wp2_with fail
 go_region_with (go_at_call 86; refine c116.mono ?_; rintro e w' ⟨rfl, rfl⟩)
 all_goals go_wp2_with (go_at_call 26; refine c41.mono ?_; rintro e w' ⟨rfl, rfl⟩)
 all_goals exact ⟨rfl, k3, rfl⟩
set_option maxRecDepth 20000 in
set_option maxHeartbeats 800000 in
theorem unit_low {w : World} {R g o cap : Nat} {s : ByteArray} {st b : Nat} (h : Rd w R (.slice (some ⟨g, o, none⟩) s.size cap) s (st + 2) b) (hcap : ¬ cap = st + 2) (hQ4 : hcn s 4 (st + 2) = 4) (h1 : 56320 ≤ hvl s (st + 2)) (h2 : hvl s (st + 2) ≤ 57343) :
  Calls Tryz.prog 81 #[ptr R, .int .i64 st] w fun e w' => Kr R w w' ∧ e = .panicked (pk (600, st)) := by
 have hle := h.le
 have hsz := h.sz
 obtain ⟨k0, k1, k2, f1, f2⟩ := h.cells
 have k1 : w.cell? ⟨R, 1, none⟩ = some (.int .i64 ((st : Int) + 2)) := k1
 have hcm : cap ≤ 9223372036854775807 := by obtain ⟨_, _, e, _, h3, _⟩ := h.byt; cases e; exact h3
 have hc : s.size ≤ cap := by obtain ⟨_, _, e, h2, _⟩ := h.byt; cases e; exact h2
 have c116 := hexu_c (rd_sub h.drew (st + 2) hle rfl (some ⟨g, o + (st + 2), none⟩) (.inl rfl)) hsz
 have hQs := hcn_in s 4 (st + 2) hle
 rw [hQ4] at c116 hQs
 have hv4 := hvn_four s (st + 2)
 rw [hv4] at c116
 have hX : hvl s (st + 2) < 65536 := by rw [← hv4]; exact hvn_lt 4 fun j hj => hcn_all hQ4 j hj
 generalize hvl s (st + 2) = X at *
 have h6 : Rd ((w.setCell ⟨R, 1, none⟩ (.int .i64 ((st : Int) + 6))).drew) R (.slice (some ⟨g, o, none⟩) s.size cap) s (st + 6) b := (h.go (st + 6) (by omega)).drew
 have k6 := ((Kr.refl R w).set 1 (.int .i64 ((st : Int) + 6))).drew
 have c117 := low_c X ((w.setCell ⟨R, 1, none⟩ (.int .i64 ((st : Int) + 6))).drew)
 have c118 := high_c X ((w.setCell ⟨R, 1, none⟩ (.int .i64 ((st : Int) + 6))).drew)
 rw [decide_eq_true h1, decide_eq_true h2] at c117
 unfold ptr pk
 clear h h6 hQ4 c118 hv4
 go_enter Tryz.func81, Tryz.ntmps81
 go_wp2_with fail
 go_region_with (go_at_call 86; refine c116.mono ?_; rintro e w' ⟨rfl, rfl⟩)
 all_goals go_wp2_with (go_at_call 87; refine c117.mono ?_; rintro e w' ⟨rfl, rfl⟩)
 all_goals exact ⟨rfl, k6, rfl⟩
set_option maxRecDepth 20000 in
set_option maxHeartbeats 800000 in
theorem unit_plain {w : World} {R g o cap : Nat} {s : ByteArray} {st b : Nat} (h : Rd w R (.slice (some ⟨g, o, none⟩) s.size cap) s (st + 2) b) (hcap : ¬ cap = st + 2) (hQ4 : hcn s 4 (st + 2) = 4) (h1 : hvl s (st + 2) < 55296 ∨ 57343 < hvl s (st + 2)) :
  Calls Tryz.prog 81 #[ptr R, .int .i64 st] w fun e w' => Kr R w w' ∧ e = .returned (.int .i32 (hvl s (st + 2) : Nat)) ∧ Rd w' R (.slice (some ⟨g, o, none⟩) s.size cap) s (st + 6) b := by
 have hle := h.le
 have hsz := h.sz
 obtain ⟨k0, k1, k2, f1, f2⟩ := h.cells
 have k1 : w.cell? ⟨R, 1, none⟩ = some (.int .i64 ((st : Int) + 2)) := k1
 have hcm : cap ≤ 9223372036854775807 := by obtain ⟨_, _, e, _, h3, _⟩ := h.byt; cases e; exact h3
 have hc : s.size ≤ cap := by obtain ⟨_, _, e, h2, _⟩ := h.byt; cases e; exact h2
 have c116 := hexu_c (rd_sub h.drew (st + 2) hle rfl (some ⟨g, o + (st + 2), none⟩) (.inl rfl)) hsz
 have hQs := hcn_in s 4 (st + 2) hle
 rw [hQ4] at c116 hQs
 have hv4 := hvn_four s (st + 2)
 rw [hv4] at c116
 have hX : hvl s (st + 2) < 65536 := by rw [← hv4]; exact hvn_lt 4 fun j hj => hcn_all hQ4 j hj
 generalize hvl s (st + 2) = X at *
 have h6 : Rd ((w.setCell ⟨R, 1, none⟩ (.int .i64 ((st : Int) + 6))).drew) R (.slice (some ⟨g, o, none⟩) s.size cap) s (st + 6) b := (h.go (st + 6) (by omega)).drew
 have k6 := ((Kr.refl R w).set 1 (.int .i64 ((st : Int) + 6))).drew
 have c117 := low_c X ((w.setCell ⟨R, 1, none⟩ (.int .i64 ((st : Int) + 6))).drew)
 have c118 := high_c X ((w.setCell ⟨R, 1, none⟩ (.int .i64 ((st : Int) + 6))).drew)
 have hl : (decide (56320 ≤ X) && decide (X ≤ 57343)) = false := by simp; omega
 have hh : (decide (55296 ≤ X) && decide (X < 56320)) = false := by simp; omega
 rw [hl] at c117
 rw [hh] at c118
 unfold ptr
 clear h hQ4 hl hh hv4
 go_enter Tryz.func81, Tryz.ntmps81
 go_wp2_with fail
 go_region_with (go_at_call 86; refine c116.mono ?_; rintro e w' ⟨rfl, rfl⟩)
 all_goals go_wp2_with (first | (go_at_call 87; refine c117.mono ?_; rintro e w' ⟨rfl, rfl⟩) | (go_at_call 88; refine c118.mono ?_; rintro e w' ⟨rfl, rfl⟩))
 all_goals go_ret
 all_goals exact ⟨k6, rfl, h6⟩
end Go.Proofs.YthkpbhgbmagaeaaGreatDoor.Unit
namespace Go.Proofs.YthkpbhgbmagaeaaGreatDoor.UnitH
open Go.RowKit Go.Proofs.YthkpbhgbmagaeaaGreatDoor.Base Go.Proofs.YthkpbhgbmagaeaaGreatDoor.UBase Go.Proofs.YthkpbhgbmagaeaaGreatDoor.Spec Go.Proofs.YthkpbhgbmagaeaaGreatDoor.Rdr Go.Proofs.YthkpbhgbmagaeaaGreatDoor.Take Go.Proofs.YthkpbhgbmagaeaaGreatDoor.Skip Go.Proofs.YthkpbhgbmagaeaaGreatDoor.Chr
set_option linter.unusedVariables false
open Go.Proofs.YthkpbhgbmagaeaaGreatDoor.Unit
theorem low_in {s : ByteArray} {p : Nat} (h : low s p = true) : p + 6 ≤ s.size := by
 unfold low at h
 simp at h
 have := hcn_all h.2.2.1 3 (by omega)
 have := at_in (s := s) (i := p + 2 + 3) (fun e => by rw [e] at this; exact absurd this (by decide))
 omega
theorem low_val {s : ByteArray} {p : Nat} (h : low s p = true) : 56320 ≤ hvl s (p + 2) ∧ hvl s (p + 2) ≤ 57343 := by
 unfold low at h
 simp at h
 exact h.2.2.2
set_option maxRecDepth 20000 in
set_option maxHeartbeats 3200000 in
theorem unit_high {w : World} {R g o cap : Nat} {s : ByteArray} {st b : Nat} (h : Rd w R (.slice (some ⟨g, o, none⟩) s.size cap) s (st + 2) b) (hcap : ¬ cap = st + 2) (hQ4 : hcn s 4 (st + 2) = 4) (h1 : 55296 ≤ hvl s (st + 2)) (h2 : hvl s (st + 2) < 56320) :
  Calls Tryz.prog 81 #[ptr R, .int .i64 st] w fun e w' => Kr R w w' ∧ (low s (st + 6) = true → e = .returned (.int .i32 (65536 + (hvl s (st + 2) - 55296) * 1024 + (hvl s (st + 8) - 56320) : Nat)) ∧ Rd w' R (.slice (some ⟨g, o, none⟩) s.size cap) s (st + 12) b) ∧ (low s (st + 6) = false → e = .panicked (pk (600, st))) := by
 have hle := h.le
 have hsz := h.sz
 obtain ⟨k0, k1, k2, f1, f2⟩ := h.cells
 have k1 : w.cell? ⟨R, 1, none⟩ = some (.int .i64 ((st : Int) + 2)) := k1
 have hcm : cap ≤ 9223372036854775807 := by obtain ⟨_, _, e, _, h3, _⟩ := h.byt; cases e; exact h3
 have hc : s.size ≤ cap := by obtain ⟨_, _, e, h2, _⟩ := h.byt; cases e; exact h2
 have c116 := hexu_c (rd_sub h.drew (st + 2) hle rfl (some ⟨g, o + (st + 2), none⟩) (.inl rfl)) hsz
 have hQs := hcn_in s 4 (st + 2) hle
 rw [hQ4] at c116 hQs
 have hv4 := hvn_four s (st + 2)
 rw [hv4] at c116
 have hX : hvl s (st + 2) < 65536 := by rw [← hv4]; exact hvn_lt 4 fun j hj => hcn_all hQ4 j hj
 generalize hvl s (st + 2) = X at *
 have h6 : Rd ((w.setCell ⟨R, 1, none⟩ (.int .i64 ((st : Int) + 6))).drew) R (.slice (some ⟨g, o, none⟩) s.size cap) s (st + 6) b := (h.go (st + 6) (by omega)).drew
 have k6 := ((Kr.refl R w).set 1 (.int .i64 ((st : Int) + 6))).drew
 have c117 := low_c X ((w.setCell ⟨R, 1, none⟩ (.int .i64 ((st : Int) + 6))).drew)
 have c118 := high_c X ((w.setCell ⟨R, 1, none⟩ (.int .i64 ((st : Int) + 6))).drew)
 have hl : (decide (56320 ≤ X) && decide (X ≤ 57343)) = false := by simp; omega
 have hh : (decide (55296 ≤ X) && decide (X < 56320)) = true := by simp; omega
 rw [hl] at c117
 rw [hh] at c118
 unfold ptr
 clear hQ4 hl hh hv4
 go_enter Tryz.func81, Tryz.ntmps81
 go_wp2_with fail
 go_region_with (go_at_call 86; refine c116.mono ?_; rintro e w' ⟨rfl, rfl⟩)
 all_goals go_wp2_with (first | (go_at_call 87; refine c117.mono ?_; rintro e w' ⟨rfl, rfl⟩) | (go_at_call 88; refine c118.mono ?_; rintro e w' ⟨rfl, rfl⟩))
 all_goals clear c116 c117 c118
 all_goals cases hlow : low s (st + 6) with
  | true =>
   have HL : Hid (low s (st + 6) = true) := hlow
   have hcap2 : ¬ cap = st + 6 := fun e => by have := low_in hlow; omega
   have c119 := lowu_c (rd_sub h6.drew (st + 6) (by omega) rfl (some ⟨g, o + (st + 6), none⟩) (.inl rfl)) hsz
   rw [hlow, if_pos rfl] at c119
   have hY := low_val hlow
   obtain ⟨Y, hYe⟩ : ∃ Y, hvl s (st + 6 + 2) = Y := ⟨_, rfl⟩
   rw [hYe] at c119 hY
   have h12 := low_in hlow
   have H6 : Hid (Rd ((w.setCell ⟨R, 1, none⟩ (.int .i64 ((st : Int) + 6))).drew) R (.slice (some ⟨g, o, none⟩) s.size cap) s (st + 6) b) := h6
   have HY : Hid (hvl s (st + 8) = Y) := hYe
   clear hYe hlow h6 h
   go_region_with (go_at_call 89; refine c119.mono ?_; rintro e w' ⟨rfl, b2⟩)
   all_goals (
    have h7 := (H6.out.drew).below b2
    obtain ⟨m0, m1, m2, n1, n2⟩ := h7.cells
    have m1 : w'.cell? ⟨R, 1, none⟩ = some (.int .i64 ((st : Int) + 6)) := m1
    have h8 : Rd (w'.setCell ⟨R, 1, none⟩ (.int .i64 ((st : Int) + 12))) R (.slice (some ⟨g, o, none⟩) s.size cap) s (st + 12) b := h7.go (st + 12) (by omega)
    have k8 := (k6.trans ((Kr.refl R _).drew.trans (.of_below b2 (by have := H6.out.drew.lt; omega)))).set 1 (.int .i64 ((st : Int) + 12))
    clear h7
    go_wp2_with fail
    go_ret
    refine ⟨k8, fun _ => ⟨?_, h8⟩, fun h => by rw [HL.out] at h; cases h⟩
    rw [HY.out]
    refine congrArg (fun x => Ending.returned (.int .i32 x)) ?_
    omega)
  | false =>
   have HL : Hid (low s (st + 6) = false) := hlow
   by_cases hcap2 : cap = st + 6
   ·have hse : s.size = st + 6 := by omega
    subst hcap2
    have c119 := lowu_c (rd_sub h6.drew (st + 6) (by omega) rfl (some ⟨g, o, none⟩) (.inr rfl)) hsz
    rw [hlow, if_neg (by simp), show s.size - (st + 6) = 0 by omega, show st + 6 - (st + 6) = 0 by omega] at c119
    have H6 : Hid (Rd ((w.setCell ⟨R, 1, none⟩ (.int .i64 ((st : Int) + 6))).drew) R (.slice (some ⟨g, o, none⟩) s.size (st + 6)) s (st + 6) b) := h6
    clear h6 h hlow
    go_region_with (go_at_call 89; refine c119.mono ?_; rintro e w' ⟨rfl, b2⟩)
    all_goals (
     have k8 := k6.trans ((Kr.refl R _).drew.trans (.of_below b2 (by have := H6.out.drew.lt; omega)))
     go_wp2_with fail
     refine ⟨rfl, k8, ?_, ?_⟩
     ·intro h; rw [HL.out] at h; cases h
     ·intro _; rfl)
   ·have c119 := lowu_c (rd_sub h6.drew (st + 6) (by omega) rfl (some ⟨g, o + (st + 6), none⟩) (.inl rfl)) hsz
    rw [hlow, if_neg (by simp)] at c119
    have H6 : Hid (Rd ((w.setCell ⟨R, 1, none⟩ (.int .i64 ((st : Int) + 6))).drew) R (.slice (some ⟨g, o, none⟩) s.size cap) s (st + 6) b) := h6
    clear h6 h hlow
    go_region_with (go_at_call 89; refine c119.mono ?_; rintro e w' ⟨rfl, b2⟩)
    all_goals (
     have k8 := k6.trans ((Kr.refl R _).drew.trans (.of_below b2 (by have := H6.out.drew.lt; omega)))
     go_wp2_with fail
     refine ⟨rfl, k8, ?_, ?_⟩
     ·intro h; rw [HL.out] at h; cases h
     ·intro _; rfl)
end Go.Proofs.YthkpbhgbmagaeaaGreatDoor.UnitH
namespace Go.Proofs.YthkpbhgbmagaeaaGreatDoor.Esc
open Go.RowKit Go.Proofs.YthkpbhgbmagaeaaGreatDoor.Base Go.Proofs.YthkpbhgbmagaeaaGreatDoor.UBase Go.Proofs.YthkpbhgbmagaeaaGreatDoor.Spec Go.Proofs.YthkpbhgbmagaeaaGreatDoor.Rdr Go.Proofs.YthkpbhgbmagaeaaGreatDoor.Take Go.Proofs.YthkpbhgbmagaeaaGreatDoor.Skip Go.Proofs.YthkpbhgbmagaeaaGreatDoor.Chr Go.Proofs.YthkpbhgbmagaeaaGreatDoor.Unit Go.Proofs.YthkpbhgbmagaeaaGreatDoor.UnitH
set_option linter.unusedVariables false
theorem unit_c {w : World} {R : Nat} {v : Value} {s : ByteArray} {st b : Nat} (h : Rd w R v s (st + 2) b) :
  Calls Tryz.prog 81 #[ptr R, .int .i64 st] w fun e w' => Kr R w w' ∧ match unt s st with
   | .ok (x, j) => e = .returned (.int .i32 (x : Nat)) ∧ Rd w' R v s j b
   | .error x => e = .panicked (pk x) := by
 have hle := h.le
 obtain ⟨g, o, cap, rfl, hc, -⟩ := h.byte (j := st) (by omega)
 by_cases hcap : cap = st + 2
 ·have hz : hcn s 4 (st + 2) = 0 := hcn_of 4 (st + 2) 0 (by omega) (fun j hj => by omega) (fun _ => by rw [at_out s _ (by omega)]; rfl)
  have hU : unt s st = .error (600, st + 2) := by unfold unt; rw [hz, if_pos (by omega)]
  rw [hU]
  exact unit_end h hcap
 by_cases hQ : hcn s 4 (st + 2) < 4
 ·have hU : unt s st = .error (600, st + 2 + hcn s 4 (st + 2)) := by unfold unt; rw [if_pos hQ]
  rw [hU]
  exact unit_few h hcap hQ
 have hQ4 : hcn s 4 (st + 2) = 4 := by have := hcn_le s 4 (st + 2); omega
 by_cases h1 : hvl s (st + 2) < 55296 ∨ 57343 < hvl s (st + 2)
 ·have hU : unt s st = .ok (hvl s (st + 2), st + 6) := by unfold unt; rw [if_neg hQ, if_pos h1]
  rw [hU]
  exact unit_plain h hcap hQ4 h1
 by_cases h2 : hvl s (st + 2) < 56320
 ·refine (unit_high h hcap hQ4 (by omega) h2).mono ?_
  rintro e w' ⟨k, ht, hf⟩
  refine ⟨k, ?_⟩
  cases hl : low s (st + 6) with
  | true =>
   have hU : unt s st = .ok (65536 + (hvl s (st + 2) - 55296) * 1024 + (hvl s (st + 8) - 56320), st + 12) := by unfold unt; rw [if_neg hQ, if_neg h1, if_pos ⟨h2, hl⟩]
   rw [hU]
   exact ht hl
  | false =>
   have hU : unt s st = .error (600, st) := by unfold unt; rw [if_neg hQ, if_neg h1, if_neg (by rw [hl]; simp)]
   rw [hU]
   exact hf hl
 ·have hU : unt s st = .error (600, st) := by unfold unt; rw [if_neg hQ, if_neg h1, if_neg (fun e => h2 e.1)]
  rw [hU]
  exact unit_low h hcap hQ4 (by omega) (by omega)
def lets : ByteArray := ⟨#[34, 92, 47, 98, 102, 110, 114, 116]⟩
def means : ByteArray := ⟨#[34, 92, 47, 8, 12, 10, 13, 9]⟩
def lix (c : Nat) : Int := Lib.indexByte lets.data.toList (c : Int).toNat.toUInt8
theorem lix_eq (c : Nat) (h : c < 256) : (ltr c = none ∧ lix c = -1) ∨ ∃ j, j < 8 ∧ lix c = (j : Nat) ∧ ltr c = some (at' means j) := by
 have : ∀ c : Fin 256, (ltr c.1 = none ∧ lix c.1 = -1) ∨ ∃ j, j < 8 ∧ lix c.1 = (j : Nat) ∧ ltr c.1 = some (at' means j) := by decide +kernel
 exact this ⟨c, h⟩
set_option maxRecDepth 20000 in
set_option maxHeartbeats 800000 in
theorem escape_c {w : World} {R : Nat} {v : Value} {s : ByteArray} {i b : Nat} (h : Rd w R v s i b) (h92 : at' s i = 92) :
  Calls Tryz.prog 70 #[ptr R] w fun e w' => Kr R w w' ∧ match esc s i with
   | .ok (x, j) => e = .returned (.int .i32 (x : Nat)) ∧ Rd w' R v s j b
   | .error x => e = .panicked (pk x) := by
 have c77 := take_c h h92 (by omega) (by omega)
 obtain ⟨k0, k1, k2, f1, f2⟩ := h.cells
 have hsz := h.sz
 have hi : i < s.size := at_in (by omega)
 obtain ⟨U, hU⟩ : ∃ U, esc s i = U := ⟨_, rfl⟩
 rw [hU]
 have HU : Hid (esc s i = U) := hU
 unfold ptr at c77 ⊢
 clear hU h h92
 go_enter Tryz.func70, Tryz.ntmps70
 go_wp2_with (go_at_call 53; refine c77.mono ?_; rintro e w1 ⟨rfl, h1, K1⟩)
 clear c77 k0 k1 k2 f1 f2
 by_cases hend : ¬ i + 1 < s.size
 ·have c58 := next_end h1 hend
  have hU2 : U = .error (600, i + 1) := by rw [← HU.out]; unfold esc; rw [at_out s _ hend]; rfl
  subst hU2
  unfold ptr at c58
  clear h1
  go_wp2_with (go_at_call 37; refine c58.mono ?_; rintro e w' ⟨rfl, rfl⟩)
  exact ⟨rfl, K1.drew, rfl⟩
 have hend : i + 1 < s.size := Decidable.of_not_not hend
 have c58 := next_c h1 hend
 have h2 := h1.drew.drew
 obtain ⟨k0, k1, k2, f1, f2⟩ := h2.cells
 have k1 : w1.drew.drew.cell? ⟨R, 1, none⟩ = some (.int .i64 ((i : Int) + 1)) := k1
 have hb := at_lt s (i + 1)
 unfold ptr at c58
 by_cases hu : at' s (i + 1) = 117
 ·have hne : (((at' s (i + 1) : Nat) : Int) == 117) = true := by simp; omega
  have hUe : U = unt s i := by rw [← HU.out]; unfold esc; rw [if_pos hu]
  have h3 : Rd ((w1.setCell ⟨R, 1, none⟩ (.int .i64 ((i : Int) + 2))).drew.drew) R v s (i + 2) b := (h1.go (i + 2) (by omega)).drew.drew
  have k3 := ((K1.set 1 (.int .i64 ((i : Int) + 2))).drew).drew
  have c108 := unit_c h3
  rw [← hUe] at c108
  unfold ptr at c108
  clear h1 h2 h3 hu
  generalize at' s (i + 1) = x at *
  clear hUe HU
  cases U with
  | error x =>
   go_wp2_with (first | (go_at_call 37; refine c58.mono ?_; rintro e w' ⟨rfl, rfl⟩) | (go_at_call 81; refine c108.mono ?_; rintro e w' ⟨k4, rfl⟩))
   exact ⟨rfl, k3.trans k4, rfl⟩
  | ok y =>
   obtain ⟨y, j⟩ := y
   go_wp2_with (first | (go_at_call 37; refine c58.mono ?_; rintro e w' ⟨rfl, rfl⟩) | (go_at_call 81; refine c108.mono ?_; rintro e w' ⟨k4, rfl, h5⟩))
   go_ret
   exact ⟨k3.trans k4, rfl, h5⟩
 ·have hne : (((at' s (i + 1) : Nat) : Int) == 117) = false := by simp; omega
  have c94 := Tryz.strings_IndexByte lets (at' s (i + 1) : Nat) w1.drew.drew.drew.drew
  have c58b := next_c h2 hend
  have e94 : Lib.indexByte lets.data.toList ((at' s (i + 1) : Nat) : Int).toNat.toUInt8 = lix (at' s (i + 1)) := rfl
  rw [e94] at c94
  have hUe : U = match ltr (at' s (i + 1)) with
   | some x => .ok (x, i + 2)
   | none => .error (600, i + 1) := by rw [← HU.out]; unfold esc; rw [if_neg hu]; rfl
  rcases lix_eq (at' s (i + 1)) hb with ⟨hl, hx⟩ | ⟨j, hj, hx, hl⟩
  ·rw [hl] at hUe
   rw [hx] at c94
   subst hUe
   have c41 := refuse_c h2.drew.drew
   unfold ptr at c58b c41
   unfold lets at c94
   clear h1 h2 hu hl hx e94 HU
   generalize at' s (i + 1) = x at *
   go_wp2_with (first | (go_at_call 26; refine c41.mono ?_; rintro e w' ⟨rfl, rfl⟩) | (go_at_call 68; refine c94.mono ?_; rintro e w' ⟨rfl, rfl⟩) | (go_at_call 37; refine c58.mono ?_; rintro e w' ⟨rfl, rfl⟩) | (go_at_call 37; refine c58b.mono ?_; rintro e w' ⟨rfl, rfl⟩))
   exact ⟨rfl, K1.drew.drew.drew.drew, rfl⟩
  ·have hm : at' means j = ((⟨#[34, 92, 47, 8, 12, 10, 13, 9]⟩ : ByteArray)[j]'hj).toNat := at_get means j hj
   rw [hl, hm] at hUe
   rw [hx] at c94
   subst hUe
   have h3 : Rd ((w1.setCell ⟨R, 1, none⟩ (.int .i64 ((i : Int) + 2))).drew.drew.drew.drew) R v s (i + 2) b := (h1.go (i + 2) (by omega)).drew.drew.drew.drew
   have k3 := ((((K1.set 1 (.int .i64 ((i : Int) + 2))).drew).drew).drew).drew
   obtain ⟨p0, p1, p2, q1, q2⟩ := h2.drew.drew.cells
   have p1 : w1.drew.drew.drew.drew.cell? ⟨R, 1, none⟩ = some (.int .i64 ((i : Int) + 1)) := p1
   unfold ptr at c58b
   unfold lets at c94
   have hj' : (j : Int) < 8 := by omega
   have hmb : ((⟨#[34, 92, 47, 8, 12, 10, 13, 9]⟩ : ByteArray)[j]'hj).toNat < 256 := UInt8.toNat_lt _
   clear h1 h2 hu hl hx e94 HU hm
   generalize at' s (i + 1) = x at *
   generalize hmm : ((⟨#[34, 92, 47, 8, 12, 10, 13, 9]⟩ : ByteArray)[j]'hj).toNat = y at *
   go_wp2_with (first | (go_at_call 68; refine c94.mono ?_; rintro e w' ⟨rfl, rfl⟩) | (go_at_call 37; refine c58.mono ?_; rintro e w' ⟨rfl, rfl⟩) | (go_at_call 37; refine c58b.mono ?_; rintro e w' ⟨rfl, rfl⟩))
   go_ret
   exact ⟨k3, rfl, h3⟩
end Go.Proofs.YthkpbhgbmagaeaaGreatDoor.Esc

import Derived.Test.YthjbknncbhkinaaGreatDoorPS24
import Derived.Test.YthjbknncbhkinaaGreatDoorPS25
open Go.Proofs.Tryz
set_option linter.unusedVariables false
set_option maxRecDepth 20000
set_option maxHeartbeats 3200000
namespace Go.Proofs.YthjbknncbhkinaaGreatDoor.NWv
open Go.RowKit EPure NWr NLa NWt NWu Tak
open CPu (Ins)
open NGe (gen sz kid row isT opd tx)
open XBase (four_box frozen_box In InL LAt)
theorem operand_c {w : World} {W : Nat} {cv tv : Value} {C : List Ins} {T : List ByteArray} (h : Wb w W cv tv C T) (hl : T.length <= 65536) (o i : Int) (s : ByteArray) (lv : Value) :
  Calls prog 54 #[ptr W, .agg #[.int .i64 o, .int .i64 i, .string s, lv]] w fun e w' => e = .returned (.int .i64 (opd o i T.length)) /\ ∃ tv', Wb w' W cv tv' C (T ++ tx o s) /\ Kw W cv tv cv tv' w w' := by
 cases hT : isT o with
 | true =>
  have e1 : opd o i T.length = T.length := by unfold opd; rw [if_pos hT]
  have e2 : tx o s = [s] := by unfold tx; rw [if_pos hT]
  rw [e1, e2]
  exact operand_yes h hl o i s lv hT
 | false =>
  have e1 : opd o i T.length = i := by unfold opd; rw [if_neg (by simp [hT])]
  have e2 : tx o s = [] := by unfold tx; rw [if_neg (by simp [hT])]
  rw [e1, e2, List.append_nil]
  refine (operand_no h o i s lv hT).mono ?_
  rintro e w' ⟨he, hb⟩
  exact ⟨he, tv, h.below hb, Kw.refl hb (Nat.le_of_lt h.lt)⟩
theorem row_len (lf : Int -> Int -> ByteArray -> Bool) (m : Nat) : ∀ (l : List Ex) (c t : Nat), (∀ y ∈ l, NGe.Ok lf m y) -> (row (gen m) l c t).1.length <= 2 * (l.map (sz m)).sum /\ (row (gen m) l c t).2.length <= (l.map (sz m)).sum := by
 intro l
 induction l with
 | nil => intro c t _; simp [row]
 | cons x r ihr =>
  intro c t h
  have hx := NGe.gen_len lf m x c t (h x (by simp))
  have := ihr (c + (gen m x c t).1.length) (t + (gen m x c t).2.length) (fun y hy => h y (by simp [hy]))
  simp only [row, List.length_append, List.map_cons, List.sum_cons]
  omega
theorem sum_take {l : List Ex} {m q : Nat} (hq : q < l.length) : ((l.take q).map (sz m)).sum + sz m l[q] <= (l.map (sz m)).sum := by
 have : l = l.take q ++ l[q] :: l.drop (q + 1) := by rw [<- List.drop_eq_getElem_cons hq, List.take_append_drop]
 have e : (l.map (sz m)).sum = ((l.take q ++ l[q] :: l.drop (q + 1)).map (sz m)).sum := by rw [<- this]
 simp only [List.map_append, List.sum_append, List.map_cons, List.sum_cons] at e
 omega
theorem write_logic {lf : Int -> Int -> ByteArray -> Bool} {m : Nat} (hw : WI lf m) {w : World} {W K : Nat} {cv tv : Value} {C : List Ins} {T : List ByteArray} (h : Wb w W cv tv C T) (hK : K <= W) {o i : Int} {s : ByteArray} {l : List Ex} {a : Option Addr} {cap : Nat} (hin : InL false (fun b => b < K) w m (.slice a l.length cap) l) (hcap : l.length <= cap /\ cap <= 9223372036854775807) (hl : l.length = 2) (hok : ∀ y ∈ l, NGe.Ok lf m y)
  (hC : C.length + 2 * (sz m (kid l 0) + sz m (kid l 1)) + 2 <= 60000) (hT : T.length + (sz m (kid l 0) + sz m (kid l 1)) <= 60000) (j : Int) (ho : (o = 29 /\ j = 30) \/ (o = 30 /\ j = 31)) :
  Calls prog 29 #[ptr W, .agg #[.int .i64 o, .int .i64 i, .string s, .slice a l.length cap]] w fun e w' => e = .returned (.tuple #[]) /\ ∃ cv' tv', Wb w' W cv' tv' (C ++ (NGe.logic (gen m) j (kid l 0) (kid l 1) C.length T.length).1) (T ++ (NGe.logic (gen m) j (kid l 0) (kid l 1) C.length T.length).2) /\ Kw W cv tv cv' tv' w w' := by
 obtain ⟨W0, hW0⟩ : ∃ W0, w.alloc (.cells #[.int .i64 o, .int .i64 i, .string s, .slice a l.length cap] 24) = W0 := ⟨_, rfl⟩
 have b0 : Below w.heap.size w W0 := by rw [<- hW0]; exact (Below.refl _ w).alloc (Nat.le_refl _) _
 have x0 : W0.heap[w.heap.size]? = some (.cells #[.int .i64 o, .int .i64 i, .string s, .slice a l.length cap] 24 (0, 0)) := by rw [<- hW0]; exact heap_alloc_new w _
 have hk0 : Kw W cv tv cv tv w W0 := Kw.refl b0 (Nat.le_of_lt h.lt)
 have cL := logic_of (o := o) (i := i) (s := s) hw (h.below b0) hK (NWt.Kw.inl hk0 hK hin) hcap hl hok hC hT j
 obtain ⟨v0, v1, v2, v3⟩ := four_box x0
 clear x0 b0
 have HK0 : Hid _ := hk0
 clear hk0 hin h hl
 obtain ⟨X, hX⟩ : ∃ X, NGe.logic (gen m) j (kid l 0) (kid l 1) C.length T.length = X := ⟨_, rfl⟩
 rw [hX] at cL ⊢
 clear hX
 rcases ho with ⟨rfl, rfl⟩ | ⟨rfl, rfl⟩
 all_goals
  go_enter func29, ntmps29
  go_wp2_with fail
  (try rw [hW0])
  refine cL.mono ?_
  rintro e w1 ⟨rfl, cv1, tv1, wb1, kw1⟩
  clear cL
  go_wp2_with fail
  go_end0
  exact ⟨rfl, cv1, tv1, wb1, HK0.out.trans kw1⟩
theorem write_choice {lf : Int -> Int -> ByteArray -> Bool} {m : Nat} (hw : WI lf m) {w : World} {W K : Nat} {cv tv : Value} {C : List Ins} {T : List ByteArray} (h : Wb w W cv tv C T) (hK : K <= W) {i : Int} {s : ByteArray} {l : List Ex} {a : Option Addr} {cap : Nat} (hin : InL false (fun b => b < K) w m (.slice a l.length cap) l) (hcap : l.length <= cap /\ cap <= 9223372036854775807) (hl : l.length = 3) (hok : ∀ y ∈ l, NGe.Ok lf m y)
  (hC : C.length + 2 * (sz m (kid l 0) + sz m (kid l 1) + sz m (kid l 2)) + 2 <= 60000) (hT : T.length + (sz m (kid l 0) + sz m (kid l 1) + sz m (kid l 2)) <= 60000) :
  Calls prog 29 #[ptr W, .agg #[.int .i64 31, .int .i64 i, .string s, .slice a l.length cap]] w fun e w' => e = .returned (.tuple #[]) /\ ∃ cv' tv', Wb w' W cv' tv' (C ++ (NGe.choice (gen m) (kid l 0) (kid l 1) (kid l 2) C.length T.length).1) (T ++ (NGe.choice (gen m) (kid l 0) (kid l 1) (kid l 2) C.length T.length).2) /\ Kw W cv tv cv' tv' w w' := by
 obtain ⟨W0, hW0⟩ : ∃ W0, w.alloc (.cells #[.int .i64 31, .int .i64 i, .string s, .slice a l.length cap] 24) = W0 := ⟨_, rfl⟩
 have b0 : Below w.heap.size w W0 := by rw [<- hW0]; exact (Below.refl _ w).alloc (Nat.le_refl _) _
 have x0 : W0.heap[w.heap.size]? = some (.cells #[.int .i64 31, .int .i64 i, .string s, .slice a l.length cap] 24 (0, 0)) := by rw [<- hW0]; exact heap_alloc_new w _
 have hk0 : Kw W cv tv cv tv w W0 := Kw.refl b0 (Nat.le_of_lt h.lt)
 have cL := choice_of (o := 31) (i := i) (s := s) hw (h.below b0) hK (NWt.Kw.inl hk0 hK hin) hcap hl hok hC hT
 obtain ⟨v0, v1, v2, v3⟩ := four_box x0
 clear x0 b0
 have HK0 : Hid _ := hk0
 clear hk0 hin h hl
 obtain ⟨X, hX⟩ : ∃ X, NGe.choice (gen m) (kid l 0) (kid l 1) (kid l 2) C.length T.length = X := ⟨_, rfl⟩
 rw [hX] at cL ⊢
 clear hX
 go_enter func29, ntmps29
 go_wp2_with fail
 (try rw [hW0])
 refine cL.mono ?_
 rintro e w1 ⟨rfl, cv1, tv1, wb1, kw1⟩
 clear cL
 go_wp2_with fail
 go_end0
 exact ⟨rfl, cv1, tv1, wb1, HK0.out.trans kw1⟩
theorem write_row {lf : Int -> Int -> ByteArray -> Bool} {m : Nat} (hw : WI lf m) {w : World} {W K : Nat} {cv tv : Value} {C : List Ins} {T : List ByteArray} (h : Wb w W cv tv C T) (hK : K <= W) {o i : Int} {s : ByteArray} {l : List Ex} {a : Option Addr} {cap : Nat} (hin : InL false (fun b => b < K) w m (.slice a l.length cap) l) (hcap : l.length <= cap /\ cap <= 9223372036854775807) (hok : ∀ y ∈ l, NGe.Ok lf m y)
  (hC : C.length + 2 * (l.map (sz m)).sum + 1 <= 60000) (hT : T.length + (l.map (sz m)).sum + 1 <= 60000) (h29 : (o == 29) = false) (h30 : (o == 30) = false) (h31 : (o == 31) = false) :
  Calls prog 29 #[ptr W, .agg #[.int .i64 o, .int .i64 i, .string s, .slice a l.length cap]] w fun e w' => e = .returned (.tuple #[]) /\ ∃ cv' tv', Wb w' W cv' tv' (C ++ (NGe.leaf o i s T.length (row (gen m) l C.length T.length)).1) (T ++ (NGe.leaf o i s T.length (row (gen m) l C.length T.length)).2) /\ Kw W cv tv cv' tv' w w' := by
 obtain ⟨W0, hW0⟩ : ∃ W0, w.alloc (.cells #[.int .i64 o, .int .i64 i, .string s, .slice a l.length cap] 24) = W0 := ⟨_, rfl⟩
 have b0 : Below w.heap.size w W0 := by rw [<- hW0]; exact (Below.refl _ w).alloc (Nat.le_refl _) _
 have x0 : W0.heap[w.heap.size]? = some (.cells #[.int .i64 o, .int .i64 i, .string s, .slice a l.length cap] 24 (0, 0)) := by rw [<- hW0]; exact heap_alloc_new w _
 have hlt := h.lt
 have hk0 : Kw W cv tv cv tv w W0 := Kw.refl b0 (Nat.le_of_lt hlt)
 have h0 := h.below b0
 have hx0 : w.heap.size < W0.heap.size := (Array.getElem?_eq_some_iff.1 x0).1
 have hn1 : w.heap.size ≠ W := by omega
 have hn2 : cv.ownBlock ≠ some w.heap.size := fun e => by have := h.c_lt e; omega
 have hn3 : tv.ownBlock ≠ some w.heap.size := fun e => by have := h.t_lt e; omega
 obtain ⟨v0, v1, v2, v3⟩ := four_box x0
 have HX : Hid (W0.heap[w.heap.size]? = some (.cells #[.int .i64 o, .int .i64 i, .string s, .slice a l.length cap] 24 (0, 0))) := x0
 have HK0 : Hid _ := hk0
 have H0 : Hid (Wb W0 W cv tv C T) := h0
 have HIN : Hid (InL false (fun b => b < K) W0 m (.slice a l.length cap) l) := NWt.Kw.inl hk0 hK hin
 have Hw : Hid (WI lf m) := hw
 have HN : Hid (cv.ownBlock ≠ some w.heap.size /\ tv.ownBlock ≠ some w.heap.size) := ⟨hn2, hn3⟩
 have HOK : Hid (∀ y ∈ l, NGe.Ok lf m y) := hok
 clear h h0 x0 hk0 hin b0 hw hn2 hn3 hok
 go_enter func29, ntmps29
 go_wp2_with fail
 try rw [hW0]
 clear hW0 v0 v1 v2 v3
 go_loopw [11] (fun v1 wr => ∃ (q : Nat) (cv1 tv1 : Value), v1 = .int .i64 q /\ q <= l.length /\ Wb wr W cv1 tv1 (C ++ (row (gen m) (l.take q) C.length T.length).1) (T ++ (row (gen m) (l.take q) C.length T.length).2) /\ Kw W cv tv cv1 tv1 W0 wr) (fun v1 _ => l.length - (intOf v1).toNat)
 case atStart => exact ⟨0, cv, tv, rfl, by omega, by simpa [row] using H0.out, Kw.refl (Below.refl _ _) (Nat.le_of_lt H0.out.lt)⟩
 case round =>
  obtain ⟨q, cv1, tv1, rfl, hq, hB, hM⟩ := hrel
  have HR : Hid (Wb wr W cv1 tv1 (C ++ (row (gen m) (l.take q) C.length T.length).1) (T ++ (row (gen m) (l.take q) C.length T.length).2)) := hB
  have HKR : Hid (Kw W cv tv cv1 tv1 W0 wr) := hM
  clear hM hB H0
  by_cases hqlt : q < l.length
  ·have d0 : decide ((q : Int) < (l.length : Int)) = true := by simp; omega
   have hinl := NWt.Kw.inl HKR.out hK HIN.out
   obtain ⟨aa, cc, hsl, -, -, -, -, hLA⟩ := hinl
   cases hsl
   obtain ⟨g, of, u, ha, hSg, hFour, hInq⟩ := XBase.elem_at hLA hqlt
   subst ha
   obtain ⟨c0, c1, c2, c3, rfl, d1, d2, d3, d4⟩ := hFour
   obtain ⟨m', a2, cp2, -, rfl, rfl, rfl, rfl, -⟩ := hInq.kinds
   obtain ⟨y, hy⟩ : ∃ y, l[q] = y := ⟨_, rfl⟩
   have hst := sum_take (m := m) hqlt
   have hokq := HOK.out l[q] (List.getElem_mem hqlt)
   have hrl := row_len lf m (l.take q) C.length T.length (fun z hz => HOK.out z (List.mem_of_mem_take hz))
   have htk : l.take (q + 1) = l.take q ++ [y] := by rw [<- hy]; exact List.take_succ_eq_append_getElem hqlt
   rw [hy] at hInq d1 d2 d3 d4 hst hokq
   obtain ⟨W4, hW4⟩ : ∃ W4, wr.alloc (.cells #[.int .i64 y.o, .int .i64 y.i, .string y.s, .slice a2 y.l.length cp2] 24) = W4 := ⟨_, rfl⟩
   have b4 : Below wr.heap.size wr W4 := by rw [<- hW4]; exact (Below.refl _ wr).alloc (Nat.le_refl _) _
   have q4 : W4.heap[wr.heap.size]? = some (.cells #[.int .i64 y.o, .int .i64 y.i, .string y.s, .slice a2 y.l.length cp2] 24 (0, 0)) := by rw [<- hW4]; exact heap_alloc_new wr _
   obtain ⟨e0', e1', e2', e3'⟩ := four_box q4
   have hk4 : Kw W cv1 tv1 cv1 tv1 wr W4 := Kw.refl b4 (Nat.le_of_lt HR.out.lt)
   have cM := Hw.out W4 W K cv1 tv1 _ _ _ y (HR.out.below b4) hK (NWt.Kw.inx hk4 hK hInq) hokq (by rw [List.length_append]; omega) (by rw [List.length_append]; omega)
   rw [List.length_append, List.length_append] at cM
   have HKK : Hid (Kw W cv tv cv1 tv1 W0 W4) := HKR.out.trans hk4
   have hcapq : l.length <= cap := hcap.1
   have HTK : Hid (∀ cv' tv' w', Wb w' W cv' tv' (C ++ (row (gen m) (l.take q) C.length T.length).1 ++ (gen m y (C.length + (row (gen m) (l.take q) C.length T.length).1.length) (T.length + (row (gen m) (l.take q) C.length T.length).2.length)).1) (T ++ (row (gen m) (l.take q) C.length T.length).2 ++ (gen m y (C.length + (row (gen m) (l.take q) C.length T.length).1.length) (T.length + (row (gen m) (l.take q) C.length T.length).2.length)).2) -> Wb w' W cv' tv' (C ++ (row (gen m) (l.take (q + 1)) C.length T.length).1) (T ++ (row (gen m) (l.take (q + 1)) C.length T.length).2)) := by
    intro cv' tv' w' hb
    rw [htk, NGe.row_snoc, <- List.append_assoc, <- List.append_assoc]
    exact hb
   clear hInq q4 hLA hst hokq hrl htk hk4 b4
   go_wp2_with fail
   refine cM.mono ?_
   rintro e W5 ⟨rfl, cv2, tv2, wb2, kw2⟩
   have HW5 : Hid _ := HTK.out _ _ _ wb2
   have HK5 : Hid (Kw W cv tv cv2 tv2 W0 W5) := HKK.out.trans kw2
   clear cM hW4 d1 d2 d3 d4 e0' e1' e2' e3' wb2 kw2
   go_wp2_with fail
   go_roundw
   case rel => exact ⟨q + 1, cv2, tv2, by go_num, by omega, HW5.out, HK5.out⟩
   case measure => simp only [intOf]; omega
  ·have d0 : decide ((q : Int) < (l.length : Int)) = false := by simp; omega
   obtain rfl : q = l.length := by omega
   have hwb := HR.out
   rw [List.take_length] at hwb
   obtain ⟨x1, n12, n13⟩ := NWt.Kw.box HKR.out hx0 hn1 HN.out.1 HN.out.2 HX.out
   obtain ⟨v0, v1, v2, v3⟩ := four_box x1
   have hrl := row_len lf m l C.length T.length HOK.out
   have hz1 := (Array.getElem?_eq_some_iff.1 x1).1
   have hwd := Wb.drew hwb
   obtain ⟨R, hR⟩ : ∃ R, row (gen m) l C.length T.length = R := ⟨_, rfl⟩
   rw [hR] at hwd hrl
   have cO := operand_c hwd (by rw [List.length_append]; omega) o i s (.slice a l.length cap)
   rw [List.length_append] at cO
   obtain ⟨av, hav⟩ : ∃ av, opd o i (T.length + R.2.length) = av := ⟨_, rfl⟩
   rw [hav] at cO
   have HX1 : Hid (wr.heap[w.heap.size]? = some (.cells #[.int .i64 o, .int .i64 i, .string s, .slice a l.length cap] 24 (0, 0))) := x1
   have HN1 : Hid (cv1.ownBlock ≠ some w.heap.size /\ tv1.ownBlock ≠ some w.heap.size) := ⟨n12, n13⟩
   clear hwb hwd HR HIN Hw HOK HN n12 n13 x1
   go_wp2_with fail
   refine wp_region_held_drew (S := fun w' => w'.cell? ⟨w.heap.size, 0, none⟩ = some (.int .i64 o) /\ w'.cell? ⟨w.heap.size, 1, none⟩ = some (.int .i64 i) /\ w'.cell? ⟨w.heap.size, 2, none⟩ = some (.string s) /\ w'.cell? ⟨w.heap.size, 3, none⟩ = some (.slice a l.length cap)) (by kernel_rfl) ⟨v0, v1, v2, v3⟩ (fun hHeld => ?_)
   refine tkH 0 rfl ?_; try simp only [ptH]
   refine tkH 1 rfl ?_; try simp only [ptH]
   refine tkH 2 rfl ?_; try simp only [ptH]
   refine tkH 3 rfl ?_; try simp only [ptH]
   refine tkH 4 rfl ?_; try simp only [ptH]
   refine rdH [5] ?_
   refine alH rfl fun K0 hK0 => ?_
   go_simp
   refine cO.mono ?_
   rintro e w5 ⟨rfl, tv5, wb5, kw5⟩
   obtain ⟨x5, n52, n53⟩ := NWt.Kw.box kw5 hz1 hn1 HN1.out.1 HN1.out.2 HX1.out
   refine hK0.out _ _ (four_box x5) (fun hHeld => ?_)
   clear hK0 K0 cO
   try simp only [ptH]
   have cP := put_c wb5 (by rw [List.length_append]; omega) o av
   refine rdH [6] ?_
   refine alH rfl fun K0 hK0 => ?_
   go_simp
   refine cP.mono ?_
   rintro e w6 ⟨rfl, cv6, wb6, kw6⟩
   obtain ⟨x6, -, -⟩ := NWt.Kw.box kw6 (Array.getElem?_eq_some_iff.1 x5).1 hn1 n52 n53 x5
   refine hK0.out _ _ (four_box x6) (fun hHeld => ?_)
   clear hK0 K0 cP
   try simp only [ptH]
   refine dnH ?_
   go_wp2_with fail
   go_end0
   refine ⟨rfl, cv6, tv5, ?_, ((HK0.out.trans (Kw.drew HKR.out)).trans kw5).trans kw6⟩
   unfold NGe.leaf
   rw [hR, hav]
   rw [<- List.append_assoc, <- List.append_assoc]
   exact wb6
theorem write_all (lf : Int -> Int -> ByteArray -> Bool) : ∀ m, WI lf m := by
 intro m
 induction m with
 | zero =>
  intro w W K cv tv v C T x _ _ h
  rw [In] at h
  exact h.elim
 | succ m ih =>
  rintro w W K cv tv v C T ⟨o, i, s, l⟩ h hK hin ⟨h1, h2, h3⟩ hC hT
  rw [XBase.in_iff] at hin
  obtain ⟨lv, rfl, hob, hib, hsb, hl⟩ := hin
  have hl0 := hl
  obtain ⟨a, cap, rfl, hc1, hc2, -⟩ := hl
  have e : sz (m + 1) (.mk o i s l) = 1 + (l.map (sz m)).sum := rfl
  rw [e] at hC hT
  by_cases ho : o = 29 \/ o = 30
  ·have hk : l.length = 2 := by rw [NGe.kd_two ho] at h1; omega
   have es : (l.map (sz m)).sum = sz m (kid l 0) + sz m (kid l 1) := by rw [NGe.two_of hk]; simp [kid]
   have eg : gen (m + 1) (.mk o i s l) C.length T.length = NGe.logic (gen m) (o + 1) (kid l 0) (kid l 1) C.length T.length := by rw [gen, if_pos ho]
   rw [eg]
   exact write_logic ih h hK hl0 ⟨hc1, hc2⟩ hk h3 (by omega) (by omega) (o + 1) (by omega)
  by_cases ho3 : o = 31
  ·have hk : l.length = 3 := by subst ho3; rw [NGe.kd_three] at h1; omega
   have es : (l.map (sz m)).sum = sz m (kid l 0) + sz m (kid l 1) + sz m (kid l 2) := by rw [NGe.three_of hk]; simp [kid]; omega
   have eg : gen (m + 1) (.mk o i s l) C.length T.length = NGe.choice (gen m) (kid l 0) (kid l 1) (kid l 2) C.length T.length := by rw [gen, if_neg ho, if_pos ho3]
   rw [eg]
   subst ho3
   exact write_choice ih h hK hl0 ⟨hc1, hc2⟩ hk h3 (by omega) (by omega)
  have eg : gen (m + 1) (.mk o i s l) C.length T.length = NGe.leaf o i s T.length (row (gen m) l C.length T.length) := by rw [gen, if_neg ho, if_neg ho3]
  rw [eg]
  exact write_row ih h hK hl0 ⟨hc1, hc2⟩ h3 (by omega) (by omega) (by simp; omega) (by simp; omega) (by simp; omega)
end Go.Proofs.YthjbknncbhkinaaGreatDoor.NWv
namespace Go.Proofs.YthjbknncbhkinaaGreatDoor.NCk
open IPure CPu NGe
open EPure (Ex)
open SFit (kd ft)
theorem ldb_neg {H : Nat -> Int} {k : Nat} {h : Int} (hk : H k < 0) : ldb H k h = true := by simp [ldb, hk]
theorem ldb_eq {H : Nat -> Int} {k : Nat} {h : Int} (hk : H k = h) : ldb H k h = true := by
 unfold ldb
 cases decide (H k < 0) <;> simp [hk]
theorem ldb_or {H : Nat -> Int} {k : Nat} {h : Int} (hk : H k < 0 \/ H k = h) : ldb H k h = true := by
 rcases hk with hk | hk
 ·exact ldb_neg hk
 ·exact ldb_eq hk
theorem ld_other {H : Nat -> Int} {k j : Nat} {h : Int} (hj : j ≠ k) : ld H k h j = H j := by
 unfold ld
 split
 ·unfold upd; rw [if_neg hj]
 ·rfl
theorem ld_same {H : Nat -> Int} {k : Nat} {h : Int} (hk : H k < 0 \/ H k = h) : ld H k h k = h := ld_at (ldb_or hk)
theorem fls_next {n : Nat} {t d : Int} {H : Nat -> Int} {i : Nat} {o a : Int} {r : List Ins} (h0 : 0 <= H i) (hj : ijp o = false) (hf : fmd o a = true) (hn : hnm t d o a = true) (hh : nd o <= H i) (he : H (i + 1) < 0 \/ H (i + 1) = H i - nd o + 1) :
  fls n t d H i ((o, a) :: r) = fls n t d (ld H (i + 1) (H i - nd o + 1)) (i + 1) r := by
 have hl : lon H i o a = some (ld H (i + 1) (H i - nd o + 1)) := by
  have e1 : ¬ (o = 30 \/ o = 31) := fun e => by rcases e with rfl | rfl <;> simp [ijp] at hj
  have e2 : ¬ o = 32 := fun e => by subst e; simp [ijp] at hj
  have e3 : ¬ o = 33 := fun e => by subst e; simp [ijp] at hj
  unfold lon
  rw [if_neg (by omega), if_neg e1, if_neg e2, if_neg e3]
  unfold one
  rw [if_pos (ldb_or he)]
 rw [fls]
 have : fl n t d H i (o, a) = .ok (ld H (i + 1) (H i - nd o + 1)) := by
  unfold fl
  rw [if_neg (by omega), if_neg (by simp [hf]), if_neg (by simp [hn]), if_neg (by simp [hj])]
  simp only [hl]
 rw [this]
theorem fls_jump {n : Nat} {t d : Int} {H : Nat -> Int} {i k : Nat} {o : Int} {r : List Ins} (ho : o = 30 \/ o = 31 \/ o = 32) (h1 : 1 <= H i) (hk : i + 1 < k) (hkn : k <= n) (hk1 : H k < 0 \/ H k = (if o = 32 then H i - 1 else H i)) (hn : H (i + 1) < 0) :
  fls n t d H i ((o, (k : Int)) :: r) = fls n t d (ld (ld H k (if o = 32 then H i - 1 else H i)) (i + 1) (H i - 1)) (i + 1) r := by
 have hnd : nd o = 1 := by rcases ho with rfl | rfl | rfl <;> decide
 have hl : lon H i o k = some (ld (ld H k (if o = 32 then H i - 1 else H i)) (i + 1) (H i - 1)) := by
  unfold lon
  rw [hnd, if_neg (by omega)]
  by_cases e : o = 32
  ·rw [if_neg (by omega), if_pos e]
   rw [if_pos e] at hk1 ⊢
   unfold both
   rw [Int.toNat_natCast, if_pos (ldb_or hk1), if_pos (ldb_neg (by rw [ld_other (by omega)]; exact hn))]
  ·rw [if_pos (by omega)]
   rw [if_neg e] at hk1 ⊢
   unfold both
   rw [Int.toNat_natCast, show H i - 1 + 1 = H i by omega, if_pos (ldb_or hk1), if_pos (ldb_neg (by rw [ld_other (by omega)]; exact hn))]
 rw [fls]
 have hf : fmd o k = true := by rcases ho with rfl | rfl | rfl <;> rfl
 have hm : hnm t d o k = true := by rcases ho with rfl | rfl | rfl <;> rfl
 have : fl n t d H i (o, (k : Int)) = .ok (ld (ld H k (if o = 32 then H i - 1 else H i)) (i + 1) (H i - 1)) := by
  unfold fl
  rw [if_neg (by omega), if_neg (by simp [hf]), if_neg (by simp [hm]), if_neg (by simp only; omega)]
  simp only [hl]
 rw [this]
theorem fls_goto {n : Nat} {t d : Int} {H : Nat -> Int} {i k : Nat} {r : List Ins} (h1 : 0 <= H i) (hk : i + 1 < k) (hkn : k <= n) (hk1 : H k < 0 \/ H k = H i) :
  fls n t d H i ((33, (k : Int)) :: r) = fls n t d (ld H k (H i)) (i + 1) r := by
 have hnd : nd 33 = 0 := by decide
 have hl : lon H i 33 k = some (ld H k (H i)) := by
  unfold lon
  rw [hnd, if_neg (by omega), if_neg (by omega), if_neg (by omega), if_pos rfl]
  unfold one
  rw [Int.toNat_natCast, Int.sub_zero, if_pos (ldb_or hk1)]
 rw [fls]
 have hf : fmd 33 k = true := rfl
 have hm : hnm t d 33 k = true := rfl
 have : fl n t d H i (33, (k : Int)) = .ok (ld H k (H i)) := by
  unfold fl
  rw [if_neg (by omega), if_neg (by simp [hf]), if_neg (by simp [hm]), if_neg (by simp only; omega)]
  simp only [hl]
 rw [this]
def Sg (n : Nat) (t d : Int) (D : List Ins) (c : Nat) (u : Int) : Prop := ∀ (H : Nat -> Int) (r : List Ins), 0 <= H c -> c + D.length <= n -> (∀ k, c < k -> k < c + D.length -> H k < 0) -> (H (c + D.length) < 0 \/ H (c + D.length) = H c + u) ->
 ∃ H', fls n t d H c (D ++ r) = fls n t d H' (c + D.length) r /\ H' (c + D.length) = H c + u /\ ∀ k, c + D.length < k -> H' k = H k
theorem sg_one {n : Nat} {t d : Int} {o a : Int} {c : Nat} (hj : ijp o = false) (hf : fmd o a = true) (hn : hnm t d o a = true) : ∀ (H : Nat -> Int) (r : List Ins), 0 <= H c -> nd o <= H c -> (H (c + 1) < 0 \/ H (c + 1) = H c - nd o + 1) ->
  ∃ H', fls n t d H c ((o, a) :: r) = fls n t d H' (c + 1) r /\ H' (c + 1) = H c - nd o + 1 /\ ∀ k, c + 1 < k -> H' k = H k := by
 intro H r h1 h2 h3
 exact ⟨_, fls_next h1 hj hf hn h2 h3, ld_same h3, fun k hk => ld_other (by omega)⟩
theorem nd_kd {o : Int} (h : 1 <= o) (h2 : o <= 28) : nd o = kd o := by
 have : o = 1 \/ o = 2 \/ o = 3 \/ o = 4 \/ o = 5 \/ o = 6 \/ o = 7 \/ o = 8 \/ o = 9 \/ o = 10 \/ o = 11 \/ o = 12 \/ o = 13 \/ o = 14 \/ o = 15 \/ o = 16 \/ o = 17 \/ o = 18 \/ o = 19 \/ o = 20 \/ o = 21 \/ o = 22 \/ o = 23 \/ o = 24 \/ o = 25 \/ o = 26 \/ o = 27 \/ o = 28 := by omega
 rcases this with rfl | rfl | rfl | rfl | rfl | rfl | rfl | rfl | rfl | rfl | rfl | rfl | rfl | rfl | rfl | rfl | rfl | rfl | rfl | rfl | rfl | rfl | rfl | rfl | rfl | rfl | rfl | rfl <;> decide
theorem kd_pos {o : Int} (h : 0 <= kd o) : 1 <= o /\ o <= 31 := by
 unfold kd at h
 split at h
 ·omega
 split at h
 ·omega
 split at h
 ·omega
 split at h
 ·omega
 ·omega
theorem fmd_opd {lf : Int -> Int -> ByteArray -> Bool} {o i : Int} {s : ByteArray} (t : Nat) (h1 : 1 <= o) (h2 : o <= 28) (hft : ft lf o i s = true) : fmd o (opd o i t) = true := by
 unfold fmd
 by_cases e : o = 4 \/ o = 5 \/ o = 6 \/ o = 7
 ·rcases e with rfl | rfl | rfl | rfl <;> rfl
 have c1 : ((o == 4) || ((o == 5) || ((o == 6) || ((o == 7) || ((o == 30) || ((o == 31) || ((o == 32) || (o == 33)))))))) = false := by
  simp
  omega
 have hT : isT o = false := by
  unfold isT
  simp
  omega
 have hop : opd o i t = i := by unfold opd; rw [if_neg (by simp [hT])]
 rw [c1, hop, cond_false]
 unfold ft at hft
 by_cases e9 : o = 9
 ·subst e9
  simp at hft ⊢
  omega
 rw [if_neg (by omega), if_neg (by omega), if_neg (by omega), if_neg e9] at hft
 have : (o == 9) = false := by simp [e9]
 rw [this, cond_false]
 simp at hft ⊢
 omega
theorem hnm_opd {t d : Int} {o i : Int} {q : Nat} (hq : isT o = true -> (q : Int) < t) (hp : o = 6 -> 0 <= i /\ i < d) : hnm t d o (opd o i q) = true := by
 unfold hnm
 cases hT : isT o with
 | true =>
  have := hq hT
  have hop : opd o i q = q := by unfold opd; rw [if_pos hT]
  unfold isT at hT
  rw [hT, cond_true, hop]
  simp
  omega
 | false =>
  have hop : opd o i q = i := by unfold opd; rw [if_neg (by simp [hT])]
  unfold isT at hT
  rw [hT, cond_false, hop]
  by_cases e : o = 6
  ·have := hp e
   subst e
   simp
   omega
  ·have : (o == 6) = false := by simp [e]
   rw [this, cond_false]
theorem sg_both {n : Nat} {t d : Int} {j : Int} {c : Nat} {A B : Cd} (hj : j = 30 \/ j = 31) (hA : Sg n t d A.1 c 1) (hB : Sg n t d B.1 (c + A.1.length + 1) 1) (ha : 1 <= A.1.length) (hb : 1 <= B.1.length) : Sg n t d (both2 j c A B).1 c 1 := by
 intro H r h1 h2 h3 h4
 obtain ⟨a, ea⟩ : ∃ a, A.1.length = a := ⟨_, rfl⟩
 obtain ⟨b, eb⟩ : ∃ b, B.1.length = b := ⟨_, rfl⟩
 have hlen : (both2 j c A B).1.length = a + 1 + b + 1 := by simp [both2, ea, eb]; omega
 rw [hlen] at h2 h3 h4 ⊢
 unfold Sg at hA hB
 rw [ea] at hA hB ha
 rw [eb] at hB hb
 obtain ⟨H1, a1, a2, a3⟩ := hA H ((j, ((c + a + 1 + b + 1 : Nat) : Int)) :: (B.1 ++ [(29, 0)]) ++ r) h1 (by omega) (fun k k1 k2 => h3 k k1 (by omega)) (.inl (h3 _ (by omega) (by omega)))
 rw [show (both2 j c A B).1 ++ r = A.1 ++ ((j, ((c + a + 1 + b + 1 : Nat) : Int)) :: (B.1 ++ [(29, 0)]) ++ r) by simp [both2, ea, eb], a1]
 have q1 : H1 (c + a + 1 + b + 1) < 0 \/ H1 (c + a + 1 + b + 1) = H1 (c + a) := by
  rw [a3 _ (by omega), a2, show c + a + 1 + b + 1 = c + (a + 1 + b + 1) by omega]
  exact h4
 have q2 : H1 (c + a + 1) < 0 := by rw [a3 _ (by omega)]; exact h3 _ (by omega) (by omega)
 have hj32 : ¬ j = 32 := by omega
 have s1 := fls_jump (n := n) (t := t) (d := d) (H := H1) (i := c + a) (k := c + a + 1 + b + 1) (o := j) (r := B.1 ++ [(29, 0)] ++ r) (by omega) (by omega) (by omega) (by omega) (by rw [if_neg hj32]; exact q1) q2
 rw [if_neg hj32] at s1
 rw [List.cons_append, s1]
 obtain ⟨H2, hH2⟩ : ∃ H2, ld (ld H1 (c + a + 1 + b + 1) (H1 (c + a))) (c + a + 1) (H1 (c + a) - 1) = H2 := ⟨_, rfl⟩
 rw [hH2]
 have e1 : H2 (c + a + 1) = H c := by
  rw [<- hH2, ld_same (.inl (by rw [ld_other (by omega)]; exact q2)), a2]; omega
 have e2 : H2 (c + a + 1 + b + 1) = H c + 1 := by
  rw [<- hH2, ld_other (by omega), ld_same q1, a2]
 have e3 : ∀ k, c + a + 1 < k -> k ≠ c + a + 1 + b + 1 -> H2 k = H k := fun k hk hk2 => by
  rw [<- hH2, ld_other (by omega), ld_other hk2, a3 k (by omega)]
 obtain ⟨H3, b1, b2, b3⟩ := hB H2 ([(29, 0)] ++ r) (by omega) (by omega) (fun k k1 k2 => by rw [e3 k k1 (by omega)]; exact h3 k (by omega) (by omega)) (.inl (by rw [e3 _ (by omega) (by omega)]; exact h3 _ (by omega) (by omega)))
 rw [List.append_assoc, b1]
 have q3 : H3 (c + a + 1 + b + 1) = H c + 1 := by rw [b3 _ (by omega), e2]
 have hnd : nd 29 = 1 := by decide
 obtain ⟨H4, c1, c2, c3⟩ := sg_one (n := n) (t := t) (d := d) (o := 29) (a := 0) (c := c + a + 1 + b) rfl rfl rfl H3 r (by omega) (by omega) (.inr (by rw [q3, b2, hnd]; omega))
 refine ⟨H4, ?_, ?_, fun k hk => ?_⟩
 ·rw [List.cons_append, List.nil_append, c1, show c + a + 1 + b + 1 = c + (a + 1 + b + 1) by omega]
 ·rw [show c + (a + 1 + b + 1) = c + a + 1 + b + 1 by omega, c2, b2, hnd]; omega
 ·rw [c3 k (by omega), b3 k (by omega), e3 k (by omega) (by omega)]
theorem sg_three {n : Nat} {t d : Int} {c : Nat} {A B G : Cd} (hA : Sg n t d A.1 c 1) (hB : Sg n t d B.1 (c + A.1.length + 1) 1) (hG : Sg n t d G.1 (c + A.1.length + 1 + B.1.length + 1) 1) (ha : 1 <= A.1.length) (hb : 1 <= B.1.length) (hg : 1 <= G.1.length) : Sg n t d (three c A B G).1 c 1 := by
 intro H r h1 h2 h3 h4
 obtain ⟨a, ea⟩ : ∃ a, A.1.length = a := ⟨_, rfl⟩
 obtain ⟨b, eb⟩ : ∃ b, B.1.length = b := ⟨_, rfl⟩
 obtain ⟨g, eg⟩ : ∃ g, G.1.length = g := ⟨_, rfl⟩
 have hlen : (three c A B G).1.length = a + 1 + b + 1 + g := by simp [three, ea, eb, eg]; omega
 rw [hlen] at h2 h3 h4 ⊢
 unfold Sg at hA hB hG
 rw [ea] at hA hB hG ha
 rw [eb] at hB hG hb
 rw [eg] at hG hg
 obtain ⟨H1, a1, a2, a3⟩ := hA H ((32, ((c + a + 1 + b + 1 : Nat) : Int)) :: (B.1 ++ (33, ((c + a + 1 + b + 1 + g : Nat) : Int)) :: G.1) ++ r) h1 (by omega) (fun k k1 k2 => h3 k k1 (by omega)) (.inl (h3 _ (by omega) (by omega)))
 rw [show (three c A B G).1 ++ r = A.1 ++ ((32, ((c + a + 1 + b + 1 : Nat) : Int)) :: (B.1 ++ (33, ((c + a + 1 + b + 1 + g : Nat) : Int)) :: G.1) ++ r) by simp [three, ea, eb, eg], a1]
 have q1 : H1 (c + a + 1 + b + 1) < 0 := by rw [a3 _ (by omega)]; exact h3 _ (by omega) (by omega)
 have q2 : H1 (c + a + 1) < 0 := by rw [a3 _ (by omega)]; exact h3 _ (by omega) (by omega)
 have s1 := fls_jump (n := n) (t := t) (d := d) (H := H1) (i := c + a) (k := c + a + 1 + b + 1) (o := 32) (r := B.1 ++ (33, ((c + a + 1 + b + 1 + g : Nat) : Int)) :: G.1 ++ r) (by omega) (by omega) (by omega) (by omega) (.inl q1) q2
 rw [if_pos rfl] at s1
 rw [List.cons_append, s1]
 obtain ⟨H2, hH2⟩ : ∃ H2, ld (ld H1 (c + a + 1 + b + 1) (H1 (c + a) - 1)) (c + a + 1) (H1 (c + a) - 1) = H2 := ⟨_, rfl⟩
 rw [hH2]
 have e1 : H2 (c + a + 1) = H c := by
  rw [<- hH2, ld_same (.inl (by rw [ld_other (by omega)]; exact q2)), a2]; omega
 have e2 : H2 (c + a + 1 + b + 1) = H c := by
  rw [<- hH2, ld_other (by omega), ld_same (.inl q1), a2]; omega
 have e3 : ∀ k, c + a + 1 < k -> k ≠ c + a + 1 + b + 1 -> H2 k = H k := fun k hk hk2 => by
  rw [<- hH2, ld_other (by omega), ld_other hk2, a3 k (by omega)]
 obtain ⟨H3, b1, b2, b3⟩ := hB H2 ((33, ((c + a + 1 + b + 1 + g : Nat) : Int)) :: G.1 ++ r) (by omega) (by omega) (fun k k1 k2 => by rw [e3 k k1 (by omega)]; exact h3 k (by omega) (by omega)) (.inl (by rw [e3 _ (by omega) (by omega)]; exact h3 _ (by omega) (by omega)))
 rw [List.append_assoc, b1]
 have q4 : H3 (c + a + 1 + b + 1 + g) < 0 \/ H3 (c + a + 1 + b + 1 + g) = H3 (c + a + 1 + b) := by
  rw [b3 _ (by omega), e3 _ (by omega) (by omega), b2, e1, show c + a + 1 + b + 1 + g = c + (a + 1 + b + 1 + g) by omega]
  exact h4
 have s2 := fls_goto (n := n) (t := t) (d := d) (H := H3) (i := c + a + 1 + b) (k := c + a + 1 + b + 1 + g) (r := G.1 ++ r) (by omega) (by omega) (by omega) q4
 rw [List.cons_append, s2]
 obtain ⟨H4, hH4⟩ : ∃ H4, ld H3 (c + a + 1 + b + 1 + g) (H3 (c + a + 1 + b)) = H4 := ⟨_, rfl⟩
 rw [hH4]
 have f1 : H4 (c + a + 1 + b + 1) = H c := by rw [<- hH4, ld_other (by omega), b3 _ (by omega), e2]
 have f2 : H4 (c + a + 1 + b + 1 + g) = H c + 1 := by rw [<- hH4, ld_same q4, b2, e1]
 have f3 : ∀ k, c + a + 1 + b + 1 < k -> k ≠ c + a + 1 + b + 1 + g -> H4 k = H k := fun k hk hk2 => by
  rw [<- hH4, ld_other hk2, b3 k (by omega), e3 k (by omega) (by omega)]
 obtain ⟨H5, d1, d2, d3⟩ := hG H4 r (by omega) (by omega) (fun k k1 k2 => by rw [f3 k k1 (by omega)]; exact h3 k (by omega) (by omega)) (.inr (by rw [f2, f1]))
 refine ⟨H5, ?_, ?_, fun k hk => ?_⟩
 ·rw [d1, show c + a + 1 + b + 1 + g = c + (a + 1 + b + 1 + g) by omega]
 ·rw [show c + (a + 1 + b + 1 + g) = c + a + 1 + b + 1 + g by omega, d2, f1]
 ·rw [d3 k (by omega), f3 k (by omega) (by omega)]
theorem sg_row {lf : Int -> Int -> ByteArray -> Bool} {n : Nat} {t d : Int} {m : Nat} : ∀ (l : List Ex) (c q : Nat), (∀ y ∈ l, Ok lf m y) -> (∀ y ∈ l, ∀ c q : Nat, (q + (gen m y c q).2.length : Int) <= t -> Sg n t d (gen m y c q).1 c 1) -> (q + (row (gen m) l c q).2.length : Int) <= t ->
  ∀ (H : Nat -> Int) (r : List Ins), 0 <= H c -> c + (row (gen m) l c q).1.length <= n -> (∀ k, c < k -> k <= c + (row (gen m) l c q).1.length -> H k < 0) ->
  ∃ H', fls n t d H c ((row (gen m) l c q).1 ++ r) = fls n t d H' (c + (row (gen m) l c q).1.length) r /\ H' (c + (row (gen m) l c q).1.length) = H c + l.length /\ ∀ k, c + (row (gen m) l c q).1.length < k -> H' k = H k := by
 intro l
 induction l with
 | nil => intro c q _ _ _ H r h1 h2 h3; exact ⟨H, rfl, by simp [row], fun _ _ => rfl⟩
 | cons x l ih =>
  intro c q hok hsg hq H r h1 h2 h3
  simp only [row, List.length_append] at hq h2 h3 ⊢
  have hx := hsg x (by simp) c q (by omega)
  have hp := (gen_len lf m x c q (hok x (by simp))).1
  obtain ⟨a, ea⟩ : ∃ a, a = (gen m x c q).1.length := ⟨_, rfl⟩
  obtain ⟨H1, a1, a2, a3⟩ := hx H ((row (gen m) l (c + (gen m x c q).1.length) (q + (gen m x c q).2.length)).1 ++ r) h1 (by omega) (fun k k1 k2 => h3 k k1 (by omega)) (.inl (h3 _ (by omega) (by omega)))
  obtain ⟨H2, b1, b2, b3⟩ := ih (c + (gen m x c q).1.length) (q + (gen m x c q).2.length) (fun y hy => hok y (by simp [hy])) (fun y hy => hsg y (by simp [hy])) (by push_cast; omega) H1 r (by omega) (by omega) (fun k k1 k2 => by rw [a3 k (by omega)]; exact h3 k (by omega) (by omega))
  refine ⟨H2, ?_, ?_, fun k hk => ?_⟩
  ·rw [List.append_assoc, a1, b1, Nat.add_assoc]
  ·rw [<- Nat.add_assoc, b2, a2]; simp; omega
  ·rw [b3 k (by omega), a3 k (by omega)]
theorem sg_leaf {n : Nat} {t d : Int} {o i : Int} {s : ByteArray} {c q : Nat} {K : Cd} {lf : Int -> Int -> ByteArray -> Bool} (h1 : 1 <= o) (h2 : o <= 28) (hft : ft lf o i s = true) (hp : o = 6 -> 0 <= i /\ i < d) (hq : (q + (leaf o i s q K).2.length : Int) <= t)
  (hK : ∀ (H : Nat -> Int) (r : List Ins), 0 <= H c -> c + K.1.length <= n -> (∀ k, c < k -> k <= c + K.1.length -> H k < 0) ->
   ∃ H', fls n t d H c (K.1 ++ r) = fls n t d H' (c + K.1.length) r /\ H' (c + K.1.length) = H c + kd o /\ ∀ k, c + K.1.length < k -> H' k = H k) : Sg n t d (leaf o i s q K).1 c 1 := by
 intro H r h3 h4 h5 h6
 have hlen : (leaf o i s q K).1.length = K.1.length + 1 := by simp [leaf]
 rw [hlen] at h4 h5 h6 ⊢
 obtain ⟨H1, a1, a2, a3⟩ := hK H ((o, opd o i (q + K.2.length)) :: r) h3 (by omega) (fun k k1 k2 => h5 k k1 (by omega))
 have hnd := nd_kd h1 h2
 have hr := nd_range o
 have hj : ijp o = false := by
  unfold ijp
  simp
  omega
 have hT : isT o = true -> ((q + K.2.length : Nat) : Int) < t := fun hT => by
  simp only [leaf, tx, if_pos hT, List.length_append, List.length_cons, List.length_nil] at hq
  push_cast at hq ⊢
  omega
 obtain ⟨H2, b1, b2, b3⟩ := sg_one (n := n) (t := t) (d := d) (o := o) (a := opd o i (q + K.2.length)) (c := c + K.1.length) hj (fmd_opd _ h1 h2 hft) (hnm_opd hT hp) H1 r (by omega) (by omega) (by rw [a3 _ (by omega), a2, hnd, Nat.add_assoc]; exact h6.imp id fun h => by rw [h]; omega)
 refine ⟨H2, ?_, ?_, fun k hk => ?_⟩
 ·rw [show (leaf o i s q K).1 ++ r = K.1 ++ (o, opd o i (q + K.2.length)) :: r by simp [leaf], a1, b1, Nat.add_assoc]
 ·rw [<- Nat.add_assoc, b2, a2]; omega
 ·rw [b3 k (by omega), a3 k (by omega)]
theorem sg_gen (lf : Int -> Int -> ByteArray -> Bool) {n : Nat} {t d : Int} : ∀ (m : Nat) (x : Ex) (c q : Nat), Ok lf m x -> Pl d m x -> (q + (gen m x c q).2.length : Int) <= t -> Sg n t d (gen m x c q).1 c 1 := by
 intro m
 induction m with
 | zero => intro x c q h; exact h.elim
 | succ m ih =>
  rintro ⟨o, i, s, l⟩ c q ⟨h1, h2, h3⟩ ⟨p1, p2⟩ hq
  have hk := kd_pos (by omega : 0 <= kd o)
  by_cases ho : o = 29 \/ o = 30
  ·have hk : l.length = 2 := by rw [kd_two ho] at h1; omega
   have m0 := kid_mem (l := l) (j := 0) (by omega)
   have m1 := kid_mem (l := l) (j := 1) (by omega)
   have eg : gen (m + 1) (.mk o i s l) c q = logic (gen m) (o + 1) (kid l 0) (kid l 1) c q := by rw [gen, if_pos ho]
   rw [eg] at hq ⊢
   simp only [logic, both2, List.length_append] at hq
   exact sg_both (by omega) (ih _ _ _ (h3 _ m0) (p2 _ m0) (by omega)) (ih _ _ _ (h3 _ m1) (p2 _ m1) (by push_cast; omega)) (gen_len lf m _ _ _ (h3 _ m0)).1 (gen_len lf m _ _ _ (h3 _ m1)).1
  by_cases ho3 : o = 31
  ·have hk : l.length = 3 := by subst ho3; rw [kd_three] at h1; omega
   have m0 := kid_mem (l := l) (j := 0) (by omega)
   have m1 := kid_mem (l := l) (j := 1) (by omega)
   have m2 := kid_mem (l := l) (j := 2) (by omega)
   have eg : gen (m + 1) (.mk o i s l) c q = choice (gen m) (kid l 0) (kid l 1) (kid l 2) c q := by rw [gen, if_neg ho, if_pos ho3]
   rw [eg] at hq ⊢
   simp only [choice, choice2, three, List.length_append] at hq
   exact sg_three (ih _ _ _ (h3 _ m0) (p2 _ m0) (by omega)) (ih _ _ _ (h3 _ m1) (p2 _ m1) (by push_cast; omega)) (ih _ _ _ (h3 _ m2) (p2 _ m2) (by push_cast; omega)) (gen_len lf m _ _ _ (h3 _ m0)).1 (gen_len lf m _ _ _ (h3 _ m1)).1 (gen_len lf m _ _ _ (h3 _ m2)).1
  have eg : gen (m + 1) (.mk o i s l) c q = leaf o i s q (row (gen m) l c q) := by rw [gen, if_neg ho, if_neg ho3]
  rw [eg] at hq ⊢
  have hq2 : (q + (row (gen m) l c q).2.length : Int) <= t := by
   simp only [leaf, List.length_append] at hq
   push_cast at hq
   omega
  have := sg_row (n := n) (t := t) (d := d) l c q h3 (fun y hy c q hq => ih y c q (h3 y hy) (p2 y hy) hq) hq2
  rw [h1] at this
  exact sg_leaf (by omega) (by omega) h2 p1 hq this
theorem ck_gen (lf : Int -> Int -> ByteArray -> Bool) {m : Nat} {x : Ex} {d : Int} (h : Ok lf m x) (hp : Pl d m x) (hs : sz m x <= 4096) : ck (gen m x 0 0).1 ((gen m x 0 0).2.length : Int) d = 0 := by
 have hl := gen_len lf m x 0 0 h
 unfold ck
 rw [if_neg (by omega)]
 obtain ⟨H, a1, a2, a3⟩ := sg_gen lf (n := (gen m x 0 0).1.length) (t := ((gen m x 0 0).2.length : Int)) m x 0 0 h hp (by omega) h0 [] (by simp [h0]) (by omega) (fun k k1 _ => by unfold h0; rw [if_neg (by omega)]; omega) (.inl (by unfold h0; rw [if_neg (by omega)]; omega))
 rw [List.append_nil] at a1
 have e : h0 0 = 0 := rfl
 rw [Nat.zero_add] at a1 a2
 rw [a1, fls, a2, e, if_pos (by omega)]
end Go.Proofs.YthjbknncbhkinaaGreatDoor.NCk

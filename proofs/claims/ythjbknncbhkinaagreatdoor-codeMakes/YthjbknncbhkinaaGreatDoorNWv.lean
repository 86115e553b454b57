/- The writer of code: write, of every tree that may be. -/
import Derived.Test.YthjbknncbhkinaaGreatDoorNWu
namespace Go.Proofs.YthjbknncbhkinaaGreatDoor.NWv
open Go.RowKit Go.Proofs.YthjbknncbhkinaaGreatDoor.EPure Go.Proofs.YthjbknncbhkinaaGreatDoor.NWr Go.Proofs.YthjbknncbhkinaaGreatDoor.NLa Go.Proofs.YthjbknncbhkinaaGreatDoor.NWt Go.Proofs.YthjbknncbhkinaaGreatDoor.NWu Go.Proofs.YthjbknncbhkinaaGreatDoor.Tak
open Go.Proofs.YthjbknncbhkinaaGreatDoor.CPu (Ins)
open Go.Proofs.YthjbknncbhkinaaGreatDoor.NGe (gen sz kid row isT opd tx)
open Go.Proofs.YthjbknncbhkinaaGreatDoor.IBase (heap_alloc_new)
open Go.Proofs.YthjbknncbhkinaaGreatDoor.XBase (four_box frozen_box In InL LAt)
set_option linter.unusedVariables false

theorem operand_c {w : World} {W : Nat} {cv tv : Value} {C : List Ins} {T : List ByteArray} (h : Wb w W cv tv C T) (hl : T.length ≤ 65536) (o i : Int) (s : ByteArray) (lv : Value) :
    Calls Tryz.prog 54 #[ptr W, .agg #[.int .i64 o, .int .i64 i, .string s, lv]] w fun e w' => e = .returned (.int .i64 (opd o i T.length)) ∧ ∃ tv', Wb w' W cv tv' C (T ++ tx o s) ∧ Kw W cv tv cv tv' w w' := by
  cases hT : isT o with
  | true =>
    have e1 : opd o i T.length = T.length := by unfold opd; rw [if_pos hT]
    have e2 : tx o s = [s] := by unfold tx; rw [if_pos hT]
    rw [e1, e2]
    exact operand_yes h hl o i s lv hT
  | false =>
    have e1 : opd o i T.length = i := by unfold opd; rw [if_neg (by simp [hT])]
    have e2 : tx o s = [] := by unfold tx; rw [if_neg (by simp [hT])]
    rw [e1, e2, List.append_nil]
    refine (operand_no h o i s lv hT).mono ?_
    rintro e w' ⟨he, hb⟩
    exact ⟨he, tv, h.below hb, Kw.refl hb (Nat.le_of_lt h.lt)⟩
theorem row_len (lf : Int → Int → ByteArray → Bool) (m : Nat) : ∀ (l : List Ex) (c t : Nat), (∀ y ∈ l, NGe.Ok lf m y) → (row (gen m) l c t).1.length ≤ 2 * (l.map (sz m)).sum ∧ (row (gen m) l c t).2.length ≤ (l.map (sz m)).sum := by
  intro l
  induction l with
  | nil => intro c t _; simp [row]
  | cons x r ihr =>
    intro c t h
    have hx := NGe.gen_len lf m x c t (h x (by simp))
    have := ihr (c + (gen m x c t).1.length) (t + (gen m x c t).2.length) (fun y hy => h y (by simp [hy]))
    simp only [row, List.length_append, List.map_cons, List.sum_cons]
    omega
theorem sum_take {l : List Ex} {m q : Nat} (hq : q < l.length) : ((l.take q).map (sz m)).sum + sz m l[q] ≤ (l.map (sz m)).sum := by
  have : l = l.take q ++ l[q] :: l.drop (q + 1) := by rw [← List.drop_eq_getElem_cons hq, List.take_append_drop]
  have e : (l.map (sz m)).sum = ((l.take q ++ l[q] :: l.drop (q + 1)).map (sz m)).sum := by rw [← this]
  simp only [List.map_append, List.sum_append, List.map_cons, List.sum_cons] at e
  omega
set_option maxRecDepth 20000 in
set_option maxHeartbeats 1600000 in
theorem write_logic {lf : Int → Int → ByteArray → Bool} {m : Nat} (hw : WI lf m) {w : World} {W K : Nat} {cv tv : Value} {C : List Ins} {T : List ByteArray} (h : Wb w W cv tv C T) (hK : K ≤ W) {o i : Int} {s : ByteArray} {l : List Ex} {a : Option Addr} {cap : Nat} (hin : InL false (fun b => b < K) w m (.slice a l.length cap) l) (hcap : l.length ≤ cap ∧ cap ≤ 9223372036854775807) (hl : l.length = 2) (hok : ∀ y ∈ l, NGe.Ok lf m y)
    (hC : C.length + 2 * (sz m (kid l 0) + sz m (kid l 1)) + 2 ≤ 60000) (hT : T.length + (sz m (kid l 0) + sz m (kid l 1)) ≤ 60000) (j : Int) (ho : (o = 29 ∧ j = 30) ∨ (o = 30 ∧ j = 31)) :
    Calls Tryz.prog 29 #[ptr W, .agg #[.int .i64 o, .int .i64 i, .string s, .slice a l.length cap]] w fun e w' => e = .returned (.tuple #[]) ∧ ∃ cv' tv', Wb w' W cv' tv' (C ++ (NGe.logic (gen m) j (kid l 0) (kid l 1) C.length T.length).1) (T ++ (NGe.logic (gen m) j (kid l 0) (kid l 1) C.length T.length).2) ∧ Kw W cv tv cv' tv' w w' := by
  obtain ⟨W0, hW0⟩ : ∃ W0, w.alloc (.cells #[.int .i64 o, .int .i64 i, .string s, .slice a l.length cap] 24) = W0 := ⟨_, rfl⟩
  have b0 : Below w.heap.size w W0 := by rw [← hW0]; exact (Below.refl _ w).alloc (Nat.le_refl _) _
  have x0 : W0.heap[w.heap.size]? = some (.cells #[.int .i64 o, .int .i64 i, .string s, .slice a l.length cap] 24 (0, 0)) := by rw [← hW0]; exact heap_alloc_new w _
  have hk0 : Kw W cv tv cv tv w W0 := Kw.refl b0 (Nat.le_of_lt h.lt)
  have cL := logic_of (o := o) (i := i) (s := s) hw (h.below b0) hK (NWt.Kw.inl hk0 hK hin) hcap hl hok hC hT j
  obtain ⟨v0, v1, v2, v3⟩ := four_box x0
  clear x0 b0
  have HK0 : Hid _ := hk0
  clear hk0 hin h hl
  obtain ⟨X, hX⟩ : ∃ X, NGe.logic (gen m) j (kid l 0) (kid l 1) C.length T.length = X := ⟨_, rfl⟩
  rw [hX] at cL ⊢
  clear hX
  rcases ho with ⟨rfl, rfl⟩ | ⟨rfl, rfl⟩
  all_goals
    go_enter Tryz.func29, Tryz.ntmps29
    go_wp2_with fail
    (try rw [hW0])
    refine cL.mono ?_
    rintro e w1 ⟨rfl, cv1, tv1, wb1, kw1⟩
    clear cL
    go_wp2_with fail
    go_end0
    exact ⟨rfl, cv1, tv1, wb1, HK0.out.trans kw1⟩
set_option maxRecDepth 20000 in
set_option maxHeartbeats 1600000 in
theorem write_choice {lf : Int → Int → ByteArray → Bool} {m : Nat} (hw : WI lf m) {w : World} {W K : Nat} {cv tv : Value} {C : List Ins} {T : List ByteArray} (h : Wb w W cv tv C T) (hK : K ≤ W) {i : Int} {s : ByteArray} {l : List Ex} {a : Option Addr} {cap : Nat} (hin : InL false (fun b => b < K) w m (.slice a l.length cap) l) (hcap : l.length ≤ cap ∧ cap ≤ 9223372036854775807) (hl : l.length = 3) (hok : ∀ y ∈ l, NGe.Ok lf m y)
    (hC : C.length + 2 * (sz m (kid l 0) + sz m (kid l 1) + sz m (kid l 2)) + 2 ≤ 60000) (hT : T.length + (sz m (kid l 0) + sz m (kid l 1) + sz m (kid l 2)) ≤ 60000) :
    Calls Tryz.prog 29 #[ptr W, .agg #[.int .i64 31, .int .i64 i, .string s, .slice a l.length cap]] w fun e w' => e = .returned (.tuple #[]) ∧ ∃ cv' tv', Wb w' W cv' tv' (C ++ (NGe.choice (gen m) (kid l 0) (kid l 1) (kid l 2) C.length T.length).1) (T ++ (NGe.choice (gen m) (kid l 0) (kid l 1) (kid l 2) C.length T.length).2) ∧ Kw W cv tv cv' tv' w w' := by
  obtain ⟨W0, hW0⟩ : ∃ W0, w.alloc (.cells #[.int .i64 31, .int .i64 i, .string s, .slice a l.length cap] 24) = W0 := ⟨_, rfl⟩
  have b0 : Below w.heap.size w W0 := by rw [← hW0]; exact (Below.refl _ w).alloc (Nat.le_refl _) _
  have x0 : W0.heap[w.heap.size]? = some (.cells #[.int .i64 31, .int .i64 i, .string s, .slice a l.length cap] 24 (0, 0)) := by rw [← hW0]; exact heap_alloc_new w _
  have hk0 : Kw W cv tv cv tv w W0 := Kw.refl b0 (Nat.le_of_lt h.lt)
  have cL := choice_of (o := 31) (i := i) (s := s) hw (h.below b0) hK (NWt.Kw.inl hk0 hK hin) hcap hl hok hC hT
  obtain ⟨v0, v1, v2, v3⟩ := four_box x0
  clear x0 b0
  have HK0 : Hid _ := hk0
  clear hk0 hin h hl
  obtain ⟨X, hX⟩ : ∃ X, NGe.choice (gen m) (kid l 0) (kid l 1) (kid l 2) C.length T.length = X := ⟨_, rfl⟩
  rw [hX] at cL ⊢
  clear hX
  go_enter Tryz.func29, Tryz.ntmps29
  go_wp2_with fail
  (try rw [hW0])
  refine cL.mono ?_
  rintro e w1 ⟨rfl, cv1, tv1, wb1, kw1⟩
  clear cL
  go_wp2_with fail
  go_end0
  exact ⟨rfl, cv1, tv1, wb1, HK0.out.trans kw1⟩
set_option maxRecDepth 20000 in
set_option maxHeartbeats 3200000 in
theorem write_row {lf : Int → Int → ByteArray → Bool} {m : Nat} (hw : WI lf m) {w : World} {W K : Nat} {cv tv : Value} {C : List Ins} {T : List ByteArray} (h : Wb w W cv tv C T) (hK : K ≤ W) {o i : Int} {s : ByteArray} {l : List Ex} {a : Option Addr} {cap : Nat} (hin : InL false (fun b => b < K) w m (.slice a l.length cap) l) (hcap : l.length ≤ cap ∧ cap ≤ 9223372036854775807) (hok : ∀ y ∈ l, NGe.Ok lf m y)
    (hC : C.length + 2 * (l.map (sz m)).sum + 1 ≤ 60000) (hT : T.length + (l.map (sz m)).sum + 1 ≤ 60000) (h29 : (o == 29) = false) (h30 : (o == 30) = false) (h31 : (o == 31) = false) :
    Calls Tryz.prog 29 #[ptr W, .agg #[.int .i64 o, .int .i64 i, .string s, .slice a l.length cap]] w fun e w' => e = .returned (.tuple #[]) ∧ ∃ cv' tv', Wb w' W cv' tv' (C ++ (NGe.leaf o i s T.length (row (gen m) l C.length T.length)).1) (T ++ (NGe.leaf o i s T.length (row (gen m) l C.length T.length)).2) ∧ Kw W cv tv cv' tv' w w' := by
  obtain ⟨W0, hW0⟩ : ∃ W0, w.alloc (.cells #[.int .i64 o, .int .i64 i, .string s, .slice a l.length cap] 24) = W0 := ⟨_, rfl⟩
  have b0 : Below w.heap.size w W0 := by rw [← hW0]; exact (Below.refl _ w).alloc (Nat.le_refl _) _
  have x0 : W0.heap[w.heap.size]? = some (.cells #[.int .i64 o, .int .i64 i, .string s, .slice a l.length cap] 24 (0, 0)) := by rw [← hW0]; exact heap_alloc_new w _
  have hlt := h.lt
  have hk0 : Kw W cv tv cv tv w W0 := Kw.refl b0 (Nat.le_of_lt hlt)
  have h0 := h.below b0
  have hx0 : w.heap.size < W0.heap.size := (Array.getElem?_eq_some_iff.1 x0).1
  have hn1 : w.heap.size ≠ W := by omega
  have hn2 : cv.ownBlock ≠ some w.heap.size := fun e => by have := h.c_lt e; omega
  have hn3 : tv.ownBlock ≠ some w.heap.size := fun e => by have := h.t_lt e; omega
  obtain ⟨v0, v1, v2, v3⟩ := four_box x0
  have HX : Hid (W0.heap[w.heap.size]? = some (.cells #[.int .i64 o, .int .i64 i, .string s, .slice a l.length cap] 24 (0, 0))) := x0
  have HK0 : Hid _ := hk0
  have H0 : Hid (Wb W0 W cv tv C T) := h0
  have HIN : Hid (InL false (fun b => b < K) W0 m (.slice a l.length cap) l) := NWt.Kw.inl hk0 hK hin
  have Hw : Hid (WI lf m) := hw
  have HN : Hid (cv.ownBlock ≠ some w.heap.size ∧ tv.ownBlock ≠ some w.heap.size) := ⟨hn2, hn3⟩
  have HOK : Hid (∀ y ∈ l, NGe.Ok lf m y) := hok
  clear h h0 x0 hk0 hin b0 hw hn2 hn3 hok
  go_enter Tryz.func29, Tryz.ntmps29
  go_wp2_with fail
  try rw [hW0]
  clear hW0 v0 v1 v2 v3
  go_loopw [11] (fun v1 wr => ∃ (q : Nat) (cv1 tv1 : Value), v1 = .int .i64 q ∧ q ≤ l.length ∧ Wb wr W cv1 tv1 (C ++ (row (gen m) (l.take q) C.length T.length).1) (T ++ (row (gen m) (l.take q) C.length T.length).2) ∧ Kw W cv tv cv1 tv1 W0 wr) (fun v1 _ => l.length - (intOf v1).toNat)
  case atStart => exact ⟨0, cv, tv, rfl, by omega, by simpa [row] using H0.out, Kw.refl (Below.refl _ _) (Nat.le_of_lt H0.out.lt)⟩
  case round =>
    obtain ⟨q, cv1, tv1, rfl, hq, hB, hM⟩ := hrel
    have HR : Hid (Wb wr W cv1 tv1 (C ++ (row (gen m) (l.take q) C.length T.length).1) (T ++ (row (gen m) (l.take q) C.length T.length).2)) := hB
    have HKR : Hid (Kw W cv tv cv1 tv1 W0 wr) := hM
    clear hM hB H0
    by_cases hqlt : q < l.length
    · have d0 : decide ((q : Int) < (l.length : Int)) = true := by simp; omega
      have hinl := NWt.Kw.inl HKR.out hK HIN.out
      obtain ⟨aa, cc, hsl, -, -, -, -, hLA⟩ := hinl
      cases hsl
      obtain ⟨g, of, u, ha, hSg, hFour, hInq⟩ := XBase.elem_at hLA hqlt
      subst ha
      obtain ⟨c0, c1, c2, c3, rfl, d1, d2, d3, d4⟩ := hFour
      obtain ⟨m', a2, cp2, -, rfl, rfl, rfl, rfl, -⟩ := hInq.kinds
      obtain ⟨y, hy⟩ : ∃ y, l[q] = y := ⟨_, rfl⟩
      have hst := sum_take (m := m) hqlt
      have hokq := HOK.out l[q] (List.getElem_mem hqlt)
      have hrl := row_len lf m (l.take q) C.length T.length (fun z hz => HOK.out z (List.mem_of_mem_take hz))
      have htk : l.take (q + 1) = l.take q ++ [y] := by rw [← hy]; exact List.take_succ_eq_append_getElem hqlt
      rw [hy] at hInq d1 d2 d3 d4 hst hokq
      obtain ⟨W4, hW4⟩ : ∃ W4, wr.alloc (.cells #[.int .i64 y.o, .int .i64 y.i, .string y.s, .slice a2 y.l.length cp2] 24) = W4 := ⟨_, rfl⟩
      have b4 : Below wr.heap.size wr W4 := by rw [← hW4]; exact (Below.refl _ wr).alloc (Nat.le_refl _) _
      have q4 : W4.heap[wr.heap.size]? = some (.cells #[.int .i64 y.o, .int .i64 y.i, .string y.s, .slice a2 y.l.length cp2] 24 (0, 0)) := by rw [← hW4]; exact heap_alloc_new wr _
      obtain ⟨e0', e1', e2', e3'⟩ := four_box q4
      have hk4 : Kw W cv1 tv1 cv1 tv1 wr W4 := Kw.refl b4 (Nat.le_of_lt HR.out.lt)
      have cM := Hw.out W4 W K cv1 tv1 _ _ _ y (HR.out.below b4) hK (NWt.Kw.inx hk4 hK hInq) hokq (by rw [List.length_append]; omega) (by rw [List.length_append]; omega)
      rw [List.length_append, List.length_append] at cM
      have HKK : Hid (Kw W cv tv cv1 tv1 W0 W4) := HKR.out.trans hk4
      have hcapq : l.length ≤ cap := hcap.1
      have HTK : Hid (∀ cv' tv' w', Wb w' W cv' tv' (C ++ (row (gen m) (l.take q) C.length T.length).1 ++ (gen m y (C.length + (row (gen m) (l.take q) C.length T.length).1.length) (T.length + (row (gen m) (l.take q) C.length T.length).2.length)).1) (T ++ (row (gen m) (l.take q) C.length T.length).2 ++ (gen m y (C.length + (row (gen m) (l.take q) C.length T.length).1.length) (T.length + (row (gen m) (l.take q) C.length T.length).2.length)).2) → Wb w' W cv' tv' (C ++ (row (gen m) (l.take (q + 1)) C.length T.length).1) (T ++ (row (gen m) (l.take (q + 1)) C.length T.length).2)) := by
        intro cv' tv' w' hb
        rw [htk, NGe.row_snoc, ← List.append_assoc, ← List.append_assoc]
        exact hb
      clear hInq q4 hLA hst hokq hrl htk hk4 b4
      go_wp2_with fail
      refine cM.mono ?_
      rintro e W5 ⟨rfl, cv2, tv2, wb2, kw2⟩
      have HW5 : Hid _ := HTK.out _ _ _ wb2
      have HK5 : Hid (Kw W cv tv cv2 tv2 W0 W5) := HKK.out.trans kw2
      clear cM hW4 d1 d2 d3 d4 e0' e1' e2' e3' wb2 kw2
      go_wp2_with fail
      go_roundw
      case rel => exact ⟨q + 1, cv2, tv2, by go_num, by omega, HW5.out, HK5.out⟩
      case measure => simp only [intOf]; omega
    · have d0 : decide ((q : Int) < (l.length : Int)) = false := by simp; omega
      obtain rfl : q = l.length := by omega
      have hwb := HR.out
      rw [List.take_length] at hwb
      obtain ⟨x1, n12, n13⟩ := NWt.Kw.box HKR.out hx0 hn1 HN.out.1 HN.out.2 HX.out
      obtain ⟨v0, v1, v2, v3⟩ := four_box x1
      have hrl := row_len lf m l C.length T.length HOK.out
      have hz1 := (Array.getElem?_eq_some_iff.1 x1).1
      have hwd := Wb.drew hwb
      obtain ⟨R, hR⟩ : ∃ R, row (gen m) l C.length T.length = R := ⟨_, rfl⟩
      rw [hR] at hwd hrl
      have cO := operand_c hwd (by rw [List.length_append]; omega) o i s (.slice a l.length cap)
      rw [List.length_append] at cO
      obtain ⟨av, hav⟩ : ∃ av, opd o i (T.length + R.2.length) = av := ⟨_, rfl⟩
      rw [hav] at cO
      have HX1 : Hid (wr.heap[w.heap.size]? = some (.cells #[.int .i64 o, .int .i64 i, .string s, .slice a l.length cap] 24 (0, 0))) := x1
      have HN1 : Hid (cv1.ownBlock ≠ some w.heap.size ∧ tv1.ownBlock ≠ some w.heap.size) := ⟨n12, n13⟩
      clear hwb hwd HR HIN Hw HOK HN n12 n13 x1
      go_wp2_with fail
      refine wp_region_held_drew (S := fun w' => w'.cell? ⟨w.heap.size, 0, none⟩ = some (.int .i64 o) ∧ w'.cell? ⟨w.heap.size, 1, none⟩ = some (.int .i64 i) ∧ w'.cell? ⟨w.heap.size, 2, none⟩ = some (.string s) ∧ w'.cell? ⟨w.heap.size, 3, none⟩ = some (.slice a l.length cap)) (by kernel_rfl) ⟨v0, v1, v2, v3⟩ (fun hHeld => ?_)
      refine tkH 0 rfl ?_; try simp only [ptH]
      refine tkH 1 rfl ?_; try simp only [ptH]
      refine tkH 2 rfl ?_; try simp only [ptH]
      refine tkH 3 rfl ?_; try simp only [ptH]
      refine tkH 4 rfl ?_; try simp only [ptH]
      refine rdH [5] ?_
      refine alH rfl fun K0 hK0 => ?_
      go_simp
      refine cO.mono ?_
      rintro e w5 ⟨rfl, tv5, wb5, kw5⟩
      obtain ⟨x5, n52, n53⟩ := NWt.Kw.box kw5 hz1 hn1 HN1.out.1 HN1.out.2 HX1.out
      refine hK0.out _ _ (four_box x5) (fun hHeld => ?_)
      clear hK0 K0 cO
      try simp only [ptH]
      have cP := put_c wb5 (by rw [List.length_append]; omega) o av
      refine rdH [6] ?_
      refine alH rfl fun K0 hK0 => ?_
      go_simp
      refine cP.mono ?_
      rintro e w6 ⟨rfl, cv6, wb6, kw6⟩
      obtain ⟨x6, -, -⟩ := NWt.Kw.box kw6 (Array.getElem?_eq_some_iff.1 x5).1 hn1 n52 n53 x5
      refine hK0.out _ _ (four_box x6) (fun hHeld => ?_)
      clear hK0 K0 cP
      try simp only [ptH]
      refine dnH ?_
      go_wp2_with fail
      go_end0
      refine ⟨rfl, cv6, tv5, ?_, ((HK0.out.trans (Kw.drew HKR.out)).trans kw5).trans kw6⟩
      unfold NGe.leaf
      rw [hR, hav]
      rw [← List.append_assoc, ← List.append_assoc]
      exact wb6
theorem write_all (lf : Int → Int → ByteArray → Bool) : ∀ m, WI lf m := by
  intro m
  induction m with
  | zero =>
    intro w W K cv tv v C T x _ _ h
    rw [In] at h
    exact h.elim
  | succ m ih =>
    rintro w W K cv tv v C T ⟨o, i, s, l⟩ h hK hin ⟨h1, h2, h3⟩ hC hT
    rw [XBase.in_iff] at hin
    obtain ⟨lv, rfl, hob, hib, hsb, hl⟩ := hin
    have hl0 := hl
    obtain ⟨a, cap, rfl, hc1, hc2, -⟩ := hl
    have e : sz (m + 1) (.mk o i s l) = 1 + (l.map (sz m)).sum := rfl
    rw [e] at hC hT
    by_cases ho : o = 29 ∨ o = 30
    · have hk : l.length = 2 := by rw [NGe.kd_two ho] at h1; omega
      have es : (l.map (sz m)).sum = sz m (kid l 0) + sz m (kid l 1) := by rw [NGe.two_of hk]; simp [kid]
      have eg : gen (m + 1) (.mk o i s l) C.length T.length = NGe.logic (gen m) (o + 1) (kid l 0) (kid l 1) C.length T.length := by rw [gen, if_pos ho]
      rw [eg]
      exact write_logic ih h hK hl0 ⟨hc1, hc2⟩ hk h3 (by omega) (by omega) (o + 1) (by omega)
    by_cases ho3 : o = 31
    · have hk : l.length = 3 := by subst ho3; rw [NGe.kd_three] at h1; omega
      have es : (l.map (sz m)).sum = sz m (kid l 0) + sz m (kid l 1) + sz m (kid l 2) := by rw [NGe.three_of hk]; simp [kid]; omega
      have eg : gen (m + 1) (.mk o i s l) C.length T.length = NGe.choice (gen m) (kid l 0) (kid l 1) (kid l 2) C.length T.length := by rw [gen, if_neg ho, if_pos ho3]
      rw [eg]
      subst ho3
      exact write_choice ih h hK hl0 ⟨hc1, hc2⟩ hk h3 (by omega) (by omega)
    have eg : gen (m + 1) (.mk o i s l) C.length T.length = NGe.leaf o i s T.length (row (gen m) l C.length T.length) := by rw [gen, if_neg ho, if_neg ho3]
    rw [eg]
    exact write_row ih h hK hl0 ⟨hc1, hc2⟩ h3 (by omega) (by omega) (by simp; omega) (by simp; omega) (by simp; omega)
end Go.Proofs.YthjbknncbhkinaaGreatDoor.NWv

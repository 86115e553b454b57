import Derived.Test.YtofpdnhnlkocoaaGreatDoorPZ21
import Derived.Test.YtofpdnhnlkocoaaGreatDoorPZ22
import Derived.Test.YtofpdnhnlkocoaaGreatDoorPZ29
import Derived.Test.YtofpdnhnlkocoaaGreatDoorPZ30
import Derived.Test.YtofpdnhnlkocoaaGreatDoorPZ33
import Derived.Test.YtofpdnhnlkocoaaGreatDoorPZ34
namespace Go.Proofs.YtofpdnhnlkocoaaGreatDoor.QAp
open Go.RowKit Go.Proofs.YtofpdnhnlkocoaaGreatDoor.Base Go.Proofs.YtofpdnhnlkocoaaGreatDoor.UBase Go.Proofs.YtofpdnhnlkocoaaGreatDoor.EPure Go.Proofs.YtofpdnhnlkocoaaGreatDoor.ENd Go.Proofs.YtofpdnhnlkocoaaGreatDoor.PPl Go.Proofs.YtofpdnhnlkocoaaGreatDoor.PFit Go.Proofs.YtofpdnhnlkocoaaGreatDoor.QLv Go.Proofs.YtofpdnhnlkocoaaGreatDoor.QAl Go.Proofs.YtofpdnhnlkocoaaGreatDoor.QAn Go.Proofs.YtofpdnhnlkocoaaGreatDoor.QAo0 Go.Proofs.YtofpdnhnlkocoaaGreatDoor.QAo1 Go.Proofs.YtofpdnhnlkocoaaGreatDoor.QAo2 Go.Proofs.YtofpdnhnlkocoaaGreatDoor.QAo3 Go.Proofs.YtofpdnhnlkocoaaGreatDoor.QAo4 Go.Proofs.YtofpdnhnlkocoaaGreatDoor.QAo5
open Go.Proofs.YtofpdnhnlkocoaaGreatDoor.XBase (four_box two_box frozen_box)
set_option linter.unusedVariables false
/-- Alone, at every node. -/
theorem alone_c {o i : Int} {t : ByteArray} {a : Option Addr} {n c : Nat} (ht : t.size ≤ 140737488351232) (w : World) :
    Calls Tryz.prog 73 #[.agg #[.int .i64 o, .int .i64 i, .string t, .slice a n c]] w fun e w' => e = .returned (.bool (an o i t n)) ∧ Below w.heap.size w w' := by
  by_cases hrl : rl o < 0
  · rw [an_neg hrl]; exact try_neg hrl w
  have hk := rk_kd (o := o) (by omega)
  by_cases hn : (n : Int) = rk o
  · rw [an_ok (by rw [← hk]; exact hn)]
    by_cases h4 : o = 4
    · exact ok_int hrl hn ht h4 w
    by_cases h5 : o = 5
    · exact ok_text hrl hn ht h5 w
    by_cases h6 : o = 6
    · exact ok_var hrl hn ht h6 w
    by_cases h7 : o = 7
    · exact ok_field hrl hn ht h7 w
    by_cases h9 : o = 9
    · exact ok_call hrl hn ht h9 w
    exact ok_else hrl hn ht h4 h5 h6 h7 h9 w
  · rw [an_not (by rw [← hk]; exact hn)]
    exact try_not hrl hn w
end Go.Proofs.YtofpdnhnlkocoaaGreatDoor.QAp
namespace Go.Proofs.YtofpdnhnlkocoaaGreatDoor.QMn
open Go.RowKit Go.Proofs.YtofpdnhnlkocoaaGreatDoor.EPure Go.Proofs.YtofpdnhnlkocoaaGreatDoor.PPl Go.Proofs.YtofpdnhnlkocoaaGreatDoor.PFit Go.Proofs.YtofpdnhnlkocoaaGreatDoor.PMay Go.Proofs.YtofpdnhnlkocoaaGreatDoor.QAn Go.Proofs.YtofpdnhnlkocoaaGreatDoor.QAp
open Go.Proofs.YtofpdnhnlkocoaaGreatDoor.XBase (In InL in_iff LAt Four elem_at four_below four_box)
open Go.Proofs.YtofpdnhnlkocoaaGreatDoor.Base (nx All heap_alloc_new)
set_option linter.unusedVariables false
def Mn (m : Nat) : Prop := ∀ (v : Value) (x : Ex) (k : Nat) (w : World), k ≤ 512 → In false All w m v x →
    Calls Tryz.prog 45 #[v, .int .i64 k] w fun e w' => e = .returned (.tuple #[.int .i64 ((512 - (mayL [x] (512 - k)).2 : Nat) : Int), .bool (mayL [x] (512 - k)).1]) ∧ Below w.heap.size w w'
theorem le_may (l : List Ex) (r : Nat) : (mayL l r).2 ≤ r := mayL_le _ l r (Nat.le_refl _)
set_option maxRecDepth 20000 in
set_option maxHeartbeats 3200000 in
theorem mn_of (m : Nat) (ih : Mn m) : Mn (m + 1) := by
  intro v x k w hk h
  obtain ⟨o, i, s, l⟩ := x
  rw [in_iff] at h
  obtain ⟨lv, rfl, ho, hi, hs, a, cap, rfl, hl, hcap, hlen, ha, hL⟩ := h
  have H : Hid (Mn m) := ih
  obtain ⟨W0, hW0⟩ : ∃ W0, w.alloc (.cells #[.int .i64 o, .int .i64 i, .string s, .slice a l.length cap] 24) = W0 := ⟨_, rfl⟩
  have b0 : Below w.heap.size w W0 := by rw [← hW0]; exact (Below.refl _ w).alloc (Nat.le_refl _) _
  have s0 : W0.heap.size = w.heap.size + 1 := by rw [← hW0]; simp
  have hx : W0.heap[w.heap.size]? = some (.cells #[.int .i64 o, .int .i64 i, .string s, .slice a l.length cap] 24 (0, 0)) := by rw [← hW0]; exact heap_alloc_new w _
  have HX : Hid (W0.heap[w.heap.size]? = some (.cells #[.int .i64 o, .int .i64 i, .string s, .slice a l.length cap] 24 (0, 0)) ∧ W0.heap.size = w.heap.size + 1 ∧ Below w.heap.size w W0) := ⟨hx, s0, b0⟩
  have cA := alone_c (o := o) (i := i) (a := a) (n := l.length) (c := cap) hs W0
  obtain ⟨y0, y1, y2, y3⟩ := four_box hx
  clear ih hx s0 b0
  by_cases h512 : 512 ≤ k
  · obtain rfl : k = 512 := by omega
    have hm : mayL [.mk o i s l] (512 - 512) = (false, 0) := mayL_no (.inl rfl)
    rw [hm]
    clear cA hL
    go_enter Tryz.func45, Tryz.ntmps45
    go_wp2_with fail
    go_ret2
    exact ⟨rfl, HX.out.2.2⟩
  have dk : decide ((512 : Int) ≤ (k : Int)) = false := by simp; omega
  cases han : an o i s l.length with
  | false =>
    have hm : mayL [.mk o i s l] (512 - k) = (false, 512 - k) := by
      refine mayL_no (.inr ?_)
      unfold an at han
      by_cases hkd : (l.length : Int) = kd o
      · right
        rw [decide_eq_true hkd, Bool.true_and] at han
        exact han
      · exact .inl hkd
    rw [hm]
    rw [han] at cA
    have e5 : ((512 - (512 - k) : Nat) : Int) = k := by omega
    simp only [e5]
    clear hL hm han e5
    go_enter Tryz.func45, Tryz.ntmps45
    go_wp2_with fail
    refine cA.mono ?_
    rintro e W1 ⟨rfl, b1⟩
    have HB1 : Hid (Below w.heap.size w W1) := HX.out.2.2.trans (b1.mono (by have := HX.out.2.1; omega))
    clear cA b1 y0 y1 y2 y3
    go_wp2_with fail
    go_ret2
    exact ⟨rfl, HB1.out⟩
  | true =>
    have hm : mayL [.mk o i s l] (512 - k) = mayL l (512 - k - 1) := by
      refine mayL_one ?_
      unfold an at han
      simp only [Bool.and_eq_true, decide_eq_true_eq] at han
      rintro (h | h | h)
      · omega
      · exact h han.1
      · rw [han.2] at h; cases h
    rw [hm]
    rw [han] at cA
    obtain ⟨T, hT⟩ : ∃ T, mayL l (512 - k - 1) = T := ⟨_, rfl⟩
    rw [hT]
    have HT : Hid (mayL l (512 - k - 1) = T) := hT
    clear hm hT han
    go_enter Tryz.func45, Tryz.ntmps45
    go_wp2_with fail
    refine cA.mono ?_
    rintro e W1 ⟨rfl, b1⟩
    have HB1 : Hid (Below W0.heap.size W0 W1) := b1
    clear cA b1 y0 y1 y2 y3
    go_wp2_with fail
    clear hW0
    go_loopw [1, 6, 7] (fun kv ok iv wr => ∃ (q rq : Nat) (b : Bool), kv = .int .i64 ((512 - rq : Nat) : Int) ∧ ok = .bool b ∧ iv = .int .i64 q ∧ q ≤ l.length ∧ rq ≤ 511 ∧ T = (if b = true then mayL (l.drop q) rq else (false, rq)) ∧ Below W0.heap.size W0 wr) (fun _ _ iv _ => l.length - (intOf iv).toNat)
    case atStart => exact ⟨0, 512 - k - 1, true, by rw [show ((512 - (512 - k - 1) : Nat) : Int) = (k : Int) + 1 by omega], rfl, rfl, by omega, by omega, by rw [if_pos rfl, List.drop_zero]; exact HT.out.symm, HB1.out⟩
    case round =>
      clear HT HB1
      obtain ⟨q, rq, b, rfl, rfl, rfl, hq, hrq, hT, hb⟩ := hrel
      have HTq : Hid (T = (if b = true then mayL (l.drop q) rq else (false, rq))) := hT
      obtain ⟨y0, y1, y2, y3⟩ := four_box ((hb.block w.heap.size (by have := HX.out.2.1; omega)).trans HX.out.1)
      have hbw : Below w.heap.size w wr := HX.out.2.2.trans (hb.mono (by have := HX.out.2.1; omega))
      have HB : Hid (Below W0.heap.size W0 wr ∧ Below w.heap.size w wr) := ⟨hb, hbw⟩
      clear hT
      by_cases hlt : q < l.length
      · have dl : decide ((q : Int) < (l.length : Int)) = true := by simp; omega
        cases b with
        | false =>
          obtain ⟨rfl⟩ : T = (false, rq) := HTq.out
          clear hL hb hbw
          go_wp2_with fail
          go_ret2
          exact ⟨rfl, HB.out.2⟩
        | true =>
          obtain ⟨g, o', u, rfl, -, hu, hin⟩ := elem_at hL hlt
          have hu := four_below hu hbw
          have c1 := H.out u l[q] (512 - rq) wr (by omega) (hin.below hbw)
          rw [show 512 - (512 - rq) = rq by omega] at c1
          have hle := le_may [l[q]] rq
          have HS : Hid (T = if (mayL [l[q]] rq).1 = true then mayL (l.drop (q + 1)) (mayL [l[q]] rq).2 else mayL [l[q]] rq) := by
            show _ = _
            rw [HTq.out, if_pos rfl, List.drop_eq_getElem_cons hlt, mayL_cons]
          obtain ⟨b', r', hbr⟩ : ∃ b' r', mayL [l[q]] rq = (b', r') := ⟨_, _, rfl⟩
          rw [hbr] at c1 HS hle
          simp only at c1 HS hle
          have HS2 : Hid (T = if b' = true then mayL (l.drop (q + 1)) r' else (false, r')) := by
            show _ = _
            rw [HS.out]
            cases b' <;> rfl
          obtain ⟨v0, v1, v2, v3, rfl, d0, d1, d2, d3⟩ := hu
          clear hL hb hbw hin hbr HS HTq
          go_wp2_with fail
          refine c1.mono ?_
          rintro e W2 ⟨rfl, b2⟩
          have HB2 : Hid (Below W0.heap.size W0 W2) := HB.out.1.trans (b2.mono HB.out.1.size)
          clear c1 b2 y0 y1 y2 y3 d0 d1 d2 d3
          go_wp2_with fail
          go_roundw
          case rel => exact ⟨q + 1, r', b', rfl, rfl, by go_num, by omega, by omega, HS2.out, HB2.out⟩
          case measure => simp only [intOf]; omega
      · have dl : decide ((q : Int) < (l.length : Int)) = false := by simp; omega
        have HR : Hid (T = (b, rq)) := by
          show _ = _
          rw [HTq.out, List.drop_eq_nil_of_le (by omega), mayL_nil]
          cases b <;> rfl
        clear hL hb hbw
        go_wp2_with fail
        go_ret2
        rw [HR.out]
        exact ⟨rfl, HB.out.2⟩
theorem mn : ∀ m, Mn m
  | 0 => by intro v x k w _ h; rw [In] at h; exact h.elim
  | m + 1 => mn_of m (mn m)
set_option maxRecDepth 20000 in
theorem may_c {m : Nat} {v : Value} {x : Ex} {w : World} (h : In false All w m v x) :
    Calls Tryz.prog 26 #[v] w fun e w' => e = .returned (.bool (mayL [x] 512).1) ∧ Below w.heap.size w w' := by
  obtain ⟨m', lv, rfl, rfl, ho, hi, hs, hL⟩ := h.shape
  obtain ⟨a, cap, rfl, -⟩ := hL
  obtain ⟨W0, hW0⟩ : ∃ W0, w.alloc (.cells #[.int .i64 x.o, .int .i64 x.i, .string x.s, .slice a x.l.length cap] 24) = W0 := ⟨_, rfl⟩
  have b0 : Below w.heap.size w W0 := by rw [← hW0]; exact (Below.refl _ w).alloc (Nat.le_refl _) _
  have c1 := mn (m' + 1) _ x 0 W0 (by omega) (h.below b0)
  have hx : W0.heap[w.heap.size]? = some (.cells #[.int .i64 x.o, .int .i64 x.i, .string x.s, .slice a x.l.length cap] 24 (0, 0)) := by rw [← hW0]; exact heap_alloc_new w _
  obtain ⟨y0, y1, y2, y3⟩ := four_box hx
  rw [Nat.sub_zero] at c1
  generalize mayL [x] 512 = T at *
  have HB : Hid (Below w.heap.size w W0) := b0
  clear b0 h hx
  go_enter Tryz.func26, Tryz.ntmps26
  go_wp2_with fail
  refine c1.mono ?_
  rintro e W1 ⟨rfl, b1⟩
  have HB1 : Hid (Below w.heap.size w W1) := HB.out.trans (b1.mono HB.out.size)
  clear c1 b1
  go_wp2_with fail
  go_ret
  exact ⟨rfl, HB1.out⟩
end Go.Proofs.YtofpdnhnlkocoaaGreatDoor.QMn
namespace Go.Proofs.YtofpdnhnlkocoaaGreatDoor.ELv2
open Go.RowKit Go.Proofs.YtofpdnhnlkocoaaGreatDoor.Base Go.Proofs.YtofpdnhnlkocoaaGreatDoor.EPure
set_option linter.unusedVariables false
/-- The table of levels, in memory. -/
def Lt (w : World) (g : Nat) : Prop := ∀ k, k < 11 → ∃ b, w.cell? ⟨g, k, none⟩ = some (.slice (some ⟨b, 0, none⟩) (lvs.getD k []).length (lvs.getD k []).length) ∧ ∀ i, i < (lvs.getD k []).length → w.cell? ⟨b, i, none⟩ = some (.string ⟨((lvs.getD k []).getD i ([], 0)).1.toArray⟩)
/-- One block behind the other. -/
def allocs (w : World) : List Obj → World
  | [] => w
  | o :: L => allocs (w.alloc o) L
theorem allocs_below : ∀ (L : List Obj) (w : World) (B : Nat), B ≤ w.heap.size → Below B w (allocs w L)
  | [], w, B, h => Below.refl B w
  | o :: L, w, B, h => ((Below.refl B w).alloc h o).trans (allocs_below L (w.alloc o) B (by rw [World.size_alloc]; omega))
theorem allocs_at : ∀ (L : List Obj) (w : World) (j : Nat), j < L.length → (allocs w L).heap[w.heap.size + j]? = L[j]?
  | o :: L, w, 0, _ => by
    rw [allocs, Nat.add_zero, (allocs_below L (w.alloc o) (w.heap.size + 1) (by rw [World.size_alloc]; omega)).block w.heap.size (by omega), heap_alloc_new]
    rfl
  | o :: L, w, j + 1, h => by
    have := allocs_at L (w.alloc o) j (by simpa using h)
    rw [World.size_alloc] at this
    rw [allocs, show w.heap.size + (j + 1) = w.heap.size + 1 + j by omega, this]
    rfl
set_option maxRecDepth 20000 in
set_option maxHeartbeats 3200000 in
theorem levels_c (w : World) : Calls Tryz.prog 48 #[] w fun e w' => Below w.heap.size w w' ∧ ∃ g, e = .returned (.slice (some ⟨g, 0, none⟩) 11 11) ∧ Lt w' g := by
  go_enter Tryz.func48, Tryz.ntmps48
  go_wp2_with fail
  go_ret
  obtain ⟨L, hL⟩ : ∃ L : List Obj, L = [.cells #[.string ⟨#[124, 124]⟩] 9, .cells #[.string ⟨#[38, 38]⟩] 9, .cells #[.string ⟨#[61, 61]⟩, .string ⟨#[33, 61]⟩] 9, .cells #[.string ⟨#[60]⟩, .string ⟨#[60, 61]⟩, .string ⟨#[62]⟩, .string ⟨#[62, 61]⟩] 9, .cells #[.string ⟨#[124]⟩] 9, .cells #[.string ⟨#[94]⟩] 9, .cells #[.string ⟨#[38]⟩] 9, .cells #[.string ⟨#[60, 60]⟩, .string ⟨#[62, 62]⟩] 9, .cells #[.string ⟨#[126]⟩] 9, .cells #[.string ⟨#[43]⟩, .string ⟨#[45]⟩] 9, .cells #[.string ⟨#[42]⟩, .string ⟨#[47]⟩, .string ⟨#[37]⟩] 9, .cells #[.slice (some ⟨w.heap.size, 0, none⟩) 1 1, .slice (some ⟨w.heap.size + 1, 0, none⟩) 1 1, .slice (some ⟨w.heap.size + 1 + 1, 0, none⟩) 2 2, .slice (some ⟨w.heap.size + 1 + 1 + 1, 0, none⟩) 4 4, .slice (some ⟨w.heap.size + 1 + 1 + 1 + 1, 0, none⟩) 1 1, .slice (some ⟨w.heap.size + 1 + 1 + 1 + 1 + 1, 0, none⟩) 1 1, .slice (some ⟨w.heap.size + 1 + 1 + 1 + 1 + 1 + 1, 0, none⟩) 1 1, .slice (some ⟨w.heap.size + 1 + 1 + 1 + 1 + 1 + 1 + 1, 0, none⟩) 2 2, .slice (some ⟨w.heap.size + 1 + 1 + 1 + 1 + 1 + 1 + 1 + 1, 0, none⟩) 1 1, .slice (some ⟨w.heap.size + 1 + 1 + 1 + 1 + 1 + 1 + 1 + 1 + 1, 0, none⟩) 2 2, .slice (some ⟨w.heap.size + 1 + 1 + 1 + 1 + 1 + 1 + 1 + 1 + 1 + 1, 0, none⟩) 3 3] 85] := ⟨_, rfl⟩
  have hlen : L.length = 12 := by rw [hL]; rfl
  have hW : ∀ j, j < 12 → (allocs w L).heap[w.heap.size + j]? = L[j]? := fun j hj => allocs_at L w j (by omega)
  have hb := allocs_below L w w.heap.size (Nat.le_refl _)
  have key : Lt (allocs w L) (w.heap.size + 11) := by
    have h0 : (allocs w L).heap[w.heap.size + 0]? = some (.cells #[.string ⟨#[124, 124]⟩] 9 (0, 0)) := (hW 0 (by omega)).trans (by rw [hL]; rfl)
    have h1 : (allocs w L).heap[w.heap.size + 1]? = some (.cells #[.string ⟨#[38, 38]⟩] 9 (0, 0)) := (hW 1 (by omega)).trans (by rw [hL]; rfl)
    have h2 : (allocs w L).heap[w.heap.size + 2]? = some (.cells #[.string ⟨#[61, 61]⟩, .string ⟨#[33, 61]⟩] 9 (0, 0)) := (hW 2 (by omega)).trans (by rw [hL]; rfl)
    have h3 : (allocs w L).heap[w.heap.size + 3]? = some (.cells #[.string ⟨#[60]⟩, .string ⟨#[60, 61]⟩, .string ⟨#[62]⟩, .string ⟨#[62, 61]⟩] 9 (0, 0)) := (hW 3 (by omega)).trans (by rw [hL]; rfl)
    have h4 : (allocs w L).heap[w.heap.size + 4]? = some (.cells #[.string ⟨#[124]⟩] 9 (0, 0)) := (hW 4 (by omega)).trans (by rw [hL]; rfl)
    have h5 : (allocs w L).heap[w.heap.size + 5]? = some (.cells #[.string ⟨#[94]⟩] 9 (0, 0)) := (hW 5 (by omega)).trans (by rw [hL]; rfl)
    have h6 : (allocs w L).heap[w.heap.size + 6]? = some (.cells #[.string ⟨#[38]⟩] 9 (0, 0)) := (hW 6 (by omega)).trans (by rw [hL]; rfl)
    have h7 : (allocs w L).heap[w.heap.size + 7]? = some (.cells #[.string ⟨#[60, 60]⟩, .string ⟨#[62, 62]⟩] 9 (0, 0)) := (hW 7 (by omega)).trans (by rw [hL]; rfl)
    have h8 : (allocs w L).heap[w.heap.size + 8]? = some (.cells #[.string ⟨#[126]⟩] 9 (0, 0)) := (hW 8 (by omega)).trans (by rw [hL]; rfl)
    have h9 : (allocs w L).heap[w.heap.size + 9]? = some (.cells #[.string ⟨#[43]⟩, .string ⟨#[45]⟩] 9 (0, 0)) := (hW 9 (by omega)).trans (by rw [hL]; rfl)
    have h10 : (allocs w L).heap[w.heap.size + 10]? = some (.cells #[.string ⟨#[42]⟩, .string ⟨#[47]⟩, .string ⟨#[37]⟩] 9 (0, 0)) := (hW 10 (by omega)).trans (by rw [hL]; rfl)
    have h11 : (allocs w L).heap[w.heap.size + 11]? = some (.cells #[.slice (some ⟨w.heap.size, 0, none⟩) 1 1, .slice (some ⟨w.heap.size + 1, 0, none⟩) 1 1, .slice (some ⟨w.heap.size + 1 + 1, 0, none⟩) 2 2, .slice (some ⟨w.heap.size + 1 + 1 + 1, 0, none⟩) 4 4, .slice (some ⟨w.heap.size + 1 + 1 + 1 + 1, 0, none⟩) 1 1, .slice (some ⟨w.heap.size + 1 + 1 + 1 + 1 + 1, 0, none⟩) 1 1, .slice (some ⟨w.heap.size + 1 + 1 + 1 + 1 + 1 + 1, 0, none⟩) 1 1, .slice (some ⟨w.heap.size + 1 + 1 + 1 + 1 + 1 + 1 + 1, 0, none⟩) 2 2, .slice (some ⟨w.heap.size + 1 + 1 + 1 + 1 + 1 + 1 + 1 + 1, 0, none⟩) 1 1, .slice (some ⟨w.heap.size + 1 + 1 + 1 + 1 + 1 + 1 + 1 + 1 + 1, 0, none⟩) 2 2, .slice (some ⟨w.heap.size + 1 + 1 + 1 + 1 + 1 + 1 + 1 + 1 + 1 + 1, 0, none⟩) 3 3] 85 (0, 0)) := (hW 11 (by omega)).trans (by rw [hL]; rfl)
    clear hW hb hlen hL
    generalize allocs w L = W at *
    rw [Nat.add_zero] at h0
    intro k hk
    match k, hk with
    | 0, _ =>
      refine ⟨w.heap.size + 0, by simp [World.cell?, h11, lvs], fun i hi => ?_⟩
      match i, hi with
      | 0, _ => simp [World.cell?, h0, lvs]
      | i + 1, h => exact absurd h (by simp [lvs])
    | 1, _ =>
      refine ⟨w.heap.size + 1, by simp [World.cell?, h11, lvs], fun i hi => ?_⟩
      match i, hi with
      | 0, _ => simp [World.cell?, h1, lvs]
      | i + 1, h => exact absurd h (by simp [lvs])
    | 2, _ =>
      refine ⟨w.heap.size + 2, by simp [World.cell?, h11, lvs], fun i hi => ?_⟩
      match i, hi with
      | 0, _ => simp [World.cell?, h2, lvs]
      | 1, _ => simp [World.cell?, h2, lvs]
      | i + 2, h => exact absurd h (by simp [lvs])
    | 3, _ =>
      refine ⟨w.heap.size + 3, by simp [World.cell?, h11, lvs], fun i hi => ?_⟩
      match i, hi with
      | 0, _ => simp [World.cell?, h3, lvs]
      | 1, _ => simp [World.cell?, h3, lvs]
      | 2, _ => simp [World.cell?, h3, lvs]
      | 3, _ => simp [World.cell?, h3, lvs]
      | i + 4, h => exact absurd h (by simp [lvs])
    | 4, _ =>
      refine ⟨w.heap.size + 4, by simp [World.cell?, h11, lvs], fun i hi => ?_⟩
      match i, hi with
      | 0, _ => simp [World.cell?, h4, lvs]
      | i + 1, h => exact absurd h (by simp [lvs])
    | 5, _ =>
      refine ⟨w.heap.size + 5, by simp [World.cell?, h11, lvs], fun i hi => ?_⟩
      match i, hi with
      | 0, _ => simp [World.cell?, h5, lvs]
      | i + 1, h => exact absurd h (by simp [lvs])
    | 6, _ =>
      refine ⟨w.heap.size + 6, by simp [World.cell?, h11, lvs], fun i hi => ?_⟩
      match i, hi with
      | 0, _ => simp [World.cell?, h6, lvs]
      | i + 1, h => exact absurd h (by simp [lvs])
    | 7, _ =>
      refine ⟨w.heap.size + 7, by simp [World.cell?, h11, lvs], fun i hi => ?_⟩
      match i, hi with
      | 0, _ => simp [World.cell?, h7, lvs]
      | 1, _ => simp [World.cell?, h7, lvs]
      | i + 2, h => exact absurd h (by simp [lvs])
    | 8, _ =>
      refine ⟨w.heap.size + 8, by simp [World.cell?, h11, lvs], fun i hi => ?_⟩
      match i, hi with
      | 0, _ => simp [World.cell?, h8, lvs]
      | i + 1, h => exact absurd h (by simp [lvs])
    | 9, _ =>
      refine ⟨w.heap.size + 9, by simp [World.cell?, h11, lvs], fun i hi => ?_⟩
      match i, hi with
      | 0, _ => simp [World.cell?, h9, lvs]
      | 1, _ => simp [World.cell?, h9, lvs]
      | i + 2, h => exact absurd h (by simp [lvs])
    | 10, _ =>
      refine ⟨w.heap.size + 10, by simp [World.cell?, h11, lvs], fun i hi => ?_⟩
      match i, hi with
      | 0, _ => simp [World.cell?, h10, lvs]
      | 1, _ => simp [World.cell?, h10, lvs]
      | 2, _ => simp [World.cell?, h10, lvs]
      | i + 3, h => exact absurd h (by simp [lvs])
    | k + 11, h => exact absurd h (by omega)
  subst hL
  exact ⟨hb, _, rfl, key⟩
end Go.Proofs.YtofpdnhnlkocoaaGreatDoor.ELv2
namespace Go.Proofs.YtofpdnhnlkocoaaGreatDoor.QPd
open Go.RowKit Go.Proofs.YtofpdnhnlkocoaaGreatDoor.UBase Go.Proofs.YtofpdnhnlkocoaaGreatDoor.EPure Go.Proofs.YtofpdnhnlkocoaaGreatDoor.PPl Go.Proofs.YtofpdnhnlkocoaaGreatDoor.PFit Go.Proofs.YtofpdnhnlkocoaaGreatDoor.PTx Go.Proofs.YtofpdnhnlkocoaaGreatDoor.ENd Go.Proofs.YtofpdnhnlkocoaaGreatDoor.ERg Go.Proofs.YtofpdnhnlkocoaaGreatDoor.QLv Go.Proofs.YtofpdnhnlkocoaaGreatDoor.EBk
open Go.Proofs.YtofpdnhnlkocoaaGreatDoor.XBase (In InL in_iff LAt Four elem_at four_below four_box)
open Go.Proofs.YtofpdnhnlkocoaaGreatDoor.Base (nx All heap_alloc_new below_cell)
open Go.Proofs.YtofpdnhnlkocoaaGreatDoor.PPr (pr gd gdL gdL_cons gd_range)
set_option linter.unusedVariables false
/-- What printed and under answer, at trees nested less than m deep. -/
def Pr (m : Nat) : Prop := ∀ (v : Value) (x : Ex) (w : World), gd x → rgL [x] → (pr (-1) x).length ≤ 100000000000 → In false All w m v x →
    Calls Tryz.prog 27 #[v] w fun e w' => e = .returned (.string ⟨(pr (-1) x).toArray⟩) ∧ Below w.heap.size w w'
def Un (m : Nat) : Prop := ∀ (v : Value) (x : Ex) (z : Int) (w : World), gd x → rgL [x] → (pr z x).length ≤ 100000000000 → -1 ≤ z → z ≤ 12 → In false All w m v x →
    Calls Tryz.prog 49 #[v, .int .i64 (z + 1)] w fun e w' => e = .returned (.string ⟨(pr z x).toArray⟩) ∧ Below w.heap.size w w'
theorem mk_size (L : List UInt8) : (⟨L.toArray⟩ : ByteArray).size = L.length := by show L.toArray.size = _; simp
theorem rl_lvl : ∀ o : Fin 32, 1 ≤ o.1 → ∀ z : Fin 14, (decide (rl (o.1 : Nat) < (z.1 : Int)) = decide (lvl (o.1 : Nat) < (z.1 : Int) - 1)) := by decide
theorem rl_lt {o z : Int} (h1 : 1 ≤ o) (h2 : o ≤ 31) (h3 : -1 ≤ z) (h4 : z ≤ 12) : decide (rl o < z + 1) = decide (lvl o < z) := by
  have := rl_lvl ⟨o.toNat, by omega⟩ (by simp; omega) ⟨(z + 1).toNat, by omega⟩
  simp only [show ((o.toNat : Nat) : Int) = o by omega, show (((z + 1).toNat : Nat) : Int) = z + 1 by omega, show z + 1 - 1 = z by omega] at this
  exact this
set_option maxRecDepth 20000 in
set_option maxHeartbeats 1600000 in
theorem un_of {m : Nat} (hP : Pr m) : Un m := by
  intro v x z w hg hr hlen z1 z2 h
  have hrg := gd_range hg
  have hlt := rl_lt hrg.1 hrg.2 z1 z2
  have hl0 : (pr (-1) x).length ≤ 100000000000 := by
    by_cases hz : lvl x.o < z
    · rw [pr_par hz] at hlen; simp at hlen; omega
    · rw [pr_own hz] at hlen; exact hlen
  obtain ⟨m', lv, rfl, rfl, ho, hi, hs, hL⟩ := h.shape
  obtain ⟨a, cap, rfl, -⟩ := hL
  obtain ⟨W0, hW0⟩ : ∃ W0, w.alloc (.cells #[.int .i64 x.o, .int .i64 x.i, .string x.s, .slice a x.l.length cap] 24) = W0 := ⟨_, rfl⟩
  have b0 : Below w.heap.size w W0 := by rw [← hW0]; exact (Below.refl _ w).alloc (Nat.le_refl _) _
  have s0 : W0.heap.size = w.heap.size + 1 := by rw [← hW0]; simp
  have hx : W0.heap[w.heap.size]? = some (.cells #[.int .i64 x.o, .int .i64 x.i, .string x.s, .slice a x.l.length cap] 24 (0, 0)) := by rw [← hW0]; exact heap_alloc_new w _
  have HX : Hid (W0.heap[w.heap.size]? = some (.cells #[.int .i64 x.o, .int .i64 x.i, .string x.s, .slice a x.l.length cap] 24 (0, 0)) ∧ W0.heap.size = w.heap.size + 1 ∧ Below w.heap.size w W0) := ⟨hx, s0, b0⟩
  have HC : Hid (∀ W, Below w.heap.size w W → Calls Tryz.prog 27 #[.agg #[.int .i64 x.o, .int .i64 x.i, .string x.s, .slice a x.l.length cap]] W fun e w' => e = .returned (.string ⟨(pr (-1) x).toArray⟩) ∧ Below W.heap.size W w') := fun W hW => hP _ x W hg hr hl0 (h.below hW)
  obtain ⟨y0, y1, y2, y3⟩ := four_box hx
  have cL := level_c x.o W0
  obtain ⟨T, hT⟩ : ∃ T : ByteArray, ⟨(pr (-1) x).toArray⟩ = T := ⟨_, rfl⟩
  have hTs : T.size ≤ 100000000000 := by rw [← hT, mk_size]; exact hl0
  have HTT : Hid ((⟨(pr (-1) x).toArray⟩ : ByteArray) = T) := hT
  rw [hT] at HC
  obtain ⟨q, hq⟩ : ∃ q, rl x.o = q := ⟨_, rfl⟩
  rw [hq] at cL hlt
  clear hx b0 s0 hT hq h
  by_cases hz : lvl x.o < z
  · rw [pr_par hz]
    have d : decide (q < z + 1) = true := by rw [hlt]; simp; exact hz
    clear hlt
    go_enter Tryz.func49, Tryz.ntmps49
    go_wp2_with fail
    clear hW0
    refine cL.mono ?_
    rintro e W1 ⟨rfl, b1⟩
    have hb1 : Below w.heap.size w W1 := HX.out.2.2.trans (b1.mono (by have := HX.out.2.1; omega))
    clear y0 y1 y2 y3
    obtain ⟨y0, y1, y2, y3⟩ := four_box ((b1.block w.heap.size (by have := HX.out.2.1; omega)).trans HX.out.1)
    have c2 := HC.out W1 hb1
    have HB1 : Hid (Below w.heap.size w W1) := hb1
    clear b1 hb1 cL
    go_wp2_with fail
    refine c2.mono ?_
    rintro e W2 ⟨rfl, b2⟩
    have HB2 : Hid (Below w.heap.size w W2) := HB1.out.trans (b2.mono HB1.out.size)
    clear c2 b2
    go_wp2_with fail
    all_goals first | (exfalso; omega) | skip
    go_ret
    refine ⟨?_, HB2.out⟩
    have hE : (⟨#[40]⟩ : ByteArray) ++ T ++ ⟨#[41]⟩ = ⟨(40 :: (pr (-1) x ++ [41])).toArray⟩ := by
      rw [← HTT.out]
      apply ByteArray.ext
      simp
    rw [← hE]
    rfl
  · rw [pr_own hz, HTT.out]
    have d : decide (q < z + 1) = false := by rw [hlt]; simp; omega
    clear hlt
    go_enter Tryz.func49, Tryz.ntmps49
    go_wp2_with fail
    clear hW0
    refine cL.mono ?_
    rintro e W1 ⟨rfl, b1⟩
    have hb1 : Below w.heap.size w W1 := HX.out.2.2.trans (b1.mono (by have := HX.out.2.1; omega))
    clear y0 y1 y2 y3
    obtain ⟨y0, y1, y2, y3⟩ := four_box ((b1.block w.heap.size (by have := HX.out.2.1; omega)).trans HX.out.1)
    have c2 := HC.out W1 hb1
    have HB1 : Hid (Below w.heap.size w W1) := hb1
    clear b1 hb1 cL
    go_wp2_with fail
    refine c2.mono ?_
    rintro e W2 ⟨rfl, b2⟩
    have HB2 : Hid (Below w.heap.size w W2) := HB1.out.trans (b2.mono HB1.out.size)
    clear c2 b2
    go_wp2_with fail
    go_ret
    exact ⟨rfl, HB2.out⟩
end Go.Proofs.YtofpdnhnlkocoaaGreatDoor.QPd
namespace Go.Proofs.YtofpdnhnlkocoaaGreatDoor.QPs
open Go.RowKit Go.Proofs.YtofpdnhnlkocoaaGreatDoor.UBase Go.Proofs.YtofpdnhnlkocoaaGreatDoor.EPure Go.Proofs.YtofpdnhnlkocoaaGreatDoor.PPl Go.Proofs.YtofpdnhnlkocoaaGreatDoor.PFit Go.Proofs.YtofpdnhnlkocoaaGreatDoor.PTx Go.Proofs.YtofpdnhnlkocoaaGreatDoor.ENd Go.Proofs.YtofpdnhnlkocoaaGreatDoor.ERg Go.Proofs.YtofpdnhnlkocoaaGreatDoor.QLv Go.Proofs.YtofpdnhnlkocoaaGreatDoor.EBk Go.Proofs.YtofpdnhnlkocoaaGreatDoor.QPd
open Go.Proofs.YtofpdnhnlkocoaaGreatDoor.XBase (In InL in_iff LAt Four elem_at four_below four_box)
open Go.Proofs.YtofpdnhnlkocoaaGreatDoor.Base (nx All heap_alloc_new below_cell)
open Go.Proofs.YtofpdnhnlkocoaaGreatDoor.PPr (pr gd gdL gdL_cons gd_range)
set_option linter.unusedVariables false
set_option maxRecDepth 20000 in
set_option maxHeartbeats 3200000 in
theorem p10 {m : Nat} (hP : Pr m) (hU : Un m) {a : Ex} (ga : gd a) (ra : rgL [a]) {w : World} {v : Value} (hlen0 : (pr (-1) (nd 10 [a])).length ≤ 100000000000) (h : In false All w (m + 1) v (nd 10 [a])) :
    Calls Tryz.prog 27 #[v] w fun e w' => e = .returned (.string ⟨(pr (-1) (nd 10 [a])).toArray⟩) ∧ Below w.heap.size w w' := by
  rw [tx_sg (.inl rfl)] at hlen0 ⊢
  simp only [List.length_cons] at hlen0
  unfold nd at h
  rw [in_iff] at h
  obtain ⟨lv, rfl, ho, hi, hs, a1, cap, rfl, hl, hcap, hlen, ha, hL⟩ := h
  obtain ⟨g0, q0, u0, E0, -, hu0, in0⟩ := elem_at hL (q := 0) (by simp)
  obtain ⟨g, q, hgq⟩ : ∃ g q, a1 = some ⟨g, q, none⟩ := ⟨g0, q0, E0⟩
  subst hgq
  obtain ⟨rfl, rfl⟩ : g = g0 ∧ q = q0 := by cases E0; exact ⟨rfl, rfl⟩
  obtain ⟨w00, w01, w02, w03, rfl, d00, d01, d02, d03⟩ := hu0
  have in0 : In false All w m (.agg #[w00, w01, w02, w03]) a := in0
  simp only [List.length_cons, List.length_nil, Nat.zero_add, Nat.zero_mul, Nat.one_mul, Nat.add_zero] at hl hlen d00 d01 d02 d03 ⊢
  obtain ⟨W0, hW0⟩ : ∃ W0, w.alloc (.cells #[.int .i64 10, .int .i64 0, .string ⟨#[]⟩, .slice (some ⟨g, q, none⟩) 1 cap] 24) = W0 := ⟨_, rfl⟩
  have b0 : Below w.heap.size w W0 := by rw [← hW0]; exact (Below.refl _ w).alloc (Nat.le_refl _) _
  have s0 : W0.heap.size = w.heap.size + 1 := by rw [← hW0]; simp
  have hx : W0.heap[w.heap.size]? = some (.cells #[.int .i64 10, .int .i64 0, .string ⟨#[]⟩, .slice (some ⟨g, q, none⟩) 1 cap] 24 (0, 0)) := by rw [← hW0]; exact heap_alloc_new w _
  have HX : Hid (W0.heap[w.heap.size]? = some (.cells #[.int .i64 10, .int .i64 0, .string ⟨#[]⟩, .slice (some ⟨g, q, none⟩) 1 cap] 24 (0, 0)) ∧ W0.heap.size = w.heap.size + 1 ∧ Below w.heap.size w W0) := ⟨hx, s0, b0⟩
  obtain ⟨y0, y1, y2, y3⟩ := four_box hx
  have cL := level_c 10 W0
  rw [show rl 10 = 12 by decide] at cL
  obtain ⟨T0, hT0⟩ : ∃ T : ByteArray, ⟨(pr (11) a).toArray⟩ = T := ⟨_, rfl⟩
  have z0 : T0.size ≤ 100000000000 := by rw [← hT0, mk_size]; omega
  have HK0 : Hid (∀ W, Below w.heap.size w W → Calls Tryz.prog 49 #[.agg #[w00, w01, w02, w03], .int .i64 (11 + 1)] W fun e w' => e = .returned (.string T0) ∧ Below W.heap.size W w') := fun W hW => by rw [← hT0]; exact hU _ a (11) W ga ra (by omega) (by omega) (by omega) (in0.below hW)
  have HT0 : Hid ((⟨(pr (11) a).toArray⟩ : ByteArray) = T0) := hT0
  have HD : Hid (w.cell? ⟨g, q, none⟩ = some w00 ∧ w.cell? ⟨g, q + 1, none⟩ = some w01 ∧ w.cell? ⟨g, q + 2, none⟩ = some w02 ∧ w.cell? ⟨g, q + 3, none⟩ = some w03) := ⟨d00, d01, d02, d03⟩
  clear d00 d01 d02 d03 in0 E0 hT0 hL hP hU
  clear hx b0 s0
  go_enter Tryz.func27, Tryz.ntmps27
  go_wp2_with fail
  clear hW0
  refine cL.mono ?_
  rintro e W1 ⟨rfl, b1⟩
  have hb1 : Below w.heap.size w W1 := HX.out.2.2.trans (b1.mono (by have := HX.out.2.1; omega))
  clear y0 y1 y2 y3
  obtain ⟨y0, y1, y2, y3⟩ := four_box ((b1.block w.heap.size (by have := HX.out.2.1; omega)).trans HX.out.1)
  have HB1 : Hid (Below w.heap.size w W1 ∧ Below W0.heap.size W0 W1) := ⟨hb1, b1⟩
  obtain ⟨d00, d01, d02, d03⟩ := (⟨below_cell HD.out.1 hb1, below_cell HD.out.2.1 hb1, below_cell HD.out.2.2.1 hb1, below_cell HD.out.2.2.2 hb1⟩ : W1.cell? ⟨g, q, none⟩ = some w00 ∧ W1.cell? ⟨g, q + 1, none⟩ = some w01 ∧ W1.cell? ⟨g, q + 2, none⟩ = some w02 ∧ W1.cell? ⟨g, q + 3, none⟩ = some w03)
  have c2 := HK0.out W1 hb1
  clear b1 hb1 cL
  go_wp2_with fail
  refine c2.mono ?_
  rintro e W2 ⟨rfl, b2⟩
  have HB2 : Hid (Below w.heap.size w W2) := HB1.out.1.trans (b2.mono HB1.out.1.size)
  clear c2 b2
  go_wp2_with fail
  all_goals first | (exfalso; omega) | skip
  go_ret
  refine ⟨?_, HB2.out⟩
  refine congrArg (fun t => Ending.returned (Value.string t)) (?_ : (⟨#[45]⟩ : ByteArray) ++ T0 = _)
  rw [← HT0.out]
  apply ByteArray.ext
  simp
set_option maxRecDepth 20000 in
set_option maxHeartbeats 3200000 in
theorem p11 {m : Nat} (hP : Pr m) (hU : Un m) {a : Ex} (ga : gd a) (ra : rgL [a]) {w : World} {v : Value} (hlen0 : (pr (-1) (nd 11 [a])).length ≤ 100000000000) (h : In false All w (m + 1) v (nd 11 [a])) :
    Calls Tryz.prog 27 #[v] w fun e w' => e = .returned (.string ⟨(pr (-1) (nd 11 [a])).toArray⟩) ∧ Below w.heap.size w w' := by
  rw [tx_sg (.inr rfl)] at hlen0 ⊢
  simp only [List.length_cons] at hlen0
  unfold nd at h
  rw [in_iff] at h
  obtain ⟨lv, rfl, ho, hi, hs, a1, cap, rfl, hl, hcap, hlen, ha, hL⟩ := h
  obtain ⟨g0, q0, u0, E0, -, hu0, in0⟩ := elem_at hL (q := 0) (by simp)
  obtain ⟨g, q, hgq⟩ : ∃ g q, a1 = some ⟨g, q, none⟩ := ⟨g0, q0, E0⟩
  subst hgq
  obtain ⟨rfl, rfl⟩ : g = g0 ∧ q = q0 := by cases E0; exact ⟨rfl, rfl⟩
  obtain ⟨w00, w01, w02, w03, rfl, d00, d01, d02, d03⟩ := hu0
  have in0 : In false All w m (.agg #[w00, w01, w02, w03]) a := in0
  simp only [List.length_cons, List.length_nil, Nat.zero_add, Nat.zero_mul, Nat.one_mul, Nat.add_zero] at hl hlen d00 d01 d02 d03 ⊢
  obtain ⟨W0, hW0⟩ : ∃ W0, w.alloc (.cells #[.int .i64 11, .int .i64 0, .string ⟨#[]⟩, .slice (some ⟨g, q, none⟩) 1 cap] 24) = W0 := ⟨_, rfl⟩
  have b0 : Below w.heap.size w W0 := by rw [← hW0]; exact (Below.refl _ w).alloc (Nat.le_refl _) _
  have s0 : W0.heap.size = w.heap.size + 1 := by rw [← hW0]; simp
  have hx : W0.heap[w.heap.size]? = some (.cells #[.int .i64 11, .int .i64 0, .string ⟨#[]⟩, .slice (some ⟨g, q, none⟩) 1 cap] 24 (0, 0)) := by rw [← hW0]; exact heap_alloc_new w _
  have HX : Hid (W0.heap[w.heap.size]? = some (.cells #[.int .i64 11, .int .i64 0, .string ⟨#[]⟩, .slice (some ⟨g, q, none⟩) 1 cap] 24 (0, 0)) ∧ W0.heap.size = w.heap.size + 1 ∧ Below w.heap.size w W0) := ⟨hx, s0, b0⟩
  obtain ⟨y0, y1, y2, y3⟩ := four_box hx
  have cL := level_c 11 W0
  rw [show rl 11 = 12 by decide] at cL
  obtain ⟨T0, hT0⟩ : ∃ T : ByteArray, ⟨(pr (11) a).toArray⟩ = T := ⟨_, rfl⟩
  have z0 : T0.size ≤ 100000000000 := by rw [← hT0, mk_size]; omega
  have HK0 : Hid (∀ W, Below w.heap.size w W → Calls Tryz.prog 49 #[.agg #[w00, w01, w02, w03], .int .i64 (11 + 1)] W fun e w' => e = .returned (.string T0) ∧ Below W.heap.size W w') := fun W hW => by rw [← hT0]; exact hU _ a (11) W ga ra (by omega) (by omega) (by omega) (in0.below hW)
  have HT0 : Hid ((⟨(pr (11) a).toArray⟩ : ByteArray) = T0) := hT0
  have HD : Hid (w.cell? ⟨g, q, none⟩ = some w00 ∧ w.cell? ⟨g, q + 1, none⟩ = some w01 ∧ w.cell? ⟨g, q + 2, none⟩ = some w02 ∧ w.cell? ⟨g, q + 3, none⟩ = some w03) := ⟨d00, d01, d02, d03⟩
  clear d00 d01 d02 d03 in0 E0 hT0 hL hP hU
  clear hx b0 s0
  go_enter Tryz.func27, Tryz.ntmps27
  go_wp2_with fail
  clear hW0
  refine cL.mono ?_
  rintro e W1 ⟨rfl, b1⟩
  have hb1 : Below w.heap.size w W1 := HX.out.2.2.trans (b1.mono (by have := HX.out.2.1; omega))
  clear y0 y1 y2 y3
  obtain ⟨y0, y1, y2, y3⟩ := four_box ((b1.block w.heap.size (by have := HX.out.2.1; omega)).trans HX.out.1)
  have HB1 : Hid (Below w.heap.size w W1 ∧ Below W0.heap.size W0 W1) := ⟨hb1, b1⟩
  obtain ⟨d00, d01, d02, d03⟩ := (⟨below_cell HD.out.1 hb1, below_cell HD.out.2.1 hb1, below_cell HD.out.2.2.1 hb1, below_cell HD.out.2.2.2 hb1⟩ : W1.cell? ⟨g, q, none⟩ = some w00 ∧ W1.cell? ⟨g, q + 1, none⟩ = some w01 ∧ W1.cell? ⟨g, q + 2, none⟩ = some w02 ∧ W1.cell? ⟨g, q + 3, none⟩ = some w03)
  have c2 := HK0.out W1 hb1
  clear b1 hb1 cL
  go_wp2_with fail
  refine c2.mono ?_
  rintro e W2 ⟨rfl, b2⟩
  have HB2 : Hid (Below w.heap.size w W2) := HB1.out.1.trans (b2.mono HB1.out.1.size)
  clear c2 b2
  go_wp2_with fail
  all_goals first | (exfalso; omega) | skip
  go_ret
  refine ⟨?_, HB2.out⟩
  refine congrArg (fun t => Ending.returned (Value.string t)) (?_ : (⟨#[33]⟩ : ByteArray) ++ T0 = _)
  rw [← HT0.out]
  apply ByteArray.ext
  simp
end Go.Proofs.YtofpdnhnlkocoaaGreatDoor.QPs

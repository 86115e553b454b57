/- The HTML of trees written: contracts of writeElement and write. -/
import Derived.Test.YtonoalbhpligfaaTSpecH
import Derived.Deep.RegionHeld3
namespace Go.Proofs.Ytonoalbhpligfaa.TWrite
open Go.RowKit Go.Proofs.Ytonoalbhpligfaa.TBase Go.Proofs.Ytonoalbhpligfaa.TVisit Go.Proofs.Ytonoalbhpligfaa.TMay Go.Proofs.Ytonoalbhpligfaa.TBuild Go.Proofs.Ytonoalbhpligfaa.TSpecH Go.Proofs.Ytonoalbhpligfaa.Base
set_option linter.unusedVariables false

abbrev Bu (B b : Nat) (L : List UInt8) (w : World) : Prop := Lib.IsBuilder 51 5 B b (Lib.byteCells L) w
def Writes (m : Nat) : Prop := ∀ (v : Value) (l : List T) (B b : Nat) (L : List UInt8) (w : World), InL false (Lo B) w m v l → Bu B b L w → B ≤ w.heap.size → L.length + 16 * wt l ≤ 140737488355328 →
    Calls Try.prog 28 #[v, .pointer (some ⟨b, 0, none⟩)] w fun r w' => r = .returned (.tuple #[]) ∧ Bu B b (L ++ ht l) w' ∧ Below B w w' ∧ Hid (Ty b w w')
theorem bu_more {B b : Nat} {L : List UInt8} {x : ByteArray} {w : World} (h : Lib.IsBuilder 51 5 B b (Lib.byteCells L ++ Lib.strCells x) w) : Bu B b (L ++ x.data.toList) w := by
  unfold Bu
  rw [Lib.byteCells_append]
  exact h
theorem put_c (B b : Nat) (L : List UInt8) (x : ByteArray) (w : World) (h : Bu B b L w) (hlen : L.length + x.size ≤ 140737488355328) (hBw : B ≤ w.heap.size) :
    Calls Try.prog 41 #[.pointer (some ⟨b, 0, none⟩), .string x] w fun e w' => e = .returned (.tuple #[.int .i64 x.size, .nilIface]) ∧ Bu B b (L ++ x.data.toList) w' ∧ Below B w w' ∧ Hid (Ty b w w') :=
  (text2_c B b _ x w h (by rw [cells_len]; exact hlen) hBw).mono fun e w' h => ⟨h.1, bu_more h.2.1, h.2.2⟩
theorem bu_below {B b : Nat} {L : List UInt8} {w w' : World} (h : Bu B b L w) (hb : Below w.heap.size w w') : Bu B b L w' := by
  rcases h with ⟨hB, v, hh, hown, hne⟩ | ⟨hB, v, hh, hown, hne⟩
  · exact .inl ⟨hB, v, (hb.block b (Array.getElem?_eq_some_iff.1 hh).1).trans hh, own_below hown hb, hne⟩
  · exact .inr ⟨hB, v, (hb.block b (Array.getElem?_eq_some_iff.1 hh).1).trans hh, own_below hown hb, hne⟩
theorem bu_lt {B b : Nat} {L : List UInt8} {w : World} (h : Bu B b L w) : b < w.heap.size := by
  rcases h with h | h
  · exact h.lt
  · exact h.lt
theorem dat (a b : ByteArray) : (a ++ b).data.toList = a.data.toList ++ b.data.toList := by
  rw [ByteArray.data_append, Array.toList_append]
theorem esc_size (q : Bool) (y : ByteArray) : (escB q y).size ≤ 8 * y.size := by
  have h := esc_len q y.data.toList
  rw [size_list] at h
  rw [← size_list]
  exact h
theorem open_dat (g : ByteArray) : ((⟨#[60]⟩ : ByteArray) ++ g).data.toList = 60 :: g.data.toList := by rw [dat]; rfl
theorem close_dat (g : ByteArray) : (((⟨#[60, 47]⟩ : ByteArray) ++ g) ++ ⟨#[62]⟩).data.toList = 60 :: 47 :: (g.data.toList ++ [62]) := by rw [dat, dat]; rfl
theorem attr_dat (t : ByteArray × ByteArray) : (((((⟨#[32]⟩ : ByteArray) ++ t.1) ++ ⟨#[61, 34]⟩) ++ escB true t.2) ++ ⟨#[34]⟩).data.toList = at1 t := by
  rw [dat, dat, dat, dat]
  unfold at1
  have e : (escB true t.2).data.toList = esc true t.2.data.toList := by simp [escB]
  rw [e]
  simp
theorem keep_in {B : Nat} {w w' : World} (h : Below B w w') : Keep (Lo B) w w' := fun b hb _ => h.block b hb
set_option maxRecDepth 20000 in
set_option maxHeartbeats 1600000 in
theorem elem_of (m : Nat) (hm : Writes m) (v : Value) (c : T) (B b : Nat) (L : List UInt8) (w : World) (h : In false (Lo B) w (m + 1) v c) (hg0 : c.g.toList.isEmpty = false) (hB : Bu B b L w) (hBw : B ≤ w.heap.size) (hlen : L.length + 16 * w1 c ≤ 140737488355328) :
    Calls Try.prog 42 #[v, .pointer (some ⟨b, 0, none⟩)] w fun r w' => r = .returned (.tuple #[]) ∧ Bu B b (L ++ h1 c) w' ∧ Below B w w' ∧ Hid (Ty b w w') := by
  obtain ⟨g, s, n, l⟩ := c
  rw [in_iff] at h
  obtain ⟨nv, lv, rfl, hg, hs, hn, hl⟩ := h
  have hn0 := hn
  obtain ⟨a1, c1, rfl, hlc, hcm, hnl, hsz, hnil, hN⟩ := hn
  obtain ⟨a2, c2, rfl, hlc2, hcm2, hll, hnil2, -⟩ := id hl
  have hg0 : g.toList.isEmpty = false := hg0
  unfold w1 at hlen
  have hlen : L.length + 16 * (g.size + s.size + wa n + 1 + wt l) ≤ 140737488355328 := hlen
  obtain ⟨W0, hW0⟩ : ∃ W0, w.alloc (.cells #[.string g, .string s, .slice a1 n.length c1, .slice a2 l.length c2] 37) = W0 := ⟨_, rfl⟩
  have b0 : Below w.heap.size w W0 := by rw [← hW0]; exact bx
  have hbx : W0.heap[w.heap.size]? = some (.cells #[.string g, .string s, .slice a1 n.length c1, .slice a2 l.length c2] 37 (0, 0)) := by rw [← hW0]; exact heap_alloc_new _ _
  obtain ⟨x0, x1, x2, x3⟩ := four_box hbx
  have hblt := bu_lt hB
  have hne : w.heap.size ≠ b := by omega
  have hs0 : W0.heap.size = w.heap.size + 1 := by rw [← hW0]; simp
  have cp := put_c B b L ((⟨#[60]⟩ : ByteArray) ++ g) W0 (bu_below hB b0) (by rw [← size_list, open_dat]; simp only [List.length_cons, size_list]; omega) (by omega)
  rw [open_dat] at cp
  have Hl : Hid (InL false (Lo B) w m (.slice a2 l.length c2) l) := hl
  have HN : Hid (NAt false (Lo B) w a1 c1 n) := hN
  have Hsz : Hid (∀ t ∈ n, t.1.size ≤ 140737488351232 ∧ t.2.size ≤ 140737488351232) := hsz
  have HX : Hid (W0.heap[w.heap.size]? = some (.cells #[.string g, .string s, .slice a1 n.length c1, .slice a2 l.length c2] 37 (0, 0))) := hbx
  have Hm : Hid (Writes m) := hm
  clear hl hN hn0 hsz hB hbx hm
  go_enter Try.func42, Try.ntmps42
  go_wp2_with fail
  refine cp.mono ?_
  rintro e w1 ⟨rfl, hB1, b1, T1⟩
  have hx1 := T1.out _ _ _ _ hne HX.out (by decide)
  obtain ⟨y0, y1, y2, y3⟩ := four_box hx1
  have bw1 : Below B w w1 := (b0.mono hBw).trans b1
  have hs1 := b1.size
  clear cp hW0 x0 x1 x2 x3 hx1 b1
  go_wp2_with fail
  go_loopw [14] (fun i wr => ∃ q : Nat, q ≤ n.length ∧ i = .int .i64 q ∧ Bu B b ((L ++ 60 :: g.data.toList) ++ ats (n.take q)) wr ∧ Below B w wr ∧ Hid (Ty b W0 wr) ∧ W0.heap.size ≤ wr.heap.size) (fun i _ => n.length - (intOf i).toNat)
  case atStart => exact ⟨0, by omega, rfl, by rw [List.take_zero]; simpa [ats] using hB1, bw1, T1, hs1⟩
  case round =>
    obtain ⟨q, hq, rfl, hBq, hbq, TQ, hsq⟩ := hrel
    by_cases hlt : q < n.length
    · have hn := Hsz.out n[q] (List.getElem_mem hlt)
      obtain ⟨g1, o, rfl, hgB, hc, hd⟩ := attr_at HN.out hlt
      have hc := (keep_in hbq).cell hgB hc
      have hd := (keep_in hbq).cell hgB hd
      have h16 := at1_len n[q]
      have hws := wa_split n q hlt
      have hat := ats_len (n.take q)
      have htk := ats_take n q hlt
      have hda := attr_dat n[q]
      obtain ⟨t, ht⟩ : ∃ t, n[q] = t := ⟨_, rfl⟩
      rw [ht] at hc hd hn h16 hws htk hda
      obtain ⟨x, y⟩ := t
      simp only at hc hd hn h16 hws hda
      have Htk : Hid (ats (n.take (q + 1)) = ats (n.take q) ++ at1 (x, y)) := htk
      clear htk ht
      obtain ⟨A, hA⟩ : ∃ A, ats (n.take q) = A := ⟨_, rfl⟩
      rw [hA] at hBq hat
      have HA : Hid (ats (n.take q) = A) := hA
      clear hA
      have hB2 := bu_below (bu_below hBq (bx (o := .cells #[.string x, .string y] 39))) (Below.refl _ _).drew
      have b2 : Below wr.heap.size wr (wr.alloc (.cells #[.string x, .string y] 39)).drew := bx.drew
      obtain ⟨k0, k1⟩ := two_box (heap_alloc_new wr (.cells #[.string x, .string y] 39))
      have c24 := Esc.attr_c y (by omega) (wr.alloc (.cells #[.string x, .string y] 39)).drew
      have hes := esc_size true y
      have hX : (((((⟨#[32]⟩ : ByteArray) ++ x) ++ ⟨#[61, 34]⟩) ++ escB true y) ++ ⟨#[34]⟩).size ≤ 16 * (x.size + y.size + 1) := by rw [← size_list, hda]; exact h16
      have HD : Hid ((((((⟨#[32]⟩ : ByteArray) ++ x) ++ ⟨#[61, 34]⟩) ++ escB true y) ++ ⟨#[34]⟩).data.toList = at1 (x, y)) := hda
      have hLq : ((L ++ 60 :: g.data.toList) ++ A).length = L.length + 1 + g.size + A.length := by simp only [List.length_append, List.length_cons, size_list]; omega
      clear hda hBq
      generalize escB true y = Y at *
      have z1 : (⟨#[32]⟩ : ByteArray).size = 1 := rfl
      have z2 : (⟨#[61, 34]⟩ : ByteArray).size = 2 := rfl
      have z3 : (⟨#[34]⟩ : ByteArray).size = 1 := rfl
      have q1 : ∀ W, (Op.stringOp .add (⟨#[32]⟩ : ByteArray) x).run Try.prog W = .ok (.string (⟨#[32]⟩ ++ x)) W := fun W => run_string_add_sum W _ _ (by rw [z1]; omega)
      have q2 : ∀ W, (Op.stringOp .add ((⟨#[32]⟩ : ByteArray) ++ x) ⟨#[61, 34]⟩).run Try.prog W = .ok (.string ((⟨#[32]⟩ ++ x) ++ ⟨#[61, 34]⟩)) W := fun W => run_string_add_sum W _ _ (by rw [ByteArray.size_append, z1, z2]; omega)
      have q3 : ∀ W, (Op.stringOp .add (((⟨#[32]⟩ : ByteArray) ++ x) ++ ⟨#[61, 34]⟩) Y).run Try.prog W = .ok (.string (((⟨#[32]⟩ ++ x) ++ ⟨#[61, 34]⟩) ++ Y)) W := fun W => run_string_add_sum W _ _ (by rw [ByteArray.size_append, ByteArray.size_append, z1, z2]; omega)
      have q4 : ∀ W, (Op.stringOp .add ((((⟨#[32]⟩ : ByteArray) ++ x) ++ ⟨#[61, 34]⟩) ++ Y) ⟨#[34]⟩).run Try.prog W = .ok (.string ((((⟨#[32]⟩ ++ x) ++ ⟨#[61, 34]⟩) ++ Y) ++ ⟨#[34]⟩)) W := fun W => run_string_add_sum W _ _ (by rw [ByteArray.size_append, ByteArray.size_append, ByteArray.size_append, z1, z2, z3]; omega)
      go_wp2_with fail
      go_region_held3 (fun w' => w'.cell? ⟨wr.heap.size, 0, none⟩ = some (.string x) ∧ w'.cell? ⟨wr.heap.size, 1, none⟩ = some (.string y)) (go_keep) (first | (go_at_call 24; refine c24.mono ?_; rintro e w2 ⟨rfl, b3⟩; have hx2 := (b3.block wr.heap.size (by simp)).trans (heap_alloc_new wr (.cells #[.string x, .string y] 39)); obtain ⟨t0, t1⟩ := two_box hx2; have cput := put_c B b _ (((((⟨#[32]⟩ : ByteArray) ++ x) ++ ⟨#[61, 34]⟩) ++ Y) ++ ⟨#[34]⟩) w2 (bu_below hB2 b3) (by rw [hLq]; omega) (by have := b3.size; have := b2.size; omega)) | (go_at_call 41; refine cput.mono ?_; rintro e w3 ⟨rfl, hB3, b4, T4⟩; obtain ⟨r0, r1⟩ := two_box (T4.out _ _ _ _ (by have := bu_lt hB2; omega) hx2 (by decide))) | fail)
      have hB4 : Bu B b ((L ++ 60 :: g.data.toList) ++ ats (n.take (q + 1))) w3 := by
        rw [Htk.out, HA.out, ← List.append_assoc, ← HD.out]
        exact hB3
      have b5 : Below B w w3 := ((hbq.trans (b2.mono (by omega))).trans (b3.mono (by have := b2.size; omega))).trans b4
      have T5 : Hid (Ty b W0 w3) := (TQ.out.trans ((Ty.of_below b2).trans (Ty.of_below b3))).trans T4.out
      have s5 : W0.heap.size ≤ w3.heap.size := by have := b2.size; have := b3.size; have := b4.size; omega
      clear hB3 b4 T4 hB2 b2 b3 c24 TQ hbq cput
      go_wp2_with fail
      go_roundw
      case rel => exact ⟨q + 1, by omega, by go_num, hB4, b5, T5, s5⟩
      case measure => simp only [intOf]; omega
    · have hlt' : decide ((q : Int) < (n.length : Int)) = false := by simp; omega
      obtain rfl : q = n.length := by omega
      have hal := ats_len n
      rw [List.take_length] at hBq
      have hxq := TQ.out _ _ _ _ hne HX.out (by decide)
      have z1 : (⟨#[62]⟩ : ByteArray).size = 1 := rfl
      have z2 : (⟨#[60, 47]⟩ : ByteArray).size = 2 := rfl
      have hL1 : ((L ++ 60 :: g.data.toList) ++ ats n).length = L.length + 1 + g.size + (ats n).length := by simp only [List.length_append, List.length_cons, size_list]; omega
      have cp := put_c B b _ (⟨#[62]⟩ : ByteArray) wr hBq (by rw [hL1, z1]; omega) (by have := hbq.size; omega)
      have hl4 := ht_len _ l (Nat.le_refl _)
      go_wp2_with fail
      refine cp.mono ?_
      rintro e w2 ⟨rfl, hB2, b2, T2⟩
      have hx2 := Hid.out T2 _ _ _ _ hne hxq (by decide)
      have b3 := hbq.trans b2
      have hL2 : (((L ++ 60 :: g.data.toList) ++ ats n) ++ (⟨#[62]⟩ : ByteArray).data.toList).length = L.length + 1 + g.size + (ats n).length + 1 := by rw [List.length_append, hL1]; rfl
      have cw := Hm.out _ l B b _ w2 (Hl.out.keep (keep_in b3)) hB2 (by have := b3.size; omega) (by rw [hL2]; omega)
      obtain ⟨y0, y1, y2, y3⟩ := four_box hx2
      clear cp hBq hxq
      go_wp2_with fail
      refine cw.mono ?_
      rintro e w4 ⟨rfl, hB4, b4, T4⟩
      have hx4 := T4.out _ _ _ _ hne hx2 (by decide)
      obtain ⟨u0, u1, u2, u3⟩ := four_box hx4
      have b5 := b3.trans b4
      have q1 : ∀ W, (Op.stringOp .add (⟨#[60, 47]⟩ : ByteArray) g).run Try.prog W = .ok (.string (⟨#[60, 47]⟩ ++ g)) W := fun W => run_string_add_sum W _ _ (by simp only [z2]; omega)
      have q2 : ∀ W, (Op.stringOp .add ((⟨#[60, 47]⟩ : ByteArray) ++ g) ⟨#[62]⟩).run Try.prog W = .ok (.string ((⟨#[60, 47]⟩ ++ g) ++ ⟨#[62]⟩)) W := fun W => run_string_add_sum W _ _ (by simp only [ByteArray.size_append, z1, z2]; omega)
      have hL3 : ((((L ++ 60 :: g.data.toList) ++ ats n) ++ (⟨#[62]⟩ : ByteArray).data.toList) ++ ht l).length = L.length + 1 + g.size + (ats n).length + 1 + (ht l).length := by rw [List.length_append, hL2]
      have ce := put_c B b _ (((⟨#[60, 47]⟩ : ByteArray) ++ g) ++ ⟨#[62]⟩) w4 hB4 (by rw [hL3]; simp only [ByteArray.size_append, z1, z2]; omega) (by have := b5.size; omega)
      rw [close_dat] at ce
      clear cw hB2 hx2 y0 y1 y2 y3 hB4 hx4
      go_wp2_with fail
      refine ce.mono ?_
      rintro e w5 ⟨rfl, hB5, b6, T6⟩
      have HB5 : Hid (Bu B b (((((L ++ 60 :: g.data.toList) ++ ats n) ++ (⟨#[62]⟩ : ByteArray).data.toList) ++ ht l) ++ 60 :: 47 :: (g.data.toList ++ [62])) w5) := hB5
      clear hB5 ce u0 u1 u2 u3
      go_wp2_with fail
      go_end0
      refine ⟨rfl, ?_, b5.trans b6, ?_⟩
      · have := HB5.out
        have e : L ++ h1 (.mk g s n l) = ((((L ++ 60 :: g.data.toList) ++ ats n) ++ (⟨#[62]⟩ : ByteArray).data.toList) ++ ht l) ++ 60 :: 47 :: (g.data.toList ++ [62]) := by
          unfold h1
          rw [if_neg (by show ¬ g.toList.isEmpty = true; rw [hg0]; simp)]
          simp [T.n, T.g, T.l]
        rw [e]
        exact this
      · exact (Ty.of_below b0).trans (TQ.out.trans (T2.out.trans (T4.out.trans T6.out)))
set_option maxRecDepth 20000 in
set_option maxHeartbeats 800000 in
theorem write_of (m : Nat) (ih : ∀ m', m = m' + 1 → Writes m') : Writes m := by
  intro v l B b L w h hB hBw hlen
  obtain ⟨a, cap, rfl, hlc, hcm, hll, hnil, hL⟩ := h
  have H : Hid (∀ m', m = m' + 1 → Writes m') := ih
  have HL : Hid (LAt false (Lo B) w m a cap l) := hL
  clear ih hL
  have hblt := bu_lt hB
  go_enter Try.func28, Try.ntmps28
  go_wp2_with fail
  go_loopw [8] (fun i wr => ∃ q : Nat, q ≤ l.length ∧ i = .int .i64 q ∧ Bu B b (L ++ ht (l.take q)) wr ∧ Below B w wr ∧ Hid (Ty b w wr)) (fun i _ => l.length - (intOf i).toNat)
  case atStart => exact ⟨0, by omega, rfl, by rw [List.take_zero, ht_nil, List.append_nil]; exact hB, Below.refl _ _, Ty.refl _ _⟩
  case round =>
    obtain ⟨q, hq, rfl, hBq, hbq, TQ⟩ := hrel
    by_cases hlt : q < l.length
    · obtain ⟨g1, o, u, rfl, hgB, hu, hin⟩ := elem_at HL.out hlt
      have hu := (keep_in hbq).four hgB hu
      have hin := hin.keep (keep_in hbq)
      obtain ⟨v0, v1, v2, v3, rfl, d0, d1, d2, d3⟩ := hu
      obtain ⟨m', a1, c1, a2, c2, rfl, rfl, rfl, rfl, rfl, hgs, hss, -, -⟩ := hin.kinds
      have hws := wt_split l q hlt
      have hhl := ht_len _ (l.take q) (Nat.le_refl _)
      have htk := ht_take l q hlt
      have hb2 := hbq.size
      obtain ⟨c, hc⟩ : ∃ c, l[q] = c := ⟨_, rfl⟩
      rw [hc] at hin d0 d1 d2 d3 hws htk hgs hss
      clear hc
      have Htk : Hid (ht (l.take (q + 1)) = ht (l.take q) ++ h1 c) := htk
      clear htk
      have b2 : Below wr.heap.size wr (wr.alloc (.cells #[.string c.g, .string c.s, .slice a1 c.n.length c1, .slice a2 c.l.length c2] 37)) := bx
      have hB2 := bu_below hBq b2
      have hLq : (L ++ ht (l.take q)).length = L.length + (ht (l.take q)).length := List.length_append
      cases hg0 : c.g.toList.isEmpty with
      | true =>
        have e1 : h1 c = esc false c.s.data.toList := by unfold h1; rw [if_pos hg0]
        have HE : Hid ((escB false c.s).data.toList = h1 c) := by rw [e1]; simp [Hid, escB]
        have hw1 : c.s.size ≤ w1 c := by unfold w1; omega
        have c23 := Esc.text_c c.s (by omega) (wr.alloc (.cells #[.string c.g, .string c.s, .slice a1 c.n.length c1, .slice a2 c.l.length c2] 37))
        have hes := esc_size false c.s
        clear e1
        generalize escB false c.s = X at *
        go_wp2_with fail
        refine c23.mono ?_
        rintro e w2 ⟨rfl, b3⟩
        have cp := put_c B b _ X w2 (bu_below hB2 b3) (by rw [hLq]; omega) (by have := b3.size; have := b2.size; omega)
        go_wp2_with fail
        refine cp.mono ?_
        rintro e w3 ⟨rfl, hB3, b4, T4⟩
        have hB4 : Bu B b (L ++ ht (l.take (q + 1))) w3 := by
          rw [Htk.out, ← List.append_assoc, ← HE.out]
          exact hB3
        have b5 : Below B w w3 := ((hbq.trans (b2.mono (by omega))).trans (b3.mono (by have := b2.size; omega))).trans b4
        have T5 : Hid (Ty b w w3) := (TQ.out.trans ((Ty.of_below b2).trans (Ty.of_below b3))).trans T4.out
        clear hB3 b4 T4 hB2 b2 b3 c23 TQ hbq cp
        go_wp2_with fail
        go_roundw
        case rel => exact ⟨q + 1, by omega, by go_num, hB4, b5, T5⟩
        case measure => simp only [intOf]; omega
      | false =>
        have cw := elem_of m' (H.out m' rfl) _ c B b _ _ ((hin.keep (keep_in (b2.mono (by omega))))) hg0 hB2 (by have := b2.size; omega) (by rw [hLq]; omega)
        go_wp2_with fail
        refine cw.mono ?_
        rintro e w3 ⟨rfl, hB3, b4, T4⟩
        have hB4 : Bu B b (L ++ ht (l.take (q + 1))) w3 := by
          rw [Htk.out, ← List.append_assoc]
          exact hB3
        have b5 : Below B w w3 := (hbq.trans (b2.mono (by omega))).trans b4
        have T5 : Hid (Ty b w w3) := (TQ.out.trans (Ty.of_below b2)).trans T4.out
        clear hB3 b4 T4 hB2 b2 TQ hbq cw hin
        go_wp2_with fail
        go_roundw
        case rel => exact ⟨q + 1, by omega, by go_num, hB4, b5, T5⟩
        case measure => simp only [intOf]; omega
    · have hlt' : decide ((q : Int) < (l.length : Int)) = false := by simp; omega
      rw [List.take_of_length_le (by omega)] at hBq
      have HB : Hid (Bu B b (L ++ ht l) wr) := hBq
      clear hBq
      go_wp2_with fail
      go_end0
      exact ⟨rfl, HB.out, hbq, TQ⟩
theorem writes : ∀ m, Writes m := by
  intro m
  induction m with
  | zero => exact write_of 0 (fun m' h => by omega)
  | succ m ih => exact write_of (m + 1) (fun m' h => Nat.succ.inj h ▸ ih)
/-- The HTML of a forest as bytes, and its fault. -/
def htB (l : List T) : ByteArray := if TMeas.ck l = 0 then ⟨(ht l).toArray⟩ else ⟨#[]⟩
set_option maxHeartbeats 800000 in
theorem html_c (m : Nat) (v : Value) (l : List T) (w : World) (h : InL false All w m v l) (hlen : TMeas.ck l = 0 → 16 * wt l ≤ 140737488355328) :
    Calls Try.prog 12 #[v] w fun r w' => r = .returned (.tuple #[.string (htB l), .int .i64 (TMeas.ck l : Nat)]) ∧ Below w.heap.size w w' := by
  have c9 := TMeas.check_c m v l w h
  have hl := TMeas.lo_of_in h
  obtain ⟨a, cap, rfl, -⟩ := h
  have hck := (TMeas.ck_ok l).1
  by_cases h0 : TMeas.ck l = 0
  · have e1 : htB l = ⟨(ht l).toArray⟩ := by unfold htB; rw [if_pos h0]
    rw [e1, h0]
    rw [h0] at c9
    have hlen := hlen h0
    clear e1 h0 hck
    go_enter Try.func12, Try.ntmps12
    go_wp2_with fail
    refine c9.mono ?_
    rintro e w1 ⟨rfl, b1⟩
    have hb1 := b1.size
    have hB := Lib.fresh_isBuilder 51 5 w1
    have b2 : Below w.heap.size w (w1.alloc (.cells #[.pointer none, .slice none 0 0] 51)) := nx b1 bx
    have cw := writes m _ l w1.heap.size w1.heap.size [] _ ((hl.keep (keep_in b2)).weak (fun b hb => Nat.lt_of_lt_of_le hb hb1) false id m (Nat.le_refl _)) hB (by simp) (by simpa using hlen)
    rw [List.nil_append] at cw
    go_wp2_with fail
    refine cw.mono ?_
    rintro e w2 ⟨rfl, hB2, b3, -⟩
    have hb3 := b3.size
    rw [World.size_alloc] at hb3
    have cs := Try.Builder_String_any _ _ (ht l) w2 hB2 (by omega)
    go_wp2_with fail
    refine cs.mono ?_
    rintro e w3 ⟨rfl, b4⟩
    have b5 : Below w.heap.size w w3 := (b2.trans (b3.mono (by omega))).trans (b4.mono (by omega))
    clear hB hB2 cs cw b4 b3 b2
    go_wp2_with fail
    go_ret2
    exact ⟨rfl, b5⟩
  · have e1 : htB l = ⟨#[]⟩ := by unfold htB; rw [if_neg h0]
    rw [e1]
    have h1 : (((TMeas.ck l : Nat) : Int) == 0) = false := by simp; omega
    clear e1 hl hlen
    generalize TMeas.ck l = x at *
    generalize l.length = n at *
    go_enter Try.func12, Try.ntmps12
    go_wp2_with fail
    refine c9.mono ?_
    rintro e w1 ⟨rfl, b1⟩
    go_wp2_with fail
    go_ret2
    exact ⟨rfl, b1⟩
end Go.Proofs.Ytonoalbhpligfaa.TWrite
